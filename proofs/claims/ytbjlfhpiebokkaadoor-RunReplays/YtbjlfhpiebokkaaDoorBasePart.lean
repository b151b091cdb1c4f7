/- What slices of numbers, slices of such slices and frames hold in a world: notions and plain laws, without the program. -/
import Derived.WalkKit
import Derived.Deep.Matrix
import Derived.Deep.Draws
import Derived.WalkSmall
import Derived.Deep.OwnRows
import Derived.Test.YtbjlfhpiebokkaaDoorProg
import Derived.WalkLawsBesides
import Derived.Deep.QuietTactic
import Derived.BigQuiet
import Derived.Outline
namespace Go.Proofs.YtbjlfhpiebokkaaDoor
open Go.RowKit
set_option maxRecDepth 100000

def IntsAt (w : World) (v : Value) (l : List Int) : Prop :=
  ∃ (A : Option Addr) (c : Nat), v = .slice A l.length c ∧ l.length * 8 ≤ 140737488351232 ∧
    (0 < l.length → ∃ b off, A = some ⟨b, off, none⟩ ∧ b < w.heap.size ∧ ∀ j, j < l.length → w.cell? ⟨b, off + j, none⟩ = some (.int .i64 (l.getD j 0)))

def RowsAt (w : World) (v : Value) (D : List (List Int)) : Prop :=
  ∃ (A : Option Addr) (c : Nat), v = .slice A D.length c ∧ D.length * 24 ≤ 140737488351232 ∧
    (0 < D.length → ∃ b off, A = some ⟨b, off, none⟩ ∧ b < w.heap.size ∧ ∀ j, j < D.length → ∃ u, w.cell? ⟨b, off + j, none⟩ = some u ∧ IntsAt w u (D.getD j []))

theorem IntsAt.below {w w' : World} {v : Value} {l : List Int} (h : IntsAt w v l) (hb : Below w.heap.size w w') : IntsAt w' v l := by
  obtain ⟨A, c, rfl, hl, hc⟩ := h
  refine ⟨A, c, rfl, hl, fun h0 => ?_⟩
  obtain ⟨b, off, rfl, hlt, hj⟩ := hc h0
  exact ⟨b, off, rfl, Nat.lt_of_lt_of_le hlt hb.size, fun j hjl => (hb.cell (p := ⟨b, off + j, none⟩) hlt).trans (hj j hjl)⟩

theorem IntsAt.drewN {w : World} {v : Value} {l : List Int} (h : IntsAt w v l) (n : Nat) : IntsAt (w.drewN n) v l := h

theorem RowsAt.below {w w' : World} {v : Value} {D : List (List Int)} (h : RowsAt w v D) (hb : Below w.heap.size w w') : RowsAt w' v D := by
  obtain ⟨A, c, rfl, hl, hc⟩ := h
  refine ⟨A, c, rfl, hl, fun h0 => ?_⟩
  obtain ⟨b, off, rfl, hlt, hj⟩ := hc h0
  refine ⟨b, off, rfl, Nat.lt_of_lt_of_le hlt hb.size, fun j hjl => ?_⟩
  obtain ⟨u, hu, hi⟩ := hj j hjl
  exact ⟨u, (hb.cell (p := ⟨b, off + j, none⟩) hlt).trans hu, hi.below hb⟩

theorem RowsAt.bounds {w : World} {v : Value} {D : List (List Int)} (h : RowsAt w v D) : D.length * 24 ≤ 140737488351232 ∧ ∀ i, i < D.length → (D.getD i []).length * 8 ≤ 140737488351232 := by
  obtain ⟨A, c, _, hl, hc⟩ := h
  refine ⟨hl, fun i hi => ?_⟩
  obtain ⟨_, _, _, _, hj⟩ := hc (by omega)
  obtain ⟨u, _, _, _, _, h8, _⟩ := hj i hi
  exact h8
theorem IntsAt.bound {w : World} {v : Value} {l : List Int} (h : IntsAt w v l) : l.length * 8 ≤ 140737488351232 := by
  obtain ⟨_, _, _, hl, _⟩ := h
  exact hl

theorem RowsAt.drew {w : World} {v : Value} {D : List (List Int)} (h : RowsAt w v D) : RowsAt w.drew v D := h
theorem IntsAt.drew {w : World} {v : Value} {l : List Int} (h : IntsAt w v l) : IntsAt w.drew v l := h

def IntsLo (lo : Nat) (w : World) (v : Value) (l : List Int) : Prop :=
  ∃ (A : Option Addr) (c : Nat), v = .slice A l.length c ∧ l.length * 8 ≤ 140737488351232 ∧
    (0 < l.length → ∃ b off, A = some ⟨b, off, none⟩ ∧ lo ≤ b ∧ b < w.heap.size ∧ ∀ j, j < l.length → w.cell? ⟨b, off + j, none⟩ = some (.int .i64 (l.getD j 0)))
def RowsLo (lo : Nat) (w : World) (v : Value) (D : List (List Int)) : Prop :=
  ∃ (A : Option Addr) (c : Nat), v = .slice A D.length c ∧ D.length * 24 ≤ 140737488351232 ∧
    (0 < D.length → ∃ b off, A = some ⟨b, off, none⟩ ∧ lo ≤ b ∧ b < w.heap.size ∧ ∀ j, j < D.length → ∃ u, w.cell? ⟨b, off + j, none⟩ = some u ∧ IntsLo lo w u (D.getD j []))

theorem IntsLo.at {lo : Nat} {w : World} {v : Value} {l : List Int} (h : IntsLo lo w v l) : IntsAt w v l := by
  obtain ⟨A, c, e, hl, hc⟩ := h
  exact ⟨A, c, e, hl, fun h0 => let ⟨b, off, e, _, h1, h2⟩ := hc h0; ⟨b, off, e, h1, h2⟩⟩
theorem RowsLo.at {lo : Nat} {w : World} {v : Value} {D : List (List Int)} (h : RowsLo lo w v D) : RowsAt w v D := by
  obtain ⟨A, c, e, hl, hc⟩ := h
  exact ⟨A, c, e, hl, fun h0 => let ⟨b, off, e, _, h1, h2⟩ := hc h0; ⟨b, off, e, h1, fun j hj => let ⟨u, h3, h4⟩ := h2 j hj; ⟨u, h3, h4.at⟩⟩⟩
theorem IntsLo.mono {lo lo' : Nat} {w : World} {v : Value} {l : List Int} (h : IntsLo lo w v l) (hlo : lo' ≤ lo) : IntsLo lo' w v l := by
  obtain ⟨A, c, e, hl, hc⟩ := h
  exact ⟨A, c, e, hl, fun h0 => let ⟨b, off, e, h, h1, h2⟩ := hc h0; ⟨b, off, e, by omega, h1, h2⟩⟩
theorem RowsLo.mono {lo lo' : Nat} {w : World} {v : Value} {D : List (List Int)} (h : RowsLo lo w v D) (hlo : lo' ≤ lo) : RowsLo lo' w v D := by
  obtain ⟨A, c, e, hl, hc⟩ := h
  exact ⟨A, c, e, hl, fun h0 => let ⟨b, off, e, h, h1, h2⟩ := hc h0; ⟨b, off, e, by omega, h1, fun j hj => let ⟨u, h3, h4⟩ := h2 j hj; ⟨u, h3, h4.mono hlo⟩⟩⟩
theorem IntsLo.setCell {lo : Nat} {w : World} {v : Value} {l : List Int} (h : IntsLo lo w v l) {a : Addr} (ha : a.block < lo) (u : Value) : IntsLo lo (w.setCell a u) v l := by
  obtain ⟨A, c, e, hl, hc⟩ := h
  refine ⟨A, c, e, hl, fun h0 => ?_⟩
  obtain ⟨b, off, e, h, h1, h2⟩ := hc h0
  refine ⟨b, off, e, h, by simpa using h1, fun j hj => ?_⟩
  rw [World.cell?_of_block (a := ⟨b, off + j, none⟩) (Go.Deep.blk_setCell_other _ _ _ _ (by simp; omega)), h2 j hj]
theorem RowsLo.setCell {lo : Nat} {w : World} {v : Value} {D : List (List Int)} (h : RowsLo lo w v D) {a : Addr} (ha : a.block < lo) (u : Value) : RowsLo lo (w.setCell a u) v D := by
  obtain ⟨A, c, e, hl, hc⟩ := h
  refine ⟨A, c, e, hl, fun h0 => ?_⟩
  obtain ⟨b, off, e, h, h1, h2⟩ := hc h0
  refine ⟨b, off, e, h, by simpa using h1, fun j hj => ?_⟩
  obtain ⟨x, h3, h4⟩ := h2 j hj
  refine ⟨x, ?_, h4.setCell ha u⟩
  rw [World.cell?_of_block (a := ⟨b, off + j, none⟩) (Go.Deep.blk_setCell_other _ _ _ _ (by simp; omega)), h3]
theorem IntsLo.below {lo : Nat} {w w' : World} {v : Value} {l : List Int} (h : IntsLo lo w v l) (hb : Below w.heap.size w w') : IntsLo lo w' v l := by
  obtain ⟨A, c, rfl, hl, hc⟩ := h
  refine ⟨A, c, rfl, hl, fun h0 => ?_⟩
  obtain ⟨b, off, rfl, h, hlt, hj⟩ := hc h0
  exact ⟨b, off, rfl, h, Nat.lt_of_lt_of_le hlt hb.size, fun j hjl => (hb.cell (p := ⟨b, off + j, none⟩) hlt).trans (hj j hjl)⟩
theorem RowsLo.below {lo : Nat} {w w' : World} {v : Value} {D : List (List Int)} (h : RowsLo lo w v D) (hb : Below w.heap.size w w') : RowsLo lo w' v D := by
  obtain ⟨A, c, rfl, hl, hc⟩ := h
  refine ⟨A, c, rfl, hl, fun h0 => ?_⟩
  obtain ⟨b, off, rfl, h, hlt, hj⟩ := hc h0
  refine ⟨b, off, rfl, h, Nat.lt_of_lt_of_le hlt hb.size, fun j hjl => ?_⟩
  obtain ⟨u, hu, hi⟩ := hj j hjl
  exact ⟨u, (hb.cell (p := ⟨b, off + j, none⟩) hlt).trans hu, hi.below hb⟩
theorem RowsLo.drew {lo : Nat} {w : World} {v : Value} {D : List (List Int)} (h : RowsLo lo w v D) : RowsLo lo w.drew v D := h
theorem IntsLo.drew {lo : Nat} {w : World} {v : Value} {l : List Int} (h : IntsLo lo w v l) : IntsLo lo w.drew v l := h

theorem bcell {W w1 : World} (hb : Below W.heap.size W w1) : (∀ b o, b < W.heap.size → w1.cell? ⟨b, o, none⟩ = W.cell? ⟨b, o, none⟩) ∧ (∀ b o, b < W.heap.size → w1.frozen? ⟨b, o, none⟩ = W.frozen? ⟨b, o, none⟩) :=
  ⟨fun b o h => hb.cell (p := ⟨b, o, none⟩) h, fun b o h => hb.frozen (p := ⟨b, o, none⟩) h⟩

theorem drewN_two (w : World) (n m : Nat) : ∃ k, (w.drewN n).drewN m = w.drewN k := ⟨n + m, by simp [World.drewN, Nat.add_assoc]⟩

theorem two_cells {w : World} {b : Nat} {x y : Value} {t : TypeId} (h : w.heap[b]? = some (.cells #[x, y] t (0, 0))) :
    w.cell? ⟨b, 0, none⟩ = some x ∧ w.cell? ⟨b, 1, none⟩ = some y ∧ (∀ j, w.frozen? ⟨b, j, none⟩ = false) ∧ b < w.heap.size :=
  ⟨by simp [World.cell?, h], by simp [World.cell?, h], fun j => by simp [World.frozen?, h], lt_of_block h⟩

theorem box_kept {w w1 : World} {o : Obj} (hb : Below (w.alloc o).heap.size (w.alloc o) w1) : w1.heap[w.heap.size]? = some o := by
  rw [hb.block _ (by simp), Go.Deep.blk_alloc_new]

theorem below_alloc (w : World) (o : Obj) : Below w.heap.size w (w.alloc o) := (Below.refl _ _).alloc (Nat.le_refl _) _

end Go.Proofs.YtbjlfhpiebokkaaDoor

/- Plain notions: numbers that may be, instructions, words. -/

namespace Go.Proofs.YtbjlfhpiebokkaaDoor
open Go.RowKit
set_option maxRecDepth 100000

def inB (n lo hi : Int) : Bool := decide (lo ≤ n ∧ n ≤ hi)
theorem inB_yes {n lo hi : Int} (h1 : lo ≤ n) (h2 : n ≤ hi) : inB n lo hi = true := by simp [inB, h1, h2]
theorem inB_no {n lo hi : Int} (h : ¬ (lo ≤ n ∧ n ≤ hi)) : inB n lo hi = false := by simp only [inB, decide_eq_false_iff_not]; exact h

theorem quiet_same2 {P : Program} {f : FuncId} {args : Array Value} {w : World} {n k : Nat} {v : Value}
    (h : Calls P f args (w.drewN (n + k)) fun e w' => e = .returned v ∧ w' = w.drewN (n + k)) : Calls P f args (w.drewN (n + k)) fun e w'' => e = .returned v ∧ ∃ m, w'' = w.drewN (n + m) :=
  h.mono fun _ _ ⟨he, hm⟩ => ⟨he, k, hm⟩
theorem quiet_of2 {P : Program} {f : FuncId} {args : Array Value} {w : World} {n k : Nat} {v : Value}
    (h : Calls P f args (w.drewN (n + k)) fun e w' => e = .returned v ∧ ∃ m, w' = (w.drewN (n + k)).drewN m) : Calls P f args (w.drewN (n + k)) fun e w'' => e = .returned v ∧ ∃ m, w'' = w.drewN (n + m) :=
  h.mono fun _ _ ⟨he, m, hm⟩ => ⟨he, k + m, by rw [hm, World.drewN_drewN, Nat.add_assoc]⟩

theorem ret_int {k : IntKind} {a b : Int} (h : a = b) : Ending.returned (.int k a) = .returned (.int k b) := by rw [h]
theorem ret_bool {a b : Bool} (h : a = b) : Ending.returned (.bool a) = .returned (.bool b) := by rw [h]

def foldF (n : Int) : Int := (n + 1099511627776) % 2199023255553 - 1099511627776
theorem foldF_bd (n : Int) : -1099511627776 ≤ foldF n ∧ foldF n ≤ 1099511627776 := by unfold foldF; omega
theorem foldF_of {n m : Int} (h1 : -1099511627776 ≤ m) (h2 : m ≤ 1099511627776) (h3 : (n - m) % 2199023255553 = 0) : foldF n = m := by unfold foldF; omega
theorem foldF_id {n : Int} (h1 : -1099511627776 ≤ n) (h2 : n ≤ 1099511627776) : foldF n = n := foldF_of h1 h2 (by simp)
theorem i64_bd {n : Int} (h : (Lit.int .i64 n).wf = true) : -9223372036854775808 ≤ n ∧ n ≤ 9223372036854775807 := by
  simpa [Lit.wf, IntKind.min, IntKind.max, IntKind.signed, IntKind.bits] using h

def instrNo (op a b n : Int) : Int :=
  if !inB op 0 15 then 3 else
  if !inB a 0 7 || !inB b 0 7 || !inB n (-1048576) 1048575 then 2 else
  if (op == 2 || op == 3) && !inB n 0 7 then 4 else
  if op == 12 && !inB n 0 1 then 4 else 0

theorem four_cells {w : World} {b : Nat} {x0 x1 x2 x3 : Value} {t : TypeId} (h : w.heap[b]? = some (.cells #[x0, x1, x2, x3] t (0, 0))) :
    w.cell? ⟨b, 0, none⟩ = some x0 ∧ w.cell? ⟨b, 1, none⟩ = some x1 ∧ w.cell? ⟨b, 2, none⟩ = some x2 ∧ w.cell? ⟨b, 3, none⟩ = some x3 ∧ (∀ j, w.frozen? ⟨b, j, none⟩ = false) ∧ b < w.heap.size :=
  ⟨by simp [World.cell?, h], by simp [World.cell?, h], by simp [World.cell?, h], by simp [World.cell?, h], fun j => by simp [World.frozen?, h], lt_of_block h⟩

theorem ret_two {k k' : IntKind} {a b c d : Int} (h : a = b) (h' : c = d) : Ending.returned (.tuple #[.int k a, .int k' c]) = .returned (.tuple #[.int k b, .int k' d]) := by rw [h, h']

theorem tdiv_sign (n b : Int) : (0 ≤ n ∧ n.tdiv b = n / b) ∨ (n < 0 ∧ n.tdiv b = -((-n) / b)) := by
  by_cases h : 0 ≤ n
  · exact Or.inl ⟨h, Int.tdiv_eq_ediv_of_nonneg h⟩
  · exact Or.inr ⟨by omega, by rw [← Int.tdiv_eq_ediv_of_nonneg (by omega), Int.neg_tdiv, Int.neg_neg]⟩
theorem tmod_sign (n b : Int) : (0 ≤ n ∧ n.tmod b = n % b) ∨ (n < 0 ∧ n.tmod b = -((-n) % b)) := by
  by_cases h : 0 ≤ n
  · exact Or.inl ⟨h, Int.tmod_eq_emod_of_nonneg h⟩
  · exact Or.inr ⟨by omega, by rw [← Int.tmod_eq_emod_of_nonneg (by omega), Int.neg_tmod, Int.neg_neg]⟩

theorem inB_iff {n lo hi : Int} : inB n lo hi = true ↔ lo ≤ n ∧ n ≤ hi := by simp [inB]
theorem instrNo_bd {op a b n : Int} (h : instrNo op a b n = 0) : (0 ≤ op ∧ op ≤ 15) ∧ (0 ≤ a ∧ a ≤ 7) ∧ (0 ≤ b ∧ b ≤ 7) ∧ (-1048576 ≤ n ∧ n ≤ 1048575) := by
  cases c0 : inB op 0 15 with
  | false => simp [instrNo, c0] at h
  | true =>
  cases c1 : inB a 0 7 with
  | false => simp [instrNo, c0, c1] at h
  | true =>
  cases c2 : inB b 0 7 with
  | false => simp [instrNo, c0, c1, c2] at h
  | true =>
  cases c3 : inB n (-1048576) 1048575 with
  | false => simp [instrNo, c0, c1, c2, c3] at h
  | true => exact ⟨inB_iff.1 c0, inB_iff.1 c1, inB_iff.1 c2, inB_iff.1 c3⟩
theorem instrNo_reg {op a b n : Int} (h : instrNo op a b n = 0) (ho : op = 2 ∨ op = 3) : 0 ≤ n ∧ n ≤ 7 := by
  obtain ⟨b0, b1, b2, b3⟩ := instrNo_bd h
  cases c3 : inB n 0 7 with
  | true => exact inB_iff.1 c3
  | false => rcases ho with rfl | rfl <;> simp [instrNo, inB_iff.2 b0, inB_iff.2 b1, inB_iff.2 b2, inB_iff.2 b3, c3] at h

def wordF (op a b n : Int) : Int := 1024 * n + 128 * b + 16 * a + op
def wordNo (op a b n : Int) : Int := if instrNo op a b n = 0 then wordF op a b n else 0

def decNo (x : Int) : Int := instrNo (x % 16) (x / 16 % 8) (x / 128 % 8) (x / 1024)
def decI (x : Int) : Value := if decNo x = 0 then .agg #[.int .i64 (x % 16), .int .i64 (x / 16 % 8), .int .i64 (x / 128 % 8), .int .i64 (x / 1024)] else .agg #[.int .i64 0, .int .i64 0, .int .i64 0, .int .i64 0]

theorem low_parts (x : Int) : (x - 1024 * (x / 1024)) % 16 = x % 16 ∧ (x - 1024 * (x / 1024)) / 16 % 8 = x / 16 % 8 ∧ (x - 1024 * (x / 1024)) / 128 = x / 128 % 8 := by omega

theorem two_boxes {w w1 : World} {o1 o2 : Obj} (hb : Below ((w.alloc o1).alloc o2).heap.size ((w.alloc o1).alloc o2) w1) :
    w1.heap[w.heap.size]? = some o1 ∧ w1.heap[w.heap.size + 1]? = some o2 ∧ Below w.heap.size w w1 := by
  refine ⟨?_, ?_, (((Below.refl _ _).alloc (Nat.le_refl _) o1).alloc (by simp) o2).trans (hb.mono (by simp; omega))⟩
  · rw [hb.block _ (by simp; omega), Below.heap_alloc _ _ _ (by simp), Go.Deep.blk_alloc_new]
  · have := Go.Deep.blk_alloc_new (w.alloc o1) o2
    rw [show (w.alloc o1).heap.size = w.heap.size + 1 by simp] at this
    rw [hb.block _ (by simp), this]

def wordB (n : Int) : Bool := inB n (-1099511627776) 1099511627776
theorem wordB_iff {n : Int} : wordB n = true ↔ -1099511627776 ≤ n ∧ n ≤ 1099511627776 := by simp [wordB, inB]
def allB (l : List Int) : Bool := l.all wordB
theorem allB_iff {l : List Int} : allB l = true ↔ ∀ i, i < l.length → wordB (l.getD i 0) = true := by
  unfold allB
  rw [List.all_eq_true]
  constructor
  · intro h i hi
    have : l.getD i 0 = l[i] := by simp [List.getD, hi]
    rw [this]
    exact h _ (List.getElem_mem hi)
  · intro h x hx
    obtain ⟨i, hi, rfl⟩ := List.getElem_of_mem hx
    have := h i hi
    rwa [show l.getD i 0 = l[i] by simp [List.getD, hi]] at this
theorem allB_no {l : List Int} {k : Nat} (hk : k < l.length) (h : wordB (l.getD k 0) = false) : allB l = false := by
  cases e : allB l with
  | false => rfl
  | true => rw [allB_iff.1 e k hk] at h; exact absurd h (by decide)
theorem allB_step {l : List Int} {k : Nat} (h : ∀ i, i < k → wordB (l.getD i 0) = true) (hk : wordB (l.getD k 0) = true) : ∀ i, i < k + 1 → wordB (l.getD i 0) = true := fun i hi => by
  by_cases e : i = k
  · subst e; exact hk
  · exact h i (by omega)

end Go.Proofs.YtbjlfhpiebokkaaDoor

/- Events: plain notions. -/

namespace Go.Proofs.YtbjlfhpiebokkaaDoor
open Go.RowKit
set_option maxRecDepth 100000

structure Ev where
  at_ : Int
  kind : Int
  data : List Int
def noEv : Ev := ⟨0, 0, []⟩
def wordsN (k : Int) : Int := if k = 2 then 16 else if k = 3 then 1 else 0
def evNo (x : Ev) : Int :=
  if !inB x.kind 1 3 then 3 else
  if !inB x.at_ 0 2999 || !allB x.data then 2 else
  if (x.data.length : Int) = wordsN x.kind then 0 else 1
def behind (x y : Ev) : Bool := decide (4 * y.at_ + y.kind < 4 * x.at_ + x.kind)
def verdict (L : List Ev) (k : Nat) : Int :=
  if evNo (L.getD k noEv) = 0 then (if k = 0 then 0 else if behind (L.getD k noEv) (L.getD (k - 1) noEv) then 0 else 9) else evNo (L.getD k noEv)
def firstFrom (f : Nat → Int) : Nat → Nat → Int
  | _, 0 => 0
  | k, n + 1 => if f k = 0 then firstFrom f (k + 1) n else f k
def chk (L : List Ev) (k : Nat) : Int := firstFrom (verdict L) k (L.length - k)
def chkNo (L : List Ev) : Int := if 1000 < L.length then 1 else chk L 0
theorem chk_end {L : List Ev} {k : Nat} (h : ¬ k < L.length) : chk L k = 0 := by
  unfold chk
  rw [show L.length - k = 0 by omega]
  rfl
theorem chk_ok {L : List Ev} {k : Nat} (h : k < L.length) (hv : verdict L k = 0) : chk L k = chk L (k + 1) := by
  unfold chk
  rw [show L.length - k = (L.length - (k + 1)) + 1 by omega]
  simp [firstFrom, hv]
theorem chk_no {L : List Ev} {k : Nat} (h : k < L.length) (hv : verdict L k ≠ 0) : chk L k = verdict L k := by
  unfold chk
  rw [show L.length - k = (L.length - (k + 1)) + 1 by omega]
  simp [firstFrom, hv]
theorem evNo_bd {x : Ev} (h : evNo x = 0) : (1 ≤ x.kind ∧ x.kind ≤ 3) ∧ (0 ≤ x.at_ ∧ x.at_ ≤ 2999) ∧ allB x.data = true ∧ (x.data.length : Int) = wordsN x.kind := by
  cases c0 : inB x.kind 1 3 with
  | false => simp [evNo, c0] at h
  | true =>
  cases c1 : inB x.at_ 0 2999 with
  | false => simp [evNo, c0, c1] at h
  | true =>
  cases c2 : allB x.data with
  | false => simp [evNo, c0, c1, c2] at h
  | true =>
  refine ⟨inB_iff.1 c0, inB_iff.1 c1, rfl, ?_⟩
  by_cases e : (x.data.length : Int) = wordsN x.kind
  · exact e
  · simp [evNo, c0, c1, c2, e] at h
theorem verdict_ev {L : List Ev} {k : Nat} (h : verdict L k = 0) : evNo (L.getD k noEv) = 0 := by
  unfold verdict at h
  split at h
  · assumption
  · assumption

def EvAt (w : World) (b o : Nat) (x : Ev) : Prop :=
  w.cell? ⟨b, o, none⟩ = some (.int .i64 x.at_) ∧ w.cell? ⟨b, o + 1, none⟩ = some (.int .i64 x.kind) ∧ ∃ v, w.cell? ⟨b, o + 2, none⟩ = some v ∧ IntsAt w v x.data
def EvsAt (w : World) (v : Value) (L : List Ev) : Prop :=
  ∃ (A : Option Addr) (c : Nat), v = .slice A L.length c ∧ L.length * 40 ≤ 140737488351232 ∧
    (0 < L.length → ∃ b off, A = some ⟨b, off, none⟩ ∧ b < w.heap.size ∧ ∀ j, j < L.length → EvAt w b (off + j * 3) (L.getD j noEv))
theorem EvAt.below {w w' : World} {b o : Nat} {x : Ev} (h : EvAt w b o x) (hb : b < w.heap.size) (hB : Below w.heap.size w w') : EvAt w' b o x := by
  obtain ⟨h0, h1, v, h2, h3⟩ := h
  exact ⟨(hB.cell (p := ⟨b, o, none⟩) hb).trans h0, (hB.cell (p := ⟨b, o + 1, none⟩) hb).trans h1, v, (hB.cell (p := ⟨b, o + 2, none⟩) hb).trans h2, h3.below hB⟩
theorem EvsAt.below {w w' : World} {v : Value} {L : List Ev} (h : EvsAt w v L) (hB : Below w.heap.size w w') : EvsAt w' v L := by
  obtain ⟨A, c, rfl, hl, hc⟩ := h
  refine ⟨A, c, rfl, hl, fun h0 => ?_⟩
  obtain ⟨b, off, rfl, hlt, hj⟩ := hc h0
  exact ⟨b, off, rfl, Nat.lt_of_lt_of_le hlt hB.size, fun j hjl => (hj j hjl).below hlt hB⟩

def Laid (w : World) : Prop :=
  w.cell? ⟨0, 0, none⟩ = some (.int .i64 0) ∧ w.cell? ⟨0, 1, none⟩ = some (.int .i64 0) ∧ w.cell? ⟨0, 2, none⟩ = some (.int .i64 16) ∧ w.cell? ⟨0, 3, none⟩ = some (.int .i64 1) ∧ 0 < w.heap.size
theorem Laid.below {w w' : World} (h : Laid w) (hB : Below w.heap.size w w') : Laid w' := by
  obtain ⟨h0, h1, h2, h3, h4⟩ := h
  exact ⟨(hB.cell (p := ⟨0, 0, none⟩) h4).trans h0, (hB.cell (p := ⟨0, 1, none⟩) h4).trans h1, (hB.cell (p := ⟨0, 2, none⟩) h4).trans h2, (hB.cell (p := ⟨0, 3, none⟩) h4).trans h3, Nat.lt_of_lt_of_le h4 hB.size⟩
theorem three_cells {w : World} {b : Nat} {x0 x1 x2 : Value} {t : TypeId} (h : w.heap[b]? = some (.cells #[x0, x1, x2] t (0, 0))) :
    w.cell? ⟨b, 0, none⟩ = some x0 ∧ w.cell? ⟨b, 1, none⟩ = some x1 ∧ w.cell? ⟨b, 2, none⟩ = some x2 ∧ (∀ j, w.frozen? ⟨b, j, none⟩ = false) ∧ b < w.heap.size :=
  ⟨by simp [World.cell?, h], by simp [World.cell?, h], by simp [World.cell?, h], fun j => by simp [World.frozen?, h], lt_of_block h⟩

end Go.Proofs.YtbjlfhpiebokkaaDoor
