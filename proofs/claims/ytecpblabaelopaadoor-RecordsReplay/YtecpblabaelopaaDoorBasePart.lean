/- What slices of numbers, slices of such slices and frames hold in a world: notions and plain laws, without the program. -/
import Derived.WalkKit
import Derived.Deep.Matrix
import Derived.Deep.Draws
import Derived.WalkSmall
import Derived.Deep.OwnRows
import Derived.Test.YtecpblabaelopaaDoorProg
import Derived.WalkLawsBesides
import Derived.Deep.QuietTactic
import Derived.BigQuiet
import Derived.Outline
import Derived.ProofKit
import Derived.OpenShut
import Derived.SizedLaws
import Derived.Lib.SmallJoins
import Derived.Test.YtecpblabaelopaaDoorRows
import Derived.LaidMore
import Derived.LaidLaws
import Derived.Stop.Joined
namespace Go.Proofs.YtecpblabaelopaaDoor
open Go.RowKit
set_option maxRecDepth 100000

/-- The value is a slice over these numbers. -/
def IntsAt (w : World) (v : Value) (l : List Int) : Prop :=
  ∃ (A : Option Addr) (c : Nat), v = .slice A l.length c ∧ l.length * 8 ≤ 140737488351232 ∧
    (0 < l.length → ∃ b off, A = some ⟨b, off, none⟩ ∧ b < w.heap.size ∧ ∀ j, j < l.length → w.cell? ⟨b, off + j, none⟩ = some (.int .i64 (l.getD j 0)))

/-- The value is a slice over slices over these numbers. -/
def RowsAt (w : World) (v : Value) (D : List (List Int)) : Prop :=
  ∃ (A : Option Addr) (c : Nat), v = .slice A D.length c ∧ D.length * 24 ≤ 140737488351232 ∧
    (0 < D.length → ∃ b off, A = some ⟨b, off, none⟩ ∧ b < w.heap.size ∧ ∀ j, j < D.length → ∃ u, w.cell? ⟨b, off + j, none⟩ = some u ∧ IntsAt w u (D.getD j []))

theorem IntsAt.below {w w' : World} {v : Value} {l : List Int} (h : IntsAt w v l) (hb : Below w.heap.size w w') : IntsAt w' v l := by
  obtain ⟨A, c, rfl, hl, hc⟩ := h
  refine ⟨A, c, rfl, hl, fun h0 => ?_⟩
  obtain ⟨b, off, rfl, hlt, hj⟩ := hc h0
  exact ⟨b, off, rfl, Nat.lt_of_lt_of_le hlt hb.size, fun j hjl => (hb.cell (p := ⟨b, off + j, none⟩) hlt).trans (hj j hjl)⟩

theorem IntsAt.drewN {w : World} {v : Value} {l : List Int} (h : IntsAt w v l) (n : Nat) : IntsAt (w.drewN n) v l := h

theorem RowsAt.below {w w' : World} {v : Value} {D : List (List Int)} (h : RowsAt w v D) (hb : Below w.heap.size w w') : RowsAt w' v D := by
  obtain ⟨A, c, rfl, hl, hc⟩ := h
  refine ⟨A, c, rfl, hl, fun h0 => ?_⟩
  obtain ⟨b, off, rfl, hlt, hj⟩ := hc h0
  refine ⟨b, off, rfl, Nat.lt_of_lt_of_le hlt hb.size, fun j hjl => ?_⟩
  obtain ⟨u, hu, hi⟩ := hj j hjl
  exact ⟨u, (hb.cell (p := ⟨b, off + j, none⟩) hlt).trans hu, hi.below hb⟩

theorem RowsAt.bounds {w : World} {v : Value} {D : List (List Int)} (h : RowsAt w v D) : D.length * 24 ≤ 140737488351232 ∧ ∀ i, i < D.length → (D.getD i []).length * 8 ≤ 140737488351232 := by
  obtain ⟨A, c, _, hl, hc⟩ := h
  refine ⟨hl, fun i hi => ?_⟩
  obtain ⟨_, _, _, _, hj⟩ := hc (by omega)
  obtain ⟨u, _, _, _, _, h8, _⟩ := hj i hi
  exact h8
theorem IntsAt.bound {w : World} {v : Value} {l : List Int} (h : IntsAt w v l) : l.length * 8 ≤ 140737488351232 := by
  obtain ⟨_, _, _, hl, _⟩ := h
  exact hl

theorem RowsAt.drew {w : World} {v : Value} {D : List (List Int)} (h : RowsAt w v D) : RowsAt w.drew v D := h
theorem IntsAt.drew {w : World} {v : Value} {l : List Int} (h : IntsAt w v l) : IntsAt w.drew v l := h

/-- The same, the memory from block 'lo' on. -/
def IntsLo (lo : Nat) (w : World) (v : Value) (l : List Int) : Prop :=
  ∃ (A : Option Addr) (c : Nat), v = .slice A l.length c ∧ l.length * 8 ≤ 140737488351232 ∧
    (0 < l.length → ∃ b off, A = some ⟨b, off, none⟩ ∧ lo ≤ b ∧ b < w.heap.size ∧ ∀ j, j < l.length → w.cell? ⟨b, off + j, none⟩ = some (.int .i64 (l.getD j 0)))
def RowsLo (lo : Nat) (w : World) (v : Value) (D : List (List Int)) : Prop :=
  ∃ (A : Option Addr) (c : Nat), v = .slice A D.length c ∧ D.length * 24 ≤ 140737488351232 ∧
    (0 < D.length → ∃ b off, A = some ⟨b, off, none⟩ ∧ lo ≤ b ∧ b < w.heap.size ∧ ∀ j, j < D.length → ∃ u, w.cell? ⟨b, off + j, none⟩ = some u ∧ IntsLo lo w u (D.getD j []))

theorem IntsLo.at {lo : Nat} {w : World} {v : Value} {l : List Int} (h : IntsLo lo w v l) : IntsAt w v l := by
  obtain ⟨A, c, e, hl, hc⟩ := h
  exact ⟨A, c, e, hl, fun h0 => let ⟨b, off, e, _, h1, h2⟩ := hc h0; ⟨b, off, e, h1, h2⟩⟩
theorem RowsLo.at {lo : Nat} {w : World} {v : Value} {D : List (List Int)} (h : RowsLo lo w v D) : RowsAt w v D := by
  obtain ⟨A, c, e, hl, hc⟩ := h
  exact ⟨A, c, e, hl, fun h0 => let ⟨b, off, e, _, h1, h2⟩ := hc h0; ⟨b, off, e, h1, fun j hj => let ⟨u, h3, h4⟩ := h2 j hj; ⟨u, h3, h4.at⟩⟩⟩
theorem IntsLo.mono {lo lo' : Nat} {w : World} {v : Value} {l : List Int} (h : IntsLo lo w v l) (hlo : lo' ≤ lo) : IntsLo lo' w v l := by
  obtain ⟨A, c, e, hl, hc⟩ := h
  exact ⟨A, c, e, hl, fun h0 => let ⟨b, off, e, h, h1, h2⟩ := hc h0; ⟨b, off, e, by omega, h1, h2⟩⟩
theorem RowsLo.mono {lo lo' : Nat} {w : World} {v : Value} {D : List (List Int)} (h : RowsLo lo w v D) (hlo : lo' ≤ lo) : RowsLo lo' w v D := by
  obtain ⟨A, c, e, hl, hc⟩ := h
  exact ⟨A, c, e, hl, fun h0 => let ⟨b, off, e, h, h1, h2⟩ := hc h0; ⟨b, off, e, by omega, h1, fun j hj => let ⟨u, h3, h4⟩ := h2 j hj; ⟨u, h3, h4.mono hlo⟩⟩⟩
/-- A store below 'lo' leaves them as they are. -/
theorem IntsLo.setCell {lo : Nat} {w : World} {v : Value} {l : List Int} (h : IntsLo lo w v l) {a : Addr} (ha : a.block < lo) (u : Value) : IntsLo lo (w.setCell a u) v l := by
  obtain ⟨A, c, e, hl, hc⟩ := h
  refine ⟨A, c, e, hl, fun h0 => ?_⟩
  obtain ⟨b, off, e, h, h1, h2⟩ := hc h0
  refine ⟨b, off, e, h, by simpa using h1, fun j hj => ?_⟩
  rw [World.cell?_of_block (a := ⟨b, off + j, none⟩) (Go.Deep.blk_setCell_other _ _ _ _ (by simp; omega)), h2 j hj]
theorem RowsLo.setCell {lo : Nat} {w : World} {v : Value} {D : List (List Int)} (h : RowsLo lo w v D) {a : Addr} (ha : a.block < lo) (u : Value) : RowsLo lo (w.setCell a u) v D := by
  obtain ⟨A, c, e, hl, hc⟩ := h
  refine ⟨A, c, e, hl, fun h0 => ?_⟩
  obtain ⟨b, off, e, h, h1, h2⟩ := hc h0
  refine ⟨b, off, e, h, by simpa using h1, fun j hj => ?_⟩
  obtain ⟨x, h3, h4⟩ := h2 j hj
  refine ⟨x, ?_, h4.setCell ha u⟩
  rw [World.cell?_of_block (a := ⟨b, off + j, none⟩) (Go.Deep.blk_setCell_other _ _ _ _ (by simp; omega)), h3]
theorem IntsLo.below {lo : Nat} {w w' : World} {v : Value} {l : List Int} (h : IntsLo lo w v l) (hb : Below w.heap.size w w') : IntsLo lo w' v l := by
  obtain ⟨A, c, rfl, hl, hc⟩ := h
  refine ⟨A, c, rfl, hl, fun h0 => ?_⟩
  obtain ⟨b, off, rfl, h, hlt, hj⟩ := hc h0
  exact ⟨b, off, rfl, h, Nat.lt_of_lt_of_le hlt hb.size, fun j hjl => (hb.cell (p := ⟨b, off + j, none⟩) hlt).trans (hj j hjl)⟩
theorem RowsLo.below {lo : Nat} {w w' : World} {v : Value} {D : List (List Int)} (h : RowsLo lo w v D) (hb : Below w.heap.size w w') : RowsLo lo w' v D := by
  obtain ⟨A, c, rfl, hl, hc⟩ := h
  refine ⟨A, c, rfl, hl, fun h0 => ?_⟩
  obtain ⟨b, off, rfl, h, hlt, hj⟩ := hc h0
  refine ⟨b, off, rfl, h, Nat.lt_of_lt_of_le hlt hb.size, fun j hjl => ?_⟩
  obtain ⟨u, hu, hi⟩ := hj j hjl
  exact ⟨u, (hb.cell (p := ⟨b, off + j, none⟩) hlt).trans hu, hi.below hb⟩
theorem RowsLo.drew {lo : Nat} {w : World} {v : Value} {D : List (List Int)} (h : RowsLo lo w v D) : RowsLo lo w.drew v D := h
theorem IntsLo.drew {lo : Nat} {w : World} {v : Value} {l : List Int} (h : IntsLo lo w v l) : IntsLo lo w.drew v l := h

theorem bcell {W w1 : World} (hb : Below W.heap.size W w1) : (∀ b o, b < W.heap.size → w1.cell? ⟨b, o, none⟩ = W.cell? ⟨b, o, none⟩) ∧ (∀ b o, b < W.heap.size → w1.frozen? ⟨b, o, none⟩ = W.frozen? ⟨b, o, none⟩) :=
  ⟨fun b o h => hb.cell (p := ⟨b, o, none⟩) h, fun b o h => hb.frozen (p := ⟨b, o, none⟩) h⟩

theorem drewN_two (w : World) (n m : Nat) : ∃ k, (w.drewN n).drewN m = w.drewN k := ⟨n + m, by simp [World.drewN, Nat.add_assoc]⟩

/-- A struct of two fields in a block of its own. -/
theorem two_cells {w : World} {b : Nat} {x y : Value} {t : TypeId} (h : w.heap[b]? = some (.cells #[x, y] t (0, 0))) :
    w.cell? ⟨b, 0, none⟩ = some x ∧ w.cell? ⟨b, 1, none⟩ = some y ∧ (∀ j, w.frozen? ⟨b, j, none⟩ = false) ∧ b < w.heap.size :=
  ⟨by simp [World.cell?, h], by simp [World.cell?, h], fun j => by simp [World.frozen?, h], lt_of_block h⟩

theorem box_kept {w w1 : World} {o : Obj} (hb : Below (w.alloc o).heap.size (w.alloc o) w1) : w1.heap[w.heap.size]? = some o := by
  rw [hb.block _ (by simp), Go.Deep.blk_alloc_new]

theorem below_alloc (w : World) (o : Obj) : Below w.heap.size w (w.alloc o) := (Below.refl _ _).alloc (Nat.le_refl _) _

end Go.Proofs.YtecpblabaelopaaDoor

/- Plain notions: numbers that may be, instructions, words. -/

namespace Go.Proofs.YtecpblabaelopaaDoor
open Go.RowKit
set_option maxRecDepth 100000

/-- The same test, closed to the walk. -/
def inB (n lo hi : Int) : Bool := decide (lo ≤ n ∧ n ≤ hi)
theorem inB_yes {n lo hi : Int} (h1 : lo ≤ n) (h2 : n ≤ hi) : inB n lo hi = true := by simp [inB, h1, h2]
theorem inB_no {n lo hi : Int} (h : ¬ (lo ≤ n ∧ n ≤ hi)) : inB n lo hi = false := by simp only [inB, decide_eq_false_iff_not]; exact h

/-- A callee's contract, met in a region that draws, where the draws ahead of the region have been added in. -/
theorem quiet_same2 {P : Program} {f : FuncId} {args : Array Value} {w : World} {n k : Nat} {v : Value}
    (h : Calls P f args (w.drewN (n + k)) fun e w' => e = .returned v ∧ w' = w.drewN (n + k)) : Calls P f args (w.drewN (n + k)) fun e w'' => e = .returned v ∧ ∃ m, w'' = w.drewN (n + m) :=
  h.mono fun _ _ ⟨he, hm⟩ => ⟨he, k, hm⟩
theorem quiet_of2 {P : Program} {f : FuncId} {args : Array Value} {w : World} {n k : Nat} {v : Value}
    (h : Calls P f args (w.drewN (n + k)) fun e w' => e = .returned v ∧ ∃ m, w' = (w.drewN (n + k)).drewN m) : Calls P f args (w.drewN (n + k)) fun e w'' => e = .returned v ∧ ∃ m, w'' = w.drewN (n + m) :=
  h.mono fun _ _ ⟨he, m, hm⟩ => ⟨he, k + m, by rw [hm, World.drewN_drewN, Nat.add_assoc]⟩

theorem ret_int {k : IntKind} {a b : Int} (h : a = b) : Ending.returned (.int k a) = .returned (.int k b) := by rw [h]
theorem ret_bool {a b : Bool} (h : a = b) : Ending.returned (.bool a) = .returned (.bool b) := by rw [h]

/-- The word that is a multiple of 2 * MaxWord + 1 beside a number. -/
def foldF (n : Int) : Int := (n + 1099511627776) % 2199023255553 - 1099511627776
theorem foldF_bd (n : Int) : -1099511627776 ≤ foldF n ∧ foldF n ≤ 1099511627776 := by unfold foldF; omega
theorem foldF_of {n m : Int} (h1 : -1099511627776 ≤ m) (h2 : m ≤ 1099511627776) (h3 : (n - m) % 2199023255553 = 0) : foldF n = m := by unfold foldF; omega
theorem foldF_id {n : Int} (h1 : -1099511627776 ≤ n) (h2 : n ≤ 1099511627776) : foldF n = n := foldF_of h1 h2 (by simp)
theorem i64_bd {n : Int} (h : (Lit.int .i64 n).wf = true) : -9223372036854775808 ≤ n ∧ n ≤ 9223372036854775807 := by
  simpa [Lit.wf, IntKind.min, IntKind.max, IntKind.signed, IntKind.bits] using h

/-- What is wrong with an instruction. -/
def instrNo (op a b n : Int) : Int :=
  if !inB op 0 15 then 3 else
  if !inB a 0 7 || !inB b 0 7 || !inB n (-1048576) 1048575 then 2 else
  if (op == 2 || op == 3) && !inB n 0 7 then 4 else
  if op == 12 && !inB n 0 1 then 4 else 0

/-- A struct of four fields in a block of its own. -/
theorem four_cells {w : World} {b : Nat} {x0 x1 x2 x3 : Value} {t : TypeId} (h : w.heap[b]? = some (.cells #[x0, x1, x2, x3] t (0, 0))) :
    w.cell? ⟨b, 0, none⟩ = some x0 ∧ w.cell? ⟨b, 1, none⟩ = some x1 ∧ w.cell? ⟨b, 2, none⟩ = some x2 ∧ w.cell? ⟨b, 3, none⟩ = some x3 ∧ (∀ j, w.frozen? ⟨b, j, none⟩ = false) ∧ b < w.heap.size :=
  ⟨by simp [World.cell?, h], by simp [World.cell?, h], by simp [World.cell?, h], by simp [World.cell?, h], fun j => by simp [World.frozen?, h], lt_of_block h⟩

theorem ret_two {k k' : IntKind} {a b c d : Int} (h : a = b) (h' : c = d) : Ending.returned (.tuple #[.int k a, .int k' c]) = .returned (.tuple #[.int k b, .int k' d]) := by rw [h, h']

/-- Quotient and rest, as Go has them, by sign. -/
theorem tdiv_sign (n b : Int) : (0 ≤ n ∧ n.tdiv b = n / b) ∨ (n < 0 ∧ n.tdiv b = -((-n) / b)) := by
  by_cases h : 0 ≤ n
  · exact Or.inl ⟨h, Int.tdiv_eq_ediv_of_nonneg h⟩
  · exact Or.inr ⟨by omega, by rw [← Int.tdiv_eq_ediv_of_nonneg (by omega), Int.neg_tdiv, Int.neg_neg]⟩
theorem tmod_sign (n b : Int) : (0 ≤ n ∧ n.tmod b = n % b) ∨ (n < 0 ∧ n.tmod b = -((-n) % b)) := by
  by_cases h : 0 ≤ n
  · exact Or.inl ⟨h, Int.tmod_eq_emod_of_nonneg h⟩
  · exact Or.inr ⟨by omega, by rw [← Int.tmod_eq_emod_of_nonneg (by omega), Int.neg_tmod, Int.neg_neg]⟩

theorem inB_iff {n lo hi : Int} : inB n lo hi = true ↔ lo ≤ n ∧ n ≤ hi := by simp [inB]
theorem instrNo_bd {op a b n : Int} (h : instrNo op a b n = 0) : (0 ≤ op ∧ op ≤ 15) ∧ (0 ≤ a ∧ a ≤ 7) ∧ (0 ≤ b ∧ b ≤ 7) ∧ (-1048576 ≤ n ∧ n ≤ 1048575) := by
  cases c0 : inB op 0 15 with
  | false => simp [instrNo, c0] at h
  | true =>
  cases c1 : inB a 0 7 with
  | false => simp [instrNo, c0, c1] at h
  | true =>
  cases c2 : inB b 0 7 with
  | false => simp [instrNo, c0, c1, c2] at h
  | true =>
  cases c3 : inB n (-1048576) 1048575 with
  | false => simp [instrNo, c0, c1, c2, c3] at h
  | true => exact ⟨inB_iff.1 c0, inB_iff.1 c1, inB_iff.1 c2, inB_iff.1 c3⟩
theorem instrNo_reg {op a b n : Int} (h : instrNo op a b n = 0) (ho : op = 2 ∨ op = 3) : 0 ≤ n ∧ n ≤ 7 := by
  obtain ⟨b0, b1, b2, b3⟩ := instrNo_bd h
  cases c3 : inB n 0 7 with
  | true => exact inB_iff.1 c3
  | false => rcases ho with rfl | rfl <;> simp [instrNo, inB_iff.2 b0, inB_iff.2 b1, inB_iff.2 b2, inB_iff.2 b3, c3] at h

/-- The word of an instruction. -/
def wordF (op a b n : Int) : Int := 1024 * n + 128 * b + 16 * a + op
def wordNo (op a b n : Int) : Int := if instrNo op a b n = 0 then wordF op a b n else 0

/-- What is wrong with a word. -/
def decNo (x : Int) : Int := instrNo (x % 16) (x / 16 % 8) (x / 128 % 8) (x / 1024)
/-- The instruction of a word; without one the empty instruction. -/
def decI (x : Int) : Value := if decNo x = 0 then .agg #[.int .i64 (x % 16), .int .i64 (x / 16 % 8), .int .i64 (x / 128 % 8), .int .i64 (x / 1024)] else .agg #[.int .i64 0, .int .i64 0, .int .i64 0, .int .i64 0]

theorem low_parts (x : Int) : (x - 1024 * (x / 1024)) % 16 = x % 16 ∧ (x - 1024 * (x / 1024)) / 16 % 8 = x / 16 % 8 ∧ (x - 1024 * (x / 1024)) / 128 = x / 128 % 8 := by omega

theorem two_boxes {w w1 : World} {o1 o2 : Obj} (hb : Below ((w.alloc o1).alloc o2).heap.size ((w.alloc o1).alloc o2) w1) :
    w1.heap[w.heap.size]? = some o1 ∧ w1.heap[w.heap.size + 1]? = some o2 ∧ Below w.heap.size w w1 := by
  refine ⟨?_, ?_, (((Below.refl _ _).alloc (Nat.le_refl _) o1).alloc (by simp) o2).trans (hb.mono (by simp; omega))⟩
  · rw [hb.block _ (by simp; omega), Below.heap_alloc _ _ _ (by simp), Go.Deep.blk_alloc_new]
  · have := Go.Deep.blk_alloc_new (w.alloc o1) o2
    rw [show (w.alloc o1).heap.size = w.heap.size + 1 by simp] at this
    rw [hb.block _ (by simp), this]

/-- A number that is a word. -/
def wordB (n : Int) : Bool := inB n (-1099511627776) 1099511627776
theorem wordB_iff {n : Int} : wordB n = true ↔ -1099511627776 ≤ n ∧ n ≤ 1099511627776 := by simp [wordB, inB]
/-- Numbers that all are words. -/
def allB (l : List Int) : Bool := l.all wordB
theorem allB_iff {l : List Int} : allB l = true ↔ ∀ i, i < l.length → wordB (l.getD i 0) = true := by
  unfold allB
  rw [List.all_eq_true]
  constructor
  · intro h i hi
    have : l.getD i 0 = l[i] := by simp [List.getD, hi]
    rw [this]
    exact h _ (List.getElem_mem hi)
  · intro h x hx
    obtain ⟨i, hi, rfl⟩ := List.getElem_of_mem hx
    have := h i hi
    rwa [show l.getD i 0 = l[i] by simp [List.getD, hi]] at this
theorem allB_no {l : List Int} {k : Nat} (hk : k < l.length) (h : wordB (l.getD k 0) = false) : allB l = false := by
  cases e : allB l with
  | false => rfl
  | true => rw [allB_iff.1 e k hk] at h; exact absurd h (by decide)
theorem allB_step {l : List Int} {k : Nat} (h : ∀ i, i < k → wordB (l.getD i 0) = true) (hk : wordB (l.getD k 0) = true) : ∀ i, i < k + 1 → wordB (l.getD i 0) = true := fun i hi => by
  by_cases e : i = k
  · subst e; exact hk
  · exact h i (by omega)

end Go.Proofs.YtecpblabaelopaaDoor

/- Events: plain notions. -/

namespace Go.Proofs.YtecpblabaelopaaDoor
open Go.RowKit
set_option maxRecDepth 100000

/-- An event. -/
structure Ev where
  at_ : Int
  kind : Int
  data : List Int
def noEv : Ev := ⟨0, 0, []⟩
/-- How many words an event of a kind has. -/
def wordsN (k : Int) : Int := if k = 2 then 16 else if k = 3 then 1 else 0
/-- What is wrong with an event by itself. -/
def evNo (x : Ev) : Int :=
  if !inB x.kind 1 3 then 3 else
  if !inB x.at_ 0 2999 || !allB x.data then 2 else
  if (x.data.length : Int) = wordsN x.kind then 0 else 1
/-- One stands behind another one. -/
def behind (x y : Ev) : Bool := decide (4 * y.at_ + y.kind < 4 * x.at_ + x.kind)
/-- What is wrong with the event at a place. -/
def verdict (L : List Ev) (k : Nat) : Int :=
  if evNo (L.getD k noEv) = 0 then (if k = 0 then 0 else if behind (L.getD k noEv) (L.getD (k - 1) noEv) then 0 else 9) else evNo (L.getD k noEv)
/-- What is wrong first, from a place on. -/
def firstFrom (f : Nat → Int) : Nat → Nat → Int
  | _, 0 => 0
  | k, n + 1 => if f k = 0 then firstFrom f (k + 1) n else f k
def chk (L : List Ev) (k : Nat) : Int := firstFrom (verdict L) k (L.length - k)
def chkNo (L : List Ev) : Int := if 1000 < L.length then 1 else chk L 0
theorem chk_end {L : List Ev} {k : Nat} (h : ¬ k < L.length) : chk L k = 0 := by
  unfold chk
  rw [show L.length - k = 0 by omega]
  rfl
theorem chk_ok {L : List Ev} {k : Nat} (h : k < L.length) (hv : verdict L k = 0) : chk L k = chk L (k + 1) := by
  unfold chk
  rw [show L.length - k = (L.length - (k + 1)) + 1 by omega]
  simp [firstFrom, hv]
theorem chk_no {L : List Ev} {k : Nat} (h : k < L.length) (hv : verdict L k ≠ 0) : chk L k = verdict L k := by
  unfold chk
  rw [show L.length - k = (L.length - (k + 1)) + 1 by omega]
  simp [firstFrom, hv]
theorem evNo_bd {x : Ev} (h : evNo x = 0) : (1 ≤ x.kind ∧ x.kind ≤ 3) ∧ (0 ≤ x.at_ ∧ x.at_ ≤ 2999) ∧ allB x.data = true ∧ (x.data.length : Int) = wordsN x.kind := by
  cases c0 : inB x.kind 1 3 with
  | false => simp [evNo, c0] at h
  | true =>
  cases c1 : inB x.at_ 0 2999 with
  | false => simp [evNo, c0, c1] at h
  | true =>
  cases c2 : allB x.data with
  | false => simp [evNo, c0, c1, c2] at h
  | true =>
  refine ⟨inB_iff.1 c0, inB_iff.1 c1, rfl, ?_⟩
  by_cases e : (x.data.length : Int) = wordsN x.kind
  · exact e
  · simp [evNo, c0, c1, c2, e] at h
theorem verdict_ev {L : List Ev} {k : Nat} (h : verdict L k = 0) : evNo (L.getD k noEv) = 0 := by
  unfold verdict at h
  split at h
  · assumption
  · assumption

/-- An event lies there. -/
def EvAt (w : World) (b o : Nat) (x : Ev) : Prop :=
  w.cell? ⟨b, o, none⟩ = some (.int .i64 x.at_) ∧ w.cell? ⟨b, o + 1, none⟩ = some (.int .i64 x.kind) ∧ ∃ v, w.cell? ⟨b, o + 2, none⟩ = some v ∧ IntsAt w v x.data
/-- The value is a slice over these events. -/
def EvsAt (w : World) (v : Value) (L : List Ev) : Prop :=
  ∃ (A : Option Addr) (c : Nat), v = .slice A L.length c ∧ L.length * 40 ≤ 140737488351232 ∧
    (0 < L.length → ∃ b off, A = some ⟨b, off, none⟩ ∧ b < w.heap.size ∧ ∀ j, j < L.length → EvAt w b (off + j * 3) (L.getD j noEv))
theorem EvAt.below {w w' : World} {b o : Nat} {x : Ev} (h : EvAt w b o x) (hb : b < w.heap.size) (hB : Below w.heap.size w w') : EvAt w' b o x := by
  obtain ⟨h0, h1, v, h2, h3⟩ := h
  exact ⟨(hB.cell (p := ⟨b, o, none⟩) hb).trans h0, (hB.cell (p := ⟨b, o + 1, none⟩) hb).trans h1, v, (hB.cell (p := ⟨b, o + 2, none⟩) hb).trans h2, h3.below hB⟩
theorem EvsAt.below {w w' : World} {v : Value} {L : List Ev} (h : EvsAt w v L) (hB : Below w.heap.size w w') : EvsAt w' v L := by
  obtain ⟨A, c, rfl, hl, hc⟩ := h
  refine ⟨A, c, rfl, hl, fun h0 => ?_⟩
  obtain ⟨b, off, rfl, hlt, hj⟩ := hc h0
  exact ⟨b, off, rfl, Nat.lt_of_lt_of_le hlt hB.size, fun j hjl => (hj j hjl).below hlt hB⟩

/-- How many words the events of a kind have, as the package has it. -/
def Laid (w : World) : Prop :=
  w.cell? ⟨0, 0, none⟩ = some (.int .i64 0) ∧ w.cell? ⟨0, 1, none⟩ = some (.int .i64 0) ∧ w.cell? ⟨0, 2, none⟩ = some (.int .i64 16) ∧ w.cell? ⟨0, 3, none⟩ = some (.int .i64 1) ∧ 0 < w.heap.size
theorem Laid.below {w w' : World} (h : Laid w) (hB : Below w.heap.size w w') : Laid w' := by
  obtain ⟨h0, h1, h2, h3, h4⟩ := h
  exact ⟨(hB.cell (p := ⟨0, 0, none⟩) h4).trans h0, (hB.cell (p := ⟨0, 1, none⟩) h4).trans h1, (hB.cell (p := ⟨0, 2, none⟩) h4).trans h2, (hB.cell (p := ⟨0, 3, none⟩) h4).trans h3, Nat.lt_of_lt_of_le h4 hB.size⟩
/-- A struct of three fields in a block of its own. -/
theorem three_cells {w : World} {b : Nat} {x0 x1 x2 : Value} {t : TypeId} (h : w.heap[b]? = some (.cells #[x0, x1, x2] t (0, 0))) :
    w.cell? ⟨b, 0, none⟩ = some x0 ∧ w.cell? ⟨b, 1, none⟩ = some x1 ∧ w.cell? ⟨b, 2, none⟩ = some x2 ∧ (∀ j, w.frozen? ⟨b, j, none⟩ = false) ∧ b < w.heap.size :=
  ⟨by simp [World.cell?, h], by simp [World.cell?, h], by simp [World.cell?, h], fun j => by simp [World.frozen?, h], lt_of_block h⟩

end Go.Proofs.YtecpblabaelopaaDoor

/- Numbers and slices of numbers that are handed in, opened. -/

namespace Go.Proofs.YtecpblabaelopaaDoor
open Go.ChangeShapes Go.WideShapes Go.ChangeAt Go.RowKit Go.Deep Go.Joins
set_option maxRecDepth 100000

theorem own : ownKnob Tryd.prog.godebug = none := by kernel_rfl
theorem laidOut : laidOutB Tryd.prog = true := by kernel_rfl
theorem cellsInts : Tryd.prog.cellsOf 23 = 1 := by kernel_rfl
theorem cellsInt : Tryd.prog.cellsOf 3 = 1 := by kernel_rfl
theorem bytesInts : Tryd.prog.bytesOf 23 = 24 := by kernel_rfl
theorem bytesInt : Tryd.prog.bytesOf 3 = 8 := by kernel_rfl
theorem reach_is : reachBytes = 140737488351232 := rfl

theorem weightsAll_mem {H : Type} {P : Program} {e : TypeId} : ∀ {l : List (DataW H)} {d : DataW H}, d ∈ l → ∀ n ∈ d.weights P e, n ∈ DataW.weightsAll P e l
  | x :: l, d, hd, n, hn => by
    simp only [DataW.weightsAll, List.mem_append]
    rcases List.mem_cons.1 hd with rfl | h
    · exact Or.inl hn
    · exact Or.inr (weightsAll_mem h n hn)

/-- A slice of numbers that is handed in. -/
theorem intsAt_of {H : Type} {enc : TypeId × Value → H} {W : World} {fuel : Nat} {v : Value} {x : DataW H × List MemPlace}
    (h : DataW.trod enc Tryd.prog W 0 (fun _ => true) true fuel 23 [v] = some x) (hs : ∀ n ∈ x.1.weights Tryd.prog 23, n ≤ reachBytes) :
    ∃ l, IntsAt W v l ∧ ∀ n ∈ l, (Lit.int .i64 n).wf = true := by
  rcases open_ints Tryd.underlying23 Tryd.underlying3 cellsInt h with ⟨hcs, _⟩ | ⟨a, len, cap, zs, hcs, _, hl, hm, hz, hx, hcell, hwz⟩
  · simp at hcs
    exact ⟨[], ⟨none, 0, by simpa using hcs, by simp, fun h => by simp at h⟩, by simp⟩
  · simp at hcs
    subst hcs
    simp only [if_true] at hz
    have hlen : (zs.take len).length = len := by simp; omega
    refine ⟨zs.take len, ⟨some a, cap, by rw [hlen], ?_, fun h0 => ?_⟩, fun n hn => hwz n (List.mem_of_mem_take hn)⟩
    · have := hs ((zs.take len).length * 8 + (zs.drop len).length * 8) (by
        rw [hx]
        simp only [DataW.weights, Tryd.underlying23, bytesInt, List.mem_cons]
        left
        simp [lits]
        omega)
      rw [reach_is] at this
      omega
    · rw [hlen] at h0 ⊢
      obtain ⟨b, off, rfl, hc⟩ := ints_at hcell (by omega)
      refine ⟨b, off, rfl, World.block_lt_of_cell? _ _ (hc 0 (by omega)), fun j hj => ?_⟩
      rw [hc j (by omega)]
      simp [List.getD, hj]

end Go.Proofs.YtecpblabaelopaaDoor

/- What the package variable evlog.dataWords holds when a call begins. -/

namespace Go.Proofs.YtecpblabaelopaaDoor
open Go.ChangeShapes Go.WideShapes Go.ChangeAt Go.WideMaps Go.WideElems Go.RowKit
set_option maxRecDepth 100000

theorem gWords : Tryd.prog.globalNamed "hourglass/evlog.dataWords" = some 0 := by kernel_rfl
theorem tWords : (Tryd.prog.globals[0]?).map (·.type) = some 134 := by kernel_rfl
def laidD : List (String × DataW Unit) := [("hourglass/evlog.dataWords", Rows.laid_hourglass_evlog_dataWords)]

/-- The door's own heap meets the condition. -/
theorem door_met (os : Os) (args : Array Value) : laidMetH Tryd.prog laidD ((World.doorLaid Tryd.prog 400 os).forCall (fun _ _ => 0) ⟨#[], args, []⟩).memory :=
  laidMetH_of_parts3 (fuel := 8) (laidMet_of_run' 8 (by kernel_rfl) (by kernel_rfl)) (by kernel_rfl) (by kernel_rfl)

/-- What the condition gives the walks. -/
theorem of_laid {W : World} (h : laidMetH Tryd.prog laidD W) : Laid W := by
  rw [MakeChecks.laidMetH_plain _ _ _ (by kernel_rfl)] at h
  obtain ⟨ps, ⟨g0, t0, cs0, f0, p0, q0, hg0, ht0, hv0, hd0, _, _⟩, _, _⟩ := h
  obtain rfl := Option.some.inj (gWords.symm.trans hg0)
  obtain rfl := Option.some.inj (tWords.symm.trans ht0)
  obtain ⟨xs, m1, rfl, hx1, hlen, hn4, hel⟩ := DataW.trod_array Tryd.underlying134 hd0
  have c3 : Tryd.prog.cellsOf 3 = 1 := by kernel_rfl
  have c57 : Tryd.prog.cellsOf 134 = 4 := by kernel_rfl
  simp only [Prod.mk.injEq, Rows.laid_hourglass_evlog_dataWords, DataW.agg.injEq] at hx1
  match xs, hn4, hx1, hel with
  | [x0, x1, x2, x3], _, hx1, hel =>
    simp only [List.map_cons, List.map_nil, List.cons.injEq] at hx1
    have e0 := hel 0 (by decide)
    have e1 := hel 1 (by decide)
    have e2 := hel 2 (by decide)
    have e3 := hel 3 (by decide)
    obtain ⟨k0, a0, b0, _⟩ := DataW.trod_int Tryd.underlying3 (show DataW.trod _ Tryd.prog W 0 _ false m1 3 _ = some x0 from e0)
    obtain ⟨k1, a1, b1, _⟩ := DataW.trod_int Tryd.underlying3 (show DataW.trod _ Tryd.prog W 0 _ false m1 3 _ = some x1 from e1)
    obtain ⟨k2, a2, b2, _⟩ := DataW.trod_int Tryd.underlying3 (show DataW.trod _ Tryd.prog W 0 _ false m1 3 _ = some x2 from e2)
    obtain ⟨k3, a3, b3, _⟩ := DataW.trod_int Tryd.underlying3 (show DataW.trod _ Tryd.prog W 0 _ false m1 3 _ = some x3 from e3)
    have v0 := World.var?_cell hg0 hv0 0
    have v1 := World.var?_cell hg0 hv0 1
    have v2 := World.var?_cell hg0 hv0 2
    have v3 := World.var?_cell hg0 hv0 3
    obtain ⟨l⟩ := cs0
    rw [c57] at hlen
    rw [c3] at a0 a1 a2 a3
    rw [b0, b1, b2, b3] at hx1
    simp only [DataW.lit.injEq, Lit.int.injEq] at hx1
    obtain ⟨⟨⟨-, h0⟩, ⟨-, h1⟩, ⟨-, h2⟩, ⟨-, h3⟩, -⟩, -⟩ := hx1
    subst h0 h1 h2 h3
    match l, hlen with
    | [y0, y1, y2, y3], _ =>
      simp at a0 a1 a2 a3
      subst a0 a1 a2 a3
      simp at v0 v1 v2 v3
      exact ⟨v0, v1, v2, v3, World.block_lt_of_cell? _ _ v0⟩

end Go.Proofs.YtecpblabaelopaaDoor
