/- What slices of numbers, slices of such slices and frames hold in a world: notions and plain laws, without the program. -/
import Derived.WalkKit
import Derived.Deep.Matrix
import Derived.Deep.Draws
import Derived.WalkSmall
import Derived.Deep.OwnRows
import Derived.Test.YtecpblabaelopaaGreatDoorProg
import Derived.WalkLawsBesides
import Derived.Deep.QuietTactic
import Derived.BigQuiet
import Derived.Outline
import Derived.ProofKit
import Derived.OpenShut
import Derived.SizedLaws
import Derived.Lib.SmallJoins
import Derived.Test.YtecpblabaelopaaGreatDoorRows
import Derived.LaidMore
import Derived.LaidLaws
import Derived.Stop.Joined
namespace Go.Proofs.YtecpblabaelopaaGreatDoor
open Go.RowKit
set_option maxRecDepth 100000

def IntsAt (w : World) (v : Value) (l : List Int) : Prop :=
  ∃ (A : Option Addr) (c : Nat), v = .slice A l.length c ∧ l.length * 8 ≤ 140737488351232 ∧
    (0 < l.length → ∃ b off, A = some ⟨b, off, none⟩ ∧ b < w.heap.size ∧ ∀ j, j < l.length → w.cell? ⟨b, off + j, none⟩ = some (.int .i64 (l.getD j 0)))

def RowsAt (w : World) (v : Value) (D : List (List Int)) : Prop :=
  ∃ (A : Option Addr) (c : Nat), v = .slice A D.length c ∧ D.length * 24 ≤ 140737488351232 ∧
    (0 < D.length → ∃ b off, A = some ⟨b, off, none⟩ ∧ b < w.heap.size ∧ ∀ j, j < D.length → ∃ u, w.cell? ⟨b, off + j, none⟩ = some u ∧ IntsAt w u (D.getD j []))

theorem IntsAt.below {w w' : World} {v : Value} {l : List Int} (h : IntsAt w v l) (hb : Below w.heap.size w w') : IntsAt w' v l := by
  obtain ⟨A, c, rfl, hl, hc⟩ := h
  refine ⟨A, c, rfl, hl, fun h0 => ?_⟩
  obtain ⟨b, off, rfl, hlt, hj⟩ := hc h0
  exact ⟨b, off, rfl, Nat.lt_of_lt_of_le hlt hb.size, fun j hjl => (hb.cell (p := ⟨b, off + j, none⟩) hlt).trans (hj j hjl)⟩

theorem IntsAt.drewN {w : World} {v : Value} {l : List Int} (h : IntsAt w v l) (n : Nat) : IntsAt (w.drewN n) v l := h

theorem RowsAt.below {w w' : World} {v : Value} {D : List (List Int)} (h : RowsAt w v D) (hb : Below w.heap.size w w') : RowsAt w' v D := by
  obtain ⟨A, c, rfl, hl, hc⟩ := h
  refine ⟨A, c, rfl, hl, fun h0 => ?_⟩
  obtain ⟨b, off, rfl, hlt, hj⟩ := hc h0
  refine ⟨b, off, rfl, Nat.lt_of_lt_of_le hlt hb.size, fun j hjl => ?_⟩
  obtain ⟨u, hu, hi⟩ := hj j hjl
  exact ⟨u, (hb.cell (p := ⟨b, off + j, none⟩) hlt).trans hu, hi.below hb⟩

theorem IntsAt.bound {w : World} {v : Value} {l : List Int} (h : IntsAt w v l) : l.length * 8 ≤ 140737488351232 := by
  obtain ⟨_, _, _, hl, _⟩ := h
  exact hl

theorem RowsAt.drew {w : World} {v : Value} {D : List (List Int)} (h : RowsAt w v D) : RowsAt w.drew v D := h
theorem IntsAt.drew {w : World} {v : Value} {l : List Int} (h : IntsAt w v l) : IntsAt w.drew v l := h

def IntsLo (lo : Nat) (w : World) (v : Value) (l : List Int) : Prop :=
  ∃ (A : Option Addr) (c : Nat), v = .slice A l.length c ∧ l.length * 8 ≤ 140737488351232 ∧
    (0 < l.length → ∃ b off, A = some ⟨b, off, none⟩ ∧ lo ≤ b ∧ b < w.heap.size ∧ ∀ j, j < l.length → w.cell? ⟨b, off + j, none⟩ = some (.int .i64 (l.getD j 0)))
def RowsLo (lo : Nat) (w : World) (v : Value) (D : List (List Int)) : Prop :=
  ∃ (A : Option Addr) (c : Nat), v = .slice A D.length c ∧ D.length * 24 ≤ 140737488351232 ∧
    (0 < D.length → ∃ b off, A = some ⟨b, off, none⟩ ∧ lo ≤ b ∧ b < w.heap.size ∧ ∀ j, j < D.length → ∃ u, w.cell? ⟨b, off + j, none⟩ = some u ∧ IntsLo lo w u (D.getD j []))

theorem IntsLo.at {lo : Nat} {w : World} {v : Value} {l : List Int} (h : IntsLo lo w v l) : IntsAt w v l := by
  obtain ⟨A, c, e, hl, hc⟩ := h
  exact ⟨A, c, e, hl, fun h0 => let ⟨b, off, e, _, h1, h2⟩ := hc h0; ⟨b, off, e, h1, h2⟩⟩
theorem RowsLo.at {lo : Nat} {w : World} {v : Value} {D : List (List Int)} (h : RowsLo lo w v D) : RowsAt w v D := by
  obtain ⟨A, c, e, hl, hc⟩ := h
  exact ⟨A, c, e, hl, fun h0 => let ⟨b, off, e, _, h1, h2⟩ := hc h0; ⟨b, off, e, h1, fun j hj => let ⟨u, h3, h4⟩ := h2 j hj; ⟨u, h3, h4.at⟩⟩⟩
theorem IntsLo.mono {lo lo' : Nat} {w : World} {v : Value} {l : List Int} (h : IntsLo lo w v l) (hlo : lo' ≤ lo) : IntsLo lo' w v l := by
  obtain ⟨A, c, e, hl, hc⟩ := h
  exact ⟨A, c, e, hl, fun h0 => let ⟨b, off, e, h, h1, h2⟩ := hc h0; ⟨b, off, e, by omega, h1, h2⟩⟩
theorem RowsLo.mono {lo lo' : Nat} {w : World} {v : Value} {D : List (List Int)} (h : RowsLo lo w v D) (hlo : lo' ≤ lo) : RowsLo lo' w v D := by
  obtain ⟨A, c, e, hl, hc⟩ := h
  exact ⟨A, c, e, hl, fun h0 => let ⟨b, off, e, h, h1, h2⟩ := hc h0; ⟨b, off, e, by omega, h1, fun j hj => let ⟨u, h3, h4⟩ := h2 j hj; ⟨u, h3, h4.mono hlo⟩⟩⟩
theorem IntsLo.setCell {lo : Nat} {w : World} {v : Value} {l : List Int} (h : IntsLo lo w v l) {a : Addr} (ha : a.block < lo) (u : Value) : IntsLo lo (w.setCell a u) v l := by
  obtain ⟨A, c, e, hl, hc⟩ := h
  refine ⟨A, c, e, hl, fun h0 => ?_⟩
  obtain ⟨b, off, e, h, h1, h2⟩ := hc h0
  refine ⟨b, off, e, h, by simpa using h1, fun j hj => ?_⟩
  rw [World.cell?_of_block (a := ⟨b, off + j, none⟩) (Go.Deep.blk_setCell_other _ _ _ _ (by simp; omega)), h2 j hj]
theorem RowsLo.setCell {lo : Nat} {w : World} {v : Value} {D : List (List Int)} (h : RowsLo lo w v D) {a : Addr} (ha : a.block < lo) (u : Value) : RowsLo lo (w.setCell a u) v D := by
  obtain ⟨A, c, e, hl, hc⟩ := h
  refine ⟨A, c, e, hl, fun h0 => ?_⟩
  obtain ⟨b, off, e, h, h1, h2⟩ := hc h0
  refine ⟨b, off, e, h, by simpa using h1, fun j hj => ?_⟩
  obtain ⟨x, h3, h4⟩ := h2 j hj
  refine ⟨x, ?_, h4.setCell ha u⟩
  rw [World.cell?_of_block (a := ⟨b, off + j, none⟩) (Go.Deep.blk_setCell_other _ _ _ _ (by simp; omega)), h3]
theorem IntsLo.below {lo : Nat} {w w' : World} {v : Value} {l : List Int} (h : IntsLo lo w v l) (hb : Below w.heap.size w w') : IntsLo lo w' v l := by
  obtain ⟨A, c, rfl, hl, hc⟩ := h
  refine ⟨A, c, rfl, hl, fun h0 => ?_⟩
  obtain ⟨b, off, rfl, h, hlt, hj⟩ := hc h0
  exact ⟨b, off, rfl, h, Nat.lt_of_lt_of_le hlt hb.size, fun j hjl => (hb.cell (p := ⟨b, off + j, none⟩) hlt).trans (hj j hjl)⟩
theorem RowsLo.below {lo : Nat} {w w' : World} {v : Value} {D : List (List Int)} (h : RowsLo lo w v D) (hb : Below w.heap.size w w') : RowsLo lo w' v D := by
  obtain ⟨A, c, rfl, hl, hc⟩ := h
  refine ⟨A, c, rfl, hl, fun h0 => ?_⟩
  obtain ⟨b, off, rfl, h, hlt, hj⟩ := hc h0
  refine ⟨b, off, rfl, h, Nat.lt_of_lt_of_le hlt hb.size, fun j hjl => ?_⟩
  obtain ⟨u, hu, hi⟩ := hj j hjl
  exact ⟨u, (hb.cell (p := ⟨b, off + j, none⟩) hlt).trans hu, hi.below hb⟩
theorem RowsLo.drew {lo : Nat} {w : World} {v : Value} {D : List (List Int)} (h : RowsLo lo w v D) : RowsLo lo w.drew v D := h
theorem IntsLo.drew {lo : Nat} {w : World} {v : Value} {l : List Int} (h : IntsLo lo w v l) : IntsLo lo w.drew v l := h

theorem drewN_two (w : World) (n m : Nat) : ∃ k, (w.drewN n).drewN m = w.drewN k := ⟨n + m, by simp [World.drewN, Nat.add_assoc]⟩

theorem two_cells {w : World} {b : Nat} {x y : Value} {t : TypeId} (h : w.heap[b]? = some (.cells #[x, y] t (0, 0))) :
    w.cell? ⟨b, 0, none⟩ = some x ∧ w.cell? ⟨b, 1, none⟩ = some y ∧ (∀ j, w.frozen? ⟨b, j, none⟩ = false) ∧ b < w.heap.size :=
  ⟨by simp [World.cell?, h], by simp [World.cell?, h], fun j => by simp [World.frozen?, h], lt_of_block h⟩

theorem box_kept {w w1 : World} {o : Obj} (hb : Below (w.alloc o).heap.size (w.alloc o) w1) : w1.heap[w.heap.size]? = some o := by
  rw [hb.block _ (by simp), Go.Deep.blk_alloc_new]

theorem below_alloc (w : World) (o : Obj) : Below w.heap.size w (w.alloc o) := (Below.refl _ _).alloc (Nat.le_refl _) _

end Go.Proofs.YtecpblabaelopaaGreatDoor

/- Plain notions: numbers that may be, instructions, words. -/

namespace Go.Proofs.YtecpblabaelopaaGreatDoor
open Go.RowKit
set_option maxRecDepth 100000

def inB (n lo hi : Int) : Bool := decide (lo ≤ n ∧ n ≤ hi)
theorem inB_yes {n lo hi : Int} (h1 : lo ≤ n) (h2 : n ≤ hi) : inB n lo hi = true := by simp [inB, h1, h2]
theorem inB_no {n lo hi : Int} (h : ¬ (lo ≤ n ∧ n ≤ hi)) : inB n lo hi = false := by simp only [inB, decide_eq_false_iff_not]; exact h

theorem ret_int {k : IntKind} {a b : Int} (h : a = b) : Ending.returned (.int k a) = .returned (.int k b) := by rw [h]
theorem ret_bool {a b : Bool} (h : a = b) : Ending.returned (.bool a) = .returned (.bool b) := by rw [h]

def foldF (n : Int) : Int := (n + 1099511627776) % 2199023255553 - 1099511627776
theorem foldF_bd (n : Int) : -1099511627776 ≤ foldF n ∧ foldF n ≤ 1099511627776 := by unfold foldF; omega
theorem foldF_of {n m : Int} (h1 : -1099511627776 ≤ m) (h2 : m ≤ 1099511627776) (h3 : (n - m) % 2199023255553 = 0) : foldF n = m := by unfold foldF; omega
theorem foldF_id {n : Int} (h1 : -1099511627776 ≤ n) (h2 : n ≤ 1099511627776) : foldF n = n := foldF_of h1 h2 (by simp)
theorem i64_bd {n : Int} (h : (Lit.int .i64 n).wf = true) : -9223372036854775808 ≤ n ∧ n ≤ 9223372036854775807 := by
  simpa [Lit.wf, IntKind.min, IntKind.max, IntKind.signed, IntKind.bits] using h

def instrNo (op a b n : Int) : Int :=
  if !inB op 0 15 then 3 else
  if !inB a 0 7 || !inB b 0 7 || !inB n (-1048576) 1048575 then 2 else
  if (op == 2 || op == 3) && !inB n 0 7 then 4 else
  if op == 12 && !inB n 0 1 then 4 else 0

theorem four_cells {w : World} {b : Nat} {x0 x1 x2 x3 : Value} {t : TypeId} (h : w.heap[b]? = some (.cells #[x0, x1, x2, x3] t (0, 0))) :
    w.cell? ⟨b, 0, none⟩ = some x0 ∧ w.cell? ⟨b, 1, none⟩ = some x1 ∧ w.cell? ⟨b, 2, none⟩ = some x2 ∧ w.cell? ⟨b, 3, none⟩ = some x3 ∧ (∀ j, w.frozen? ⟨b, j, none⟩ = false) ∧ b < w.heap.size :=
  ⟨by simp [World.cell?, h], by simp [World.cell?, h], by simp [World.cell?, h], by simp [World.cell?, h], fun j => by simp [World.frozen?, h], lt_of_block h⟩

theorem ret_two {k k' : IntKind} {a b c d : Int} (h : a = b) (h' : c = d) : Ending.returned (.tuple #[.int k a, .int k' c]) = .returned (.tuple #[.int k b, .int k' d]) := by rw [h, h']

theorem tdiv_sign (n b : Int) : (0 ≤ n ∧ n.tdiv b = n / b) ∨ (n < 0 ∧ n.tdiv b = -((-n) / b)) := by
  by_cases h : 0 ≤ n
  · exact Or.inl ⟨h, Int.tdiv_eq_ediv_of_nonneg h⟩
  · exact Or.inr ⟨by omega, by rw [← Int.tdiv_eq_ediv_of_nonneg (by omega), Int.neg_tdiv, Int.neg_neg]⟩
theorem tmod_sign (n b : Int) : (0 ≤ n ∧ n.tmod b = n % b) ∨ (n < 0 ∧ n.tmod b = -((-n) % b)) := by
  by_cases h : 0 ≤ n
  · exact Or.inl ⟨h, Int.tmod_eq_emod_of_nonneg h⟩
  · exact Or.inr ⟨by omega, by rw [← Int.tmod_eq_emod_of_nonneg (by omega), Int.neg_tmod, Int.neg_neg]⟩

theorem inB_iff {n lo hi : Int} : inB n lo hi = true ↔ lo ≤ n ∧ n ≤ hi := by simp [inB]
theorem instrNo_bd {op a b n : Int} (h : instrNo op a b n = 0) : (0 ≤ op ∧ op ≤ 15) ∧ (0 ≤ a ∧ a ≤ 7) ∧ (0 ≤ b ∧ b ≤ 7) ∧ (-1048576 ≤ n ∧ n ≤ 1048575) := by
  cases c0 : inB op 0 15 with
  | false => simp [instrNo, c0] at h
  | true =>
  cases c1 : inB a 0 7 with
  | false => simp [instrNo, c0, c1] at h
  | true =>
  cases c2 : inB b 0 7 with
  | false => simp [instrNo, c0, c1, c2] at h
  | true =>
  cases c3 : inB n (-1048576) 1048575 with
  | false => simp [instrNo, c0, c1, c2, c3] at h
  | true => exact ⟨inB_iff.1 c0, inB_iff.1 c1, inB_iff.1 c2, inB_iff.1 c3⟩
theorem instrNo_reg {op a b n : Int} (h : instrNo op a b n = 0) (ho : op = 2 ∨ op = 3) : 0 ≤ n ∧ n ≤ 7 := by
  obtain ⟨b0, b1, b2, b3⟩ := instrNo_bd h
  cases c3 : inB n 0 7 with
  | true => exact inB_iff.1 c3
  | false => rcases ho with rfl | rfl <;> simp [instrNo, inB_iff.2 b0, inB_iff.2 b1, inB_iff.2 b2, inB_iff.2 b3, c3] at h

def wordF (op a b n : Int) : Int := 1024 * n + 128 * b + 16 * a + op
def wordNo (op a b n : Int) : Int := if instrNo op a b n = 0 then wordF op a b n else 0

def decNo (x : Int) : Int := instrNo (x % 16) (x / 16 % 8) (x / 128 % 8) (x / 1024)
def decI (x : Int) : Value := if decNo x = 0 then .agg #[.int .i64 (x % 16), .int .i64 (x / 16 % 8), .int .i64 (x / 128 % 8), .int .i64 (x / 1024)] else .agg #[.int .i64 0, .int .i64 0, .int .i64 0, .int .i64 0]

theorem two_boxes {w w1 : World} {o1 o2 : Obj} (hb : Below ((w.alloc o1).alloc o2).heap.size ((w.alloc o1).alloc o2) w1) :
    w1.heap[w.heap.size]? = some o1 ∧ w1.heap[w.heap.size + 1]? = some o2 ∧ Below w.heap.size w w1 := by
  refine ⟨?_, ?_, (((Below.refl _ _).alloc (Nat.le_refl _) o1).alloc (by simp) o2).trans (hb.mono (by simp; omega))⟩
  · rw [hb.block _ (by simp; omega), Below.heap_alloc _ _ _ (by simp), Go.Deep.blk_alloc_new]
  · have := Go.Deep.blk_alloc_new (w.alloc o1) o2
    rw [show (w.alloc o1).heap.size = w.heap.size + 1 by simp] at this
    rw [hb.block _ (by simp), this]

def wordB (n : Int) : Bool := inB n (-1099511627776) 1099511627776
theorem wordB_iff {n : Int} : wordB n = true ↔ -1099511627776 ≤ n ∧ n ≤ 1099511627776 := by simp [wordB, inB]
def allB (l : List Int) : Bool := l.all wordB
theorem allB_iff {l : List Int} : allB l = true ↔ ∀ i, i < l.length → wordB (l.getD i 0) = true := by
  unfold allB
  rw [List.all_eq_true]
  constructor
  · intro h i hi
    have : l.getD i 0 = l[i] := by simp [List.getD, hi]
    rw [this]
    exact h _ (List.getElem_mem hi)
  · intro h x hx
    obtain ⟨i, hi, rfl⟩ := List.getElem_of_mem hx
    have := h i hi
    rwa [show l.getD i 0 = l[i] by simp [List.getD, hi]] at this
theorem allB_no {l : List Int} {k : Nat} (hk : k < l.length) (h : wordB (l.getD k 0) = false) : allB l = false := by
  cases e : allB l with
  | false => rfl
  | true => rw [allB_iff.1 e k hk] at h; exact absurd h (by decide)
theorem allB_step {l : List Int} {k : Nat} (h : ∀ i, i < k → wordB (l.getD i 0) = true) (hk : wordB (l.getD k 0) = true) : ∀ i, i < k + 1 → wordB (l.getD i 0) = true := fun i hi => by
  by_cases e : i = k
  · subst e; exact hk
  · exact h i (by omega)

end Go.Proofs.YtecpblabaelopaaGreatDoor

/- Events: plain notions. -/

namespace Go.Proofs.YtecpblabaelopaaGreatDoor
open Go.RowKit
set_option maxRecDepth 100000

structure Ev where
  at_ : Int
  kind : Int
  data : List Int
def noEv : Ev := ⟨0, 0, []⟩
def wordsN (k : Int) : Int := if k = 2 then 16 else if k = 3 then 1 else 0
def evNo (x : Ev) : Int :=
  if !inB x.kind 1 3 then 3 else
  if !inB x.at_ 0 2999 || !allB x.data then 2 else
  if (x.data.length : Int) = wordsN x.kind then 0 else 1
def behind (x y : Ev) : Bool := decide (4 * y.at_ + y.kind < 4 * x.at_ + x.kind)
def verdict (L : List Ev) (k : Nat) : Int :=
  if evNo (L.getD k noEv) = 0 then (if k = 0 then 0 else if behind (L.getD k noEv) (L.getD (k - 1) noEv) then 0 else 9) else evNo (L.getD k noEv)
def firstFrom (f : Nat → Int) : Nat → Nat → Int
  | _, 0 => 0
  | k, n + 1 => if f k = 0 then firstFrom f (k + 1) n else f k
def chk (L : List Ev) (k : Nat) : Int := firstFrom (verdict L) k (L.length - k)
def chkNo (L : List Ev) : Int := if 1000 < L.length then 1 else chk L 0
theorem chk_end {L : List Ev} {k : Nat} (h : ¬ k < L.length) : chk L k = 0 := by
  unfold chk
  rw [show L.length - k = 0 by omega]
  rfl
theorem chk_ok {L : List Ev} {k : Nat} (h : k < L.length) (hv : verdict L k = 0) : chk L k = chk L (k + 1) := by
  unfold chk
  rw [show L.length - k = (L.length - (k + 1)) + 1 by omega]
  simp [firstFrom, hv]
theorem chk_no {L : List Ev} {k : Nat} (h : k < L.length) (hv : verdict L k ≠ 0) : chk L k = verdict L k := by
  unfold chk
  rw [show L.length - k = (L.length - (k + 1)) + 1 by omega]
  simp [firstFrom, hv]
theorem evNo_bd {x : Ev} (h : evNo x = 0) : (1 ≤ x.kind ∧ x.kind ≤ 3) ∧ (0 ≤ x.at_ ∧ x.at_ ≤ 2999) ∧ allB x.data = true ∧ (x.data.length : Int) = wordsN x.kind := by
  cases c0 : inB x.kind 1 3 with
  | false => simp [evNo, c0] at h
  | true =>
  cases c1 : inB x.at_ 0 2999 with
  | false => simp [evNo, c0, c1] at h
  | true =>
  cases c2 : allB x.data with
  | false => simp [evNo, c0, c1, c2] at h
  | true =>
  refine ⟨inB_iff.1 c0, inB_iff.1 c1, rfl, ?_⟩
  by_cases e : (x.data.length : Int) = wordsN x.kind
  · exact e
  · simp [evNo, c0, c1, c2, e] at h
theorem verdict_ev {L : List Ev} {k : Nat} (h : verdict L k = 0) : evNo (L.getD k noEv) = 0 := by
  unfold verdict at h
  split at h
  · assumption
  · assumption

def EvAt (w : World) (b o : Nat) (x : Ev) : Prop :=
  w.cell? ⟨b, o, none⟩ = some (.int .i64 x.at_) ∧ w.cell? ⟨b, o + 1, none⟩ = some (.int .i64 x.kind) ∧ ∃ v, w.cell? ⟨b, o + 2, none⟩ = some v ∧ IntsAt w v x.data
def EvsAt (w : World) (v : Value) (L : List Ev) : Prop :=
  ∃ (A : Option Addr) (c : Nat), v = .slice A L.length c ∧ L.length * 40 ≤ 140737488351232 ∧
    (0 < L.length → ∃ b off, A = some ⟨b, off, none⟩ ∧ b < w.heap.size ∧ ∀ j, j < L.length → EvAt w b (off + j * 3) (L.getD j noEv))
theorem EvAt.below {w w' : World} {b o : Nat} {x : Ev} (h : EvAt w b o x) (hb : b < w.heap.size) (hB : Below w.heap.size w w') : EvAt w' b o x := by
  obtain ⟨h0, h1, v, h2, h3⟩ := h
  exact ⟨(hB.cell (p := ⟨b, o, none⟩) hb).trans h0, (hB.cell (p := ⟨b, o + 1, none⟩) hb).trans h1, v, (hB.cell (p := ⟨b, o + 2, none⟩) hb).trans h2, h3.below hB⟩
theorem EvsAt.below {w w' : World} {v : Value} {L : List Ev} (h : EvsAt w v L) (hB : Below w.heap.size w w') : EvsAt w' v L := by
  obtain ⟨A, c, rfl, hl, hc⟩ := h
  refine ⟨A, c, rfl, hl, fun h0 => ?_⟩
  obtain ⟨b, off, rfl, hlt, hj⟩ := hc h0
  exact ⟨b, off, rfl, Nat.lt_of_lt_of_le hlt hB.size, fun j hjl => (hj j hjl).below hlt hB⟩

def Laid (w : World) : Prop :=
  w.cell? ⟨0, 0, none⟩ = some (.int .i64 0) ∧ w.cell? ⟨0, 1, none⟩ = some (.int .i64 0) ∧ w.cell? ⟨0, 2, none⟩ = some (.int .i64 16) ∧ w.cell? ⟨0, 3, none⟩ = some (.int .i64 1) ∧ 0 < w.heap.size
theorem Laid.below {w w' : World} (h : Laid w) (hB : Below w.heap.size w w') : Laid w' := by
  obtain ⟨h0, h1, h2, h3, h4⟩ := h
  exact ⟨(hB.cell (p := ⟨0, 0, none⟩) h4).trans h0, (hB.cell (p := ⟨0, 1, none⟩) h4).trans h1, (hB.cell (p := ⟨0, 2, none⟩) h4).trans h2, (hB.cell (p := ⟨0, 3, none⟩) h4).trans h3, Nat.lt_of_lt_of_le h4 hB.size⟩
theorem three_cells {w : World} {b : Nat} {x0 x1 x2 : Value} {t : TypeId} (h : w.heap[b]? = some (.cells #[x0, x1, x2] t (0, 0))) :
    w.cell? ⟨b, 0, none⟩ = some x0 ∧ w.cell? ⟨b, 1, none⟩ = some x1 ∧ w.cell? ⟨b, 2, none⟩ = some x2 ∧ (∀ j, w.frozen? ⟨b, j, none⟩ = false) ∧ b < w.heap.size :=
  ⟨by simp [World.cell?, h], by simp [World.cell?, h], by simp [World.cell?, h], fun j => by simp [World.frozen?, h], lt_of_block h⟩

end Go.Proofs.YtecpblabaelopaaGreatDoor

/- Numbers and slices of numbers that are handed in, opened. -/

namespace Go.Proofs.YtecpblabaelopaaGreatDoor
open Go.ChangeShapes Go.WideShapes Go.ChangeAt Go.RowKit Go.Deep Go.Joins
set_option maxRecDepth 100000

theorem own : ownKnob Tryz.prog.godebug = none := by kernel_rfl
theorem laidOut : laidOutB Tryz.prog = true := by kernel_rfl
theorem cellsInt : Tryz.prog.cellsOf 3 = 1 := by kernel_rfl
theorem reach_is : reachBytes = 140737488351232 := rfl

end Go.Proofs.YtecpblabaelopaaGreatDoor

/- What the package variable evlog.dataWords holds when a call begins. -/

namespace Go.Proofs.YtecpblabaelopaaGreatDoor
open Go.ChangeShapes Go.WideShapes Go.ChangeAt Go.WideMaps Go.WideElems Go.RowKit
set_option maxRecDepth 100000

theorem gWords : Tryz.prog.globalNamed "hourglass/evlog.dataWords" = some 0 := by kernel_rfl
theorem tWords : (Tryz.prog.globals[0]?).map (·.type) = some 182 := by kernel_rfl
def laidD : List (String × DataW Unit) := [("hourglass/evlog.dataWords", Rows.laid_hourglass_evlog_dataWords)]

theorem door_met (os : Os) (args : Array Value) : laidMetH Tryz.prog laidD ((World.doorLaid Tryz.prog 400 os).forCall (fun _ _ => 0) ⟨#[], args, []⟩).memory :=
  laidMetH_of_parts3 (fuel := 8) (laidMet_of_run' 8 (by kernel_rfl) (by kernel_rfl)) (by kernel_rfl) (by kernel_rfl)

theorem of_laid {W : World} (h : laidMetH Tryz.prog laidD W) : Laid W := by
  rw [MakeChecks.laidMetH_plain _ _ _ (by kernel_rfl)] at h
  obtain ⟨ps, ⟨g0, t0, cs0, f0, p0, q0, hg0, ht0, hv0, hd0, _, _⟩, _, _⟩ := h
  obtain rfl := Option.some.inj (gWords.symm.trans hg0)
  obtain rfl := Option.some.inj (tWords.symm.trans ht0)
  obtain ⟨xs, m1, rfl, hx1, hlen, hn4, hel⟩ := DataW.trod_array Tryz.underlying182 hd0
  have c3 : Tryz.prog.cellsOf 3 = 1 := by kernel_rfl
  have c57 : Tryz.prog.cellsOf 182 = 4 := by kernel_rfl
  simp only [Prod.mk.injEq, Rows.laid_hourglass_evlog_dataWords, DataW.agg.injEq] at hx1
  match xs, hn4, hx1, hel with
  | [x0, x1, x2, x3], _, hx1, hel =>
    simp only [List.map_cons, List.map_nil, List.cons.injEq] at hx1
    have e0 := hel 0 (by decide)
    have e1 := hel 1 (by decide)
    have e2 := hel 2 (by decide)
    have e3 := hel 3 (by decide)
    obtain ⟨k0, a0, b0, _⟩ := DataW.trod_int Tryz.underlying3 (show DataW.trod _ Tryz.prog W 0 _ false m1 3 _ = some x0 from e0)
    obtain ⟨k1, a1, b1, _⟩ := DataW.trod_int Tryz.underlying3 (show DataW.trod _ Tryz.prog W 0 _ false m1 3 _ = some x1 from e1)
    obtain ⟨k2, a2, b2, _⟩ := DataW.trod_int Tryz.underlying3 (show DataW.trod _ Tryz.prog W 0 _ false m1 3 _ = some x2 from e2)
    obtain ⟨k3, a3, b3, _⟩ := DataW.trod_int Tryz.underlying3 (show DataW.trod _ Tryz.prog W 0 _ false m1 3 _ = some x3 from e3)
    have v0 := World.var?_cell hg0 hv0 0
    have v1 := World.var?_cell hg0 hv0 1
    have v2 := World.var?_cell hg0 hv0 2
    have v3 := World.var?_cell hg0 hv0 3
    obtain ⟨l⟩ := cs0
    rw [c57] at hlen
    rw [c3] at a0 a1 a2 a3
    rw [b0, b1, b2, b3] at hx1
    simp only [DataW.lit.injEq, Lit.int.injEq] at hx1
    obtain ⟨⟨⟨-, h0⟩, ⟨-, h1⟩, ⟨-, h2⟩, ⟨-, h3⟩, -⟩, -⟩ := hx1
    subst h0 h1 h2 h3
    match l, hlen with
    | [y0, y1, y2, y3], _ =>
      simp at a0 a1 a2 a3
      subst a0 a1 a2 a3
      simp at v0 v1 v2 v3
      exact ⟨v0, v1, v2, v3, World.block_lt_of_cell? _ _ v0⟩

end Go.Proofs.YtecpblabaelopaaGreatDoor

/- The first free frame, plainly. -/

namespace Go.Proofs.YtecpblabaelopaaGreatDoor
open Go.RowKit

def FirstAt (R : List Int) (k : Nat) : Prop := k < R.length ∧ R.getD k 0 = 0 ∧ ∀ j, j < k → R.getD j 0 ≠ 0
def NoneFree (R : List Int) : Prop := ∀ j, j < R.length → R.getD j 0 ≠ 0
theorem first_or (R : List Int) : NoneFree R ∨ ∃ k, FirstAt R k := by
  by_cases h : ∃ k, k < R.length ∧ R.getD k 0 = 0
  · right
    have : ∀ n, (∃ k, k < n ∧ k < R.length ∧ R.getD k 0 = 0) → ∃ k, FirstAt R k := by
      intro n
      induction n with
      | zero => rintro ⟨k, hk, _⟩; omega
      | succ n ih =>
        rintro ⟨k, hk, h1, h2⟩
        by_cases hn : ∃ k, k < n ∧ k < R.length ∧ R.getD k 0 = 0
        · exact ih hn
        · refine ⟨k, h1, h2, fun j hj e => hn ⟨j, by omega, by omega, e⟩⟩
    obtain ⟨k, h1, h2⟩ := h
    exact this (k + 1) ⟨k, by omega, h1, h2⟩
  · exact Or.inl fun j hj e => h ⟨j, hj, e⟩

end Go.Proofs.YtecpblabaelopaaGreatDoor

/- Frames and the spaces that know them, plainly. -/

namespace Go.Proofs.YtecpblabaelopaaGreatDoor
open Go.RowKit
set_option maxRecDepth 100000

theorem gset {α : Type} (l : List α) (i j : Nat) (x d : α) (hi : i < l.length) : (l.set i x).getD j d = if j = i then x else l.getD j d := by
  by_cases e : j = i
  · subst e; simp [List.getD, hi]
  · simp [List.getD, e, Ne.symm e]
theorem gmem {l : List Int} {p : Nat} (h : p < l.length) : l.getD p 0 ∈ l := by simp [List.getD, h]

structure Sys (D : List (List Int)) (R : List Int) (Ss : List (List Int)) : Prop where
  len : D.length = R.length
  pages : ∀ s ∈ Ss, s.length = 16
  refs : ∀ j, j < R.length → R.getD j 0 = (Ss.flatten.count (j : Int) : Nat)
  ok : ∀ x ∈ Ss.flatten, x = -1 ∨ ∃ j : Nat, x = (j : Int) ∧ j < R.length
  rows : ∀ j, j < R.length → (D.getD j []).length = if R.getD j 0 = 0 then 0 else 16

def zeros16 : List Int := List.replicate 16 0
def pageW (D : List (List Int)) (x : Int) : List Int := if x = -1 then zeros16 else D.getD x.toNat []
def wordAt (D : List (List Int)) (s : List Int) (a : Nat) : Int := (pageW D (s.getD (a / 16) 0)).getD (a % 16) 0
def wordsOf (D : List (List Int)) (s : List Int) : List Int := (List.range 256).map (wordAt D s)
theorem wordsOf_len (D : List (List Int)) (s : List Int) : (wordsOf D s).length = 256 := by simp [wordsOf]
theorem wordsOf_at (D : List (List Int)) (s : List Int) {a : Nat} (h : a < 256) : (wordsOf D s).getD a 0 = wordAt D s a := by simp [wordsOf, List.getD, h]
theorem ext256 {a b : List Int} (h1 : a.length = 256) (h2 : b.length = 256) (h : ∀ i, i < 256 → a.getD i 0 = b.getD i 0) : a = b := by
  refine List.ext_getElem (by omega) fun i h3 h4 => ?_
  have := h i (by omega)
  simpa [List.getD, h3, h4] using this
theorem wordsOf_same {D D' : List (List Int)} {s s' : List Int} (h : ∀ p, p < 16 → pageW D' (s'.getD p 0) = pageW D (s.getD p 0)) : wordsOf D' s' = wordsOf D s :=
  ext256 (wordsOf_len _ _) (wordsOf_len _ _) fun i hi => by
    rw [wordsOf_at _ _ hi, wordsOf_at _ _ hi]
    unfold wordAt
    rw [h _ (by omega)]
theorem wordsOf_set {D D' : List (List Int)} {s s' : List Int} {p i : Nat} {v : Int} (hp : p < 16) (hi : i < 16) (h : ∀ q, q < 16 → q ≠ p → pageW D' (s'.getD q 0) = pageW D (s.getD q 0)) (hx : pageW D' (s'.getD p 0) = (pageW D (s.getD p 0)).set i v) (hl : (pageW D (s.getD p 0)).length = 16) : wordsOf D' s' = (wordsOf D s).set (16 * p + i) v :=
  ext256 (wordsOf_len _ _) (by rw [List.length_set]; exact wordsOf_len _ _) fun a ha => by
    rw [gset _ _ _ _ _ (by rw [wordsOf_len]; omega), wordsOf_at _ _ ha, wordsOf_at _ _ ha]
    unfold wordAt
    by_cases e : a / 16 = p
    · rw [e, hx, gset _ _ _ _ _ (by omega)]
      by_cases e2 : a = 16 * p + i
      · rw [if_pos (by omega), if_pos e2]
      · rw [if_neg (by omega), if_neg e2]
    · rw [h _ (by omega) e, if_neg (by omega)]

theorem Sys.page_ok {D : List (List Int)} {R : List Int} {Ss : List (List Int)} (h : Sys D R Ss) {s : List Int} (hs : s ∈ Ss) {p : Nat} (hp : p < 16) : s.getD p 0 = -1 ∨ ∃ j : Nat, s.getD p 0 = (j : Int) ∧ j < R.length ∧ 1 ≤ R.getD j 0 := by
  have hm : s.getD p 0 ∈ Ss.flatten := List.mem_flatten.2 ⟨s, hs, gmem (by rw [h.pages s hs]; exact hp)⟩
  rcases h.ok _ hm with e | ⟨j, e, hj⟩
  · exact Or.inl e
  · refine Or.inr ⟨j, e, hj, ?_⟩
    rw [h.refs j hj]
    have : 0 < Ss.flatten.count (j : Int) := List.count_pos_iff.2 (by rw [← e]; exact hm)
    omega
theorem Sys.known_len {D : List (List Int)} {R : List Int} {Ss : List (List Int)} (h : Sys D R Ss) {j : Nat} (hj : j < R.length) (h1 : 1 ≤ R.getD j 0) : (D.getD j []).length = 16 := by rw [h.rows j hj, if_neg (by omega)]
theorem Sys.page_len {D : List (List Int)} {R : List Int} {Ss : List (List Int)} (h : Sys D R Ss) {s : List Int} (hs : s ∈ Ss) {p : Nat} (hp : p < 16) : (pageW D (s.getD p 0)).length = 16 := by
  unfold pageW
  rcases h.page_ok hs hp with e | ⟨j, e, hj, h1⟩
  · rw [if_pos e]; simp [zeros16]
  · rw [e, if_neg (by omega), Int.toNat_natCast, h.known_len hj h1]
theorem flatS_len {Ss : List (List Int)} (h : ∀ s ∈ Ss, s.length = 16) : Ss.flatten.length = 16 * Ss.length := by
  induction Ss with
  | nil => rfl
  | cons a t ih =>
    rw [List.flatten_cons, List.length_append, ih (fun s hs => h s (by simp [hs])), h a (by simp), List.length_cons]
    omega
theorem Sys.few {D : List (List Int)} {R : List Int} {Ss : List (List Int)} (h : Sys D R Ss) {j : Nat} (hj : j < R.length) : 0 ≤ R.getD j 0 ∧ R.getD j 0 ≤ 16 * Ss.length := by
  rw [h.refs j hj]
  have := List.count_le_length (a := (j : Int)) (l := Ss.flatten)
  rw [flatS_len h.pages] at this
  omega

theorem many_in (N : Nat) : ∀ l : List Int, (∀ j, j < N → 1 ≤ l.count (j : Int)) → N ≤ l.length ∧ ((∃ x ∈ l, ∀ j : Nat, j < N → x ≠ (j : Int)) ∨ (∃ j : Nat, j < N ∧ 2 ≤ l.count (j : Int)) → N < l.length) := by
  induction N with
  | zero =>
    intro l _
    refine ⟨Nat.zero_le _, ?_⟩
    rintro (⟨x, hx, _⟩ | ⟨j, hj, _⟩)
    · exact List.length_pos_of_mem hx
    · omega
  | succ N ih =>
    intro l h
    have hlen : (l.filter (fun x => !(x == (N : Int)))).length + l.count (N : Int) = l.length := by
      rw [List.count_eq_length_filter]
      have := List.length_eq_countP_add_countP (fun x : Int => x == (N : Int)) (l := l)
      rw [List.countP_eq_length_filter, List.countP_eq_length_filter] at this
      have e : l.filter (fun x => !(x == (N : Int))) = l.filter (fun a => decide (¬ ((a == (N : Int)) = true))) := by
        apply List.filter_congr
        intro x _
        rw [Bool.eq_iff_iff]
        simp
      rw [e]
      omega
    have hc : ∀ j : Nat, j < N → (l.filter (fun x => !(x == (N : Int)))).count (j : Int) = l.count (j : Int) := fun j hj => by
      rw [List.count_filter]
      simp
      omega
    obtain ⟨i1, i2⟩ := ih (l.filter (fun x => !(x == (N : Int)))) (fun j hj => by rw [hc j hj]; exact h j (by omega))
    have hN := h N (by omega)
    refine ⟨by omega, ?_⟩
    rintro (⟨x, hx, hx2⟩ | ⟨j, hj, hj2⟩)
    · have := i2 (Or.inl ⟨x, List.mem_filter.2 ⟨hx, by simpa using hx2 N (by omega)⟩, fun j hj => hx2 j (by omega)⟩)
      omega
    · by_cases e : j = N
      · subst e; omega
      · have := i2 (Or.inr ⟨j, by omega, by rw [hc j (by omega)]; exact hj2⟩)
        omega
theorem Sys.full {D : List (List Int)} {R : List Int} {Ss : List (List Int)} (h : Sys D R Ss) (hn : NoneFree R) {s : List Int} (hs : s ∈ Ss) {p : Nat} (hp : p < 16) (hx : s.getD p 0 = -1 ∨ ∃ j : Nat, s.getD p 0 = (j : Int) ∧ 1 < R.getD j 0) : R.length < 16 * Ss.length := by
  have h1 : ∀ j, j < R.length → 1 ≤ Ss.flatten.count (j : Int) := fun j hj => by
    have := hn j hj
    rw [h.refs j hj] at this
    omega
  have h2 := (many_in R.length Ss.flatten h1).2
  rw [flatS_len h.pages] at h2
  apply h2
  have hm : s.getD p 0 ∈ Ss.flatten := List.mem_flatten.2 ⟨s, hs, gmem (by rw [h.pages s hs]; exact hp)⟩
  rcases hx with e | ⟨j, e, hj⟩
  · exact Or.inl ⟨_, hm, fun j _ => by omega⟩
  · have hjl : j < R.length := by
      rcases h.page_ok hs hp with e2 | ⟨j', e2, hj', _⟩
      · omega
      · have : j = j' := by omega
        omega
    rw [h.refs j hjl] at hj
    exact Or.inr ⟨j, hjl, by omega⟩

theorem Sys.perm {D : List (List Int)} {R : List Int} {Ss Ts : List (List Int)} (h : Sys D R Ss) (hp : Ss.Perm Ts) : Sys D R Ts := by
  have hf : Ss.flatten.Perm Ts.flatten := hp.flatten
  exact ⟨h.len, fun s hs => h.pages s (hp.mem_iff.2 hs), fun j hj => by rw [h.refs j hj, hf.count_eq], fun x hx => h.ok x (hf.mem_iff.2 hx), h.rows⟩
def blankS : List Int := List.replicate 16 (-1)
theorem Sys.blank {D : List (List Int)} {R : List Int} {Ss : List (List Int)} (h : Sys D R Ss) : Sys D R (blankS :: Ss) := by
  refine ⟨h.len, fun s hs => ?_, fun j hj => ?_, fun x hx => ?_, h.rows⟩
  · rcases List.mem_cons.1 hs with e | e
    · rw [e]; simp [blankS]
    · exact h.pages s e
  · rw [List.flatten_cons, List.count_append, h.refs j hj]
    have : blankS.count (j : Int) = 0 := List.count_eq_zero.2 (by simp [blankS])
    omega
  · rw [List.flatten_cons, List.mem_append] at hx
    rcases hx with hx | hx
    · simp [blankS] at hx
      exact Or.inl hx
    · exact h.ok x hx
theorem Sys.drop {D : List (List Int)} {R : List Int} {Ss : List (List Int)} (h : Sys D R (blankS :: Ss)) : Sys D R Ss := by
  refine ⟨h.len, fun s hs => h.pages s (by simp [hs]), fun j hj => ?_, fun x hx => h.ok x (by rw [List.flatten_cons]; simp [hx]), h.rows⟩
  rw [h.refs j hj, List.flatten_cons, List.count_append]
  have : blankS.count (j : Int) = 0 := List.count_eq_zero.2 (by simp [blankS])
  omega
theorem Sys.none (N : Nat) : Sys (List.replicate N []) (List.replicate N 0) [] := by
  refine ⟨by simp, by simp, fun j hj => ?_, by simp, fun j hj => ?_⟩
  · simp at hj
    simp [List.getD, hj]
  · simp at hj
    simp [List.getD, hj]
theorem pageW_neg (D : List (List Int)) : pageW D (-1) = zeros16 := by unfold pageW; rw [if_pos rfl]
theorem pageW_at (D : List (List Int)) (j : Nat) : pageW D (j : Int) = D.getD j [] := by unfold pageW; rw [if_neg (by omega), Int.toNat_natCast]
inductive SetTo (D : List (List Int)) (R s : List Int) (p i : Nat) (v : Int) : List (List Int) → List Int → List Int → Prop
  | new (k : Nat) (hs : s.getD p 0 = -1) (hk : FirstAt R k) : SetTo D R s p i v (D.set k (zeros16.set i v)) (R.set k 1) (s.set p (k : Int))
  | one (j : Nat) (hs : s.getD p 0 = (j : Int)) (h1 : R.getD j 0 = 1) : SetTo D R s p i v (D.set j ((D.getD j []).set i v)) R (s.set p (j : Int))
  | many (j k : Nat) (hs : s.getD p 0 = (j : Int)) (h1 : 1 < R.getD j 0) (hk : FirstAt R k) : SetTo D R s p i v (D.set k ((D.getD j []).set i v)) ((R.set k 1).set j (R.getD j 0 - 1)) (s.set p (k : Int))

theorem count_put {s : List Int} {p : Nat} (hp : p < s.length) (x : Int) (y : Int) : (s.set p x).count y + (if s.getD p 0 = y then 1 else 0) = s.count y + (if x = y then 1 else 0) := by
  have e : s.getD p 0 = s[p] := by simp [List.getD, hp]
  rw [List.count_set hp, e]
  have hle : s[p] = y → 1 ≤ s.count y := fun h => List.count_pos_iff.2 (h ▸ List.getElem_mem hp)
  simp only [beq_iff_eq]
  by_cases h1 : s[p] = y
  · have := hle h1
    simp only [h1, if_true]
    omega
  · simp only [h1, if_false]
    omega
theorem zeros_len : zeros16.length = 16 := by simp [zeros16]

theorem Sys.repage {D D' : List (List Int)} {R R' : List Int} {Ss : List (List Int)} {s : List Int} (h : Sys D R (s :: Ss)) {p : Nat} (hp : p < 16) {x : Int} (hx : x = -1 ∨ ∃ j : Nat, x = (j : Int) ∧ j < R.length)
    (hR : R'.length = R.length) (hD : D'.length = D.length)
    (hr : ∀ j, j < R.length → R'.getD j 0 + (if s.getD p 0 = (j : Int) then 1 else 0) = R.getD j 0 + (if x = (j : Int) then 1 else 0))
    (hd : ∀ j, j < R.length → (D'.getD j []).length = if R'.getD j 0 = 0 then 0 else 16) : Sys D' R' (s.set p x :: Ss) := by
  have hl := h.pages s (by simp)
  refine ⟨by rw [hR, hD]; exact h.len, fun t ht => ?_, fun j hj => ?_, fun y hy => ?_, fun j hj => hd j (by omega)⟩
  · rcases List.mem_cons.1 ht with e | e
    · rw [e, List.length_set]; exact hl
    · exact h.pages t (by simp [e])
  · have h1 := h.refs j (by omega)
    have h2 := hr j (by omega)
    have h3 := count_put (by omega : p < s.length) x (j : Int)
    rw [List.flatten_cons, List.count_append] at h1 ⊢
    by_cases e1 : s.getD p 0 = (j : Int)
    · rw [if_pos e1] at h2 h3
      by_cases e2 : x = (j : Int)
      · rw [if_pos e2] at h2 h3; omega
      · rw [if_neg e2] at h2 h3; omega
    · rw [if_neg e1] at h2 h3
      by_cases e2 : x = (j : Int)
      · rw [if_pos e2] at h2 h3; omega
      · rw [if_neg e2] at h2 h3; omega
  · rw [hR]
    rw [List.flatten_cons, List.mem_append] at hy
    rcases hy with hy | hy
    · rcases List.mem_or_eq_of_mem_set hy with hy | hy
      · exact h.ok y (by rw [List.flatten_cons]; simp [hy])
      · rw [hy]; exact hx
    · exact h.ok y (by rw [List.flatten_cons]; simp [hy])

theorem Sys.free_none {D : List (List Int)} {R : List Int} {Ss : List (List Int)} (h : Sys D R Ss) {k : Nat} (hk : k < R.length) (h0 : R.getD k 0 = 0) {t : List Int} (ht : t ∈ Ss) {q : Nat} (hq : q < 16) : t.getD q 0 ≠ (k : Int) := fun e => by
  have hm : t.getD q 0 ∈ Ss.flatten := List.mem_flatten.2 ⟨t, ht, gmem (by rw [h.pages t ht]; exact hq)⟩
  rw [h.refs k hk] at h0
  have : 0 < Ss.flatten.count (k : Int) := List.count_pos_iff.2 (e ▸ hm)
  omega
theorem pageW_other {D : List (List Int)} {k : Nat} {l : List Int} {x : Int} (h : x ≠ (k : Int)) (h0 : x = -1 ∨ ∃ j : Nat, x = (j : Int)) : pageW (D.set k l) x = pageW D x := by
  rcases h0 with e | ⟨j, e⟩
  · subst e; rw [pageW_neg, pageW_neg]
  · subst e
    rw [pageW_at, pageW_at]
    simp [List.getD, show k ≠ j by omega]
theorem Sys.is {D : List (List Int)} {R : List Int} {Ss : List (List Int)} (h : Sys D R Ss) {t : List Int} (ht : t ∈ Ss) {q : Nat} (hq : q < 16) : t.getD q 0 = -1 ∨ ∃ j : Nat, t.getD q 0 = (j : Int) := by
  rcases h.page_ok ht hq with e | ⟨j, e, _⟩
  · exact Or.inl e
  · exact Or.inr ⟨j, e⟩
theorem Sys.alone {D : List (List Int)} {R : List Int} {Ss : List (List Int)} {s : List Int} (h : Sys D R (s :: Ss)) {p j : Nat} (hp : p < 16) (hj : j < R.length) (hs : s.getD p 0 = (j : Int)) (h1 : R.getD j 0 = 1) :
    (∀ t ∈ Ss, ∀ q, q < 16 → t.getD q 0 ≠ (j : Int)) ∧ ∀ q, q < 16 → q ≠ p → s.getD q 0 ≠ (j : Int) := by
  have hl := h.pages s (by simp)
  have hr := h.refs j hj
  rw [h1, List.flatten_cons, List.count_append] at hr
  have h3 := count_put (by omega : p < s.length) (-1) (j : Int)
  rw [if_pos hs, if_neg (by omega)] at h3
  have hz1 : Ss.flatten.count (j : Int) = 0 := by omega
  have hz2 : (s.set p (-1)).count (j : Int) = 0 := by omega
  refine ⟨fun t ht q hq e => ?_, fun q hq hqp e => ?_⟩
  · exact List.count_eq_zero.1 hz1 (List.mem_flatten.2 ⟨t, ht, e ▸ gmem (by rw [h.pages t (by simp [ht])]; exact hq)⟩)
  · refine List.count_eq_zero.1 hz2 ?_
    have : (s.set p (-1)).getD q 0 = (j : Int) := by rw [gset _ _ _ _ _ (by omega), if_neg hqp]; exact e
    rw [← this]
    exact gmem (by simp; omega)

theorem SetTo.sys {D D' : List (List Int)} {R R' s s' : List Int} {Ss : List (List Int)} {p i : Nat} {v : Int} (h : Sys D R (s :: Ss)) (hp : p < 16) (hi : i < 16) (hst : SetTo D R s p i v D' R' s') :
    Sys D' R' (s' :: Ss) ∧ wordsOf D' s' = (wordsOf D s).set (16 * p + i) v ∧ (∀ t ∈ Ss, wordsOf D' t = wordsOf D t) ∧ R'.length = R.length := by
  have hl := h.pages s (by simp)
  have hpl := h.page_len (s := s) (by simp) hp
  have hDR := h.len
  cases hst with
  | new k hs hk =>
    obtain ⟨hk1, hk2, _⟩ := hk
    refine ⟨h.repage hp (Or.inr ⟨k, rfl, hk1⟩) (by simp) (by simp) (fun j hj => ?_) (fun j hj => ?_), wordsOf_set hp hi (fun q hq hqp => ?_) ?_ hpl, fun t ht => wordsOf_same fun q hq => ?_, by simp⟩
    · rw [gset _ _ _ _ _ hk1, hs]
      by_cases e : j = k
      · subst e; rw [if_pos rfl, hk2, if_neg (by omega), if_pos rfl]; omega
      · rw [if_neg e, if_neg (by omega), if_neg (by omega)]
    · rw [gset _ _ _ _ _ hk1, gset _ _ _ _ _ (by omega)]
      by_cases e : j = k
      · rw [if_pos e, if_pos e, if_neg (by omega), List.length_set, zeros_len]
      · rw [if_neg e, if_neg e, h.rows j hj]
    · rw [gset _ _ _ _ _ (by omega), if_neg hqp]
      exact pageW_other (h.free_none hk1 hk2 (by simp) hq) (h.is (by simp) hq)
    · rw [gset _ _ _ _ _ (by omega), if_pos rfl, pageW_at, gset _ _ _ _ _ (by omega), if_pos rfl, hs, pageW_neg]
    · exact pageW_other (h.free_none hk1 hk2 (by simp [ht]) hq) (h.is (by simp [ht]) hq)
  | one j hs h1 =>
    have hj : j < R.length := by
      rcases h.page_ok (s := s) (by simp) hp with e | ⟨j', e, hj', _⟩
      · omega
      · have : j = j' := by omega
        omega
    obtain ⟨a1, a2⟩ := h.alone hp hj hs h1
    refine ⟨h.repage hp (Or.inr ⟨j, rfl, hj⟩) rfl (by simp) (fun q hq => by rw [hs]) (fun q hq => ?_), wordsOf_set hp hi (fun q hq hqp => ?_) ?_ hpl, fun t ht => wordsOf_same fun q hq => ?_, rfl⟩
    · rw [gset _ _ _ _ _ (by omega)]
      by_cases e : q = j
      · subst e; rw [if_pos rfl, List.length_set, h.rows q hq]
      · rw [if_neg e, h.rows q hq]
    · rw [gset _ _ _ _ _ (by omega), if_neg hqp]
      exact pageW_other (a2 q hq hqp) (h.is (by simp) hq)
    · rw [gset _ _ _ _ _ (by omega), if_pos rfl, pageW_at, gset _ _ _ _ _ (by omega), if_pos rfl, hs, pageW_at]
    · exact pageW_other (a1 t ht q hq) (h.is (by simp [ht]) hq)
  | many j k hs h1 hk =>
    obtain ⟨hk1, hk2, _⟩ := hk
    have hj : j < R.length := by
      rcases h.page_ok (s := s) (by simp) hp with e | ⟨j', e, hj', _⟩
      · omega
      · have : j = j' := by omega
        omega
    have hjk : j ≠ k := fun e => by subst e; omega
    refine ⟨h.repage hp (Or.inr ⟨k, rfl, hk1⟩) (by simp) (by simp) (fun q hq => ?_) (fun q hq => ?_), wordsOf_set hp hi (fun q hq hqp => ?_) ?_ hpl, fun t ht => wordsOf_same fun q hq => ?_, by simp⟩
    · rw [gset _ _ _ _ _ (by simpa using hj), gset _ _ _ _ _ hk1, hs]
      by_cases e : q = j
      · subst e
        rw [if_pos rfl, if_pos rfl, if_neg (show ¬ ((k : Int) = (q : Int)) by omega)]
        omega
      · rw [if_neg e, if_neg (show ¬ ((j : Int) = (q : Int)) by omega)]
        by_cases e2 : q = k
        · subst e2; rw [if_pos rfl, hk2, if_pos rfl]; omega
        · rw [if_neg e2, if_neg (show ¬ ((k : Int) = (q : Int)) by omega)]
    · rw [gset D _ _ _ _ (by omega), gset (R.set k 1) _ _ _ _ (by simpa using hj), gset R _ _ _ _ hk1]
      by_cases e : q = k
      · subst e
        rw [if_pos rfl, if_neg (Ne.symm hjk), if_pos rfl, if_neg (by omega), List.length_set, h.known_len hj (by omega)]
      · rw [if_neg e, if_neg e]
        by_cases e2 : q = j
        · subst e2; rw [if_pos rfl, if_neg (by omega), h.known_len hj (by omega)]
        · rw [if_neg e2, h.rows q hq]
    · rw [gset _ _ _ _ _ (by omega), if_neg hqp]
      exact pageW_other (h.free_none hk1 hk2 (by simp) hq) (h.is (by simp) hq)
    · rw [gset _ _ _ _ _ (by omega), if_pos rfl, pageW_at, gset _ _ _ _ _ (by omega), if_pos rfl, hs, pageW_at]
    · exact pageW_other (h.free_none hk1 hk2 (by simp [ht]) hq) (h.is (by simp [ht]) hq)

theorem Sys.join {D : List (List Int)} {R : List Int} {Ss : List (List Int)} {f : List Int} (h : Sys D R (f :: Ss)) {p n : Nat} (hp : p < 16) (hf : f.getD p 0 = -1) (hn : n < R.length) (h1 : 1 ≤ R.getD n 0) : Sys D (R.set n (R.getD n 0 + 1)) (f.set p (n : Int) :: Ss) := by
  refine h.repage hp (Or.inr ⟨n, rfl, hn⟩) (by simp) rfl (fun j hj => ?_) (fun j hj => ?_)
  · rw [gset _ _ _ _ _ hn, hf]
    by_cases e : j = n
    · subst e; rw [if_pos rfl, if_neg (by omega), if_pos rfl]; omega
    · rw [if_neg e, if_neg (by omega), if_neg (by omega)]
  · rw [gset _ _ _ _ _ hn]
    by_cases e : j = n
    · subst e; rw [if_pos rfl, if_neg (by omega), h.known_len hj h1]
    · rw [if_neg e, h.rows j hj]
def leftS (D : List (List Int)) (n : Nat) (x : Int) : List (List Int) := if x = 1 then D.set n [] else D
theorem Sys.leave {D : List (List Int)} {R : List Int} {Ss : List (List Int)} {s : List Int} (h : Sys D R (s :: Ss)) {p n : Nat} (hp : p < 16) (hs : s.getD p 0 = (n : Int)) (hn : n < R.length) (h1 : 1 ≤ R.getD n 0) :
    Sys (leftS D n (R.getD n 0)) (R.set n (R.getD n 0 - 1)) (s.set p (-1) :: Ss) ∧ ∀ t ∈ Ss, wordsOf (leftS D n (R.getD n 0)) t = wordsOf D t := by
  have hDR := h.len
  by_cases e1 : R.getD n 0 = 1
  · have eD : leftS D n (R.getD n 0) = D.set n [] := if_pos e1
    rw [eD]
    obtain ⟨a1, a2⟩ := h.alone hp hn hs e1
    refine ⟨h.repage hp (Or.inl rfl) (by simp) (by simp) (fun j hj => ?_) (fun j hj => ?_), fun t ht => wordsOf_same fun q hq => pageW_other (a1 t ht q hq) (h.is (by simp [ht]) hq)⟩
    · rw [gset _ _ _ _ _ hn, hs]
      by_cases e : j = n
      · subst e; rw [if_pos rfl, if_pos rfl, if_neg (by omega)]; omega
      · rw [if_neg e, if_neg (by omega), if_neg (by omega)]
    · rw [gset _ _ _ _ _ hn, gset _ _ _ _ _ (by omega)]
      by_cases e : j = n
      · subst e; rw [if_pos rfl, if_pos rfl, if_pos (by omega)]; rfl
      · rw [if_neg e, if_neg e, h.rows j hj]
  · have eD : leftS D n (R.getD n 0) = D := if_neg e1
    rw [eD]
    refine ⟨h.repage hp (Or.inl rfl) (by simp) rfl (fun j hj => ?_) (fun j hj => ?_), fun t ht => rfl⟩
    · rw [gset _ _ _ _ _ hn, hs]
      by_cases e : j = n
      · subst e; rw [if_pos rfl, if_pos rfl, if_neg (by omega)]; omega
      · rw [if_neg e, if_neg (by omega), if_neg (by omega)]
    · rw [gset _ _ _ _ _ hn]
      by_cases e : j = n
      · subst e; rw [if_pos rfl, if_neg (by omega), h.known_len hj h1]
      · rw [if_neg e, h.rows j hj]
theorem Sys.set_same {D : List (List Int)} {R : List Int} {Ss : List (List Int)} {s : List Int} {p : Nat} {x : Int} (h : Sys D R (s :: Ss)) (hx : s.getD p 0 = x) : Sys D R (s.set p x :: Ss) := by
  have : s.set p x = s := by
    by_cases hp : p < s.length
    · have e : s[p] = x := by simpa [List.getD, hp] using hx
      rw [← e, List.set_getElem_self]
    · exact List.set_eq_of_length_le (by omega)
  rw [this]; exact h

end Go.Proofs.YtecpblabaelopaaGreatDoor
