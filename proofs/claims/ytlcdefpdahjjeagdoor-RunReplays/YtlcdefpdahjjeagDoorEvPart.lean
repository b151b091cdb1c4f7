/- Events: plain notions. -/
import Derived.Test.YtlcdefpdahjjeagDoorBasePart
import Derived.WalkKit
import Derived.Test.YtlcdefpdahjjeagDoorProg
import Derived.ProofKit
import Derived.OpenShut
import Derived.SizedLaws
import Derived.Lib.SmallJoins
import Derived.Deep.Matrix
namespace Go.Proofs.YtlcdefpdahjjeagDoor
open Go.RowKit
set_option maxRecDepth 100000

/-- An event. -/
structure Ev where
  at_ : Int
  kind : Int
  data : List Int
def noEv : Ev := ⟨0, 0, []⟩
/-- How many words an event of a kind has. -/
def wordsN (k : Int) : Int := if k = 2 then 16 else if k = 3 then 1 else 0
/-- What is wrong with an event by itself. -/
def evNo (x : Ev) : Int :=
  if !inB x.kind 1 3 then 3 else
  if !inB x.at_ 0 2999 || !allB x.data then 2 else
  if (x.data.length : Int) = wordsN x.kind then 0 else 1
/-- One stands behind another one. -/
def behind (x y : Ev) : Bool := decide (4 * y.at_ + y.kind < 4 * x.at_ + x.kind)
/-- What is wrong with the event at a place. -/
def verdict (L : List Ev) (k : Nat) : Int :=
  if evNo (L.getD k noEv) = 0 then (if k = 0 then 0 else if behind (L.getD k noEv) (L.getD (k - 1) noEv) then 0 else 9) else evNo (L.getD k noEv)
/-- What is wrong first, from a place on. -/
def firstFrom (f : Nat → Int) : Nat → Nat → Int
  | _, 0 => 0
  | k, n + 1 => if f k = 0 then firstFrom f (k + 1) n else f k
def chk (L : List Ev) (k : Nat) : Int := firstFrom (verdict L) k (L.length - k)
def chkNo (L : List Ev) : Int := if 1000 < L.length then 1 else chk L 0
theorem chk_end {L : List Ev} {k : Nat} (h : ¬ k < L.length) : chk L k = 0 := by
  unfold chk
  rw [show L.length - k = 0 by omega]
  rfl
theorem chk_ok {L : List Ev} {k : Nat} (h : k < L.length) (hv : verdict L k = 0) : chk L k = chk L (k + 1) := by
  unfold chk
  rw [show L.length - k = (L.length - (k + 1)) + 1 by omega]
  simp [firstFrom, hv]
theorem chk_no {L : List Ev} {k : Nat} (h : k < L.length) (hv : verdict L k ≠ 0) : chk L k = verdict L k := by
  unfold chk
  rw [show L.length - k = (L.length - (k + 1)) + 1 by omega]
  simp [firstFrom, hv]
theorem evNo_bd {x : Ev} (h : evNo x = 0) : (1 ≤ x.kind ∧ x.kind ≤ 3) ∧ (0 ≤ x.at_ ∧ x.at_ ≤ 2999) ∧ allB x.data = true ∧ (x.data.length : Int) = wordsN x.kind := by
  cases c0 : inB x.kind 1 3 with
  | false => simp [evNo, c0] at h
  | true =>
  cases c1 : inB x.at_ 0 2999 with
  | false => simp [evNo, c0, c1] at h
  | true =>
  cases c2 : allB x.data with
  | false => simp [evNo, c0, c1, c2] at h
  | true =>
  refine ⟨inB_iff.1 c0, inB_iff.1 c1, rfl, ?_⟩
  by_cases e : (x.data.length : Int) = wordsN x.kind
  · exact e
  · simp [evNo, c0, c1, c2, e] at h
theorem verdict_ev {L : List Ev} {k : Nat} (h : verdict L k = 0) : evNo (L.getD k noEv) = 0 := by
  unfold verdict at h
  split at h
  · assumption
  · assumption

/-- An event lies there. -/
def EvAt (w : World) (b o : Nat) (x : Ev) : Prop :=
  w.cell? ⟨b, o, none⟩ = some (.int .i64 x.at_) ∧ w.cell? ⟨b, o + 1, none⟩ = some (.int .i64 x.kind) ∧ ∃ v, w.cell? ⟨b, o + 2, none⟩ = some v ∧ IntsAt w v x.data
/-- The value is a slice over these events. -/
def EvsAt (w : World) (v : Value) (L : List Ev) : Prop :=
  ∃ (A : Option Addr) (c : Nat), v = .slice A L.length c ∧ L.length * 40 ≤ 140737488351232 ∧
    (0 < L.length → ∃ b off, A = some ⟨b, off, none⟩ ∧ b < w.heap.size ∧ ∀ j, j < L.length → EvAt w b (off + j * 3) (L.getD j noEv))
theorem EvAt.below {w w' : World} {b o : Nat} {x : Ev} (h : EvAt w b o x) (hb : b < w.heap.size) (hB : Below w.heap.size w w') : EvAt w' b o x := by
  obtain ⟨h0, h1, v, h2, h3⟩ := h
  exact ⟨(hB.cell (p := ⟨b, o, none⟩) hb).trans h0, (hB.cell (p := ⟨b, o + 1, none⟩) hb).trans h1, v, (hB.cell (p := ⟨b, o + 2, none⟩) hb).trans h2, h3.below hB⟩
theorem EvsAt.below {w w' : World} {v : Value} {L : List Ev} (h : EvsAt w v L) (hB : Below w.heap.size w w') : EvsAt w' v L := by
  obtain ⟨A, c, rfl, hl, hc⟩ := h
  refine ⟨A, c, rfl, hl, fun h0 => ?_⟩
  obtain ⟨b, off, rfl, hlt, hj⟩ := hc h0
  exact ⟨b, off, rfl, Nat.lt_of_lt_of_le hlt hB.size, fun j hjl => (hj j hjl).below hlt hB⟩

/-- How many words the events of a kind have, as the package has it. -/
def Laid (w : World) : Prop :=
  w.cell? ⟨0, 0, none⟩ = some (.int .i64 0) ∧ w.cell? ⟨0, 1, none⟩ = some (.int .i64 0) ∧ w.cell? ⟨0, 2, none⟩ = some (.int .i64 16) ∧ w.cell? ⟨0, 3, none⟩ = some (.int .i64 1) ∧ 0 < w.heap.size
theorem Laid.below {w w' : World} (h : Laid w) (hB : Below w.heap.size w w') : Laid w' := by
  obtain ⟨h0, h1, h2, h3, h4⟩ := h
  exact ⟨(hB.cell (p := ⟨0, 0, none⟩) h4).trans h0, (hB.cell (p := ⟨0, 1, none⟩) h4).trans h1, (hB.cell (p := ⟨0, 2, none⟩) h4).trans h2, (hB.cell (p := ⟨0, 3, none⟩) h4).trans h3, Nat.lt_of_lt_of_le h4 hB.size⟩
/-- A struct of three fields in a block of its own. -/
theorem three_cells {w : World} {b : Nat} {x0 x1 x2 : Value} {t : TypeId} (h : w.heap[b]? = some (.cells #[x0, x1, x2] t (0, 0))) :
    w.cell? ⟨b, 0, none⟩ = some x0 ∧ w.cell? ⟨b, 1, none⟩ = some x1 ∧ w.cell? ⟨b, 2, none⟩ = some x2 ∧ (∀ j, w.frozen? ⟨b, j, none⟩ = false) ∧ b < w.heap.size :=
  ⟨by simp [World.cell?, h], by simp [World.cell?, h], by simp [World.cell?, h], fun j => by simp [World.frozen?, h], lt_of_block h⟩

end Go.Proofs.YtlcdefpdahjjeagDoor

/- Numbers and slices of numbers that are handed in, opened. -/

namespace Go.Proofs.YtlcdefpdahjjeagDoor
open Go.ChangeShapes Go.WideShapes Go.ChangeAt Go.RowKit Go.Deep Go.Joins
set_option maxRecDepth 100000

theorem own : ownKnob Tryd.prog.godebug = none := by kernel_rfl
theorem laidOut : laidOutB Tryd.prog = true := by kernel_rfl
theorem cellsInts : Tryd.prog.cellsOf 22 = 1 := by kernel_rfl
theorem cellsInt : Tryd.prog.cellsOf 3 = 1 := by kernel_rfl
theorem bytesInts : Tryd.prog.bytesOf 22 = 24 := by kernel_rfl
theorem bytesInt : Tryd.prog.bytesOf 3 = 8 := by kernel_rfl
theorem reach_is : reachBytes = 140737488351232 := rfl

theorem weightsAll_mem {H : Type} {P : Program} {e : TypeId} : ∀ {l : List (DataW H)} {d : DataW H}, d ∈ l → ∀ n ∈ d.weights P e, n ∈ DataW.weightsAll P e l
  | x :: l, d, hd, n, hn => by
    simp only [DataW.weightsAll, List.mem_append]
    rcases List.mem_cons.1 hd with rfl | h
    · exact Or.inl hn
    · exact Or.inr (weightsAll_mem h n hn)

/-- A slice of numbers that is handed in. -/
theorem intsAt_of {H : Type} {enc : TypeId × Value → H} {W : World} {fuel : Nat} {v : Value} {x : DataW H × List MemPlace}
    (h : DataW.trod enc Tryd.prog W 0 (fun _ => true) true fuel 22 [v] = some x) (hs : ∀ n ∈ x.1.weights Tryd.prog 22, n ≤ reachBytes) :
    ∃ l, IntsAt W v l ∧ ∀ n ∈ l, (Lit.int .i64 n).wf = true := by
  rcases open_ints Tryd.underlying22 Tryd.underlying3 cellsInt h with ⟨hcs, _⟩ | ⟨a, len, cap, zs, hcs, _, hl, hm, hz, hx, hcell, hwz⟩
  · simp at hcs
    exact ⟨[], ⟨none, 0, by simpa using hcs, by simp, fun h => by simp at h⟩, by simp⟩
  · simp at hcs
    subst hcs
    simp only [if_true] at hz
    have hlen : (zs.take len).length = len := by simp; omega
    refine ⟨zs.take len, ⟨some a, cap, by rw [hlen], ?_, fun h0 => ?_⟩, fun n hn => hwz n (List.mem_of_mem_take hn)⟩
    · have := hs ((zs.take len).length * 8 + (zs.drop len).length * 8) (by
        rw [hx]
        simp only [DataW.weights, Tryd.underlying22, bytesInt, List.mem_cons]
        left
        simp [lits]
        omega)
      rw [reach_is] at this
      omega
    · rw [hlen] at h0 ⊢
      obtain ⟨b, off, rfl, hc⟩ := ints_at hcell (by omega)
      refine ⟨b, off, rfl, World.block_lt_of_cell? _ _ (hc 0 (by omega)), fun j hj => ?_⟩
      rw [hc j (by omega)]
      simp [List.getD, hj]

end Go.Proofs.YtlcdefpdahjjeagDoor
