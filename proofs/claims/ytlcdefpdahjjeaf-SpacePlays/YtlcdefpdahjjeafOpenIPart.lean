/- Numbers and slices of numbers that are handed in, opened. -/
import Derived.Test.YtlcdefpdahjjeafProg
import Derived.Test.YtlcdefpdahjjeafBase
import Derived.ProofKit
import Derived.OpenShut
import Derived.SizedLaws
import Derived.Lib.SmallJoins
import Derived.Deep.Matrix
import Derived.Test.YtlcdefpdahjjeafPl
namespace Go.Proofs.Ytlcdefpdahjjeaf
open Go.ChangeShapes Go.WideShapes Go.ChangeAt Go.RowKit Go.Deep Go.Joins

theorem own : ownKnob Try.prog.godebug = none := by kernel_rfl
theorem laidOut : laidOutB Try.prog = true := by kernel_rfl
theorem cellsInts : Try.prog.cellsOf 24 = 1 := by kernel_rfl
theorem cellsInt : Try.prog.cellsOf 3 = 1 := by kernel_rfl
theorem bytesInts : Try.prog.bytesOf 24 = 24 := by kernel_rfl
theorem bytesInt : Try.prog.bytesOf 3 = 8 := by kernel_rfl
theorem reach_is : reachBytes = 140737488351232 := rfl

theorem weightsAll_mem {H : Type} {P : Program} {e : TypeId} : ∀ {l : List (DataW H)} {d : DataW H}, d ∈ l → ∀ n ∈ d.weights P e, n ∈ DataW.weightsAll P e l
  | x :: l, d, hd, n, hn => by
    simp only [DataW.weightsAll, List.mem_append]
    rcases List.mem_cons.1 hd with rfl | h
    · exact Or.inl hn
    · exact Or.inr (weightsAll_mem h n hn)

/-- A slice of numbers that is handed in. -/
theorem intsAt_of {H : Type} {enc : TypeId × Value → H} {W : World} {fuel : Nat} {v : Value} {x : DataW H × List MemPlace}
    (h : DataW.trod enc Try.prog W 0 (fun _ => true) true fuel 24 [v] = some x) (hs : ∀ n ∈ x.1.weights Try.prog 24, n ≤ reachBytes) :
    ∃ l, IntsAt W v l ∧ ∀ n ∈ l, (Lit.int .i64 n).wf = true := by
  rcases open_ints Try.underlying24 Try.underlying3 cellsInt h with ⟨hcs, _⟩ | ⟨a, len, cap, zs, hcs, _, hl, hm, hz, hx, hcell, hwz⟩
  · simp at hcs
    exact ⟨[], ⟨none, 0, by simpa using hcs, by simp, fun h => by simp at h⟩, by simp⟩
  · simp at hcs
    subst hcs
    simp only [if_true] at hz
    have hlen : (zs.take len).length = len := by simp; omega
    refine ⟨zs.take len, ⟨some a, cap, by rw [hlen], ?_, fun h0 => ?_⟩, fun n hn => hwz n (List.mem_of_mem_take hn)⟩
    · have := hs ((zs.take len).length * 8 + (zs.drop len).length * 8) (by
        rw [hx]
        simp only [DataW.weights, Try.underlying24, bytesInt, List.mem_cons]
        left
        simp [lits]
        omega)
      rw [reach_is] at this
      omega
    · rw [hlen] at h0 ⊢
      obtain ⟨b, off, rfl, hc⟩ := ints_at hcell (by omega)
      refine ⟨b, off, rfl, World.block_lt_of_cell? _ _ (hc 0 (by omega)), fun j hj => ?_⟩
      rw [hc j (by omega)]
      simp [List.getD, hj]

end Go.Proofs.Ytlcdefpdahjjeaf

/- Slices of pairs and of threes of numbers that are handed in, opened. -/

namespace Go.Proofs.Ytlcdefpdahjjeaf
open Go.ChangeShapes Go.WideShapes Go.ChangeAt Go.RowKit Go.Deep Go.Joins

theorem cellsPairs : Try.prog.cellsOf 34 = 2 := by kernel_rfl
theorem bytesPairs : Try.prog.bytesOf 34 = 16 := by kernel_rfl
theorem pairsAt_of {H : Type} {enc : TypeId × Value → H} {W : World} {fuel : Nat} {v : Value} {x : DataW H × List MemPlace}
    (h : DataW.trod enc Try.prog W 0 (fun _ => true) true fuel 22 [v] = some x) (hs : ∀ n ∈ x.1.weights Try.prog 22, n ≤ reachBytes) :
    ∃ l, PairsAt W v l := by
  rcases open_slice Try.underlying22 h with ⟨hcs, _⟩ | ⟨a, len, cap, m, n, D, Pl, hcs, _, hl, hm, hmm, hx, hel⟩
  · simp at hcs
    exact ⟨[], none, 0, by simpa using hcs, by simp, fun h => by simp at h⟩
  · simp at hcs
    subst hcs
    simp only [if_true] at hmm
    subst hmm
    rw [cellsPairs] at hel
    have each : ∀ j, j < len → ∃ x0 x1 : Int, W.cell? (a.add (j * 2)) = some (.int .i64 x0) ∧ W.cell? (a.add (j * 2 + 1)) = some (.int .i64 x1) := by
      intro j hj
      obtain ⟨cs, h1, h2⟩ := hel j (by omega)
      obtain ⟨_, hlen, hc⟩ := World.cells?_some h1
      obtain ⟨xs, k, _, _, _, hxl, hxe⟩ := DataW.trod_array Try.underlying34 h2
      have one : ∀ i, i < 2 → ∃ y : Int, W.cell? (a.add (j * 2 + i)) = some (.int .i64 y) := by
        intro i hi
        have h3 := hxe i hi
        have h4 : xs[i]? = some xs[i] := List.getElem?_eq_getElem (by omega)
        rw [cellsInt, h4, Nat.mul_one] at h3
        obtain ⟨y, e0, _, _⟩ := DataW.trod_int Try.underlying3 h3
        have h5 := hc i (by omega)
        rw [add_add] at h5
        refine ⟨y, ?_⟩
        rw [h5]
        have h6 := congrArg (fun l => l[0]?) e0
        simpa [List.getElem?_take, List.getElem?_drop] using h6
      obtain ⟨y0, g0⟩ := one 0 (by decide)
      obtain ⟨y1, g1⟩ := one 1 (by decide)
      exact ⟨y0, y1, by simpa using g0, g1⟩
    have each' : ∀ j, ∃ x0 x1 : Int, j < len → (W.cell? (a.add (j * 2)) = some (.int .i64 x0) ∧ W.cell? (a.add (j * 2 + 1)) = some (.int .i64 x1)) := fun j => by
      by_cases hj : j < len
      · obtain ⟨x0, x1, hh⟩ := each j hj
        exact ⟨x0, x1, fun _ => hh⟩
      · exact ⟨0, 0, fun h => absurd h hj⟩
    let x0 := fun j => Classical.choose (each' j)
    let x1 := fun j => Classical.choose (Classical.choose_spec (each' j))
    have hch : ∀ j, j < len → (W.cell? (a.add (j * 2)) = some (.int .i64 (x0 j)) ∧ W.cell? (a.add (j * 2 + 1)) = some (.int .i64 (x1 j))) := fun j => Classical.choose_spec (Classical.choose_spec (each' j))
    refine ⟨(List.range len).map fun j => (x0 j, x1 j), some a, m, by simp, ?_, fun h0 => ?_⟩
    · have := hs (len * 16 + (m - len) * 16) (by
        rw [hx]
        simp only [DataW.weights, Try.underlying22, bytesPairs, List.mem_cons]
        left
        simp
        omega)
      rw [reach_is] at this
      simp
      omega
    · simp at h0
      obtain ⟨b, off, sp⟩ := a
      have hsp : sp = none := by simpa [Addr.add] using World.cell?_spot (hch 0 (by omega)).1
      subst hsp
      refine ⟨b, off, rfl, World.block_lt_of_cell? _ _ (hch 0 (by omega)).1, fun j hj => ?_⟩
      simp at hj
      have hh := hch j hj
      simp only [add_plain] at hh
      have hget : ((List.range len).map fun j => (x0 j, x1 j)).getD j (0, 0) = (x0 j, x1 j) := by simp [List.getD, hj]
      rw [hget]
      simpa [Nat.add_assoc] using hh

theorem cellsThrees : Try.prog.cellsOf 36 = 3 := by kernel_rfl
theorem bytesThrees : Try.prog.bytesOf 36 = 24 := by kernel_rfl
theorem threesAt_of {H : Type} {enc : TypeId × Value → H} {W : World} {fuel : Nat} {v : Value} {x : DataW H × List MemPlace}
    (h : DataW.trod enc Try.prog W 0 (fun _ => true) true fuel 23 [v] = some x) (hs : ∀ n ∈ x.1.weights Try.prog 23, n ≤ reachBytes) :
    ∃ l, ThreesAt W v l := by
  rcases open_slice Try.underlying23 h with ⟨hcs, _⟩ | ⟨a, len, cap, m, n, D, Pl, hcs, _, hl, hm, hmm, hx, hel⟩
  · simp at hcs
    exact ⟨[], none, 0, by simpa using hcs, by simp, fun h => by simp at h⟩
  · simp at hcs
    subst hcs
    simp only [if_true] at hmm
    subst hmm
    rw [cellsThrees] at hel
    have each : ∀ j, j < len → ∃ x0 x1 x2 : Int, W.cell? (a.add (j * 3)) = some (.int .i64 x0) ∧ W.cell? (a.add (j * 3 + 1)) = some (.int .i64 x1) ∧ W.cell? (a.add (j * 3 + 2)) = some (.int .i64 x2) := by
      intro j hj
      obtain ⟨cs, h1, h2⟩ := hel j (by omega)
      obtain ⟨_, hlen, hc⟩ := World.cells?_some h1
      obtain ⟨xs, k, _, _, _, hxl, hxe⟩ := DataW.trod_array Try.underlying36 h2
      have one : ∀ i, i < 3 → ∃ y : Int, W.cell? (a.add (j * 3 + i)) = some (.int .i64 y) := by
        intro i hi
        have h3 := hxe i hi
        have h4 : xs[i]? = some xs[i] := List.getElem?_eq_getElem (by omega)
        rw [cellsInt, h4, Nat.mul_one] at h3
        obtain ⟨y, e0, _, _⟩ := DataW.trod_int Try.underlying3 h3
        have h5 := hc i (by omega)
        rw [add_add] at h5
        refine ⟨y, ?_⟩
        rw [h5]
        have h6 := congrArg (fun l => l[0]?) e0
        simpa [List.getElem?_take, List.getElem?_drop] using h6
      obtain ⟨y0, g0⟩ := one 0 (by decide)
      obtain ⟨y1, g1⟩ := one 1 (by decide)
      obtain ⟨y2, g2⟩ := one 2 (by decide)
      exact ⟨y0, y1, y2, by simpa using g0, g1, g2⟩
    have each' : ∀ j, ∃ x0 x1 x2 : Int, j < len → (W.cell? (a.add (j * 3)) = some (.int .i64 x0) ∧ W.cell? (a.add (j * 3 + 1)) = some (.int .i64 x1) ∧ W.cell? (a.add (j * 3 + 2)) = some (.int .i64 x2)) := fun j => by
      by_cases hj : j < len
      · obtain ⟨x0, x1, x2, hh⟩ := each j hj
        exact ⟨x0, x1, x2, fun _ => hh⟩
      · exact ⟨0, 0, 0, fun h => absurd h hj⟩
    let x0 := fun j => Classical.choose (each' j)
    let x1 := fun j => Classical.choose (Classical.choose_spec (each' j))
    let x2 := fun j => Classical.choose (Classical.choose_spec (Classical.choose_spec (each' j)))
    have hch : ∀ j, j < len → (W.cell? (a.add (j * 3)) = some (.int .i64 (x0 j)) ∧ W.cell? (a.add (j * 3 + 1)) = some (.int .i64 (x1 j)) ∧ W.cell? (a.add (j * 3 + 2)) = some (.int .i64 (x2 j))) := fun j => Classical.choose_spec (Classical.choose_spec (Classical.choose_spec (each' j)))
    refine ⟨(List.range len).map fun j => (x0 j, x1 j, x2 j), some a, m, by simp, ?_, fun h0 => ?_⟩
    · have := hs (len * 24 + (m - len) * 24) (by
        rw [hx]
        simp only [DataW.weights, Try.underlying23, bytesThrees, List.mem_cons]
        left
        simp
        omega)
      rw [reach_is] at this
      simp
      omega
    · simp at h0
      obtain ⟨b, off, sp⟩ := a
      have hsp : sp = none := by simpa [Addr.add] using World.cell?_spot (hch 0 (by omega)).1
      subst hsp
      refine ⟨b, off, rfl, World.block_lt_of_cell? _ _ (hch 0 (by omega)).1, fun j hj => ?_⟩
      simp at hj
      have hh := hch j hj
      simp only [add_plain] at hh
      have hget : ((List.range len).map fun j => (x0 j, x1 j, x2 j)).getD j (0, 0, 0) = (x0 j, x1 j, x2 j) := by simp [List.getD, hj]
      rw [hget]
      simpa [Nat.add_assoc] using hh

end Go.Proofs.Ytlcdefpdahjjeaf
