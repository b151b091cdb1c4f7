/- Frames that are handed in, opened: what their slices hold. -/
import Derived.Test.YtlcdefpdahjjeafOpenI
namespace Go.Proofs.Ytlcdefpdahjjeaf
open Go.ChangeShapes Go.WideShapes Go.ChangeAt Go.RowKit Go.Deep Go.Joins

theorem cellsFrames : Try.prog.cellsOf 44 = 2 := by kernel_rfl

theorem weights_row {H : Type} {A : Option Addr} {L : Nat} {zs : List Int} (h : ∀ n ∈ (intRow (H := H) .i64 A L zs).weights Try.prog 24, n ≤ reachBytes) (hL : L ≤ zs.length) (hA : A = none → L = 0) : L * 8 ≤ 140737488351232 := by
  cases A with
  | none => have := hA rfl; omega
  | some a =>
    have := h ((zs.take L).length * 8 + (zs.drop L).length * 8) (by
        simp only [intRow, DataW.weights, Try.underlying24, bytesInt, List.mem_cons]
        left
        simp [lits]
        omega)
    rw [reach_is] at this
    simp at this
    omega

/-- A slice of slices of numbers that is handed in. -/
theorem rowsAt_of {H : Type} {enc : TypeId × Value → H} {W : World} {fuel : Nat} {v : Value} {x : DataW H × List MemPlace}
    (h : DataW.trod enc Try.prog W 0 (fun _ => true) true fuel 38 [v] = some x) (hs : ∀ n ∈ x.1.weights Try.prog 38, n ≤ reachBytes) :
    ∃ D, RowsAt W v D := by
  rcases open_int_rows Try.underlying38 Try.underlying24 Try.underlying3 cellsInts cellsInt h with ⟨hcs, _⟩ | ⟨a, len, cap, A, L, C, Z, hcs, _, hl, hm, hx, hrows⟩
  · simp at hcs
    exact ⟨[], none, 0, by simpa using hcs, by simp, fun h => by simp at h⟩
  · simp at hcs
    subst hcs
    subst hx
    refine ⟨(List.range len).map fun r => (Z r).take (L r), some a, cap, by simp, ?_, fun h0 => ?_⟩
    · have := hs (len * 24 + (cap - len) * 24) (by
        simp only [DataW.weights, Try.underlying38, bytesInts, List.mem_cons]
        left
        simp
        omega)
      rw [reach_is] at this
      simp
      omega
    · simp at h0
      obtain ⟨b, off, sp⟩ := a
      have hsp : sp = none := by simpa [Addr.add] using World.cell?_spot (hrows 0 (by omega)).1
      subst hsp
      have hc : ∀ r, r < len → W.cell? ⟨b, off + r, none⟩ = some (.slice (A r) (L r) (C r)) := fun r hr => by rw [← add_plain]; exact (hrows r (by omega)).1
      refine ⟨b, off, rfl, World.block_lt_of_cell? _ _ (hc 0 (by omega)), fun j hj => ?_⟩
      simp at hj
      obtain ⟨_, h1, h2, h3, h4, h5, h6⟩ := hrows j (by omega)
      have hlen : ((Z j).take (L j)).length = L j := by simp; omega
      have hget : ((List.range len).map fun r => (Z r).take (L r)).getD j [] = (Z j).take (L j) := by simp [List.getD, hj]
      refine ⟨_, hc j hj, ?_⟩
      rw [hget]
      refine ⟨A j, C j, by rw [hlen], ?_, fun h0 => ?_⟩
      · rw [hlen]
        refine weights_row (H := H) (A := A j) (L := L j) (zs := Z j) (fun n hn => hs n ?_) (by omega) (fun e => by have := h5 e; omega)
        simp only [DataW.weights, Try.underlying38, List.mem_cons, List.mem_append]
        exact Or.inr (Or.inl (weightsAll_mem (List.mem_map.2 ⟨j, List.mem_range.2 hj, rfl⟩) n hn))
      · rw [hlen] at h0 ⊢
        cases hA : A j with
        | none => have := h5 hA; omega
        | some a' =>
          have hcell := (h6 a' hA).2
          obtain ⟨b', off', sp'⟩ := a'
          have hsp : sp' = none := by simpa [Addr.add] using World.cell?_spot (hcell 0 (by omega))
          subst hsp
          refine ⟨b', off', rfl, World.block_lt_of_cell? _ _ (hcell 0 (by omega)), fun i hi => ?_⟩
          rw [← add_plain, hcell i (by omega)]
          simp [List.getD, hi]

/-- Frames that are handed in. -/
theorem framesAt_of {H : Type} {enc : TypeId × Value → H} {W : World} {base : Nat} {v : Value} {d : DataW H} {p : List MemPlace}
    (hv : Value.okWide Try.prog W .any base 44 v) (h : DataW.Trod enc Try.prog W 0 (fun _ => true) true 44 v d p) (hs : ∀ n ∈ d.weights Try.prog 44, n ≤ reachBytes) :
    ∃ dv rv D R, v = .agg #[dv, rv] ∧ RowsAt W dv D ∧ IntsAt W rv R ∧ ∀ n ∈ R, (Lit.int .i64 n).wf = true := by
  obtain ⟨dv, rv, y0, y1, m, rfl, rfl, rfl, hy0, hy1⟩ := open_agg2 Try.underlying44 (by kernel_rfl) cellsFrames hv h
  obtain ⟨D, hD⟩ := rowsAt_of hy0 (fun n hn => hs n (by
    simp only [DataW.weights, Try.underlying44]
    exact DataW.weights_mem_each (j := 0) rfl rfl n hn))
  obtain ⟨R, hR, hw⟩ := intsAt_of hy1 (fun n hn => hs n (by
    simp only [DataW.weights, Try.underlying44]
    exact DataW.weights_mem_each (j := 1) rfl rfl n hn))
  exact ⟨dv, rv, D, R, rfl, hD, hR, hw⟩

end Go.Proofs.Ytlcdefpdahjjeaf
