/- A world that is handed in, opened. -/
import Derived.Test.YtlcdefpdahjjeafOpen
import Derived.Test.YtlcdefpdahjjeafRunP
namespace Go.Proofs.Ytlcdefpdahjjeaf
open Go.ChangeShapes Go.WideShapes Go.ChangeAt Go.RowKit Go.Deep Go.Joins

theorem cellsWorld : Try.prog.cellsOf 40 = 4 := by kernel_rfl

theorem worldAt_of {H : Type} {enc : TypeId × Value → H} {W : World} {base : Nat} {v : Value} {d : DataW H} {p : List MemPlace}
    (hv : Value.okWide Try.prog W .any base 40 v) (h : DataW.Trod enc Try.prog W 0 (fun _ => true) true 40 v d p) (hs : ∀ n ∈ d.weights Try.prog 40, n ≤ reachBytes) :
    ∃ v0 v1 v2 v3 x, v = .agg #[v0, v1, v2, v3] ∧ WdAt W v0 v1 v2 v3 x := by
  obtain ⟨v0, v1, v2, v3, y0, y1, y2, y3, m, rfl, rfl, rfl, hy0, hy1, hy2, hy3⟩ := open_agg4 Try.underlying40 (by kernel_rfl) cellsWorld hv h
  have hw : ∀ (j : Nat) t d, [24, 24, 38, 24][j]? = some t → [y0.1, y1.1, y2.1, y3.1][j]? = some d → ∀ n ∈ d.weights Try.prog t, n ≤ reachBytes := fun j t d ht hd n hn => hs n (by
    simp only [DataW.weights, Try.underlying40]
    exact DataW.weights_mem_each (j := j) (by simpa using ht) (by simpa using hd) n hn)
  obtain ⟨l0, h0, -⟩ := intsAt_of hy0 (hw 0 _ _ rfl rfl)
  obtain ⟨l1, h1, -⟩ := intsAt_of hy1 (hw 1 _ _ rfl rfl)
  obtain ⟨D, h2⟩ := rowsAt_of hy2 (hw 2 _ _ rfl rfl)
  obtain ⟨l3, h3, -⟩ := intsAt_of hy3 (hw 3 _ _ rfl rfl)
  exact ⟨v0, v1, v2, v3, ⟨l0, l1, D, l3⟩, rfl, ⟨h0, h1, h2, h3⟩⟩

end Go.Proofs.Ytlcdefpdahjjeaf
