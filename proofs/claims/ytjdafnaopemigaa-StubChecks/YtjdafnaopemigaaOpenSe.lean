/- A tape (its count alone) and a session that are handed in, opened. -/
import Derived.Test.YtjdafnaopemigaaOpenI
namespace Go.Proofs.Ytjdafnaopemigaa
open Go.ChangeShapes Go.WideShapes Go.ChangeAt Go.RowKit Go.Deep Go.Joins
set_option maxRecDepth 100000

theorem cellsTape1 : Try.prog.cellsOf 29 = 3 := by kernel_rfl
theorem cellsSession : Try.prog.cellsOf 31 = 3 := by kernel_rfl

theorem tape1_of {H : Type} {enc : TypeId × Value → H} {W : World} {base : Nat} {v : Value} {d : DataW H} {p : List MemPlace}
    (hv : Value.okWide Try.prog W .any base 29 v) (h : DataW.Trod enc Try.prog W 0 (fun _ => true) true 29 v d p) :
    ∃ iv ev cnt, v = .agg #[iv, ev, .int .i64 cnt] ∧ (Lit.int .i64 cnt).wf = true := by
  obtain ⟨v0, v1, v2, y0, y1, y2, m, rfl, rfl, rfl, hy0, hy1, hy2⟩ := open_agg3 Try.underlying29 (by kernel_rfl) cellsTape1 hv h
  obtain ⟨x, e, _, hx⟩ := DataW.trod_int Try.underlying3 hy2
  simp at e
  subst e
  exact ⟨v0, v1, x, rfl, hx⟩

theorem sessionAt_of {H : Type} {enc : TypeId × Value → H} {W : World} {base : Nat} {v : Value} {d : DataW H} {p : List MemPlace}
    (hv : Value.okWide Try.prog W .any base 31 v) (h : DataW.Trod enc Try.prog W 0 (fun _ => true) true 31 v d p) (hs : ∀ n ∈ d.weights Try.prog 31, n ≤ reachBytes) :
    ∃ a bv wv bl wl, v = .agg #[.int .i64 a, bv, wv] ∧ IntsAt W bv bl ∧ IntsAt W wv wl ∧ (Lit.int .i64 a).wf = true := by
  obtain ⟨v0, v1, v2, y0, y1, y2, m, rfl, rfl, rfl, hy0, hy1, hy2⟩ := open_agg3 Try.underlying31 (by kernel_rfl) cellsSession hv h
  have hw : ∀ (j : Nat) t d, [3, 26, 26][j]? = some t → [y0.1, y1.1, y2.1][j]? = some d → ∀ n ∈ d.weights Try.prog t, n ≤ reachBytes := fun j t d ht hd n hn => hs n (by
    simp only [DataW.weights, Try.underlying31]
    exact DataW.weights_mem_each (j := j) (by simpa using ht) (by simpa using hd) n hn)
  obtain ⟨x, e, _, hx⟩ := DataW.trod_int Try.underlying3 hy0
  simp at e
  subst e
  obtain ⟨l1, h1, -⟩ := intsAt_of hy1 (hw 1 _ _ rfl rfl)
  obtain ⟨l2, h2, -⟩ := intsAt_of hy2 (hw 2 _ _ rfl rfl)
  exact ⟨x, v1, v2, l1, l2, rfl, h1, h2, hx⟩

end Go.Proofs.Ytjdafnaopemigaa
