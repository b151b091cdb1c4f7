/- A tape that is handed in, opened. -/
import Derived.Test.YtlcdefpdahjjeagDoorWalkRunReplaysPart
import Derived.Test.YtlcdefpdahjjeagDoorRunCPart
namespace Go.Proofs.YtlcdefpdahjjeagDoor
open Go.ChangeShapes Go.WideShapes Go.ChangeAt Go.RowKit Go.Deep Go.Joins
set_option maxRecDepth 100000

theorem cellsTape : Tryd.prog.cellsOf 28 = 3 := by kernel_rfl

theorem tapeAt_of {H : Type} {enc : TypeId × Value → H} {W : World} {base : Nat} {v : Value} {d : DataW H} {p : List MemPlace}
    (hv : Value.okWide Tryd.prog W .any base 28 v) (h : DataW.Trod enc Tryd.prog W 0 (fun _ => true) true 28 v d p) (hs : ∀ n ∈ d.weights Tryd.prog 28, n ≤ reachBytes) :
    ∃ iv ev im bs cnt, v = .agg #[iv, ev, .int .i64 cnt] ∧ TapeAt W iv ev im bs ∧ (Lit.int .i64 cnt).wf = true := by
  obtain ⟨v0, v1, v2, y0, y1, y2, m, rfl, rfl, rfl, hy0, hy1, hy2⟩ := open_agg3 Tryd.underlying28 (by kernel_rfl) cellsTape hv h
  have hw : ∀ (j : Nat) t d, [22, 26, 3][j]? = some t → [y0.1, y1.1, y2.1][j]? = some d → ∀ n ∈ d.weights Tryd.prog t, n ≤ reachBytes := fun j t d ht hd n hn => hs n (by
    simp only [DataW.weights, Tryd.underlying28]
    exact DataW.weights_mem_each (j := j) (by simpa using ht) (by simpa using hd) n hn)
  obtain ⟨l0, h0, -⟩ := intsAt_of hy0 (hw 0 _ _ rfl rfl)
  obtain ⟨l1, h1⟩ := bytesIn_of hy1 (hw 1 _ _ rfl rfl)
  obtain ⟨x, e, _, hx⟩ := DataW.trod_int Tryd.underlying3 hy2
  simp at e
  subst e
  exact ⟨v0, v1, l0, l1, x, rfl, ⟨h0, h1.1, h1.2⟩, hx⟩

end Go.Proofs.YtlcdefpdahjjeagDoor
