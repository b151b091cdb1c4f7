/- The walk of the law FramesCopies. -/
import Derived.Test.YtchmmpeblpnjnaaWalkF
import Derived.Test.YtchmmpeblpnjnaaWalkG
namespace Go.Proofs.Ytchmmpeblpnjnaa
open Go.RowKit

theorem RowsAt.bounds {w : World} {v : Value} {D : List (List Int)} (h : RowsAt w v D) : D.length * 24 ≤ 140737488351232 ∧ ∀ i, i < D.length → (D.getD i []).length * 8 ≤ 140737488351232 := by
  obtain ⟨A, c, _, hl, hc⟩ := h
  refine ⟨hl, fun i hi => ?_⟩
  obtain ⟨_, _, _, _, hj⟩ := hc (by omega)
  obtain ⟨u, _, _, _, _, h8, _⟩ := hj i hi
  exact h8
theorem IntsAt.bound {w : World} {v : Value} {l : List Int} (h : IntsAt w v l) : l.length * 8 ≤ 140737488351232 := by
  obtain ⟨_, _, _, hl, _⟩ := h
  exact hl

theorem OwnF.rowsAt {w w0 : World} {lo : Nat} {dv rv v0 : Value} {rows : List Value} {D : List (List Int)} {R : List Int} (h : OwnF w lo dv rv rows D R) (h0 : RowsAt w0 v0 D) : RowsAt w dv D := h.dat.rows_at h0.bounds.1 h0.bounds.2
theorem OwnF.intsAt {w w0 : World} {lo : Nat} {dv rv v0 : Value} {rows : List Value} {D : List (List Int)} {R : List Int} (h : OwnF w lo dv rv rows D R) (h0 : IntsAt w0 v0 R) : IntsAt w rv R := h.ref.at h0.bound

set_option maxHeartbeats 400000 in
theorem FramesCopies_any (dv rv : Value) (D : List (List Int)) (R : List Int) (w : World) (hd : RowsAt w dv D) (hr : IntsAt w rv R) (_hw : ∀ n ∈ R, (Lit.int .i64 n).wf = true) :
    Calls Try.prog 5 #[.agg #[dv, rv]] w fun e w' => e = .returned (.bool true) ∧ Below w.heap.size w w' := by
  go_enter Try.func5, Try.ntmps5
  go_wp2_with fail
  refine (Copy_any dv rv D R _ (hd.below (below_alloc _ _)) (hr.below (below_alloc _ _))).mono ?_
  rintro e w1 ⟨A, c, B, c', rows, rfl, hof, hb1⟩
  obtain ⟨hx0, hx1, hxf, hxl⟩ := two_cells (box_kept hb1)
  go_wp2_with fail
  refine (sameFrames_any _ _ dv rv D D R R _ ((hof.rowsAt hd).below (below_alloc _ _)) ((hof.intsAt hr).below (below_alloc _ _)) (((hd.below (below_alloc _ _)).below hb1).below (below_alloc _ _)) (((hr.below (below_alloc _ _)).below hb1).below (below_alloc _ _))).mono ?_
  rw [sameB_yes rfl rfl]
  rintro e w2 ⟨rfl, hb2⟩
  go_wp2
  go_ret
  exact ⟨rfl, (((below_alloc _ _).trans (hb1.mono (by simp))).alloc (by omega) _).trans (hb2.mono (by simp; omega))⟩

end Go.Proofs.Ytchmmpeblpnjnaa
