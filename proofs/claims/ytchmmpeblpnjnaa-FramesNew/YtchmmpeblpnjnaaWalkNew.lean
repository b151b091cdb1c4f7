/- The walk of the law FramesNew. -/
import Derived.Test.YtchmmpeblpnjnaaWalkI
import Derived.Test.YtchmmpeblpnjnaaWalkG
namespace Go.Proofs.Ytchmmpeblpnjnaa
open Go.RowKit

set_option maxHeartbeats 400000 in
theorem FramesNew_any (n : Int) (w : World) (_hw : (Lit.int .i64 n).wf = true) :
    Calls Try.prog 3 #[.int .i64 n] w fun e w' => e = .returned (.bool true) ∧ Below w.heap.size w w' := by
  go_enter Try.func3, Try.ntmps3
  go_wp2_with fail
  refine (New_any n _).mono ?_
  rintro e w1 ⟨A, c, B, c', rfl, hd1, hr1, hb1⟩
  go_wp2_with fail
  refine (FramesNewRef_any n _).mono ?_
  rintro e w2 ⟨A2, c2, B2, c2', rfl, hd2, hr2, hb2⟩
  obtain ⟨hx0, hx1, hxf, hxl⟩ := two_cells (box_kept hb2)
  go_wp2_with fail
  refine (sameFrames_any _ _ _ _ (newD n) (newD n) (newR n) (newR n) _ (((hd1.below (below_alloc _ _)).below hb2).below (below_alloc _ _)) (((hr1.below (below_alloc _ _)).below hb2).below (below_alloc _ _)) (hd2.below (below_alloc _ _)) (hr2.below (below_alloc _ _))).mono ?_
  rw [sameB_yes rfl rfl]
  rintro e w3 ⟨rfl, hb3⟩
  go_wp2
  go_ret
  have hs1 := hb1.size
  have hs2 := hb2.size
  simp only [World.size_alloc] at hs2
  exact ⟨rfl, (((hb1.alloc hs1 _).trans (hb2.mono (by simp; omega))).alloc (by omega) _).trans (hb3.mono (by simp; omega))⟩

end Go.Proofs.Ytchmmpeblpnjnaa
