/- The walk of the law FramesChecks. -/
import Derived.Test.YtchmmpeblpnjnaaWalkC
import Derived.Test.YtchmmpeblpnjnaaWalkD
namespace Go.Proofs.Ytchmmpeblpnjnaa
open Go.RowKit

set_option maxHeartbeats 400000 in
theorem FramesChecks_any (dv rv : Value) (D : List (List Int)) (R : List Int) (w : World) (hd : RowsAt w dv D) (hr : IntsAt w rv R) (_hw : ∀ n ∈ R, (Lit.int .i64 n).wf = true) :
    Calls Try.prog 4 #[.agg #[dv, rv]] w fun e w' => e = .returned (.bool true) ∧ Below w.heap.size w w' := by
  have two : ∀ (x : Int) (y : Bool), mayNo D R = x → mayB D R = y → ((x = 0 ∧ y = true) ∨ (x = 8 ∧ y = false)) →
      Calls Try.prog 4 #[.agg #[dv, rv]] w fun e w' => e = .returned (.bool true) ∧ Below w.heap.size w w' := by
    intro x y hx hy hxy
    have HX : Hid (mayNo D R = x) := hx
    have HY : Hid (mayB D R = y) := hy
    clear hx hy
    rcases hxy with ⟨rfl, rfl⟩ | ⟨rfl, rfl⟩
    all_goals
      go_enter Try.func4, Try.ntmps4
      go_wp2_with fail
      refine (Check_any dv rv D R _ (hd.below (below_alloc _ _)) (hr.below (below_alloc _ _))).mono ?_
      rw [HX.out]
      rintro e w1 ⟨rfl, hb1⟩
      obtain ⟨hc1, hf1⟩ := bcell hb1
      simp only [World.size_alloc] at hc1 hf1
      go_wp2_with fail
      refine (FramesMay_any dv rv D R _ ((hd.below (below_alloc _ _)).below hb1) ((hr.below (below_alloc _ _)).below hb1)).mono ?_
      rw [HY.out]
      rintro e w2 ⟨rfl, hb2⟩
      go_wp2
      go_ret
      exact ⟨rfl, ((below_alloc _ _).trans (hb1.mono (by simp))).trans (hb2.mono (by have := hb1.size; simp at this; omega))⟩
  by_cases hm : May D R
  · exact two _ _ (mayNo_yes hm) (mayB_yes hm) (Or.inl ⟨rfl, rfl⟩)
  · exact two _ _ (mayNo_no hm) (mayB_no hm) (Or.inr ⟨rfl, rfl⟩)

end Go.Proofs.Ytchmmpeblpnjnaa
