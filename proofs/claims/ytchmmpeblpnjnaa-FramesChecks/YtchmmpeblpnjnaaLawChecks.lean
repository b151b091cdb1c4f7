/- Proved: for every input FramesChecks returns true (frames.Check answers OK where the document's frames may be, else ErrState), and what was handed in reads as it did. -/
import Derived.Test.YtchmmpeblpnjnaaRows
import Derived.Test.YtchmmpeblpnjnaaWalkC
import Derived.Test.YtchmmpeblpnjnaaWalkD
import Derived.Test.YtchmmpeblpnjnaaOpen
namespace Go.Proofs.Ytchmmpeblpnjnaa
open Go.ChangeShapes Go.WideShapes Go.ChangeAt Go.RowKit

set_option maxHeartbeats 400000 in
theorem FramesChecks_any (dv rv : Value) (D : List (List Int)) (R : List Int) (w : World) (hd : RowsAt w dv D) (hr : IntsAt w rv R) :
    Calls Try.prog 4 #[.agg #[dv, rv]] w fun e w' => e = .returned (.bool true) ∧ Below w.heap.size w w' := by
  have two : ∀ (x : Int) (y : Bool), mayNo D R = x → mayB D R = y → ((x = 0 ∧ y = true) ∨ (x = 8 ∧ y = false)) →
      Calls Try.prog 4 #[.agg #[dv, rv]] w fun e w' => e = .returned (.bool true) ∧ Below w.heap.size w w' := by
    intro x y hx hy hxy
    have HX : Hid (mayNo D R = x) := hx
    have HY : Hid (mayB D R = y) := hy
    clear hx hy
    rcases hxy with ⟨rfl, rfl⟩ | ⟨rfl, rfl⟩
    all_goals
      go_enter Try.func4, Try.ntmps4
      go_wp2_with fail
      refine (Check_any dv rv D R _ (hd.below (below_alloc _ _)) (hr.below (below_alloc _ _))).mono ?_
      rw [HX.out]
      rintro e w1 ⟨rfl, hb1⟩
      obtain ⟨hc1, hf1⟩ := bcell hb1
      simp only [World.size_alloc] at hc1 hf1
      go_wp2_with fail
      refine (FramesMay_any dv rv D R _ ((hd.below (below_alloc _ _)).below hb1) ((hr.below (below_alloc _ _)).below hb1)).mono ?_
      rw [HY.out]
      rintro e w2 ⟨rfl, hb2⟩
      go_wp2
      go_ret
      exact ⟨rfl, ((below_alloc _ _).trans (hb1.mono (by simp))).trans (hb2.mono (by have := hb1.size; simp at this; omega))⟩
  by_cases hm : May D R
  · exact two _ _ (mayNo_yes hm) (mayB_yes hm) (Or.inl ⟨rfl, rfl⟩)
  · exact two _ _ (mayNo_no hm) (mayB_no hm) (Or.inr ⟨rfl, rfl⟩)

set_option maxRecDepth 100000 in
theorem FramesChecks_lifted (os : Os) (started : os.Started) (H : Type) (enc : TypeId × Value → H) :
    ReturnsInHanded {} Try.checked os 4 .any (Rows.framesChecksSpec.pre6 enc Try.prog Try.f4 Rows.framesChecksRow.domain false) (Rows.framesChecksSpec.post enc Try.prog Try.f4 false true false false) := by
  refine returnsInHanded_of_change_sized (C := Try.checked) own started (by kernel_rfl) Try.func4
    (ChangeSpec.witness6 (enc := enc) (C := Try.checked) false ⟨#[], #[.agg #[.slice none 0 0, .slice none 0 0]], []⟩ 8 (by kernel_rfl) (by kernel_rfl) (by kernel_rfl) (by kernel_rfl)) ?_
  intro W base args ds gs before hval0 hW hcnd hsz0 _
  have hval : ∀ (j : Nat) t v, Try.f4.params[j]? = some t → args[j]? = some v → Value.okWide Try.prog W .any base t v := hval0
  have hsz : (DataW.weightsEach Try.prog (Try.f4.params.toList ++ []) (ds ++ gs)).all (· ≤ reachBytes) = true := hsz0
  have hW' := hW
  obtain ⟨p, q, hA0, hV, rfl, hfz, hnd⟩ := hW
  have hA : DataW.TrodAll enc Try.prog W 0 (fun _ => true) true Try.f4.params.toList args.toList ds p := hA0
  rw [Try.params4] at hA hval hsz
  obtain ⟨v0, vs0, d0, ds0, p0, q0, hargs, rfl, rfl, h0, r0⟩ := trodAll_cons hA
  obtain ⟨rfl, rfl, rfl⟩ := trodAll_nil r0
  obtain rfl : args = #[v0] := by cases args; simp_all
  obtain ⟨rfl, rfl⟩ := trodVars_none hV
  have lt0 : ∀ x ∈ p0, x.block < W.heap.size := by obtain ⟨m, hm⟩ := h0; exact DataW.trod_lt m _ _ _ hm
  have sz : ∀ (j : Nat) t (d : DataW H), [25][j]? = some t → [d0][j]? = some d → ∀ n ∈ d.weights Try.prog t, n ≤ reachBytes := fun j t d ht hd n hn => by
    simpa using List.all_eq_true.1 hsz n (DataW.weights_mem_each (j := j) (by simpa using ht) (by simpa using hd) n hn)
  obtain ⟨dv, rv, D, R, rfl, hD, hR, _⟩ := framesAt_of (hval 0 25 v0 rfl rfl) h0 (sz 0 _ _ rfl rfl)
  clear hA0 hval0 hsz0 hsz
  refine (FramesChecks_any dv rv D R W hD hR).mono fun e W' ⟨he, bel⟩ => ?_
  subst he
  exact ⟨_, rfl, _, _, _, [], _, [], hW', trodAll_mk1 (shut_bool Try.underlying4 _), (trodAll_cons_mk (Below.trod laidOut (by kernel_rfl) (of_decide_eq_true (by kernel_rfl)) h0 bel lt0) trodAll_mk0), rfl, bel.frame _, fun h => by cases h⟩

theorem FramesChecks_holds : Rows.FramesChecksSaid :=
  OpenClaim.holds_of_wide 4 Try.f4 rfl rfl rfl rfl rfl rfl rfl ⟨rfl, rfl, rfl, rfl, rfl⟩ rfl rfl rfl rfl rfl (by kernel_rfl) Try.func4 (by kernel_rfl)
    (of_decide_eq_true (by kernel_rfl)) (by unfold Func.isWrapper; first | (rw [if_pos (by decide +kernel)]; kernel_rfl) | (rw [if_neg (by decide +kernel)]; exact ⟨rfl, rfl⟩))
    (fun os started H enc _ => FramesChecks_lifted os started H enc)

#print axioms FramesChecks_holds
end Go.Proofs.Ytchmmpeblpnjnaa
