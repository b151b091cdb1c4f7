/- The walk of the law FramesReads. -/
import Derived.Test.YtchmmpeblpnjnabWalkQ
namespace Go.Proofs.Ytchmmpeblpnjnab
open Go.RowKit

set_option maxHeartbeats 400000 in
theorem FramesReads_of (dv rv : Value) (D : List (List Int)) (R : List Int) (n a x er : Int) (w : World) (hd : RowsAt w dv D) (hr : IntsAt w rv R)
    (hT : ∀ w, RowsAt w dv D → IntsAt w rv R → Calls Try.prog 8 #[.agg #[dv, rv], .int .i64 n, .int .i64 a] w fun e w' => e = .returned (.tuple #[.int .i64 x, .int .i64 er]) ∧ Below w.heap.size w w')
    (hT' : ∀ w, RowsAt w dv D → IntsAt w rv R → Calls Try.prog 9 #[.agg #[dv, rv], .int .i64 n, .int .i64 a] w fun e w' => e = .returned (.tuple #[.int .i64 x, .int .i64 er]) ∧ Below w.heap.size w w') :
    Calls Try.prog 3 #[.agg #[dv, rv], .int .i64 n, .int .i64 a] w fun e w' => e = .returned (.bool true) ∧ Below w.heap.size w w' := by
  have HT : Hid (_) := hT
  have HT' : Hid (_) := hT'
  clear hT hT'
  go_enter Try.func3, Try.ntmps3
  go_wp2_with fail
  refine (HT.out _ (hd.below (below_alloc _ _)) (hr.below (below_alloc _ _))).mono ?_
  rintro e w1 ⟨rfl, hb1⟩
  obtain ⟨hbx, hbb⟩ := one_box hb1
  obtain ⟨hx0, hx1, hxf, hxl⟩ := two_cells hbx
  go_wp2_with fail
  refine (HT'.out _ (hd.below hbb) (hr.below hbb)).mono ?_
  rintro e w2 ⟨rfl, hb2⟩
  go_wp2
  go_ret
  exact ⟨rfl, hbb.trans (hb2.mono hbb.size)⟩

theorem FramesReads_any (dv rv : Value) (D : List (List Int)) (R : List Int) (n a : Int) (w : World) (hd : RowsAt w dv D) (hr : IntsAt w rv R) (_hw : ∀ n ∈ R, (Lit.int .i64 n).wf = true) (_hn : (Lit.int .i64 n).wf = true) (_ha : (Lit.int .i64 a).wf = true) :
    Calls Try.prog 3 #[.agg #[dv, rv], .int .i64 n, .int .i64 a] w fun e w' => e = .returned (.bool true) ∧ Below w.heap.size w w' := by
  by_cases hg : May D R ∧ Known R n
  · obtain ⟨hm, hk⟩ := hg
    by_cases ha : 0 ≤ a ∧ a ≤ 15
    · obtain ⟨j, rfl⟩ := Int.eq_ofNat_of_zero_le hk.1
      obtain ⟨i, rfl⟩ := Int.eq_ofNat_of_zero_le ha.1
      exact FramesReads_of dv rv D R j i _ _ w hd hr (fun w h1 h2 => Read_ok dv rv D R j i w h1 h2 hm hk (by omega)) (fun w h1 h2 => ReadOf_ok dv rv D R j i w h1 h2 hm hk (by omega))
    · exact FramesReads_of dv rv D R n a _ _ w hd hr (fun w h1 h2 => Read_range dv rv D R n a w h1 h2 (fault_ok hm hk) ha) (fun w h1 h2 => ReadOf_range dv rv D R n a w h1 h2 (fault_ok hm hk) ha)
  · have hf : faultNo D R n ≠ 0 := by
      by_cases hm : May D R
      · rw [fault_none hm (fun hk => hg ⟨hm, hk⟩)]; decide
      · rw [fault_state hm]; decide
    exact FramesReads_of dv rv D R n a _ _ w hd hr (fun w h1 h2 => Read_fault dv rv D R n a w h1 h2 hf) (fun w h1 h2 => ReadOf_fault dv rv D R n a w h1 h2 hf)

end Go.Proofs.Ytchmmpeblpnjnab
