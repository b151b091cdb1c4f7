/- The walk of the law FramesWrites. -/
import Derived.Test.YtchmmpeblpnjnabWalkX
import Derived.Test.YtchmmpeblpnjnabWalkY
import Derived.Test.YtchmmpeblpnjnabWalkG
namespace Go.Proofs.Ytchmmpeblpnjnab
open Go.RowKit

set_option maxHeartbeats 1000000 in
theorem FramesWrites_of (dv rv : Value) (D D' : List (List Int)) (R R' : List Int) (n a v i er : Int) (w : World) (hd : RowsAt w dv D) (hr : IntsAt w rv R)
    (hT : ∀ dv rv w, RowsAt w dv D → IntsAt w rv R → Calls Try.prog 11 #[.agg #[dv, rv], .int .i64 n, .int .i64 a, .int .i64 v] w fun e w' => Res3 w D' R' i er e w')
    (hT' : ∀ dv rv w, RowsAt w dv D → IntsAt w rv R → Calls Try.prog 12 #[.agg #[dv, rv], .int .i64 n, .int .i64 a, .int .i64 v] w fun e w' => Res3 w D' R' i er e w') :
    Calls Try.prog 4 #[.agg #[dv, rv], .int .i64 n, .int .i64 a, .int .i64 v] w fun e w' => e = .returned (.bool true) ∧ Below w.heap.size w w' := by
  have HT : Hid (_) := hT
  have HT' : Hid (_) := hT'
  clear hT hT'
  go_enter Try.func4, Try.ntmps4
  go_wp2_with fail
  refine (FramesCopy_any dv rv D R _ (hd.below (below_alloc _ _)) (hr.below (below_alloc _ _))).mono ?_
  rintro e w1 ⟨A, c, B, c', rows, rfl, hof, hb1⟩
  have hk1 := hof.rowsAt hd
  have hk2 := hof.intsAt hr
  have hbx := box_kept hb1
  have hb : Below w.heap.size w w1 := (below_alloc _ _).trans (hb1.mono (by simp))
  clear hof hb1
  obtain ⟨hx0, hx1, hxf, hxl⟩ := two_cells hbx
  go_wp2_with fail
  refine (HT.out _ _ _ (hk1.below (below_alloc _ _)) (hk2.below (below_alloc _ _))).mono ?_
  rintro e w2 ⟨A1, c1, B1, c1', rfl, hd2, hr2, hb2⟩
  have hbk := box_kept hb2
  have hb2' : Below w1.heap.size w1 w2 := (below_alloc _ _).trans (hb2.mono (by simp))
  rw [← hb2'.block _ hxl] at hbx
  have hk1' := hk1.below hb2'
  have hk2' := hk2.below hb2'
  have hb3 : Below w.heap.size w w2 := hb.trans (hb2'.mono hb.size)
  clear hx0 hx1 hxf hxl hb2 hb2' hk1 hk2 hb
  obtain ⟨hx0, hx1, hxf, hxl⟩ := two_cells hbx
  obtain ⟨hy0, hy1, hyf, hyl⟩ := two_cells hbk
  go_wp2_with fail
  refine (HT'.out _ _ _ ((hd.below hb3).below (below_alloc _ _)) ((hr.below hb3).below (below_alloc _ _))).mono ?_
  rintro e w3 ⟨A2, c2, B2, c2', rfl, hd3, hr3, hb4⟩
  have hba := box_kept hb4
  have hb4' : Below w2.heap.size w2 w3 := (below_alloc _ _).trans (hb4.mono (by simp))
  rw [← hb4'.block _ hxl] at hbx
  rw [← hb4'.block _ hyl] at hbk
  have hk3 := hk1'.below hb4'
  have hk4 := hk2'.below hb4'
  have hd2' := hd2.below hb4'
  have hr2' := hr2.below hb4'
  have hb5 : Below w.heap.size w w3 := hb3.trans (hb4'.mono hb3.size)
  clear hx0 hx1 hxf hxl hy0 hy1 hyf hyl hb4 hb4' hk1' hk2' hd2 hr2 hb3
  obtain ⟨hx0, hx1, hxf, hxl⟩ := two_cells hbx
  obtain ⟨hy0, hy1, hyf, hyl⟩ := two_cells hbk
  obtain ⟨hz0, hz1, hzf, hzl⟩ := two_cells hba
  go_wp2_with fail
  refine (sameFrames_any _ _ _ _ D' D' R' R' _ (hd2'.below (below_alloc _ _)) (hr2'.below (below_alloc _ _)) (hd3.below (below_alloc _ _)) (hr3.below (below_alloc _ _))).mono ?_
  rw [sameB_yes rfl rfl]
  rintro e w4 ⟨rfl, hb6⟩
  have hb6' : Below w3.heap.size w3 w4 := (below_alloc _ _).trans (hb6.mono (by simp))
  rw [← hb6'.block _ hxl] at hbx
  rw [← hb6'.block _ hyl] at hbk
  have hb7 : Below w.heap.size w w4 := hb5.trans (hb6'.mono hb5.size)
  have hk5 := hk3.below hb6'
  have hk6 := hk4.below hb6'
  clear hx0 hx1 hxf hxl hy0 hy1 hyf hyl hz0 hz1 hzf hzl hb6 hb6' hb5 hk3 hk4 hd2' hr2' hd3 hr3 hba
  obtain ⟨hx0, hx1, hxf, hxl⟩ := two_cells hbx
  obtain ⟨hy0, hy1, hyf, hyl⟩ := two_cells hbk
  go_wp2_with fail
  refine (sameFrames_any _ _ _ _ D D R R _ hk5 hk6 (hd.below hb7) (hr.below hb7)).mono ?_
  rw [sameB_yes rfl rfl]
  rintro e w5 ⟨rfl, hb8⟩
  go_wp2
  go_ret
  exact ⟨rfl, hb7.trans (hb8.mono hb7.size)⟩

theorem FramesWrites_any (dv rv : Value) (D : List (List Int)) (R : List Int) (n a v : Int) (w : World) (hd : RowsAt w dv D) (hr : IntsAt w rv R) (_hw : ∀ n ∈ R, (Lit.int .i64 n).wf = true) (_hn : (Lit.int .i64 n).wf = true) (_ha : (Lit.int .i64 a).wf = true) (_hv : (Lit.int .i64 v).wf = true) :
    Calls Try.prog 4 #[.agg #[dv, rv], .int .i64 n, .int .i64 a, .int .i64 v] w fun e w' => e = .returned (.bool true) ∧ Below w.heap.size w w' := by
  by_cases hg : May D R ∧ Known R n
  · obtain ⟨hm, hk⟩ := hg
    by_cases ha : 0 ≤ a ∧ a ≤ 15
    · obtain ⟨j, rfl⟩ := Int.eq_ofNat_of_zero_le hk.1
      obtain ⟨i, rfl⟩ := Int.eq_ofNat_of_zero_le ha.1
      by_cases h : R.getD j 0 = 1
      · exact FramesWrites_of dv rv D _ R _ j i v _ _ w hd hr (fun dv rv w h1 h2 => Write_one dv rv D R j i v w h1 h2 hm hk (by omega) h) (fun dv rv w h1 h2 => WroteOf_one dv rv D R j i v w h1 h2 hm hk (by omega) h)
      · rcases first_or R with hn | ⟨k, hf⟩
        · exact FramesWrites_of dv rv D _ R _ j i v _ _ w hd hr (fun dv rv w h1 h2 => Write_full dv rv D R j i v w h1 h2 hm hk (by omega) h hn) (fun dv rv w h1 h2 => WroteOf_full dv rv D R j i v w h1 h2 hm hk (by omega) h hn)
        · exact FramesWrites_of dv rv D _ R _ j i v _ _ w hd hr (fun dv rv w h1 h2 => Write_many dv rv D R j i k v w h1 h2 hm hk (by omega) h hf) (fun dv rv w h1 h2 => WroteOf_many dv rv D R j i k v w h1 h2 hm hk (by omega) h hf)
    · exact FramesWrites_of dv rv D _ R _ n a v _ _ w hd hr (fun dv rv w h1 h2 => Write_range dv rv D R n a v w h1 h2 (fault_ok hm hk) ha) (fun dv rv w h1 h2 => WroteOf_range dv rv D R n a v w h1 h2 (fault_ok hm hk) ha)
  · have hf : faultNo D R n ≠ 0 := by
      by_cases hm : May D R
      · rw [fault_none hm (fun hk => hg ⟨hm, hk⟩)]; decide
      · rw [fault_state hm]; decide
    exact FramesWrites_of dv rv D _ R _ n a v _ _ w hd hr (fun dv rv w h1 h2 => Write_fault dv rv D R n a v w h1 h2 hf) (fun dv rv w h1 h2 => WroteOf_fault dv rv D R n a v w h1 h2 hf)

end Go.Proofs.Ytchmmpeblpnjnab
