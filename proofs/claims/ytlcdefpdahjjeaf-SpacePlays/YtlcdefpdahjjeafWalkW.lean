/- Contract of frames.Write. -/
import Derived.Test.YtlcdefpdahjjeafWalkQ
import Derived.Test.YtlcdefpdahjjeafMany
import Derived.Test.YtlcdefpdahjjeafWalkJ
import Derived.Test.YtlcdefpdahjjeafWalkL
import Derived.Test.YtlcdefpdahjjeafWalkF
namespace Go.Proofs.Ytlcdefpdahjjeaf
open Go.RowKit

set_option maxHeartbeats 400000 in
theorem Write_fault (dv rv : Value) (D : List (List Int)) (R : List Int) (n a v : Int) (w : World) (hd : RowsAt w dv D) (hr : IntsAt w rv R) (hf : faultNo D R n ≠ 0) :
    Calls Try.prog 28 #[.agg #[dv, rv], .int .i64 n, .int .i64 a, .int .i64 v] w fun e w' => Res3 w [] [] 0 (faultNo D R n) e w' := by
  have HF : Hid (faultNo D R n ≠ 0) := hf
  obtain ⟨x, hx⟩ : ∃ x, x = faultNo D R n := ⟨_, rfl⟩
  rw [← hx] at hf ⊢
  have HX : Hid (faultNo D R n = x) := hx.symm
  have g1 : (x != 0) = true := by simpa using hf
  clear hx hf
  go_enter Try.func28, Try.ntmps28
  go_wp2_with fail
  refine (checkWord_fault dv rv D R n a _ ((hd.below (below_alloc _ _)).below (below_alloc _ _)) ((hr.below (below_alloc _ _)).below (below_alloc _ _)) HF.out).mono ?_
  rw [HX.out]
  rintro e w1 ⟨rfl, hb1⟩
  obtain ⟨hbx, hrs, hb⟩ := two_boxes hb1
  obtain ⟨hx0, hx1, hxf, hxl⟩ := two_cells hrs
  go_wp2
  exact bodyPost_ret (v := .tuple #[.agg #[nilv, nilv], .int .i64 0, .int .i64 x]) (by simp [results, Try.results28, go_sem, hx0, hx1]) rfl (res3_none ((hb.setCell (by simp) _).setCell (by simp) _))

set_option maxHeartbeats 400000 in
theorem Write_range (dv rv : Value) (D : List (List Int)) (R : List Int) (n a v : Int) (w : World) (hd : RowsAt w dv D) (hr : IntsAt w rv R) (hf : faultNo D R n = 0) (ha : ¬ (0 ≤ a ∧ a ≤ 15)) :
    Calls Try.prog 28 #[.agg #[dv, rv], .int .i64 n, .int .i64 a, .int .i64 v] w fun e w' => Res3 w [] [] 0 2 e w' := by
  have HX : Hid (faultNo D R n = 0) := hf
  have HA : Hid (¬ (0 ≤ a ∧ a ≤ 15)) := ha
  clear hf ha
  go_enter Try.func28, Try.ntmps28
  go_wp2_with fail
  refine (checkWord_range dv rv D R n a _ ((hd.below (below_alloc _ _)).below (below_alloc _ _)) ((hr.below (below_alloc _ _)).below (below_alloc _ _)) HX.out HA.out).mono ?_
  rintro e w1 ⟨rfl, hb1⟩
  obtain ⟨hbx, hrs, hb⟩ := two_boxes hb1
  obtain ⟨hx0, hx1, hxf, hxl⟩ := two_cells hrs
  go_wp2
  exact bodyPost_ret (v := .tuple #[.agg #[nilv, nilv], .int .i64 0, .int .i64 2]) (by simp [results, Try.results28, go_sem, hx0, hx1]) rfl (res3_none ((hb.setCell (by simp) _).setCell (by simp) _))

set_option maxHeartbeats 1000000 in
theorem Write_one (dv rv : Value) (D : List (List Int)) (R : List Int) (j i : Nat) (v : Int) (w : World) (hd : RowsAt w dv D) (hr : IntsAt w rv R) (hm : May D R) (hk : Known R j) (hi : i < 16) (hone : R.getD j 0 = 1) :
    Calls Try.prog 28 #[.agg #[dv, rv], .int .i64 j, .int .i64 i, .int .i64 v] w fun e w' => Res3 w (D.set j ((D.getD j []).set i v)) R j 0 e w' := by
  have HX : Hid (faultNo D R j = 0) := fault_ok hm hk
  obtain ⟨hjR, hjD, hl⟩ := known_len hm hk
  obtain ⟨B, cb, rfl, hlb, hcb⟩ := id hr
  obtain ⟨b, off, rfl, hbs, hcell⟩ := hcb (by omega)
  have h1 := hcell j hjR
  rw [hone] at h1
  have HL : Hid ((D.getD j []).length = 16) := hl
  have hjr : (j : Int) < (R.length : Int) := by omega
  have hjd : (j : Int) < (D.length : Int) := by omega
  have hi' : (i : Int) < 16 := by omega
  clear hm hk hcell hcb hone hl
  go_enter Try.func28, Try.ntmps28
  go_wp2_with fail
  refine (checkWord_ok _ _ D R j i _ ((hd.below (below_alloc _ _)).below (below_alloc _ _)) ((hr.below (below_alloc _ _)).below (below_alloc _ _)) HX.out ⟨by omega, by omega⟩).mono ?_
  rintro e w1 ⟨rfl, hb1⟩
  obtain ⟨hbx, hrs, hb⟩ := two_boxes hb1
  obtain ⟨hx0, hx1, hxf, hxl⟩ := two_cells hbx
  rw [← hb.cell (p := ⟨b, off + j, none⟩) hbs] at h1
  go_wp2_with fail
  refine (Copy_any _ _ D R _ (hd.below hb) (hr.below hb)).mono ?_
  rintro e w3 ⟨A, c, B, c', rows, rfl, hof, hb4⟩
  rw [← hb4.block _ (lt_of_block hrs)] at hrs
  obtain ⟨gd, cd, gr, cr, e1, e2, l1, l2, l3, l4, hne, q1, q2, q3, q4⟩ := hof.opened (by omega) (by omega)
  simp only [Value.slice.injEq, true_and] at e1 e2
  obtain ⟨rfl, rfl⟩ := e1
  obtain ⟨rfl, rfl⟩ := e2
  have hq1 := q1 j hjD
  obtain ⟨gu, cu, hu, l5, l6, q5, q6⟩ := (hof.dat.each j hjD).opened (by rw [HL.out]; decide)
  have HU : Hid (rows.getD j nilv = .slice (some ⟨gu, 0, none⟩) 16 cu) := by rw [← HL.out]; exact hu
  rw [HU.out] at hq1
  have hq5 := q5 i (by rw [HL.out]; exact hi)
  have hq6 := q6 i
  have hs := hb.size
  have hs1 := hb1.size
  have hs4 := hb4.size
  simp only [World.size_alloc] at hs1
  have n1 : w.heap.size + 1 ≠ gu := by omega
  obtain ⟨hy0, hy1, hyf, hyl⟩ := two_cells hrs
  have hyf0 := hyf 0
  have hyf1 := hyf 1
  have HOF : Hid (_) := hof
  have HBB : Hid (Below w.heap.size w w3) := hb.trans (hb4.mono hs)
  have HLW : Hid (w.heap.size ≤ w1.heap.size) := hs
  have HRS : Hid (_) := hrs
  have HBD : Hid (_) := hd.bounds
  have HBR : Hid (_) := hr.bound
  have gl : w.heap.size ≤ gu := by omega
  clear hx0 hx1 hxf hxl q1 q2 q3 q4 q5 q6 hb1 hb4 hb hbx hs hs1 hs4 hd hr hyf hof l1 l3 l5 hrs HX hu h1
  go_wp2
  refine bodyPost_ret (v := .tuple #[.agg #[.slice (some ⟨gd, 0, none⟩) D.length c, .slice (some ⟨gr, 0, none⟩) R.length c'], .int .i64 j, .int .i64 0]) (by simp [results, Try.results28, go_sem, hy0, hy1, hyl]) rfl ?_
  have hF := OwnF.below (OwnF.store2 (x := nilv) (y := nilv) (b := w.heap.size + 1) (HOF.out.putWord (k := i) hjD HU.out v) (by rw [Go.Deep.blk_setCell_other _ _ _ _ n1]; exact HRS.out) (by decide) (by decide) (.slice (some ⟨gd, 0, none⟩) D.length c) (.slice (some ⟨gr, 0, none⟩) R.length c')) (below_alloc _ (.cells #[.slice (some ⟨gd, 0, none⟩) D.length c, .slice (some ⟨gr, 0, none⟩) R.length c'] 44))
  obtain ⟨bb1, bb2⟩ := set_bounds (l := (D.getD j []).set i v) HBD.out.1 HBD.out.2 hjD (by rw [List.length_set, HL.out]; decide)
  have hF' := hF.mono HLW.out
  have r1 := hF'.dat.rows_lo bb1 bb2
  have r2 := hF'.ref.low HBR.out
  have hs := HBB.out.size
  have hBF := (((HBB.out.setCell (p := ⟨gu, i, none⟩) gl (.int .i64 v)).setCell (p := ⟨w.heap.size + 1, 0, none⟩) (by simp) (.slice (some ⟨gd, 0, none⟩) D.length c)).setCell (p := ⟨w.heap.size + 1, 1, none⟩) (by simp) (.slice (some ⟨gr, 0, none⟩) R.length c')).alloc (by simp; omega) (.cells #[.slice (some ⟨gd, 0, none⟩) D.length c, .slice (some ⟨gr, 0, none⟩) R.length c'] 44)
  exact ⟨some ⟨gd, 0, none⟩, c, some ⟨gr, 0, none⟩, c', by simp, by rw [List.length_set]; exact r1, r2, hBF⟩

end Go.Proofs.Ytlcdefpdahjjeaf
