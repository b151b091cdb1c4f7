/- Contract of frames.Share. -/
import Derived.Test.YtlcdefpdahjjeafWalkN
import Derived.Test.YtlcdefpdahjjeafWalkJ
import Derived.Test.YtlcdefpdahjjeafWalkL
import Derived.Test.YtlcdefpdahjjeafWalkF
namespace Go.Proofs.Ytlcdefpdahjjeaf
open Go.RowKit

set_option maxHeartbeats 400000 in
theorem Share_bad (dv rv : Value) (D : List (List Int)) (R : List Int) (n : Int) (w : World) (hd : RowsAt w dv D) (hr : IntsAt w rv R) (hf : faultNo D R n ≠ 0) :
    Calls Try.prog 29 #[.agg #[dv, rv], .int .i64 n] w fun e w' => Res2 w [] [] (faultNo D R n) e w' := by
  obtain ⟨x, hx⟩ : ∃ x, x = faultNo D R n := ⟨_, rfl⟩
  rw [← hx] at hf ⊢
  have HX : Hid (faultNo D R n = x) := hx.symm
  clear hx
  have g1 : (x != 0) = true := by simpa using hf
  have g2 : (x == 0) = false := by simpa using hf
  clear hf
  go_enter Try.func29, Try.ntmps29
  go_wp2_with fail
  refine (checkKnown_any dv rv D R n _ ((hd.below (below_alloc _ _)).below (below_alloc _ _)) ((hr.below (below_alloc _ _)).below (below_alloc _ _))).mono ?_
  rw [HX.out]
  rintro e w1 ⟨rfl, hb1⟩
  obtain ⟨hbx, hrs, hb⟩ := two_boxes hb1
  obtain ⟨hx0, hx1, hxf, hxl⟩ := two_cells hrs
  go_wp2
  exact bodyPost_ret (v := .tuple #[.agg #[nilv, nilv], .int .i64 x]) (by simp [results, Try.results29, go_sem, hx0, hx1]) rfl (res2_none ((hb.setCell (by simp) _).setCell (by simp) _))

set_option maxHeartbeats 400000 in
theorem Share_full (dv rv : Value) (D : List (List Int)) (R : List Int) (j : Nat) (w : World) (hd : RowsAt w dv D) (hr : IntsAt w rv R) (hm : May D R) (hk : Known R j) (h200 : R.getD j 0 = 200) :
    Calls Try.prog 29 #[.agg #[dv, rv], .int .i64 j] w fun e w' => Res2 w [] [] 1 e w' := by
  obtain ⟨B, cb, rfl, hlb, hcb⟩ := id hr
  have hkR : j < R.length := hk.2.1 |> fun h => by omega
  have hkD : j < D.length := by have := hm.1; omega
  obtain ⟨b, off, rfl, hbs, hcell⟩ := hcb (by omega)
  have h1 := hcell j hkR
  have hjl : (j : Int) < (R.length : Int) := by omega
  have hjd : (j : Int) < (D.length : Int) := by omega
  have HX : Hid (faultNo D R j = 0) := fault_ok hm hk
  have HR : Hid (0 ≤ R.getD j 0 ∧ R.getD j 0 ≤ 200) := ⟨(hm.2.2 j hkR).1, (hm.2.2 j hkR).2.1⟩
  have HNZ : Hid (R.getD j 0 ≠ 0) := fun h => hk.2.2 (by simpa using h)
  clear hcell hcb hm hk
  obtain ⟨x, hx⟩ : ∃ x, x = R.getD j 0 := ⟨_, rfl⟩
  rw [← hx] at h1
  have HXX : Hid (x = R.getD j 0) := hx
  have hx200 : x = 200 := hx.trans h200
  subst hx200
  clear hx HR HNZ HXX h200
  go_enter Try.func29, Try.ntmps29
  go_wp2_with fail
  refine (checkKnown_any _ _ D R j _ ((hd.below (below_alloc _ _)).below (below_alloc _ _)) ((hr.below (below_alloc _ _)).below (below_alloc _ _))).mono ?_
  rw [HX.out]
  rintro e w1 ⟨rfl, hb1⟩
  obtain ⟨hbx, hrs, hb⟩ := two_boxes hb1
  obtain ⟨hx0, hx1, hxf, hxl⟩ := two_cells hbx
  rw [← hb.cell (p := ⟨b, off + j, none⟩) hbs] at h1
  obtain ⟨hy0, hy1, hyf, hyl⟩ := two_cells hrs
  go_wp2
  exact bodyPost_ret (v := .tuple #[.agg #[nilv, nilv], .int .i64 1]) (by simp [results, Try.results29, go_sem, hy0, hy1]) rfl (res2_none ((hb.setCell (by simp) _).setCell (by simp) _))

set_option maxHeartbeats 1000000 in
theorem Share_ok (dv rv : Value) (D : List (List Int)) (R : List Int) (j : Nat) (w : World) (hd : RowsAt w dv D) (hr : IntsAt w rv R) (hm : May D R) (hk : Known R j) (h200 : R.getD j 0 ≠ 200) :
    Calls Try.prog 29 #[.agg #[dv, rv], .int .i64 j] w fun e w' => Res2 w D (R.set j (R.getD j 0 + 1)) 0 e w' := by
  obtain ⟨B, cb, rfl, hlb, hcb⟩ := id hr
  have hkR : j < R.length := hk.2.1 |> fun h => by omega
  have hkD : j < D.length := by have := hm.1; omega
  obtain ⟨b, off, rfl, hbs, hcell⟩ := hcb (by omega)
  have h1 := hcell j hkR
  have hjl : (j : Int) < (R.length : Int) := by omega
  have hjd : (j : Int) < (D.length : Int) := by omega
  have HX : Hid (faultNo D R j = 0) := fault_ok hm hk
  have HR : Hid (0 ≤ R.getD j 0 ∧ R.getD j 0 ≤ 200) := ⟨(hm.2.2 j hkR).1, (hm.2.2 j hkR).2.1⟩
  have HNZ : Hid (R.getD j 0 ≠ 0) := fun h => hk.2.2 (by simpa using h)
  clear hcell hcb hm hk
  obtain ⟨x, hx⟩ : ∃ x, x = R.getD j 0 := ⟨_, rfl⟩
  rw [← hx] at h1
  have HXX : Hid (x = R.getD j 0) := hx
  have hx200 : x ≠ 200 := fun e => h200 (hx.symm.trans e)
  have g1 : (x == 200) = false := by simpa using hx200
  have g2 : x < 200 := by have := HR.out.2; rw [← hx] at this; omega
  clear h200 hx200 HNZ
  rw [← hx]
  clear hx
  go_enter Try.func29, Try.ntmps29
  go_wp2_with fail
  refine (checkKnown_any _ _ D R j _ ((hd.below (below_alloc _ _)).below (below_alloc _ _)) ((hr.below (below_alloc _ _)).below (below_alloc _ _))).mono ?_
  rw [HX.out]
  rintro e w1 ⟨rfl, hb1⟩
  obtain ⟨hbx, hrs, hb⟩ := two_boxes hb1
  obtain ⟨hx0, hx1, hxf, hxl⟩ := two_cells hbx
  rw [← hb.cell (p := ⟨b, off + j, none⟩) hbs] at h1
  go_wp2_with fail
  refine (Copy_any _ _ D R _ (hd.below hb) (hr.below hb)).mono ?_
  rintro e w3 ⟨A, c, B, c', rows, rfl, hof, hb4⟩
  rw [← hb4.block _ (lt_of_block hrs)] at hrs
  rw [← hb4.block _ (lt_of_block hbx)] at hbx
  rw [← hb4.cell (p := ⟨b, off + j, none⟩) (Nat.lt_of_lt_of_le hbs hb.size)] at h1
  obtain ⟨gd, cd, gr, cr, e1, e2, l1, l2, l3, l4, hne, q1, q2, q3, q4⟩ := hof.opened (by omega) (by omega)
  simp only [Value.slice.injEq, true_and] at e1 e2
  obtain ⟨rfl, rfl⟩ := e1
  obtain ⟨rfl, rfl⟩ := e2
  have hq1 := q1 j hkD
  have hq3 := q3 j hkR
  rw [← HXX.out] at hq3
  have hq2 := q2 j
  have hq4 := q4 j
  have hs := hb.size
  have hs1 := hb1.size
  have hs4 := hb4.size
  simp only [World.size_alloc] at hs1
  have n1 : w.heap.size + 1 ≠ gr := by omega
  have n2 : w.heap.size + 1 ≠ gd := by omega
  have n3 : w.heap.size ≠ gr := by omega
  have n4 : w.heap.size ≠ gd := by omega
  have n5 : b ≠ gr := by omega
  have n6 : b ≠ gd := by omega
  have hbs3 : b < w3.heap.size := by omega
  clear hx0 hx1 hxf hxl
  obtain ⟨hx0, hx1, hxf, hxl⟩ := two_cells hbx
  obtain ⟨hy0, hy1, hyf, hyl⟩ := two_cells hrs
  have hyf0 := hyf 0
  have hyf1 := hyf 1
  have HOF : Hid (_) := hof
  have HBB : Hid (Below w.heap.size w w3) := hb.trans (hb4.mono hs)
  have HLW : Hid (w.heap.size ≤ w1.heap.size) := hs
  have HRS : Hid (_) := hrs
  have HBD : Hid (_) := hd.bounds
  have HBR : Hid (_) := hr.bound
  have gl : w.heap.size ≤ gd ∧ w.heap.size ≤ gr := by omega
  have b1 := HR.out.1
  have b2 := HR.out.2
  rw [← HXX.out] at b1 b2
  clear q1 q2 q3 q4 hb1 hb4 hb hbx hs hs1 hs4 hd hr hyf hof l1 l3 hrs hxf HX
  go_wp2
  refine bodyPost_ret (v := .tuple #[.agg #[.slice (some ⟨gd, 0, none⟩) D.length c, .slice (some ⟨gr, 0, none⟩) R.length c'], .int .i64 0]) (by simp [results, Try.results29, go_sem, hy0, hy1, hyl]) rfl ?_
  have hF := OwnF.below (OwnF.store2 (x := nilv) (y := nilv) (b := w.heap.size + 1) (HOF.out.putRef (i := j) (x + 1)) (by rw [Go.Deep.blk_setCell_other _ _ _ _ n1]; exact HRS.out) (by decide) (by decide) (.slice (some ⟨gd, 0, none⟩) D.length c) (.slice (some ⟨gr, 0, none⟩) R.length c')) (below_alloc _ (.cells #[.slice (some ⟨gd, 0, none⟩) D.length c, .slice (some ⟨gr, 0, none⟩) R.length c'] 44))
  obtain ⟨bb1, bb2⟩ := HBD.out
  have hF' := hF.mono HLW.out
  have r1 := hF'.dat.rows_lo bb1 bb2
  have r2 := hF'.ref.low (by simpa using HBR.out)
  have hs := HBB.out.size
  have hBF := ((((HBB.out.setCell (p := ⟨gr, j, none⟩) gl.2 (.int .i64 (x + 1))).setCell (p := ⟨w.heap.size + 1, 0, none⟩) (by simp) (.slice (some ⟨gd, 0, none⟩) D.length c)).setCell (p := ⟨w.heap.size + 1, 1, none⟩) (by simp) (.slice (some ⟨gr, 0, none⟩) R.length c')).alloc (by simp; omega) (.cells #[.slice (some ⟨gd, 0, none⟩) D.length c, .slice (some ⟨gr, 0, none⟩) R.length c'] 44))
  exact ⟨some ⟨gd, 0, none⟩, c, some ⟨gr, 0, none⟩, c', by simp, r1, by rw [List.length_set]; exact r2, hBF⟩

end Go.Proofs.Ytlcdefpdahjjeaf
