/- Contract of frames.Write where several know the frame. -/
import Derived.Test.YtlcdefpdahjjeafWalkW
import Derived.Test.YtlcdefpdahjjeafManyEnd
import Derived.Deep.RegionLaw
namespace Go.Proofs.Ytlcdefpdahjjeaf
open Go.RowKit

set_option maxHeartbeats 400000 in
theorem Write_full (dv rv : Value) (D : List (List Int)) (R : List Int) (j i : Nat) (v : Int) (w : World) (hd : RowsAt w dv D) (hr : IntsAt w rv R) (hm : May D R) (hk : Known R j) (hi : i < 16) (hone : R.getD j 0 ≠ 1) (hn : NoneFree R) :
    Calls Try.prog 28 #[.agg #[dv, rv], .int .i64 j, .int .i64 i, .int .i64 v] w fun e w' => Res3 w [] [] 0 7 e w' := by
  have HX : Hid (faultNo D R j = 0) := fault_ok hm hk
  have HF : Hid (NoneFree R) := hn
  obtain ⟨hjR, hjD, hl⟩ := known_len hm hk
  obtain ⟨B, cb, rfl, hlb, hcb⟩ := id hr
  obtain ⟨b, off, rfl, hbs, hcell⟩ := hcb (by omega)
  have h1 := hcell j hjR
  have hjr : (j : Int) < (R.length : Int) := by omega
  clear hm hk hcell hcb hl hn
  revert h1 hone
  generalize R.getD j 0 = x
  intro hone h1
  have g1 : (x == 1) = false := by simpa using hone
  clear hone
  go_enter Try.func28, Try.ntmps28
  go_wp2_with fail
  refine (checkWord_ok _ _ D R j i _ ((hd.below (below_alloc _ _)).below (below_alloc _ _)) ((hr.below (below_alloc _ _)).below (below_alloc _ _)) HX.out ⟨by omega, by omega⟩).mono ?_
  rintro e w1 ⟨rfl, hb1⟩
  obtain ⟨hbx, hrs, hb⟩ := two_boxes hb1
  obtain ⟨hx0, hx1, hxf, hxl⟩ := two_cells hbx
  rw [← hb.cell (p := ⟨b, off + j, none⟩) hbs] at h1
  go_wp2_with fail
  refine (firstFree_no _ _ R _ (hr.below hb) HF.out).mono ?_
  rintro e w2 ⟨rfl, hb2⟩
  rw [← hb2.block _ (lt_of_block hrs)] at hrs
  have hb3 : Below w.heap.size w w2 := hb.trans (hb2.mono hb.size)
  obtain ⟨hy0, hy1, hyf, hyl⟩ := two_cells hrs
  clear hx0 hx1 hxf hxl
  go_wp2
  exact bodyPost_ret (v := .tuple #[.agg #[nilv, nilv], .int .i64 0, .int .i64 7]) (by simp [results, Try.results28, go_sem, hy0, hy1]) rfl (res3_none ((hb3.setCell (by simp) _).setCell (by simp) _))

theorem copyWords16 (u : Value) (row : List Int) (w : World) (h : IntsAt w u row) (hl : row.length = 16) :
    Calls Try.prog 37 #[u] w fun e w' => ∃ g c, e = .returned (.slice (some ⟨g, 0, none⟩) 16 c) ∧ OwnI w' w.heap.size (.slice (some ⟨g, 0, none⟩) 16 c) row ∧ Below w.heap.size w w' :=
  (copyWords_any u row w h).mono fun e w' ⟨A, c, he, ho, hb⟩ => by
    obtain ⟨g, c2, hv, _⟩ := ho.opened (by omega)
    rw [hv, hl] at he ho
    exact ⟨g, c2, he, ho, hb⟩

set_option maxRecDepth 100000 in
set_option maxHeartbeats 1000000 in
theorem Write_many (dv rv : Value) (D : List (List Int)) (R : List Int) (j i k : Nat) (v : Int) (w : World) (hd : RowsAt w dv D) (hr : IntsAt w rv R) (hm : May D R) (hk : Known R j) (hi : i < 16) (hone : R.getD j 0 ≠ 1) (hf : FirstAt R k) :
    Calls Try.prog 28 #[.agg #[dv, rv], .int .i64 j, .int .i64 i, .int .i64 v] w fun e w' => Res3 w (D.set k ((D.getD j []).set i v)) ((R.set j (R.getD j 0 - 1)).set k 1) k 0 e w' := by
  have HX : Hid (faultNo D R j = 0) := fault_ok hm hk
  have HF : Hid (FirstAt R k) := hf
  obtain ⟨hjR, hjD, hl⟩ := known_len hm hk
  have hkR : k < R.length := hf.1
  have hkD : k < D.length := by have := hm.1; omega
  have hjk : j ≠ k := fun e => hk.2.2 (by rw [e]; simpa using hf.2.1)
  have HB : Hid (0 ≤ R.getD j 0 ∧ R.getD j 0 ≤ 200) := ⟨(hm.2.2 j hjR).1, (hm.2.2 j hjR).2.1⟩
  obtain ⟨B, cb, rfl, hlb, hcb⟩ := id hr
  obtain ⟨b, off, rfl, hbs, hcell⟩ := hcb (by omega)
  have h1 := hcell j hjR
  have HL : Hid ((D.getD j []).length = 16) := hl
  have hjr : (j : Int) < (R.length : Int) := by omega
  have hjd : (j : Int) < (D.length : Int) := by omega
  have hkr : (k : Int) < (R.length : Int) := by omega
  have hkd : (k : Int) < (D.length : Int) := by omega
  have hi' : (i : Int) < 16 := by omega
  clear hm hk hcell hcb hl hf
  obtain ⟨x, hx⟩ : ∃ x, x = R.getD j 0 := ⟨_, rfl⟩
  rw [← hx] at h1 hone ⊢
  have HXX : Hid (x = R.getD j 0) := hx
  have g1 : (x == 1) = false := by simpa using hone
  have b1 := HB.out.1
  have b2 := HB.out.2
  rw [← HXX.out] at b1 b2
  clear hone hx
  go_enter Try.func28, Try.ntmps28
  go_wp2_with fail
  refine (checkWord_ok _ _ D R j i _ ((hd.below (below_alloc _ _)).below (below_alloc _ _)) ((hr.below (below_alloc _ _)).below (below_alloc _ _)) HX.out ⟨by omega, by omega⟩).mono ?_
  rintro e w1 ⟨rfl, hb1⟩
  obtain ⟨hbx, hrs, hb⟩ := two_boxes hb1
  obtain ⟨hx0, hx1, hxf, hxl⟩ := two_cells hbx
  have h1' := h1
  rw [← hb.cell (p := ⟨b, off + j, none⟩) hbs] at h1
  go_wp2_with fail
  refine (firstFree_yes _ _ R k _ (hr.below hb) HF.out).mono ?_
  rintro e w2 ⟨rfl, hb2⟩
  rw [← hb2.block _ (lt_of_block hrs)] at hrs
  rw [← hb2.block _ (lt_of_block hbx)] at hbx
  have hb3 : Below w.heap.size w w2 := hb.trans (hb2.mono hb.size)
  clear hx0 hx1 hxf hxl
  obtain ⟨hx0, hx1, hxf, hxl⟩ := two_cells hbx
  go_wp2_with fail
  refine (Copy_any _ _ D R _ (hd.below hb3) (hr.below hb3)).mono ?_
  rintro e w3 ⟨A, c, B, c', rows, rfl, hof, hb4⟩
  rw [← hb4.block _ (lt_of_block hrs)] at hrs
  rw [← hb4.block _ (lt_of_block hbx)] at hbx
  obtain ⟨gd, cd, gr, cr, e1, e2, l1, l2, l3, l4, hne, q1, q2, q3, q4⟩ := hof.opened (by omega) (by omega)
  simp only [Value.slice.injEq, true_and] at e1 e2
  obtain ⟨rfl, rfl⟩ := e1
  obtain ⟨rfl, rfl⟩ := e2
  have hq3 := q3 j hjR
  rw [← HXX.out] at hq3
  have hq4 := q4 j
  have hq3k := q3 k hkR
  have hq4k := q4 k
  have hs := hb.size
  have hs1 := hb1.size
  have hs2 := hb2.size
  have hs4 := hb4.size
  simp only [World.size_alloc] at hs1
  have HOF : Hid (_) := hof
  have HBB : Hid (Below w.heap.size w w3) := hb3.trans (hb4.mono hb3.size)
  have HRS : Hid (_) := hrs
  have HBX : Hid (_) := hbx
  have HDR : Hid (RowsAt w dv D) := hd
  have HBR : Hid (_) := hr.bound
  have gl : w.heap.size ≤ gd ∧ w.heap.size ≤ gr ∧ w.heap.size + 1 < w3.heap.size ∧ w.heap.size ≤ w2.heap.size := by omega
  clear hx0 hx1 hxf hxl q1 q2 q3 q4 hb1 hb2 hb3 hb4 hb hbx hs hs1 hs2 hs4 hd hr hof l1 l3 hrs HX h1 h1' HF
  go_wp2
  have HM : ManyInv w w3.heap.size dv (.slice (some ⟨b, off, none⟩) R.length cb) D.length R.length gd gr c c' D ((R.set j (x - 1)).set k 1) rows (((w3.setCell ⟨gr, j, none⟩ (.int .i64 (x - 1))).setCell ⟨gr, k, none⟩ (.int .i64 1)).alloc (.cells #[.slice (some ⟨gd, 0, none⟩) D.length c, .slice (some ⟨gr, 0, none⟩) R.length c'] 44)) := by
    have h0 := ((ManyInv.start HOF.out HBB.out HBX.out HRS.out gl.2.2.2).putRef j (x - 1)).putRef k 1
    rwa [World.setCell_alloc_past _ _ _ _ l4, World.setCell_alloc_past _ _ _ _ (by simpa using l4)] at h0
  obtain ⟨W, hW⟩ : ∃ W, W = (((w3.setCell ⟨gr, j, none⟩ (.int .i64 (x - 1))).setCell ⟨gr, k, none⟩ (.int .i64 1)).alloc (.cells #[.slice (some ⟨gd, 0, none⟩) D.length c, .slice (some ⟨gr, 0, none⟩) R.length c'] 44)) := ⟨_, rfl⟩
  rw [← hW] at HM ⊢
  have HMM : Hid (_) := HM
  obtain ⟨row, hrow⟩ : ∃ row, row = D.getD j [] := ⟨_, rfl⟩
  have HROW : Hid (row = D.getD j []) := hrow
  have HL2 : Hid (row.length = 16) := by rw [hrow]; exact HL.out
  obtain ⟨bd, od, cdd, bz, off2, c2, rfl, hbd, p1, hb2, p9⟩ := rowAt HDR.out hjD HL.out
  have p2 : W.cell? ⟨bd, od + j, none⟩ = some (.slice (some ⟨bz, off2, none⟩) 16 c2) := (HM.old.cell (p := ⟨bd, od + j, none⟩) hbd).trans p1
  have HI : Hid (IntsAt W (.slice (some ⟨bz, off2, none⟩) 16 c2) row) := by
    obtain ⟨A', c'', e1, _, hc⟩ := HDR.out.below HM.old
    obtain ⟨b', o', e2, _, hc2⟩ := hc (by omega)
    obtain ⟨u, hu, hI⟩ := hc2 j hjD
    simp only [Value.slice.injEq] at e1
    rw [← e1.1] at e2
    simp only [Option.some.injEq, Addr.mk.injEq, and_true] at e2
    obtain ⟨rfl, rfl⟩ := e2
    rw [p2] at hu
    rw [hrow]
    rw [Option.some.inj hu]
    exact hI
  obtain ⟨f1, f2, f3, f4, f5, f6, f7, f8⟩ := HM.facts
  have r1 := f1 k hkD
  have r2 := f2 k
  obtain ⟨hx0, hx1, hxf, hxl⟩ := two_cells HM.src
  obtain ⟨hy0, hy1, hyf, hyl⟩ := two_cells HM.box
  have hbdW : bd < W.heap.size := Nat.lt_of_lt_of_le hbd HM.old.size
  have hjk' : Hid (j ≠ k) := hjk
  have hi0 : Hid (i < 16) := hi
  have hROWL : Hid (row.length = 16) := HL2.out
  have hi1 : (i : Int) < 16 := hi'
  have gl' : Hid (_) := gl
  clear f1 f2 f3 f4 HM hW hrow p1 hq3 hq4 hq3k hq4k HOF HBB HRS HBX l2 l4 hne hx1 hxf hy1 hyf f6 g1 b1 b2 hbs hb2 hbd hjk gl hlb hi hjr hkr hi' f7 f8 p9
  go_region_law ((go_simp; go_at_call 37; refine (copyWords16 _ row _ (by exact HI.out) HL2.out).mono ?_; rintro e w4 ⟨g3, c3, rfl, hv4, hb4⟩; have hb5 : Below W.heap.size W w4 := ((Below.refl _ W).drew).trans hb4; have HB5 : Hid (_) := hb5; have HV4 : Hid (_) := hv4; have s0 := (hb5.cell (p := ⟨w3.heap.size, 0, none⟩) hyl).trans hy0; have s1 := (hb5.cell (p := ⟨gd, k, none⟩) f5).trans r1; have s2 := (hb5.frozen (p := ⟨gd, k, none⟩) f5).trans r2; clear hb4 hb5 hv4))
  all_goals
    have hHM := many_step HMM.out HB5.out hkD HV4.out
    obtain ⟨W5, hW5⟩ : ∃ W5, W5 = (w4.setCell ⟨gd, k, none⟩ (.slice (some ⟨g3, 0, none⟩) 16 c3)) := ⟨_, rfl⟩
    rw [← hW5] at hHM ⊢
    have HM5 : Hid (_) := hHM
    obtain ⟨z1, z2, ⟨y3, z3⟩, z4, z5, z6, z7, z8⟩ := many_open hHM hkD HL2.out hi0.out
    obtain ⟨hv0, hv1, hvf, hvl⟩ := two_cells hHM.box
    obtain ⟨ht0, ht1, htf, htl⟩ := two_cells hHM.res
    have htf0 := htf 0
    have htf1 := htf 1
    have HZ1 : Hid (_) := z1
    clear z1 z8 hHM hW5 s0 s1 s2 HV4 HB5 hvf htf hxl hx0 hyl hy0 p2 hbdW r1 r2 f5
    go_wp2
    refine bodyPost_ret (v := .tuple #[.agg #[.slice (some ⟨gd, 0, none⟩) D.length c, .slice (some ⟨gr, 0, none⟩) R.length c'], .int .i64 k, .int .i64 0]) (by simp [results, Try.results28, go_sem, ht0, ht1]) rfl ?_
    exact many_end HM5.out hkD HZ1.out hROWL.out HROW.out HDR.out HBR.out _ _

end Go.Proofs.Ytlcdefpdahjjeaf
