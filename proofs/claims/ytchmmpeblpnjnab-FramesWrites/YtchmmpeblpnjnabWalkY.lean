/- Contract of hourglassref.WroteOf. -/
import Derived.Test.YtchmmpeblpnjnabWalkQ
import Derived.Test.YtchmmpeblpnjnabWalkJ
import Derived.Test.YtchmmpeblpnjnabManyEnd
import Derived.Deep.RegionLaw
namespace Go.Proofs.Ytchmmpeblpnjnab
open Go.RowKit

theorem ManyInv.drew {w W : World} {q : Nat} {dA rB : Value} {nD nR gd gr c c' : Nat} {D : List (List Int)} {R : List Int} {rows : List Value} (h : ManyInv w q dA rB nD nR gd gr c c' D R rows W) : ManyInv w q dA rB nD nR gd gr c c' D R rows W.drew := h.below ((Below.refl _ W).drew)

set_option maxHeartbeats 400000 in
theorem WroteOf_fault (dv rv : Value) (D : List (List Int)) (R : List Int) (n a v : Int) (w : World) (hd : RowsAt w dv D) (hr : IntsAt w rv R) (hf : faultNo D R n ≠ 0) :
    Calls Try.prog 12 #[.agg #[dv, rv], .int .i64 n, .int .i64 a, .int .i64 v] w fun e w' => Res3 w [] [] 0 (faultNo D R n) e w' := by
  obtain ⟨x, hx⟩ : ∃ x, x = faultNo D R n := ⟨_, rfl⟩
  rw [← hx] at hf ⊢
  have HX : Hid (faultNo D R n = x) := hx.symm
  have g1 : (x != 0) = true := by simpa using hf
  have g2 : (x == 0) = false := by simpa using hf
  clear hx hf
  go_enter Try.func12, Try.ntmps12
  go_wp2_with fail
  refine (knownFault_any dv rv D R n _ ((hd.below (below_alloc _ _)).below (below_alloc _ _)) ((hr.below (below_alloc _ _)).below (below_alloc _ _))).mono ?_
  rw [HX.out]
  rintro e w1 ⟨rfl, hb1⟩
  obtain ⟨hbx, hrs, hb⟩ := two_boxes hb1
  obtain ⟨hx0, hx1, hxf, hxl⟩ := two_cells hrs
  go_wp2
  exact bodyPost_ret (v := .tuple #[.agg #[nilv, nilv], .int .i64 0, .int .i64 x]) (by simp [results, Try.results12, go_sem, hx0, hx1]) rfl (res3_none ((hb.setCell (by simp) _).setCell (by simp) _))

set_option maxHeartbeats 400000 in
theorem WroteOf_range (dv rv : Value) (D : List (List Int)) (R : List Int) (n a v : Int) (w : World) (hd : RowsAt w dv D) (hr : IntsAt w rv R) (hf : faultNo D R n = 0) (ha : ¬ (0 ≤ a ∧ a ≤ 15)) :
    Calls Try.prog 12 #[.agg #[dv, rv], .int .i64 n, .int .i64 a, .int .i64 v] w fun e w' => Res3 w [] [] 0 2 e w' := by
  have HX : Hid (faultNo D R n = 0) := hf
  have gi : inB a 0 15 = false := inB_no ha
  clear hf ha
  go_enter Try.func12, Try.ntmps12
  go_wp2_with fail
  refine (knownFault_any dv rv D R n _ ((hd.below (below_alloc _ _)).below (below_alloc _ _)) ((hr.below (below_alloc _ _)).below (below_alloc _ _))).mono ?_
  rw [HX.out]
  rintro e w1 ⟨rfl, hb1⟩
  obtain ⟨hbx, hrs, hb⟩ := two_boxes hb1
  obtain ⟨hx0, hx1, hxf, hxl⟩ := two_cells hrs
  go_wp2_with (go_at_call 24; refine (In_B _ _ _ _).mono ?_; rintro e w' ⟨rfl, rfl⟩)
  exact bodyPost_ret (v := .tuple #[.agg #[nilv, nilv], .int .i64 0, .int .i64 2]) (by simp [results, Try.results12, go_sem, hx0, hx1]) rfl (res3_none ((hb.setCell (by simp) _).setCell (by simp) _))

set_option maxHeartbeats 1000000 in
theorem WroteOf_one (dv rv : Value) (D : List (List Int)) (R : List Int) (j i : Nat) (v : Int) (w : World) (hd : RowsAt w dv D) (hr : IntsAt w rv R) (hm : May D R) (hk : Known R j) (hi : i < 16) (hone : R.getD j 0 = 1) :
    Calls Try.prog 12 #[.agg #[dv, rv], .int .i64 j, .int .i64 i, .int .i64 v] w fun e w' => Res3 w (D.set j ((D.getD j []).set i v)) R j 0 e w' := by
  have HX : Hid (faultNo D R j = 0) := fault_ok hm hk
  obtain ⟨hjR, hjD, hl⟩ := known_len hm hk
  obtain ⟨B, cb, rfl, hlb, hcb⟩ := id hr
  obtain ⟨b, off, rfl, hbs, hcell⟩ := hcb (by omega)
  have h1 := hcell j hjR
  have HB : Hid (0 ≤ R.getD j 0 ∧ R.getD j 0 ≤ 200 ∧ R.getD j 0 ≠ 0) := ⟨(hm.2.2 j hjR).1, (hm.2.2 j hjR).2.1, fun h => hk.2.2 (by simpa using h)⟩
  have HL : Hid ((D.getD j []).length = 16) := hl
  have hjr : (j : Int) < (R.length : Int) := by omega
  have hjd : (j : Int) < (D.length : Int) := by omega
  have hi1 : (i : Int) < 16 := by omega
  have gi : inB (i : Int) 0 15 = true := inB_yes (by omega) (by omega)
  rw [hone] at h1
  clear hm hk hcell hcb hone hl
  go_enter Try.func12, Try.ntmps12
  go_wp2_with fail
  refine (knownFault_any _ _ D R j _ ((hd.below (below_alloc _ _)).below (below_alloc _ _)) ((hr.below (below_alloc _ _)).below (below_alloc _ _))).mono ?_
  rw [HX.out]
  rintro e w1 ⟨rfl, hb1⟩
  obtain ⟨hbx, hrs, hb⟩ := two_boxes hb1
  obtain ⟨hx0, hx1, hxf, hxl⟩ := two_cells hbx
  go_wp2_with (go_at_call 24; refine (In_B _ _ _ _).mono ?_; rintro e w' ⟨rfl, rfl⟩)
  refine (FramesCopy_any _ _ D R _ (hd.below hb) (hr.below hb)).mono ?_
  rintro e w3 ⟨A, c, B, c', rows, rfl, hof, hb4⟩
  rw [← hb4.block _ (lt_of_block hrs)] at hrs
  rw [← hb4.block _ (lt_of_block hbx)] at hbx
  obtain ⟨gd, cd, gr, cr, e1, e2, l1, l2, l3, l4, hne, q1, q2, q3, q4⟩ := hof.opened (by omega) (by omega)
  simp only [Value.slice.injEq, true_and] at e1 e2
  obtain ⟨rfl, rfl⟩ := e1
  obtain ⟨rfl, rfl⟩ := e2
  have hbb : Below w.heap.size w w3 := hb.trans (hb4.mono hb.size)
  have HM0 : Hid (_) := ManyInv.start hof hbb hbx hrs hb.size
  rw [← hbb.cell (p := ⟨b, off + j, none⟩) hbs] at h1
  clear hx0 hx1 hxf hxl
  obtain ⟨hx0, hx1, hxf, hxl⟩ := two_cells hbx
  have hbs3 : b < w3.heap.size := Nat.lt_of_lt_of_le hbs hbb.size
  have HDR : Hid (RowsAt w dv D) := hd
  have HRR : Hid (IntsAt w (.slice (some ⟨b, off, none⟩) R.length cb) R) := hr
  have hq1 := q1 j hjD
  obtain ⟨gu, cu, hu, l5, l6, q5, q6⟩ := (hof.dat.each j hjD).opened (by rw [HL.out]; decide)
  have HU : Hid (rows.getD j nilv = .slice (some ⟨gu, 0, none⟩) 16 cu) := by rw [← HL.out]; exact hu
  rw [HU.out] at hq1
  have hq5 := q5 i (by rw [HL.out]; exact hi)
  have hq6 := q6 i
  have hs := hb.size
  have hs1 := hb1.size
  have hs4 := hb4.size
  simp only [World.size_alloc] at hs1
  have n1 : w.heap.size + 1 ≠ gu := by omega
  obtain ⟨hy0, hy1, hyf, hyl⟩ := two_cells hrs
  have hyf0 := hyf 0
  have hyf1 := hyf 1
  have HOF : Hid (_) := hof
  have HBB : Hid (Below w.heap.size w w3) := hbb
  have HRS : Hid (_) := hrs
  have gl : w.heap.size ≤ gu := by omega
  clear q1 q2 q3 q4 q5 q6 hb1 hb4 hb hbx hs hs1 hs4 hd hr hyf hof l1 l3 l5 hrs HX hu hbb HM0 hxf
  go_wp2
  refine bodyPost_ret (v := .tuple #[.agg #[.slice (some ⟨gd, 0, none⟩) D.length c, .slice (some ⟨gr, 0, none⟩) R.length c'], .int .i64 j, .int .i64 0]) (by simp [results, Try.results12, go_sem, hy0, hy1, hyl]) rfl ?_
  have hF := OwnF.below (OwnF.store2 (x := nilv) (y := nilv) (b := w.heap.size + 1) (HOF.out.putWord (k := i) hjD HU.out v) (by rw [Go.Deep.blk_setCell_other _ _ _ _ n1]; exact HRS.out) (by decide) (by decide) (.slice (some ⟨gd, 0, none⟩) D.length c) (.slice (some ⟨gr, 0, none⟩) R.length c')) (below_alloc _ (.cells #[.slice (some ⟨gd, 0, none⟩) D.length c, .slice (some ⟨gr, 0, none⟩) R.length c'] 25))
  obtain ⟨bb1, bb2⟩ := set_bounds (l := (D.getD j []).set i v) HDR.out.bounds.1 HDR.out.bounds.2 hjD (by rw [List.length_set, HL.out]; decide)
  have r1 := hF.dat.rows_at bb1 bb2
  have r2 := hF.ref.at HRR.out.bound
  have hs := HBB.out.size
  have hBF := (((HBB.out.setCell (p := ⟨gu, i, none⟩) gl (.int .i64 v)).setCell (p := ⟨w.heap.size + 1, 0, none⟩) (by simp) (.slice (some ⟨gd, 0, none⟩) D.length c)).setCell (p := ⟨w.heap.size + 1, 1, none⟩) (by simp) (.slice (some ⟨gr, 0, none⟩) R.length c')).alloc (by simp; omega) (.cells #[.slice (some ⟨gd, 0, none⟩) D.length c, .slice (some ⟨gr, 0, none⟩) R.length c'] 25)
  exact ⟨some ⟨gd, 0, none⟩, c, some ⟨gr, 0, none⟩, c', by simp, by rw [List.length_set]; exact r1, r2, hBF⟩

set_option maxHeartbeats 1000000 in
theorem WroteOf_full (dv rv : Value) (D : List (List Int)) (R : List Int) (j i : Nat) (v : Int) (w : World) (hd : RowsAt w dv D) (hr : IntsAt w rv R) (hm : May D R) (hk : Known R j) (hi : i < 16) (hone : R.getD j 0 ≠ 1) (hn : NoneFree R) :
    Calls Try.prog 12 #[.agg #[dv, rv], .int .i64 j, .int .i64 i, .int .i64 v] w fun e w' => Res3 w [] [] 0 7 e w' := by
  have HF : Hid (NoneFree R) := hn
  have HX : Hid (faultNo D R j = 0) := fault_ok hm hk
  obtain ⟨hjR, hjD, hl⟩ := known_len hm hk
  obtain ⟨B, cb, rfl, hlb, hcb⟩ := id hr
  obtain ⟨b, off, rfl, hbs, hcell⟩ := hcb (by omega)
  have h1 := hcell j hjR
  have HB : Hid (0 ≤ R.getD j 0 ∧ R.getD j 0 ≤ 200 ∧ R.getD j 0 ≠ 0) := ⟨(hm.2.2 j hjR).1, (hm.2.2 j hjR).2.1, fun h => hk.2.2 (by simpa using h)⟩
  have HL : Hid ((D.getD j []).length = 16) := hl
  have hjr : (j : Int) < (R.length : Int) := by omega
  have hjd : (j : Int) < (D.length : Int) := by omega
  have hi1 : (i : Int) < 16 := by omega
  have gi : inB (i : Int) 0 15 = true := inB_yes (by omega) (by omega)
  obtain ⟨x, hx⟩ : ∃ x, x = R.getD j 0 := ⟨_, rfl⟩
  have HXX : Hid (x = R.getD j 0) := hx
  have g3 : 1 < x := by have := HB.out; rw [← hx] at this hone; omega
  have g4 : x ≤ 200 := by have := HB.out; rw [← hx] at this; omega
  rw [← hx] at h1
  clear hm hk hcell hcb hone hl hn hx
  go_enter Try.func12, Try.ntmps12
  go_wp2_with fail
  refine (knownFault_any _ _ D R j _ ((hd.below (below_alloc _ _)).below (below_alloc _ _)) ((hr.below (below_alloc _ _)).below (below_alloc _ _))).mono ?_
  rw [HX.out]
  rintro e w1 ⟨rfl, hb1⟩
  obtain ⟨hbx, hrs, hb⟩ := two_boxes hb1
  obtain ⟨hx0, hx1, hxf, hxl⟩ := two_cells hbx
  go_wp2_with (go_at_call 24; refine (In_B _ _ _ _).mono ?_; rintro e w' ⟨rfl, rfl⟩)
  refine (FramesCopy_any _ _ D R _ (hd.below hb) (hr.below hb)).mono ?_
  rintro e w3 ⟨A, c, B, c', rows, rfl, hof, hb4⟩
  rw [← hb4.block _ (lt_of_block hrs)] at hrs
  rw [← hb4.block _ (lt_of_block hbx)] at hbx
  obtain ⟨gd, cd, gr, cr, e1, e2, l1, l2, l3, l4, hne, q1, q2, q3, q4⟩ := hof.opened (by omega) (by omega)
  simp only [Value.slice.injEq, true_and] at e1 e2
  obtain ⟨rfl, rfl⟩ := e1
  obtain ⟨rfl, rfl⟩ := e2
  have hbb : Below w.heap.size w w3 := hb.trans (hb4.mono hb.size)
  have HM0 : Hid (_) := ManyInv.start hof hbb hbx hrs hb.size
  rw [← hbb.cell (p := ⟨b, off + j, none⟩) hbs] at h1
  clear hx0 hx1 hxf hxl
  obtain ⟨hx0, hx1, hxf, hxl⟩ := two_cells hbx
  have hbs3 : b < w3.heap.size := Nat.lt_of_lt_of_le hbs hbb.size
  have HDR : Hid (RowsAt w dv D) := hd
  have HRR : Hid (IntsAt w (.slice (some ⟨b, off, none⟩) R.length cb) R) := hr
  have HMM := HM0.out
  clear hrs hbx hof hb4 hb1 hb q1 q2 q3 q4 l1 l3 hd hr HX HM0
  go_wp2_with fail
  refine (firstRef_no _ _ R _ (HRR.out.below HMM.old) HF.out).mono ?_
  rintro e w5 ⟨rfl, hb5⟩
  have HM5 := HMM.below hb5
  obtain ⟨hy0, hy1, hyf, hyl⟩ := two_cells HM5.res
  have HM6 : Hid (_) := HM5
  clear hx0 hx1 hxf hxl HMM HM5 hb5 hbb h1
  go_wp2
  exact bodyPost_ret (v := .tuple #[.agg #[nilv, nilv], .int .i64 0, .int .i64 7]) (by simp [results, Try.results12, go_sem, hy0, hy1]) rfl (res3_none ((HM6.out.old.setCell (by simp) _).setCell (by simp) _))

theorem words16 (u : Value) (row : List Int) (w : World) (h : IntsAt w u row) (hl : row.length = 16) :
    Calls Try.prog 25 #[u] w fun e w' => ∃ g c, e = .returned (.slice (some ⟨g, 0, none⟩) 16 c) ∧ OwnI w' w.heap.size (.slice (some ⟨g, 0, none⟩) 16 c) row ∧ Below w.heap.size w w' :=
  (words_any u row w h).mono fun e w' ⟨A, c, he, ho, hb⟩ => by
    obtain ⟨g, c2, hv, _⟩ := ho.opened (by omega)
    rw [hv, hl] at he ho
    exact ⟨g, c2, he, ho, hb⟩

set_option maxRecDepth 100000 in
set_option maxHeartbeats 2000000 in
theorem WroteOf_many (dv rv : Value) (D : List (List Int)) (R : List Int) (j i k : Nat) (v : Int) (w : World) (hd : RowsAt w dv D) (hr : IntsAt w rv R) (hm : May D R) (hk : Known R j) (hi : i < 16) (hone : R.getD j 0 ≠ 1) (hf : FirstAt R k) :
    Calls Try.prog 12 #[.agg #[dv, rv], .int .i64 j, .int .i64 i, .int .i64 v] w fun e w' => Res3 w (D.set k ((D.getD j []).set i v)) ((R.set j (R.getD j 0 - 1)).set k 1) k 0 e w' := by
  have HF : Hid (FirstAt R k) := hf
  have hkR : k < R.length := hf.1
  have hkD : k < D.length := by have := hm.1; omega
  have hjk : j ≠ k := fun e => hk.2.2 (by rw [e]; simpa using hf.2.1)
  have hkr : (k : Int) < (R.length : Int) := by omega
  have hkd : (k : Int) < (D.length : Int) := by omega
  have HX : Hid (faultNo D R j = 0) := fault_ok hm hk
  obtain ⟨hjR, hjD, hl⟩ := known_len hm hk
  obtain ⟨B, cb, rfl, hlb, hcb⟩ := id hr
  obtain ⟨b, off, rfl, hbs, hcell⟩ := hcb (by omega)
  have h1 := hcell j hjR
  have HB : Hid (0 ≤ R.getD j 0 ∧ R.getD j 0 ≤ 200 ∧ R.getD j 0 ≠ 0) := ⟨(hm.2.2 j hjR).1, (hm.2.2 j hjR).2.1, fun h => hk.2.2 (by simpa using h)⟩
  have HL : Hid ((D.getD j []).length = 16) := hl
  have hjr : (j : Int) < (R.length : Int) := by omega
  have hjd : (j : Int) < (D.length : Int) := by omega
  have hi1 : (i : Int) < 16 := by omega
  have gi : inB (i : Int) 0 15 = true := inB_yes (by omega) (by omega)
  obtain ⟨x, hx⟩ : ∃ x, x = R.getD j 0 := ⟨_, rfl⟩
  have HXX : Hid (x = R.getD j 0) := hx
  have g3 : 1 < x := by have := HB.out; rw [← hx] at this hone; omega
  have g4 : x ≤ 200 := by have := HB.out; rw [← hx] at this; omega
  rw [← hx] at h1
  rw [← hx]
  clear hm hk hcell hcb hone hl hf hx
  go_enter Try.func12, Try.ntmps12
  go_wp2_with fail
  refine (knownFault_any _ _ D R j _ ((hd.below (below_alloc _ _)).below (below_alloc _ _)) ((hr.below (below_alloc _ _)).below (below_alloc _ _))).mono ?_
  rw [HX.out]
  rintro e w1 ⟨rfl, hb1⟩
  obtain ⟨hbx, hrs, hb⟩ := two_boxes hb1
  obtain ⟨hx0, hx1, hxf, hxl⟩ := two_cells hbx
  go_wp2_with (go_at_call 24; refine (In_B _ _ _ _).mono ?_; rintro e w' ⟨rfl, rfl⟩)
  refine (FramesCopy_any _ _ D R _ (hd.below hb) (hr.below hb)).mono ?_
  rintro e w3 ⟨A, c, B, c', rows, rfl, hof, hb4⟩
  rw [← hb4.block _ (lt_of_block hrs)] at hrs
  rw [← hb4.block _ (lt_of_block hbx)] at hbx
  obtain ⟨gd, cd, gr, cr, e1, e2, l1, l2, l3, l4, hne, q1, q2, q3, q4⟩ := hof.opened (by omega) (by omega)
  simp only [Value.slice.injEq, true_and] at e1 e2
  obtain ⟨rfl, rfl⟩ := e1
  obtain ⟨rfl, rfl⟩ := e2
  have hbb : Below w.heap.size w w3 := hb.trans (hb4.mono hb.size)
  have HM0 : Hid (_) := ManyInv.start hof hbb hbx hrs hb.size
  rw [← hbb.cell (p := ⟨b, off + j, none⟩) hbs] at h1
  clear hx0 hx1 hxf hxl
  obtain ⟨hx0, hx1, hxf, hxl⟩ := two_cells hbx
  have hbs3 : b < w3.heap.size := Nat.lt_of_lt_of_le hbs hbb.size
  have HDR : Hid (RowsAt w dv D) := hd
  have HRR : Hid (IntsAt w (.slice (some ⟨b, off, none⟩) R.length cb) R) := hr
  have HMM := HM0.out
  clear hrs hbx hof hb4 hb1 hb q1 q2 q3 q4 l1 l3 hd hr HX HM0
  go_wp2_with fail
  refine (firstRef_yes _ _ R k _ (HRR.out.below HMM.old) HF.out).mono ?_
  rintro e w5 ⟨rfl, hb5⟩
  have HM5 := HMM.below hb5
  rw [← (below_alloc w3 (.cells #[.slice (some ⟨gd, 0, none⟩) D.length c, .slice (some ⟨gr, 0, none⟩) R.length c'] 25)).cell (p := ⟨b, off + j, none⟩) hbs3] at h1
  rw [← hb5.cell (p := ⟨b, off + j, none⟩) (by simp; omega)] at h1
  have hbs5 : b < w5.heap.size := Nat.lt_of_lt_of_le hbs HM5.old.size
  clear hx0 hx1 hxf hxl
  obtain ⟨hx0, hx1, hxf, hxl⟩ := two_cells HM5.src
  obtain ⟨hy0, hy1, hyf, hyl⟩ := two_cells HM5.box
  obtain ⟨f1, f2, f3, f4, f5, f6, f7, f8⟩ := HM5.facts
  have r3 := f3 j hjR
  have r4 := f4 j
  have r3k := f3 k hkR
  have r4k := f4 k
  obtain ⟨m1, m2, m3, m4, m5, m6, m7⟩ := HM5.apart
  have n5 : b ≠ gr := by have := HM5.lo.2.1; omega
  have HM6 : Hid (_) := HM5
  clear HMM HM5 hb5 f1 f2 f3 f4 f7 f8 hbs3 hbb hxf hyf l2 l4 hne
  go_wp2
  go_region
  all_goals go_wp2
  have HM : ManyInv w w3.heap.size dv (.slice (some ⟨b, off, none⟩) R.length cb) D.length R.length gd gr c c' D ((R.set j (x - 1)).set k 1) rows ((w5.setCell ⟨gr, j, none⟩ (.int .i64 (x - 1))).setCell ⟨gr, k, none⟩ (.int .i64 1)).drew := ((HM6.out.putRef j (x - 1)).putRef k 1).drew
  obtain ⟨W, hW⟩ : ∃ W, W = ((w5.setCell ⟨gr, j, none⟩ (.int .i64 (x - 1))).setCell ⟨gr, k, none⟩ (.int .i64 1)).drew := ⟨_, rfl⟩
  rw [← hW] at HM ⊢
  have HMM : Hid (_) := HM
  obtain ⟨row, hrow⟩ : ∃ row, row = D.getD j [] := ⟨_, rfl⟩
  have HROW : Hid (row = D.getD j []) := hrow
  have HL2 : Hid (row.length = 16) := by rw [hrow]; exact HL.out
  obtain ⟨bd, od, cdd, bz, off2, c2, rfl, hbd, p1, hb2, p9⟩ := rowAt HDR.out hjD HL.out
  have p2 : W.cell? ⟨bd, od + j, none⟩ = some (.slice (some ⟨bz, off2, none⟩) 16 c2) := (HM.old.cell (p := ⟨bd, od + j, none⟩) hbd).trans p1
  have HI : Hid (IntsAt W (.slice (some ⟨bz, off2, none⟩) 16 c2) row) := by
    obtain ⟨A', c'', e1, _, hc⟩ := HDR.out.below HM.old
    obtain ⟨b', o', e2, _, hc2⟩ := hc (by omega)
    obtain ⟨u, hu, hI⟩ := hc2 j hjD
    simp only [Value.slice.injEq] at e1
    rw [← e1.1] at e2
    simp only [Option.some.injEq, Addr.mk.injEq, and_true] at e2
    obtain ⟨rfl, rfl⟩ := e2
    rw [p2] at hu
    rw [hrow]
    rw [Option.some.inj hu]
    exact hI
  have HBR : Hid (_) := HRR.out.bound
  clear r3 r4 r3k r4k f5 f6 hx0 hx1 hxl hy0 hy1 hyl
  obtain ⟨f1, f2, f3, f4, f5, f6, f7, f8⟩ := HM.facts
  have r1 := f1 k hkD
  have r2 := f2 k
  obtain ⟨hx0, hx1, hxf, hxl⟩ := two_cells HM.src
  obtain ⟨hy0, hy1, hyf, hyl⟩ := two_cells HM.box
  have hbdW : bd < W.heap.size := Nat.lt_of_lt_of_le hbd HM.old.size
  have hi0 : Hid (i < 16) := hi
  have hROWL : Hid (row.length = 16) := HL2.out
  clear f1 f2 f3 f4 HM hW hrow p1 hx1 hxf hy1 hyf f6 hbs hb2 hbd hjk hlb hi hjr hkr f7 f8 p9 m1 m2 m3 m4 m5 m6 m7 n5 hbs5 h1 g3 g4 gi HM6 HF
  go_region_law ((go_simp; go_at_call 25; refine (words16 _ row _ (by exact HI.out) HL2.out).mono ?_; rintro e w4 ⟨g3, c3, rfl, hv4, hb4⟩; have hb5 : Below W.heap.size W w4 := ((Below.refl _ W).drew).trans hb4; have HB5 : Hid (_) := hb5; have HV4 : Hid (_) := hv4; have s0 := (hb5.cell (p := ⟨w3.heap.size, 0, none⟩) hyl).trans hy0; have s1 := (hb5.cell (p := ⟨gd, k, none⟩) f5).trans r1; have s2 := (hb5.frozen (p := ⟨gd, k, none⟩) f5).trans r2; clear hb4 hb5 hv4))
  all_goals
    have hHM := many_step HMM.out HB5.out hkD HV4.out
    obtain ⟨W5, hW5⟩ : ∃ W5, W5 = (w4.setCell ⟨gd, k, none⟩ (.slice (some ⟨g3, 0, none⟩) 16 c3)) := ⟨_, rfl⟩
    rw [← hW5] at hHM ⊢
    have HM5 : Hid (_) := hHM
    obtain ⟨z1, z2, ⟨y3, z3⟩, z4, z5, z6, z7, z8⟩ := many_open hHM hkD HL2.out hi0.out
    obtain ⟨hv0, hv1, hvf, hvl⟩ := two_cells hHM.box
    obtain ⟨ht0, ht1, htf, htl⟩ := two_cells hHM.res
    have htf0 := htf 0
    have htf1 := htf 1
    have HZ1 : Hid (_) := z1
    clear z1 z8 hHM hW5 s0 s1 s2 HV4 HB5 hvf htf hxl hx0 hyl hy0 p2 hbdW r1 r2 f5
    go_wp2
    refine bodyPost_ret (v := .tuple #[.agg #[.slice (some ⟨gd, 0, none⟩) D.length c, .slice (some ⟨gr, 0, none⟩) R.length c'], .int .i64 k, .int .i64 0]) (by simp [results, Try.results12, go_sem, ht0, ht1]) rfl ?_
    exact many_end HM5.out hkD HZ1.out hROWL.out HROW.out HDR.out HBR.out _ _

end Go.Proofs.Ytchmmpeblpnjnab
