/- Contract of cpu.Step. -/
import Derived.Test.YtlcdefpdahjjeaeStepC
import Derived.Test.YtlcdefpdahjjeaeStepA
namespace Go.Proofs.Ytlcdefpdahjjeae
open Go.RowKit
set_option linter.unusedVariables false

theorem AtP.of_own {w : World} {lo b : Nat} {rv mv ov : Value} {m : Mach} (h1 : w.heap[b]? = some (.cells (m.cells rv mv ov) 27 (0, 0))) (h2 : OwnM w lo rv mv ov m) (h3 : lo ≤ b) : AtP w lo b rv mv ov m := ⟨h1, h2, h3⟩

/-- The struct for the answer, and the guest of the call's own behind it. -/
theorem step_boxes {w W w1 w2 : World} {o : Obj} (hr : W.heap[w.heap.size + 1]? = some o) (hb0 : Below w.heap.size w W) (h1 : Below W.heap.size W w1) (h2 : Below w1.heap.size w1 w2) : w2.heap[w.heap.size + 1]? = some o ∧ Below w.heap.size w w2 := by
  obtain ⟨a, b⟩ := box_below hr hb0 h1
  exact box_below a b h2

set_option maxHeartbeats 4000000 in
/-- A step that is refused. -/
theorem Step_no (m : Mach) (rv mv ov : Value) (irq : Bool) (B : Option Addr) (cb : Nat) (blk : List Int) (value : Int) (w : World) (ha : MachAt w rv mv ov m) (hb : IntsAt w (.slice B blk.length cb) blk) (hno : stepNo m blk value ≠ 0) :
    Calls Try.prog 8 #[.agg (m.cells rv mv ov), .bool irq, .slice B blk.length cb, .int .i64 value] w fun e w' => e = .returned (.tuple #[.agg zeroM, .int .i64 0, .int .i64 (stepNo m blk value)]) ∧ Below w.heap.size w w' := by
  obtain ⟨b0, b1, b2⟩ := two_boxes (Below.refl (((w.alloc (.cells (m.cells rv mv ov) 27)).alloc (.cells zeroM 27)).heap.size) ((w.alloc (.cells (m.cells rv mv ov) 27)).alloc (.cells zeroM 27)))
  have hcs := checkStep_any m rv mv ov B cb blk value ((w.alloc (.cells (m.cells rv mv ov) 27)).alloc (.cells zeroM 27)) (ha.below b2) (hb.below b2)
  obtain ⟨W, hW⟩ : ∃ W, W = (w.alloc (.cells (m.cells rv mv ov) 27)).alloc (.cells zeroM 27) := ⟨_, rfl⟩
  rw [← hW] at b0 b1 b2 hcs
  have HW : Hid (W = (w.alloc (.cells (m.cells rv mv ov) 27)).alloc (.cells zeroM 27)) := hW
  have HX : Hid (W.heap[w.heap.size + 1]? = some (.cells zeroM 27 (0, 0)) ∧ Below w.heap.size w W) := ⟨b1, b2⟩
  obtain ⟨A1, c1, A2, c2, A3, c3, rfl, rfl, rfl⟩ := ha.shape
  obtain ⟨N, eN⟩ : ∃ N, N = stepNo m blk value := ⟨_, rfl⟩
  rw [← eN] at hcs hno ⊢
  have d0 : (N != 0) = true := by simpa using hno
  have HC : Hid (Calls Try.prog 15 #[.agg (m.cells (.slice A1 m.regs.length c1) (.slice A2 m.mem.length c2) (.slice A3 m.out.length c3)), .slice B blk.length cb, .int .i64 value] W fun e w' => e = .returned (.int .i64 N) ∧ Below W.heap.size W w') := hcs
  clear hb ha b0 b1 b2 hcs hW hno eN
  simp only [Mach.cells] at *
  go_enter Try.func8, Try.ntmps8
  go_wp2_with fail
  rw [← HW.out]
  refine HC.out.mono ?_
  rintro e w1 ⟨rfl, hb1⟩
  obtain ⟨hy, hbb⟩ := box_below HX.out.1 HX.out.2 hb1
  obtain ⟨⟨y0, y1, y2, y3, y4, y5, y6, y7, y8, y9, y10, y11⟩, yf, yl⟩ := twelve_cells hy
  have HBB : Hid (Below w.heap.size w w1) := hbb
  clear hy hbb hb1 HC HX HW
  go_wp2_with fail
  refine bodyPost_ret (v := .tuple #[.agg zeroM, .int .i64 0, .int .i64 N]) (by simp [results, Try.results8, go_sem, y0, y1, y2, y3, y4, y5, y6, y7, y8, y9, y10, y11]) rfl ?_
  exact ⟨rfl, below_set12 HBB.out (by omega) _ _ _ _ _ _ _ _ _ _ _ _⟩

set_option maxHeartbeats 4000000 in
/-- A step of a guest that may be. -/
theorem Step_ok (m : Mach) (rv mv ov : Value) (irq : Bool) (B : Option Addr) (cb : Nat) (blk : List Int) (value : Int) (w : World) (ha : MachAt w rv mv ov m) (hb : IntsAt w (.slice B blk.length cb) blk) (hm : MayP m) (hab : allB blk = true) (hl : blk.length = 0 ∨ blk.length = 16) (hct : m.count < 1099511627776) (hno : stepNo m blk value = 0) :
    Calls Try.prog 8 #[.agg (m.cells rv mv ov), .bool irq, .slice B blk.length cb, .int .i64 value] w fun e w' => ∃ rv' mv' ov', e = .returned (.tuple #[.agg ((m.step irq blk value).1.cells rv' mv' ov'), .int .i64 (m.step irq blk value).2, .int .i64 0]) ∧ OwnM w' w.heap.size rv' mv' ov' (m.step irq blk value).1 ∧ Below w.heap.size w w' := by
  obtain ⟨b0, b1, b2⟩ := two_boxes (Below.refl (((w.alloc (.cells (m.cells rv mv ov) 27)).alloc (.cells zeroM 27)).heap.size) ((w.alloc (.cells (m.cells rv mv ov) 27)).alloc (.cells zeroM 27)))
  have hcs := checkStep_any m rv mv ov B cb blk value ((w.alloc (.cells (m.cells rv mv ov) 27)).alloc (.cells zeroM 27)) (ha.below b2) (hb.below b2)
  obtain ⟨W, hW⟩ : ∃ W, W = (w.alloc (.cells (m.cells rv mv ov) 27)).alloc (.cells zeroM 27) := ⟨_, rfl⟩
  rw [← hW] at b0 b1 b2 hcs
  have HW : Hid (W = (w.alloc (.cells (m.cells rv mv ov) 27)).alloc (.cells zeroM 27)) := hW
  have HX : Hid (W.heap[w.heap.size]? = some (.cells (m.cells rv mv ov) 27 (0, 0)) ∧ W.heap[w.heap.size + 1]? = some (.cells zeroM 27 (0, 0)) ∧ Below w.heap.size w W) := ⟨b0, b1, b2⟩
  rw [hno] at hcs
  have HA : Hid (∀ w', Below w.heap.size w w' → MachAt w' rv mv ov m ∧ IntsAt w' (.slice B blk.length cb) blk) := fun w' hb' => ⟨ha.below hb', hb.below hb'⟩
  have HM : Hid (MayP m ∧ allB blk = true ∧ (blk.length = 0 ∨ blk.length = 16) ∧ m.count < 1099511627776) := ⟨hm, hab, hl, hct⟩
  obtain ⟨A1, c1, A2, c2, A3, c3, rfl, rfl, rfl⟩ := ha.shape
  have HC : Hid (Calls Try.prog 15 #[.agg (m.cells (.slice A1 m.regs.length c1) (.slice A2 m.mem.length c2) (.slice A3 m.out.length c3)), .slice B blk.length cb, .int .i64 value] W fun e w' => e = .returned (.int .i64 0) ∧ Below W.heap.size W w') := hcs
  have HCP : Hid (∀ w', Below w.heap.size w w' → Calls Try.prog 16 #[.agg (m.cells (.slice A1 m.regs.length c1) (.slice A2 m.mem.length c2) (.slice A3 m.out.length c3))] w' fun e w'' => ∃ A c B c' C c'', e = .returned (.agg (m.cells (.slice A m.regs.length c) (.slice B m.mem.length c') (.slice C m.out.length c''))) ∧ OwnM w'' w'.heap.size (.slice A m.regs.length c) (.slice B m.mem.length c') (.slice C m.out.length c'') m ∧ Below w'.heap.size w' w'') := fun w' hb' => CpuCopy_any m _ _ _ w' (ha.below hb')
  obtain ⟨R, eR⟩ : ∃ R, R = m.step irq blk value := ⟨_, rfl⟩
  rw [← eR]
  have ER : Hid (R = m.step irq blk value) := eR
  clear hb ha b0 b1 b2 hcs hW hno eR hm hab hl hct
  simp only [Mach.cells] at HW HX HC HCP ⊢
  go_enter Try.func8, Try.ntmps8
  go_wp2_with fail
  rw [← HW.out]
  refine HC.out.mono ?_
  rintro e w1 ⟨rfl, hb1⟩
  obtain ⟨hx1, hbb1⟩ := box_below HX.out.1 HX.out.2.2 hb1
  obtain ⟨hy1, -⟩ := box_below HX.out.2.1 HX.out.2.2 hb1
  have HX1 : Hid (w1.heap[w.heap.size + 1]? = some (.cells zeroM 27 (0, 0)) ∧ Below w.heap.size w w1) := ⟨hy1, hbb1⟩
  obtain ⟨⟨z0, z1, z2, z3, z4, z5, z6, z7, z8, z9, z10, z11⟩, zf, zl⟩ := twelve_cells hx1
  clear hb1 HC HX HW hx1 hy1 hbb1
  go_wp2_with fail
  refine (HCP.out _ HX1.out.2).mono ?_
  rintro e w2 ⟨D1, e1, D2, e2, D3, e3, rfl, ho2, hb2⟩
  obtain ⟨hy2, hbb2⟩ := box_below HX1.out.1 HX1.out.2 hb2
  have HO : Hid (OwnM w2 w1.heap.size (.slice D1 m.regs.length e1) (.slice D2 m.mem.length e2) (.slice D3 m.out.length e3) m ∧ Below w1.heap.size w1 w2 ∧ w.heap.size + 1 < w1.heap.size ∧ w.heap.size ≤ w1.heap.size) := ⟨ho2, hb2, lt_of_block HX1.out.1, HX1.out.2.size⟩
  have hpl : w.heap.size + 1 < w2.heap.size := lt_of_block hy2
  clear z0 z1 z2 z3 z4 z5 z6 z7 z8 z9 z10 z11 zf zl hb2 hbb2 ho2 HCP
  by_cases hf : m.fin = 0
  case neg =>
    have HR : Hid (R = (m, -1)) := by show _ = _; rw [ER.out]; simp [Mach.step, hf]
    have d0 : (m.fin != 0) = true := by simpa using hf
    obtain ⟨⟨y0, y1, y2, y3, y4, y5, y6, y7, y8, y9, y10, y11⟩, yf, yl⟩ := twelve_cells hy2
    have hne : ¬ w.heap.size + 1 = w2.heap.size := by omega
    have HY : Hid (IsBox w2 (w.heap.size + 1)) := ⟨_, hy2⟩
    clear hf hy2
    go_wp2_with fail
    refine bodyPost_ret (v := .tuple #[.agg #[.slice D1 m.regs.length e1, .int .i64 m.pc, .int .i64 m.back, .bool m.ints, .bool m.wait, .int .i64 m.table, .int .i64 m.count, .int .i64 m.fin, .slice D2 m.mem.length e2, .slice D3 m.out.length e3, .int .i64 m.ready, .int .i64 m.want], .int .i64 (-1), .int .i64 0]) (by simp [results, Try.results8, go_sem, y0, y1, y2, y3, y4, y5, y6, y7, y8, y9, y10, y11, yl]) rfl ?_
    rw [HR.out]
    refine ⟨.slice D1 m.regs.length e1, .slice D2 m.mem.length e2, .slice D3 m.out.length e3, rfl, ?_, ?_⟩
    · exact ((HO.out.1.mono HO.out.2.2.2).set12 HY.out _ _ _ _ _ _ _ _ _ _ _ _).below (below_alloc _ _)
    · exact (below_set12 (HX1.out.2.trans (HO.out.2.1.mono HO.out.2.2.2)) (by omega) _ _ _ _ _ _ _ _ _ _ _ _).alloc (by simp; omega) _
  case pos =>
  have d0 : (m.fin != 0) = false := by simp [hf]
  have HF : Hid (m.fin = 0) := hf
  clear hf hy2
  go_wp2_with fail
  refine (comeAhead_any w1.heap.size w2.heap.size (.slice D1 m.regs.length e1) (.slice D2 m.mem.length e2) (.slice D3 m.out.length e3) m irq B cb blk _ ⟨Go.Deep.blk_alloc_new _ _, (HO.out.1.below (below_alloc _ _)).of rfl rfl rfl, HO.out.2.1.size⟩ (fun w' hb' => (HA.out _ (((HX1.out.2.trans (HO.out.2.1.mono HO.out.2.2.2)).alloc (by omega) _).trans (hb'.mono HX1.out.2.size))).2) HM.out.1.mem HM.out.1.want HM.out.2.2.1).mono ?_
  rintro e w5 ⟨rfl, h5, hb5⟩
  have HB5 : Hid (Below w1.heap.size w1 w5) := (HO.out.2.1.alloc HO.out.2.1.size _).trans hb5
  have hm5 : MayP (m.told irq blk).enter := (HM.out.1.told irq HM.out.2.1 HM.out.2.2.1).enter
  have hc5 : (m.told irq blk).enter.count = m.count ∧ (m.told irq blk).enter.fin = 0 := by
    rw [(enter_count _).1, (enter_count _).2, (told_count _ _ _).1, (told_count _ _ _).2]; exact ⟨rfl, HF.out⟩
  have ER2 : Hid (R = ((m.told irq blk).enter.counted).run1 value) := by show _ = _; rw [ER.out]; unfold Mach.step; rw [if_pos HF.out]
  obtain ⟨M5, eM⟩ : ∃ M5, M5 = (m.told irq blk).enter := ⟨_, rfl⟩
  rw [← eM] at h5 hm5 hc5 ER2
  have H5 : Hid (AtP w5 w1.heap.size w2.heap.size (.slice D1 m.regs.length e1) (.slice D2 m.mem.length e2) (.slice D3 m.out.length e3) M5 ∧ MayP M5 ∧ M5.count < 1099511627776 ∧ M5.fin = 0) := ⟨h5, hm5, by have := HM.out.2.2.2; omega, hc5.2⟩
  obtain ⟨⟨z0, z1, z2, z3, z4, z5, z6, z7, z8, z9, z10, z11⟩, zf, zl⟩ := twelve_cells h5.box
  have k1 : M5.count < 1099511627776 := H5.out.2.2.1
  have k0 : 0 ≤ M5.count := hm5.count.1
  clear h5 hb5 hm5 hc5 eM HO HA
  go_wp2_with fail
  refine (doNext_any w1.heap.size w2.heap.size _ _ _ M5.counted value _ (H5.out.1.setCount (M5.count + 1)).1 (Nat.le_trans HB5.out.size (by simp)) (H5.out.2.1.counted k1) H5.out.2.2.2).mono ?_
  rintro e w7 ⟨rfl, ⟨ov7, h7⟩, hb7⟩
  have HB7 : Hid (Below w1.heap.size w1 w7) := (HB5.out.trans (H5.out.1.setCount (M5.count + 1)).2).trans hb7
  rw [← ER2.out] at h7 ⊢
  obtain ⟨C7, c7, rfl⟩ := h7.own.out.shape
  have hy7 : w7.heap[w.heap.size + 1]? = some (.cells zeroM 27 (0, 0)) := by rw [HB7.out.block _ (lt_of_block HX1.out.1)]; exact HX1.out.1
  clear z0 z1 z2 z3 z4 z5 z6 z7 z8 z9 z10 z11 zf zl
  obtain ⟨⟨z0, z1, z2, z3, z4, z5, z6, z7, z8, z9, z10, z11⟩, zf, zl⟩ := twelve_cells h7.box
  obtain ⟨⟨y0, y1, y2, y3, y4, y5, y6, y7, y8, y9, y10, y11⟩, yf, yl⟩ := twelve_cells hy7
  have H7 : Hid (OwnM w7 w.heap.size (.slice D1 m.regs.length e1) (.slice D2 m.mem.length e2) (.slice C7 R.1.out.length c7) R.1 ∧ IsBox w7 (w.heap.size + 1) ∧ Below w.heap.size w w7) := ⟨h7.own.mono HX1.out.2.size, ⟨_, hy7⟩, HX1.out.2.trans (HB7.out.mono HX1.out.2.size)⟩
  clear h7 hb7 hy7 HB7 HB5 ER2 H5 HX1 k0 k1
  go_wp2_with fail
  refine bodyPost_ret (v := .tuple #[.agg #[.slice D1 m.regs.length e1, .int .i64 R.1.pc, .int .i64 R.1.back, .bool R.1.ints, .bool R.1.wait, .int .i64 R.1.table, .int .i64 R.1.count, .int .i64 R.1.fin, .slice D2 m.mem.length e2, .slice C7 R.1.out.length c7, .int .i64 R.1.ready, .int .i64 R.1.want], .int .i64 R.2, .int .i64 0]) (by simp [results, Try.results8, go_sem, y0, y1, y2, y3, y4, y5, y6, y7, y8, y9, y10, y11]) rfl ?_
  refine ⟨.slice D1 m.regs.length e1, .slice D2 m.mem.length e2, .slice C7 R.1.out.length c7, rfl, ?_, ?_⟩
  · exact H7.out.1.set12 H7.out.2.1 _ _ _ _ _ _ _ _ _ _ _ _
  · exact below_set12 H7.out.2.2 (by omega) _ _ _ _ _ _ _ _ _ _ _ _

end Go.Proofs.Ytlcdefpdahjjeae
