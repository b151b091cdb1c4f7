/- Contract of cpu.comeAhead: an interrupt, and a block, ahead of an instruction. -/
import Derived.Test.YtbjlfhpiebokkaaDoorStepOPart
import Derived.Test.YtbjlfhpiebokkaaDoorDoNextPart
namespace Go.Proofs.YtbjlfhpiebokkaaDoor
open Go.RowKit

set_option maxHeartbeats 1000000 in
theorem comeAhead_any (lo b : Nat) (rv mv ov : Value) (m : Mach) (irq : Bool) (B : Option Addr) (cb : Nat) (blk : List Int) (w : World) (h : AtP w lo b rv mv ov m) (hb : ∀ w', Below lo w w' → IntsAt w' (.slice B blk.length cb) blk)
    (hm : m.mem.length = 256) (hw : -1 ≤ m.want ∧ m.want ≤ 15) (hl : blk.length = 0 ∨ blk.length = 16) :
    Calls Tryd.prog 50 #[ptr b, .bool irq, .slice B blk.length cb] w fun e w' => e = .returned (.tuple #[]) ∧ AtP w' lo b rv mv ov (m.told irq blk).enter ∧ Below lo w w' := by
  have H : Hid (AtP w lo b rv mv ov m ∧ ∀ w', Below lo w w' → IntsAt w' (.slice B blk.length cb) blk) := ⟨h, hb⟩
  have HM : Hid (m.mem.length = 256 ∧ (-1 ≤ m.want ∧ m.want ≤ 15) ∧ (blk.length = 0 ∨ blk.length = 16)) := ⟨hm, hw, hl⟩
  obtain ⟨⟨z0, z1, z2, z3, z4, z5, z6, z7, z8, z9, z10, z11⟩, zf, zl⟩ := twelve_cells h.box
  clear h hb hm hw hl
  cases irq with
  | false =>
    have HT : Hid ((m : Mach).taken blk = m.told false blk) := by show _ = _; rw [told_taken]; simp
    go_enter Tryd.func50, Tryd.ntmps50
    go_wp2_with fail
    refine (takeBlock_any lo b rv mv ov m B cb blk w H.out.1 (H.out.2 _ (Below.refl _ _)) HM.out.1 HM.out.2.1 HM.out.2.2).mono ?_
    rintro e w4 ⟨rfl, h4, hb4⟩
    rw [HT.out] at h4
    have H4 : Hid (AtP w4 lo b rv mv ov (m.told false blk) ∧ Below lo w w4) := ⟨h4, hb4⟩
    clear h4 hb4 z0 z1 z2 z3 z4 z5 z6 z7 z8 z9 z10 z11 zf zl
    go_wp2_with fail
    refine (letIn_any lo b _ _ _ _ _ H4.out.1).mono ?_
    rintro e w5 ⟨rfl, h5, hb5⟩
    have H5 : Hid (AtP w5 lo b rv mv ov (m.told false blk).enter ∧ Below lo w w5) := ⟨h5, H4.out.2.trans hb5⟩
    clear h5 hb5
    go_wp2_with fail
    first | go_end0 | refine bodyPost_ret (results_none rfl _ _ _) rfl ?_
    exact ⟨rfl, H5.out⟩
  | true =>
    have HT : Hid (({ m with wait := true } : Mach).taken blk = m.told true blk) := by show _ = _; rw [told_taken]; simp
    have HS : Hid (AtP (w.setCell ⟨b, 4, none⟩ (.bool true)) lo b rv mv ov { m with wait := true } ∧ Below lo w (w.setCell ⟨b, 4, none⟩ (.bool true))) := H.out.1.setWait true
    go_enter Tryd.func50, Tryd.ntmps50
    go_wp2_with fail
    refine (takeBlock_any lo b rv mv ov { m with wait := true } B cb blk _ HS.out.1 (H.out.2 _ HS.out.2) HM.out.1 HM.out.2.1 HM.out.2.2).mono ?_
    rintro e w4 ⟨rfl, h4, hb4⟩
    rw [HT.out] at h4
    have H4 : Hid (AtP w4 lo b rv mv ov (m.told true blk) ∧ Below lo w w4) := ⟨h4, HS.out.2.trans hb4⟩
    clear h4 hb4 z0 z1 z2 z3 z4 z5 z6 z7 z8 z9 z10 z11 zf zl
    go_wp2_with fail
    refine (letIn_any lo b _ _ _ _ _ H4.out.1).mono ?_
    rintro e w5 ⟨rfl, h5, hb5⟩
    have H5 : Hid (AtP w5 lo b rv mv ov (m.told true blk).enter ∧ Below lo w w5) := ⟨h5, H4.out.2.trans hb5⟩
    clear h5 hb5
    go_wp2_with fail
    first | go_end0 | refine bodyPost_ret (results_none rfl _ _ _) rfl ?_
    exact ⟨rfl, H5.out⟩

end Go.Proofs.YtbjlfhpiebokkaaDoor

/- Contract of cpu.Step. -/

namespace Go.Proofs.YtbjlfhpiebokkaaDoor
open Go.RowKit
set_option maxRecDepth 100000
set_option linter.unusedVariables false

theorem AtP.of_own {w : World} {lo b : Nat} {rv mv ov : Value} {m : Mach} (h1 : w.heap[b]? = some (.cells (m.cells rv mv ov) 30 (0, 0))) (h2 : OwnM w lo rv mv ov m) (h3 : lo ≤ b) : AtP w lo b rv mv ov m := ⟨h1, h2, h3⟩

theorem step_boxes {w W w1 w2 : World} {o : Obj} (hr : W.heap[w.heap.size + 1]? = some o) (hb0 : Below w.heap.size w W) (h1 : Below W.heap.size W w1) (h2 : Below w1.heap.size w1 w2) : w2.heap[w.heap.size + 1]? = some o ∧ Below w.heap.size w w2 := by
  obtain ⟨a, b⟩ := box_below hr hb0 h1
  exact box_below a b h2

set_option maxHeartbeats 4000000 in
theorem Step_no (m : Mach) (rv mv ov : Value) (irq : Bool) (B : Option Addr) (cb : Nat) (blk : List Int) (value : Int) (w : World) (ha : MachAt w rv mv ov m) (hb : IntsAt w (.slice B blk.length cb) blk) (hno : stepNo m blk value ≠ 0) :
    Calls Tryd.prog 22 #[.agg (m.cells rv mv ov), .bool irq, .slice B blk.length cb, .int .i64 value] w fun e w' => e = .returned (.tuple #[.agg zeroM, .int .i64 0, .int .i64 (stepNo m blk value)]) ∧ Below w.heap.size w w' := by
  obtain ⟨b0, b1, b2⟩ := two_boxes (Below.refl (((w.alloc (.cells (m.cells rv mv ov) 30)).alloc (.cells zeroM 30)).heap.size) ((w.alloc (.cells (m.cells rv mv ov) 30)).alloc (.cells zeroM 30)))
  have hcs := checkStep_any m rv mv ov B cb blk value ((w.alloc (.cells (m.cells rv mv ov) 30)).alloc (.cells zeroM 30)) (ha.below b2) (hb.below b2)
  obtain ⟨W, hW⟩ : ∃ W, W = (w.alloc (.cells (m.cells rv mv ov) 30)).alloc (.cells zeroM 30) := ⟨_, rfl⟩
  rw [← hW] at b0 b1 b2 hcs
  have HW : Hid (W = (w.alloc (.cells (m.cells rv mv ov) 30)).alloc (.cells zeroM 30)) := hW
  have HX : Hid (W.heap[w.heap.size + 1]? = some (.cells zeroM 30 (0, 0)) ∧ Below w.heap.size w W) := ⟨b1, b2⟩
  obtain ⟨A1, c1, A2, c2, A3, c3, rfl, rfl, rfl⟩ := ha.shape
  obtain ⟨N, eN⟩ : ∃ N, N = stepNo m blk value := ⟨_, rfl⟩
  rw [← eN] at hcs hno ⊢
  have d0 : (N != 0) = true := by simpa using hno
  have HC : Hid (Calls Tryd.prog 48 #[.agg (m.cells (.slice A1 m.regs.length c1) (.slice A2 m.mem.length c2) (.slice A3 m.out.length c3)), .slice B blk.length cb, .int .i64 value] W fun e w' => e = .returned (.int .i64 N) ∧ Below W.heap.size W w') := hcs
  clear hb ha b0 b1 b2 hcs hW hno eN
  simp only [Mach.cells] at *
  go_enter Tryd.func22, Tryd.ntmps22
  go_wp2_with fail
  rw [← HW.out]
  refine HC.out.mono ?_
  rintro e w1 ⟨rfl, hb1⟩
  obtain ⟨hy, hbb⟩ := box_below HX.out.1 HX.out.2 hb1
  obtain ⟨⟨y0, y1, y2, y3, y4, y5, y6, y7, y8, y9, y10, y11⟩, yf, yl⟩ := twelve_cells hy
  have HBB : Hid (Below w.heap.size w w1) := hbb
  clear hy hbb hb1 HC HX HW
  go_wp2_with fail
  refine bodyPost_ret (v := .tuple #[.agg zeroM, .int .i64 0, .int .i64 N]) (by simp [results, Tryd.results22, go_sem, y0, y1, y2, y3, y4, y5, y6, y7, y8, y9, y10, y11]) rfl ?_
  exact ⟨rfl, below_set12 HBB.out (by omega) _ _ _ _ _ _ _ _ _ _ _ _⟩

set_option maxHeartbeats 4000000 in
theorem Step_ok (m : Mach) (rv mv ov : Value) (irq : Bool) (B : Option Addr) (cb : Nat) (blk : List Int) (value : Int) (w : World) (ha : MachAt w rv mv ov m) (hb : IntsAt w (.slice B blk.length cb) blk) (hm : MayP m) (hab : allB blk = true) (hl : blk.length = 0 ∨ blk.length = 16) (hct : m.count < 1099511627776) (hno : stepNo m blk value = 0) :
    Calls Tryd.prog 22 #[.agg (m.cells rv mv ov), .bool irq, .slice B blk.length cb, .int .i64 value] w fun e w' => ∃ rv' mv' ov', e = .returned (.tuple #[.agg ((m.step irq blk value).1.cells rv' mv' ov'), .int .i64 (m.step irq blk value).2, .int .i64 0]) ∧ OwnM w' w.heap.size rv' mv' ov' (m.step irq blk value).1 ∧ Below w.heap.size w w' := by
  obtain ⟨b0, b1, b2⟩ := two_boxes (Below.refl (((w.alloc (.cells (m.cells rv mv ov) 30)).alloc (.cells zeroM 30)).heap.size) ((w.alloc (.cells (m.cells rv mv ov) 30)).alloc (.cells zeroM 30)))
  have hcs := checkStep_any m rv mv ov B cb blk value ((w.alloc (.cells (m.cells rv mv ov) 30)).alloc (.cells zeroM 30)) (ha.below b2) (hb.below b2)
  obtain ⟨W, hW⟩ : ∃ W, W = (w.alloc (.cells (m.cells rv mv ov) 30)).alloc (.cells zeroM 30) := ⟨_, rfl⟩
  rw [← hW] at b0 b1 b2 hcs
  have HW : Hid (W = (w.alloc (.cells (m.cells rv mv ov) 30)).alloc (.cells zeroM 30)) := hW
  have HX : Hid (W.heap[w.heap.size]? = some (.cells (m.cells rv mv ov) 30 (0, 0)) ∧ W.heap[w.heap.size + 1]? = some (.cells zeroM 30 (0, 0)) ∧ Below w.heap.size w W) := ⟨b0, b1, b2⟩
  rw [hno] at hcs
  have HA : Hid (∀ w', Below w.heap.size w w' → MachAt w' rv mv ov m ∧ IntsAt w' (.slice B blk.length cb) blk) := fun w' hb' => ⟨ha.below hb', hb.below hb'⟩
  have HM : Hid (MayP m ∧ allB blk = true ∧ (blk.length = 0 ∨ blk.length = 16) ∧ m.count < 1099511627776) := ⟨hm, hab, hl, hct⟩
  obtain ⟨A1, c1, A2, c2, A3, c3, rfl, rfl, rfl⟩ := ha.shape
  have HC : Hid (Calls Tryd.prog 48 #[.agg (m.cells (.slice A1 m.regs.length c1) (.slice A2 m.mem.length c2) (.slice A3 m.out.length c3)), .slice B blk.length cb, .int .i64 value] W fun e w' => e = .returned (.int .i64 0) ∧ Below W.heap.size W w') := hcs
  have HCP : Hid (∀ w', Below w.heap.size w w' → Calls Tryd.prog 49 #[.agg (m.cells (.slice A1 m.regs.length c1) (.slice A2 m.mem.length c2) (.slice A3 m.out.length c3))] w' fun e w'' => ∃ A c B c' C c'', e = .returned (.agg (m.cells (.slice A m.regs.length c) (.slice B m.mem.length c') (.slice C m.out.length c''))) ∧ OwnM w'' w'.heap.size (.slice A m.regs.length c) (.slice B m.mem.length c') (.slice C m.out.length c'') m ∧ Below w'.heap.size w' w'') := fun w' hb' => CpuCopy_any m _ _ _ w' (ha.below hb')
  obtain ⟨R, eR⟩ : ∃ R, R = m.step irq blk value := ⟨_, rfl⟩
  rw [← eR]
  have ER : Hid (R = m.step irq blk value) := eR
  clear hb ha b0 b1 b2 hcs hW hno eR hm hab hl hct
  simp only [Mach.cells] at HW HX HC HCP ⊢
  go_enter Tryd.func22, Tryd.ntmps22
  go_wp2_with fail
  rw [← HW.out]
  refine HC.out.mono ?_
  rintro e w1 ⟨rfl, hb1⟩
  obtain ⟨hx1, hbb1⟩ := box_below HX.out.1 HX.out.2.2 hb1
  obtain ⟨hy1, -⟩ := box_below HX.out.2.1 HX.out.2.2 hb1
  have HX1 : Hid (w1.heap[w.heap.size + 1]? = some (.cells zeroM 30 (0, 0)) ∧ Below w.heap.size w w1) := ⟨hy1, hbb1⟩
  obtain ⟨⟨z0, z1, z2, z3, z4, z5, z6, z7, z8, z9, z10, z11⟩, zf, zl⟩ := twelve_cells hx1
  clear hb1 HC HX HW hx1 hy1 hbb1
  go_wp2_with fail
  refine (HCP.out _ HX1.out.2).mono ?_
  rintro e w2 ⟨D1, e1, D2, e2, D3, e3, rfl, ho2, hb2⟩
  obtain ⟨hy2, hbb2⟩ := box_below HX1.out.1 HX1.out.2 hb2
  have HO : Hid (OwnM w2 w1.heap.size (.slice D1 m.regs.length e1) (.slice D2 m.mem.length e2) (.slice D3 m.out.length e3) m ∧ Below w1.heap.size w1 w2 ∧ w.heap.size + 1 < w1.heap.size ∧ w.heap.size ≤ w1.heap.size) := ⟨ho2, hb2, lt_of_block HX1.out.1, HX1.out.2.size⟩
  have hpl : w.heap.size + 1 < w2.heap.size := lt_of_block hy2
  clear z0 z1 z2 z3 z4 z5 z6 z7 z8 z9 z10 z11 zf zl hb2 hbb2 ho2 HCP
  by_cases hf : m.fin = 0
  case neg =>
    have HR : Hid (R = (m, -1)) := by show _ = _; rw [ER.out]; simp [Mach.step, hf]
    have d0 : (m.fin != 0) = true := by simpa using hf
    obtain ⟨⟨y0, y1, y2, y3, y4, y5, y6, y7, y8, y9, y10, y11⟩, yf, yl⟩ := twelve_cells hy2
    have hne : ¬ w.heap.size + 1 = w2.heap.size := by omega
    have HY : Hid (IsBox w2 (w.heap.size + 1)) := ⟨_, hy2⟩
    clear hf hy2
    go_wp2_with fail
    refine bodyPost_ret (v := .tuple #[.agg #[.slice D1 m.regs.length e1, .int .i64 m.pc, .int .i64 m.back, .bool m.ints, .bool m.wait, .int .i64 m.table, .int .i64 m.count, .int .i64 m.fin, .slice D2 m.mem.length e2, .slice D3 m.out.length e3, .int .i64 m.ready, .int .i64 m.want], .int .i64 (-1), .int .i64 0]) (by simp [results, Tryd.results22, go_sem, y0, y1, y2, y3, y4, y5, y6, y7, y8, y9, y10, y11, yl]) rfl ?_
    rw [HR.out]
    refine ⟨.slice D1 m.regs.length e1, .slice D2 m.mem.length e2, .slice D3 m.out.length e3, rfl, ?_, ?_⟩
    · exact ((HO.out.1.mono HO.out.2.2.2).set12 HY.out _ _ _ _ _ _ _ _ _ _ _ _).below (below_alloc _ _)
    · exact (below_set12 (HX1.out.2.trans (HO.out.2.1.mono HO.out.2.2.2)) (by omega) _ _ _ _ _ _ _ _ _ _ _ _).alloc (by simp; omega) _
  case pos =>
  have d0 : (m.fin != 0) = false := by simp [hf]
  have HF : Hid (m.fin = 0) := hf
  clear hf hy2
  go_wp2_with fail
  refine (comeAhead_any w1.heap.size w2.heap.size (.slice D1 m.regs.length e1) (.slice D2 m.mem.length e2) (.slice D3 m.out.length e3) m irq B cb blk _ ⟨Go.Deep.blk_alloc_new _ _, (HO.out.1.below (below_alloc _ _)).of rfl rfl rfl, HO.out.2.1.size⟩ (fun w' hb' => (HA.out _ (((HX1.out.2.trans (HO.out.2.1.mono HO.out.2.2.2)).alloc (by omega) _).trans (hb'.mono HX1.out.2.size))).2) HM.out.1.mem HM.out.1.want HM.out.2.2.1).mono ?_
  rintro e w5 ⟨rfl, h5, hb5⟩
  have HB5 : Hid (Below w1.heap.size w1 w5) := (HO.out.2.1.alloc HO.out.2.1.size _).trans hb5
  have hm5 : MayP (m.told irq blk).enter := (HM.out.1.told irq HM.out.2.1 HM.out.2.2.1).enter
  have hc5 : (m.told irq blk).enter.count = m.count ∧ (m.told irq blk).enter.fin = 0 := by
    rw [(enter_count _).1, (enter_count _).2, (told_count _ _ _).1, (told_count _ _ _).2]; exact ⟨rfl, HF.out⟩
  have ER2 : Hid (R = ((m.told irq blk).enter.counted).run1 value) := by show _ = _; rw [ER.out]; unfold Mach.step; rw [if_pos HF.out]
  obtain ⟨M5, eM⟩ : ∃ M5, M5 = (m.told irq blk).enter := ⟨_, rfl⟩
  rw [← eM] at h5 hm5 hc5 ER2
  have H5 : Hid (AtP w5 w1.heap.size w2.heap.size (.slice D1 m.regs.length e1) (.slice D2 m.mem.length e2) (.slice D3 m.out.length e3) M5 ∧ MayP M5 ∧ M5.count < 1099511627776 ∧ M5.fin = 0) := ⟨h5, hm5, by have := HM.out.2.2.2; omega, hc5.2⟩
  obtain ⟨⟨z0, z1, z2, z3, z4, z5, z6, z7, z8, z9, z10, z11⟩, zf, zl⟩ := twelve_cells h5.box
  have k1 : M5.count < 1099511627776 := H5.out.2.2.1
  have k0 : 0 ≤ M5.count := hm5.count.1
  clear h5 hb5 hm5 hc5 eM HO HA
  go_wp2_with fail
  refine (doNext_any w1.heap.size w2.heap.size _ _ _ M5.counted value _ (H5.out.1.setCount (M5.count + 1)).1 (Nat.le_trans HB5.out.size (by simp)) (H5.out.2.1.counted k1) H5.out.2.2.2).mono ?_
  rintro e w7 ⟨rfl, ⟨ov7, h7⟩, hb7⟩
  have HB7 : Hid (Below w1.heap.size w1 w7) := (HB5.out.trans (H5.out.1.setCount (M5.count + 1)).2).trans hb7
  rw [← ER2.out] at h7 ⊢
  obtain ⟨C7, c7, rfl⟩ := h7.own.out.shape
  have hy7 : w7.heap[w.heap.size + 1]? = some (.cells zeroM 30 (0, 0)) := by rw [HB7.out.block _ (lt_of_block HX1.out.1)]; exact HX1.out.1
  clear z0 z1 z2 z3 z4 z5 z6 z7 z8 z9 z10 z11 zf zl
  obtain ⟨⟨z0, z1, z2, z3, z4, z5, z6, z7, z8, z9, z10, z11⟩, zf, zl⟩ := twelve_cells h7.box
  obtain ⟨⟨y0, y1, y2, y3, y4, y5, y6, y7, y8, y9, y10, y11⟩, yf, yl⟩ := twelve_cells hy7
  have H7 : Hid (OwnM w7 w.heap.size (.slice D1 m.regs.length e1) (.slice D2 m.mem.length e2) (.slice C7 R.1.out.length c7) R.1 ∧ IsBox w7 (w.heap.size + 1) ∧ Below w.heap.size w w7) := ⟨h7.own.mono HX1.out.2.size, ⟨_, hy7⟩, HX1.out.2.trans (HB7.out.mono HX1.out.2.size)⟩
  clear h7 hb7 hy7 HB7 HB5 ER2 H5 HX1 k0 k1
  go_wp2_with fail
  refine bodyPost_ret (v := .tuple #[.agg #[.slice D1 m.regs.length e1, .int .i64 R.1.pc, .int .i64 R.1.back, .bool R.1.ints, .bool R.1.wait, .int .i64 R.1.table, .int .i64 R.1.count, .int .i64 R.1.fin, .slice D2 m.mem.length e2, .slice C7 R.1.out.length c7, .int .i64 R.1.ready, .int .i64 R.1.want], .int .i64 R.2, .int .i64 0]) (by simp [results, Tryd.results22, go_sem, y0, y1, y2, y3, y4, y5, y6, y7, y8, y9, y10, y11]) rfl ?_
  refine ⟨.slice D1 m.regs.length e1, .slice D2 m.mem.length e2, .slice C7 R.1.out.length c7, rfl, ?_, ?_⟩
  · exact H7.out.1.set12 H7.out.2.1 _ _ _ _ _ _ _ _ _ _ _ _
  · exact below_set12 H7.out.2.2 (by omega) _ _ _ _ _ _ _ _ _ _ _ _

end Go.Proofs.YtbjlfhpiebokkaaDoor

/- What a step leaves of a guest that may be; guests in boxes. -/

namespace Go.Proofs.YtbjlfhpiebokkaaDoor
open Go.RowKit
set_option maxRecDepth 100000

structure BoxM (wr : World) (b : Nat) (rv mv ov : Value) (m : Mach) : Prop where
  box : wr.heap[b]? = some (.cells (m.cells rv mv ov) 30 (0, 0))
  dat : MachAt wr rv mv ov m
theorem BoxM.below {w w' : World} {b : Nat} {rv mv ov : Value} {m : Mach} (h : BoxM w b rv mv ov m) (hb : Below w.heap.size w w') : BoxM w' b rv mv ov m := ⟨by rw [hb.block _ (lt_of_block h.box)]; exact h.box, h.dat.below hb⟩
theorem MayP.fits {m : Mach} (h : MayP m) : MachFits m := ⟨by rw [h.regs]; decide, by rw [h.mem]; decide, by have := h.out; omega⟩
theorem BoxM.new {w : World} {lo : Nat} {rv mv ov : Value} {m : Mach} (h : OwnM w lo rv mv ov m) (hm : MayP m) : BoxM (w.alloc (.cells (m.cells rv mv ov) 30)) w.heap.size rv mv ov m :=
  ⟨Go.Deep.blk_alloc_new _ _, (h.at hm.fits).below (below_alloc _ _)⟩

theorem box_set12 {w : World} {b : Nat} {c : Array Value} (h : w.heap[b]? = some (.cells c 30 (0, 0))) (hc : c.size = 12) (x0 x1 x2 x3 x4 x5 x6 x7 x8 x9 x10 x11 : Value) :
    ((((((((((((w.setCell ⟨b, 0, none⟩ x0).setCell ⟨b, 1, none⟩ x1).setCell ⟨b, 2, none⟩ x2).setCell ⟨b, 3, none⟩ x3).setCell ⟨b, 4, none⟩ x4).setCell ⟨b, 5, none⟩ x5).setCell ⟨b, 6, none⟩ x6).setCell ⟨b, 7, none⟩ x7).setCell ⟨b, 8, none⟩ x8).setCell ⟨b, 9, none⟩ x9).setCell ⟨b, 10, none⟩ x10).setCell ⟨b, 11, none⟩ x11).heap[b]? = some (.cells #[x0, x1, x2, x3, x4, x5, x6, x7, x8, x9, x10, x11] 30 (0, 0)) := by
  have e := box_set (i := 11) (box_set (i := 10) (box_set (i := 9) (box_set (i := 8) (box_set (i := 7) (box_set (i := 6) (box_set (i := 5) (box_set (i := 4) (box_set (i := 3) (box_set (i := 2) (box_set (i := 1) (box_set (i := 0) h x0) x1) x2) x3) x4) x5) x6) x7) x8) x9) x10) x11
  rw [e]
  obtain ⟨l⟩ := c
  rcases l with _ | ⟨a0, _ | ⟨a1, _ | ⟨a2, _ | ⟨a3, _ | ⟨a4, _ | ⟨a5, _ | ⟨a6, _ | ⟨a7, _ | ⟨a8, _ | ⟨a9, _ | ⟨a10, _ | ⟨a11, _ | ⟨a12, l⟩⟩⟩⟩⟩⟩⟩⟩⟩⟩⟩⟩⟩ <;> simp at hc ⊢

theorem allB_append {l l' : List Int} (h : allB l = true) (h' : allB l' = true) : allB (l ++ l') = true := by unfold allB at *; simp [List.all_append, h, h']
theorem allB_zeros (n : Nat) : allB (List.replicate n 0) = true := by unfold allB; rw [List.all_eq_true]; intro x hx; obtain ⟨-, rfl⟩ := List.mem_replicate.1 hx; decide
theorem MayP.exec {m : Mach} (h : MayP m) (op : Int) {a k n v : Int} (ha : 0 ≤ a ∧ a ≤ 7) (hn : -1048576 ≤ n ∧ n ≤ 1048575) (hv : wordB v = true) : MayP (m.exec op a k n v).1 := by
  have hnw : wordB n = true := wordB_iff.2 ⟨by omega, by omega⟩
  have hrw : wordB m.ready = true := wordB_iff.2 ⟨by have := h.ready; omega, by have := h.ready; omega⟩
  have haw : wordB (m.reg a) = true := reg_word h ha
  have hmem : ∀ {x : Int} {wr : Bool}, m.meantE x wr = 0 → wordB (m.mem.getD (m.meantK x wr).toNat 0) = true := fun {x wr} e => allB_iff.1 h.amem _ (by have := meant_bd e; have := h.mem; omega)
  have hst : ∀ {K : Nat}, MayP { m with mem := m.mem.set K (m.reg a) } := fun {K} => ⟨h.regs, by simp [h.mem], h.out, h.aregs, allB_set h.amem haw, h.aout, h.pc, h.back, h.table, h.count, h.fin, h.ready, h.want⟩
  have hin : ∀ {x : Bool}, MayP { m with ints := x } := fun {x} => ⟨h.regs, h.mem, h.out, h.aregs, h.amem, h.aout, h.pc, h.back, h.table, h.count, h.fin, h.ready, h.want⟩
  have hout : m.out.length < 200 → MayP { m with out := m.out ++ [m.reg a] } := fun hl => ⟨h.regs, h.mem, by simp; omega, h.aregs, h.amem, allB_append h.aout (by simp [allB, haw]), h.pc, h.back, h.table, h.count, h.fin, h.ready, h.want⟩
  have hask : 0 ≤ m.reg a ∧ m.reg a ≤ 15 → MayP { m with want := m.reg a, ready := 0 } := fun hl => ⟨h.regs, h.mem, h.out, h.aregs, h.amem, h.aout, h.pc, h.back, h.table, h.count, h.fin, ⟨by simp, by simp⟩, ⟨by show -1 ≤ m.reg a; omega, by show m.reg a ≤ 15; omega⟩⟩
  have htab : -1 ≤ m.reg a ∧ m.reg a ≤ 15 → MayP { m with table := m.reg a } := fun hl => ⟨h.regs, h.mem, h.out, h.aregs, h.amem, h.aout, h.pc, h.back, hl, h.count, h.fin, h.ready, h.want⟩
  unfold Mach.exec
  by_cases o0 : op = 0
  · rw [if_pos o0]
    exact h.ends (by decide)
  rw [if_neg o0]
  by_cases o1 : op = 1
  · rw [if_pos o1]
    exact (h.setReg _ hnw).go _
  rw [if_neg o1]
  by_cases o2 : op = 2
  · rw [if_pos o2]
    exact (h.setReg _ (foldF_word _)).go _
  rw [if_neg o2]
  by_cases o3 : op = 3
  · rw [if_pos o3]
    exact (h.setReg _ (foldF_word _)).go _
  rw [if_neg o3]
  by_cases o4 : op = 4
  · rw [if_pos o4]
    exact (h.setReg _ (foldF_word _)).go _
  rw [if_neg o4]
  by_cases o5 : op = 5
  · rw [if_pos o5]
    by_cases e : m.meantE (m.reg k + n) false = 0
    · rw [if_pos e]; exact (h.setReg _ (hmem e)).go _
    · rw [if_neg e]; exact h.ends (meantE_bd _ _ _)
  rw [if_neg o5]
  by_cases o6 : op = 6
  · rw [if_pos o6]
    by_cases e : m.meantE (m.reg k + n) true = 0
    · rw [if_pos e]; exact hst.go _
    · rw [if_neg e]; exact h.ends (meantE_bd _ _ _)
  rw [if_neg o6]
  by_cases o7 : op = 7
  · rw [if_pos o7]
    exact h.go _
  rw [if_neg o7]
  by_cases o8 : op = 8
  · rw [if_pos o8]
    exact h.go _
  rw [if_neg o8]
  by_cases o9 : op = 9
  · rw [if_pos o9]
    exact h.go _
  rw [if_neg o9]
  by_cases o10 : op = 10
  · rw [if_pos o10]
    by_cases e : n = 0 ∨ n = 1
    · rw [if_pos e]; exact (h.setReg _ hv).go _
    · rw [if_neg e]
      by_cases e2 : n = 2
      · rw [if_pos e2]; exact (h.setReg _ hrw).go _
      · rw [if_neg e2]; exact h.ends (by decide)
  rw [if_neg o10]
  by_cases o11 : op = 11
  · rw [if_pos o11]
    by_cases e : n = 3
    · rw [if_pos e]
      by_cases e2 : m.out.length < 200
      · rw [if_pos e2]; exact (hout e2).go _
      · rw [if_neg e2]; exact h.go _
    · rw [if_neg e]
      by_cases e2 : n = 4 ∧ 0 ≤ m.reg a ∧ m.reg a ≤ 15
      · rw [if_pos e2]
        by_cases e3 : m.want = -1
        · rw [if_pos e3]; exact (hask e2.2).go _
        · rw [if_neg e3]; exact h.go _
      · rw [if_neg e2]; exact h.ends (by decide)
  rw [if_neg o11]
  by_cases o12 : op = 12
  · rw [if_pos o12]
    exact hin.go _
  rw [if_neg o12]
  by_cases o13 : op = 13
  · rw [if_pos o13]
    exact hin.go _
  rw [if_neg o13]
  by_cases o14 : op = 14
  · rw [if_pos o14]
    by_cases e : -1 ≤ m.reg a ∧ m.reg a ≤ 15
    · rw [if_pos e]; exact (htab e).go _
    · rw [if_neg e]; exact h.ends (by decide)
  rw [if_neg o14]
  exact h.go _
theorem MayP.run1 {m : Mach} (h : MayP m) {v : Int} (hv : wordB v = true) : MayP (m.run1 v).1 := by
  unfold Mach.run1
  split
  · next e =>
    have hd : decNo m.nextX = 0 := by
      unfold Mach.nextE at e
      split at e
      · split at e
        · next hd => exact hd
        · exact absurd e (by decide)
      · next h1 => exact absurd e h1
    obtain ⟨-, b1, -, b3⟩ := instrNo_bd hd
    exact h.exec _ b1 b3 hv
  · exact h.ends (nextE_bd m)
theorem MayP.step {m : Mach} (h : MayP m) (irq : Bool) {blk : List Int} (hb : allB blk = true) (hl : blk.length = 0 ∨ blk.length = 16) {v : Int} (hv : wordB v = true) (hc : m.count < 1099511627776) : MayP (m.step irq blk v).1 := by
  unfold Mach.step
  split
  · have e : ((m.told irq blk).enter).count = m.count := by rw [(enter_count _).1, (told_count _ _ _).1]
    exact MayP.run1 (((h.told irq hb hl).enter).counted (by omega)) hv
  · exact h

theorem BoxM.put {w : World} {lo b : Nat} {rv mv ov rv' mv' ov' : Value} {m m' : Mach} (h : BoxM w b rv mv ov m) (ho : OwnM w lo rv' mv' ov' m') (hm : MayP m') (o : Obj) :
    BoxM (((((((((((((w.setCell ⟨b, 0, none⟩ rv').setCell ⟨b, 1, none⟩ (.int .i64 m'.pc)).setCell ⟨b, 2, none⟩ (.int .i64 m'.back)).setCell ⟨b, 3, none⟩ (.bool m'.ints)).setCell ⟨b, 4, none⟩ (.bool m'.wait)).setCell ⟨b, 5, none⟩ (.int .i64 m'.table)).setCell ⟨b, 6, none⟩ (.int .i64 m'.count)).setCell ⟨b, 7, none⟩ (.int .i64 m'.fin)).setCell ⟨b, 8, none⟩ mv').setCell ⟨b, 9, none⟩ ov').setCell ⟨b, 10, none⟩ (.int .i64 m'.ready)).setCell ⟨b, 11, none⟩ (.int .i64 m'.want)).alloc o) b rv' mv' ov' m' := by
  refine BoxM.below ⟨box_set12 h.box rfl _ _ _ _ _ _ _ _ _ _ _ _, ?_⟩ (below_alloc _ _)
  exact (ho.set12 ⟨_, h.box⟩ _ _ _ _ _ _ _ _ _ _ _ _).at hm.fits


end Go.Proofs.YtbjlfhpiebokkaaDoor
