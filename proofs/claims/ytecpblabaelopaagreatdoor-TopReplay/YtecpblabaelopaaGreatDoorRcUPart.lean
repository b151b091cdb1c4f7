/- The recorder's step, walked: the guest asks for no word. -/
import Derived.Test.YtecpblabaelopaaGreatDoorRcAPart
import Derived.WalkSpells
import Derived.Deep.RegionHeld3
import Derived.Test.YtecpblabaelopaaGreatDoorRunWPart
import Derived.Test.YtecpblabaelopaaGreatDoorKInsDPart
namespace Go.Proofs.YtecpblabaelopaaGreatDoor
open Go.RowKit
set_option maxRecDepth 100000

set_option maxHeartbeats 16000000 in
theorem rstep_quiet (g : RcB) (lo : Nat) (iv zv : Value) (x : Wd) (s : RecS) (cm : Nat) (due k : Int) (R : List (Ev × Value)) (rv mv ov : Value) (w : World)
    (h : RcAt w lo g iv zv x s.va cm s.bl due R) (hr : RcRel k s cm due R) (hx : WdMay x) (hR : R.length ≤ 8997) (ho : OwnM w lo rv mv ov s.m) (hm : MayP s.m) (hf : s.m.fin = 0) (hc : s.m.count = k) (hk : 0 ≤ k ∧ k < 3000) (hV0 : s.ask x k = false) :
    Calls Tryz.prog 53 #[ptr g.p, .agg (s.m.cells rv mv ov)] w fun e w' => RStepQ w lo g iv zv x s k R e w' := by
  obtain ⟨A1, c1, A2, c2, A3, c3, rfl, rfl, rfl⟩ := ho.shape
  obtain ⟨b0, b1, b2⟩ := two_boxes (Below.refl (((w.alloc (.cells (s.m.cells (.slice A1 s.m.regs.length c1) (.slice A2 s.m.mem.length c2) (.slice A3 s.m.out.length c3)) 37)).alloc (.cells zeroM 37)).heap.size) ((w.alloc (.cells (s.m.cells (.slice A1 s.m.regs.length c1) (.slice A2 s.m.mem.length c2) (.slice A3 s.m.out.length c3)) 37)).alloc (.cells zeroM 37)))
  obtain ⟨W, hW⟩ : ∃ W, W = (w.alloc (.cells (s.m.cells (.slice A1 s.m.regs.length c1) (.slice A2 s.m.mem.length c2) (.slice A3 s.m.out.length c3)) 37)).alloc (.cells zeroM 37) := ⟨_, rfl⟩
  rw [← hW] at b0 b1 b2
  have HW : Hid (W = (w.alloc (.cells (s.m.cells (.slice A1 s.m.regs.length c1) (.slice A2 s.m.mem.length c2) (.slice A3 s.m.out.length c3)) 37)).alloc (.cells zeroM 37)) := hW
  have q22 : ∀ (w : World) (a : Option Addr) (n c n' c' : Nat), (binOp .eql 24 (.slice a n c) (.slice none n' c')).run Tryz.prog w = .ok (.bool a.isNone) w := fun w a n c n' c' => Lib.run_eql_slice_nil w _ _ a n c n' c' Tryz.underlying24
  obtain ⟨M, hM⟩ : ∃ M, M = s.m := ⟨_, rfl⟩
  have HLO : Hid (lo ≤ w.heap.size) := h.lw
  have HRL : Hid (R.length ≤ 8997) := hR
  have HV0 : Hid (s.ask x k = false) := hV0
  have HGP : Hid (g.p < w.heap.size) := h.six.2.2
  have HX : Hid (W.heap[w.heap.size]? = some (.cells (M.cells (.slice A1 M.regs.length c1) (.slice A2 M.mem.length c2) (.slice A3 M.out.length c3)) 37 (0, 0)) ∧ W.heap[w.heap.size + 1]? = some (.cells zeroM 37 (0, 0)) ∧ OwnM W lo (.slice A1 M.regs.length c1) (.slice A2 M.mem.length c2) (.slice A3 M.out.length c3) M ∧ KpI lo w W) := by
    rw [hM]
    exact ⟨b0, b1, ho.below b2, KpI.of_below b2 h.lw⟩
  have HM : Hid (MayP M ∧ M.fin = 0 ∧ M.count = k ∧ M = s.m) := by rw [hM]; exact ⟨hm, hf, hc, rfl⟩
  have hcM : M.count = k := HM.out.2.2.1
  have HREL : Hid (RcRel k s cm due R ∧ WdMay x ∧ (0 ≤ k ∧ k < 3000)) := ⟨hr, hx, hk⟩
  have HA : Hid (Calls Tryz.prog 86 #[ptr g.p, .int .i64 k] W fun e w' => ∃ R' Bk cb cm', e = .returned (.tuple #[.bool (s.irq x k), .slice Bk (s.blk x k).length cb]) ∧ RcAt w' lo g iv zv x s.va cm' s.bl due R' ∧ DataOk w' lo (.slice Bk (s.blk x k).length cb) (s.blk x k) ∧ Bk.isNone = decide (s.due ≠ k) ∧ R'.map Prod.fst = s.evs ++ s.evI x k ++ s.evB x k ∧ R'.length ≤ R.length + 2 ∧ cm' = (if s.due = k then s.bl else cm) ∧ KpI lo W w') := ahead_rel g lo iv zv x s s.va cm s.bl due k R W (h.below b2) hr hx hk.1 hR
  have HBM : Hid (((s.blk x k).length = 0 ∨ (s.blk x k).length = 16) ∧ allB (s.blk x k) = true) := RecS.blk_may hx s k
  rw [← hM] at HW ⊢
  obtain ⟨⟨z0, z1, z2, z3, z4, z5, z6, z7, z8, z9, z10, z11⟩, zf, zl⟩ := twelve_cells HX.out.1
  clear hV0 h hr hx hR ho hm hf hc b0 b1 b2 hW
  obtain ⟨irq, hirq⟩ : ∃ irq, irq = s.irq x k := ⟨_, rfl⟩
  obtain ⟨blk, hblk⟩ : ∃ blk, blk = s.blk x k := ⟨_, rfl⟩
  rw [← hirq, ← hblk] at HA
  rw [← hblk] at HBM
  have HIB : Hid (irq = s.irq x k ∧ blk = s.blk x k) := ⟨hirq, hblk⟩
  clear hirq hblk hM
  simp only [Mach.cells, hcM] at HW z6 ⊢
  go_enter Tryz.func53, Tryz.ntmps53
  go_wp2_with fail
  rw [← HW.out]
  refine HA.out.mono ?_
  rintro e w1 ⟨R1, Bk, cb, cm1, rfl, g1, g2, g3, g4, g5, g6, g7⟩
  have H1 : Hid (RcAt w1 lo g iv zv x s.va cm1 s.bl due R1 ∧ DataOk w1 lo (.slice Bk blk.length cb) blk ∧ Bk.isNone = decide (s.due ≠ k) ∧ R1.map Prod.fst = s.evs ++ s.evI x k ++ s.evB x k ∧ R1.length ≤ R.length + 2 ∧ cm1 = (if s.due = k then s.bl else cm) ∧ KpI lo w w1) := ⟨g1, g2, g3, g4, g5, g6, HX.out.2.2.2.trans g7⟩
  have HB1 : Hid (w1.heap[w.heap.size]? = some (.cells (M.cells (.slice A1 M.regs.length c1) (.slice A2 M.mem.length c2) (.slice A3 M.out.length c3)) 37 (0, 0)) ∧ w1.heap[w.heap.size + 1]? = some (.cells zeroM 37 (0, 0)) ∧ OwnM w1 lo (.slice A1 M.regs.length c1) (.slice A2 M.mem.length c2) (.slice A3 M.out.length c3) M) := ⟨g7.kept _ _ _ mutM HX.out.1, g7.kept _ _ _ mutM HX.out.2.1, HX.out.2.2.1.kp g7⟩
  have HAS : Hid (Calls Tryz.prog 87 #[.agg (M.cells (.slice A1 M.regs.length c1) (.slice A2 M.mem.length c2) (.slice A3 M.out.length c3)), .bool irq, .slice Bk blk.length cb] w1 fun e w' => e = .returned (.bool (M.asks irq blk)) ∧ Below w1.heap.size w1 w') := by
    show Calls _ _ _ _ _
    have hl := HBM.out.1
    exact Asks_go M _ _ _ irq Bk cb blk w1 (HB1.out.2.2.at HM.out.1.fits) (g2.at g1.lw (by omega)) HM.out.1 HBM.out.2 HBM.out.1 (by have := HM.out.2.2.1; have := HREL.out.2.2; omega) HM.out.2.1
  simp only [Mach.cells, hcM] at HAS
  clear HA HX g1 g2 g3 g4 g5 g6 g7 z0 z1 z2 z3 z4 z5 z6 z7 z8 z9 z10 z11 zf zl
  obtain ⟨⟨z0, z1, z2, z3, z4, z5, z6, z7, z8, z9, z10, z11⟩, zf, zl⟩ := twelve_cells HB1.out.1
  rw [hcM] at z6
  obtain ⟨ask, hask⟩ : ∃ ask, ask = M.asks irq blk := ⟨_, rfl⟩
  rw [← hask] at HAS
  have HASK : Hid (ask = s.ask x k) := by
    show _ = _
    rw [hask, HIB.out.1, HIB.out.2, HM.out.2.2.2]
    rfl
  clear hask
  dsimp only
  go_wp2_with fail
  refine HAS.out.mono ?_
  rintro e w2 ⟨rfl, hb2⟩
  have hk2 : KpI lo w1 w2 := KpI.of_below hb2 H1.out.1.lw
  have H2 : Hid (RcAt w2 lo g iv zv x s.va cm1 s.bl due R1 ∧ DataOk w2 lo (.slice Bk blk.length cb) blk ∧ KpI lo w w2 ∧ w2.heap[w.heap.size]? = some (.cells (M.cells (.slice A1 M.regs.length c1) (.slice A2 M.mem.length c2) (.slice A3 M.out.length c3)) 37 (0, 0)) ∧ w2.heap[w.heap.size + 1]? = some (.cells zeroM 37 (0, 0)) ∧ OwnM w2 lo (.slice A1 M.regs.length c1) (.slice A2 M.mem.length c2) (.slice A3 M.out.length c3) M) := ⟨H1.out.1.below hb2, H1.out.2.1.kp hk2, H1.out.2.2.2.2.2.2.trans hk2, hk2.kept _ _ _ mutM HB1.out.1, hk2.kept _ _ _ mutM HB1.out.2.1, HB1.out.2.2.kp hk2⟩
  clear HAS HB1 hb2 hk2 z0 z1 z2 z3 z4 z5 z6 z7 z8 z9 z10 z11 zf zl
  obtain ⟨⟨z0, z1, z2, z3, z4, z5, z6, z7, z8, z9, z10, z11⟩, zf, zl⟩ := twelve_cells H2.out.2.2.2.1
  rw [hcM] at z6
  obtain ⟨⟨p0, p1, p2, p3, p4⟩, pf, pl⟩ := H2.out.1.six
  have hW3 : (M.want != -1) = false ∨ ((M.want != -1) = true ∧ Bk.isNone = true) ∨ ((M.want != -1) = true ∧ Bk.isNone = false) := by
    cases (M.want != -1) <;> cases Bk.isNone <;> simp
  obtain ⟨wt, hwt⟩ : ∃ wt, wt = ((M.want != -1) && Bk.isNone) := ⟨_, rfl⟩
  have HWT : Hid (wt = ((M.want != -1) && Bk.isNone)) := hwt
  obtain ⟨V, hVV⟩ : ∃ V, V = s.val x k := ⟨_, rfl⟩
  have HVV : Hid (V = s.val x k ∧ wordB V = true) := ⟨hVV, hVV ▸ RecS.val_may HREL.out.2.1 s k⟩
  obtain ⟨va1, hva⟩ : ∃ va1, va1 = if s.ask x k = true then s.va + 1 else s.va := ⟨_, rfl⟩
  obtain ⟨N, hN⟩ : ∃ N, N = s.then_ x k := ⟨_, rfl⟩
  have HN : Hid (N = s.then_ x k) := hN
  have HNM : Hid (-1 ≤ N.want ∧ N.count = k + 1) := by
    have hb := HBM.out
    rw [HIB.out.2] at hb
    have hm' : MayP (s.then_ x k) := (HM.out.2.2.2 ▸ HM.out.1).step (s.irq x k) hb.2 hb.1 (RecS.val_may HREL.out.2.1 s k) (by have := HM.out.2.2.1; have := HREL.out.2.2; rw [← HM.out.2.2.2]; omega)
    refine ⟨by rw [hN]; exact hm'.want.1, ?_⟩
    rw [hN]
    show (s.m.step _ _ _).1.count = _
    rw [step_going _ _ _ (by rw [← HM.out.2.2.2]; exact HM.out.2.1), ← HM.out.2.2.2, hcM]
  have HNEW : Hid (∀ b, ((N.want != -1) && !((M.want != -1) && Bk.isNone)) = b → s.new x k = b) := fun b e => by rw [new_is HM.out.2.2.2 hN HNM.out.1 H1.out.2.2.1, e]
  obtain ⟨d, hd⟩ : ∃ d, d = x.delays.getD s.bl 0 := ⟨_, rfl⟩
  have HD : Hid (d = x.delays.getD s.bl 0 ∧ 0 ≤ d ∧ d ≤ 3000) := ⟨hd, by rw [hd]; exact (HREL.out.2.1.delay s.bl).1, by rw [hd]; exact (HREL.out.2.1.delay s.bl).2⟩
  have hwr : IntKind.i64.wrap (N.count + d) = N.count + d := IntWalk.i64_in _ (by have := HNM.out.2; have := HD.out.2; have := HREL.out.2.2; omega)
  have HST : Hid (∀ w', MachAt w' (.slice A1 M.regs.length c1) (.slice A2 M.mem.length c2) (.slice A3 M.out.length c3) M → IntsAt w' (.slice Bk blk.length cb) blk → Calls Tryz.prog 48 #[.agg #[.slice A1 M.regs.length c1, .int .i64 M.pc, .int .i64 M.back, .bool M.ints, .bool M.wait, .int .i64 M.table, .int .i64 k, .int .i64 M.fin, .slice A2 M.mem.length c2, .slice A3 M.out.length c3, .int .i64 M.ready, .int .i64 M.want], .bool irq, .slice Bk blk.length cb, .int .i64 V] w' fun e w'' => ∃ rv' mv' ov', e = .returned (.tuple #[.agg (N.cells rv' mv' ov'), .int .i64 (M.step irq blk V).2, .int .i64 0]) ∧ OwnM w'' w'.heap.size rv' mv' ov' N ∧ Below w'.heap.size w' w'') := fun w' ha hi => by
    have e := Step_ok M _ _ _ irq Bk cb blk V w' ha hi HM.out.1 HBM.out.2 HBM.out.1 (by have := HM.out.2.2.1; have := HREL.out.2.2; omega) (stepNo_of HM.out.1 HBM.out.1 HBM.out.2 HVV.out.2 (by have := HM.out.2.2.1; have := HREL.out.2.2; omega))
    have eS : (M.step irq blk V).1 = N := by rw [hN, HIB.out.1, HIB.out.2, HM.out.2.2.2, HVV.out.1]; rfl
    rw [eS] at e
    simp only [Mach.cells, hcM] at e ⊢
    exact e
  have HVA : Hid (va1 = (s.next x k).va ∧ (s.ask x k = true → va1 = s.va + 1 ∧ V = x.values.getD s.va 0 ∧ s.evV x k = [⟨k, 3, [V]⟩]) ∧ (s.ask x k = false → va1 = s.va ∧ V = 0 ∧ s.evV x k = [])) := by
    refine ⟨hva, fun e => ⟨by rw [hva, if_pos e], by rw [hVV]; unfold RecS.val; rw [if_pos e], by rw [hVV]; unfold RecS.evV; rw [if_pos e]⟩, fun e => ?_⟩
    have e' : ¬ s.ask x k = true := by rw [e]; simp
    exact ⟨by rw [hva, if_neg e'], by rw [hVV]; unfold RecS.val; rw [if_neg e'], by unfold RecS.evV; rw [if_neg e']⟩
  clear hwt hVV hva hN hd
  obtain ⟨Tn, hTn⟩ : ∃ Tn, Tn = (M.step irq blk V).2 := ⟨_, rfl⟩
  rw [← hTn] at HST
  clear hTn
  have hV : ask = false := HASK.out.trans HV0.out
  have HV2 : Hid (s.ask x k = false) := by show _ = _; rw [← HASK.out, hV]
  obtain ⟨hva1, hV1, hev1⟩ := HVA.out.2.2 HV2.out
  rw [hV]
  clear hV
  dsimp only
  obtain ⟨w4, hw4⟩ : ∃ w4, w4 = w2 := ⟨_, rfl⟩
  obtain ⟨R4, hR4⟩ : ∃ R4, R4 = R1 := ⟨_, rfl⟩
  have H4 : Hid (RcAt w4 lo g iv zv x va1 cm1 s.bl due R4 ∧ KpI lo w2 w4 ∧ R4.map Prod.fst = (s.next x k).evs ∧ R4.length ≤ R.length + 3) := ⟨by rw [hw4, hR4, hva1]; exact H2.out.1, by rw [hw4]; exact KpI.refl _ _, by rw [hR4, H1.out.2.2.2.1]; show _ = s.evs ++ s.evI x k ++ s.evB x k ++ s.evV x k; rw [hev1, List.append_nil], by rw [hR4]; have := H1.out.2.2.2.2.1; omega⟩
  rw [← hw4] at z0 z1 z2 z3 z4 z5 z6 z7 z8 z9 z10 z11 zf zl p0 p1 p2 p3 p4 pf pl ⊢
  subst hV1
  clear hw4 hR4 hva1 hev1 z0 z1 z2 z3 z4 z5 z6 z7 z8 z9 z10 z11 zf zl p0 p1 p2 p3 p4 pf pl
  all_goals
    have H5 : Hid (w4.heap[w.heap.size]? = some (.cells (M.cells (.slice A1 M.regs.length c1) (.slice A2 M.mem.length c2) (.slice A3 M.out.length c3)) 37 (0, 0)) ∧ w4.heap[w.heap.size + 1]? = some (.cells zeroM 37 (0, 0)) ∧ OwnM w4 lo (.slice A1 M.regs.length c1) (.slice A2 M.mem.length c2) (.slice A3 M.out.length c3) M ∧ KpI lo w w4 ∧ DataOk w4 lo (.slice Bk blk.length cb) blk) := ⟨H4.out.2.1.kept _ _ _ mutM H2.out.2.2.2.1, H4.out.2.1.kept _ _ _ mutM H2.out.2.2.2.2.1, H2.out.2.2.2.2.2.kp H4.out.2.1, H2.out.2.2.1.trans H4.out.2.1, H2.out.2.1.kp H4.out.2.1⟩
    obtain ⟨⟨z0, z1, z2, z3, z4, z5, z6, z7, z8, z9, z10, z11⟩, zf, zl⟩ := twelve_cells H5.out.1
    rw [hcM] at z6
    rcases hW3 with hw3 | ⟨hw3, hb3⟩ | ⟨hw3, hb3⟩
  all_goals
    rcases (by cases (N.want != -1) <;> simp : (N.want != -1) = true ∨ (N.want != -1) = false) with hn5 | hn5
  all_goals
    try dsimp only
    go_wp2_with fail
    refine (HST.out w4 (H5.out.2.2.1.at HM.out.1.fits) (H5.out.2.2.2.2.at H4.out.1.lw (by have := HBM.out.1; omega))).mono ?_
    rintro e w5 ⟨rv', mv', ov', rfl, ho5, hb5⟩
    obtain ⟨D1, f1, D2, f2, D3, f3, rfl, rfl, rfl⟩ := ho5.shape
    have k5 := KpI.of_below hb5 H4.out.1.lw
    have H6 : Hid (RcAt w5 lo g iv zv x va1 cm1 s.bl due R4 ∧ OwnM w5 lo (.slice D1 N.regs.length f1) (.slice D2 N.mem.length f2) (.slice D3 N.out.length f3) N ∧ KpI lo w w5 ∧ w5.heap[w.heap.size]? = some (.cells (M.cells (.slice A1 M.regs.length c1) (.slice A2 M.mem.length c2) (.slice A3 M.out.length c3)) 37 (0, 0)) ∧ w5.heap[w.heap.size + 1]? = some (.cells zeroM 37 (0, 0))) := ⟨H4.out.1.below hb5, ho5.mono H4.out.1.lw, H5.out.2.2.2.1.trans k5, k5.kept _ _ _ mutM H5.out.1, k5.kept _ _ _ mutM H5.out.2.1⟩
    clear ho5 hb5 k5 HST z0 z1 z2 z3 z4 z5 z6 z7 z8 z9 z10 z11 zf zl
    obtain ⟨⟨z0, z1, z2, z3, z4, z5, z6, z7, z8, z9, z10, z11⟩, zf, zl⟩ := twelve_cells H6.out.2.2.2.1
    obtain ⟨⟨y0, y1, y2, y3, y4, y5, y6, y7, y8, y9, y10, y11⟩, yf, yl⟩ := twelve_cells H6.out.2.2.2.2
    obtain ⟨⟨p0, p1, p2, p3, p4⟩, pf, pl⟩ := H6.out.1.six
    rw [hcM] at z6
    simp only [Mach.cells]
    go_wp2_with fail
    have h7 := one12 H6.out.1 H6.out.2.1 H6.out.2.2.1 HLO.out (Nat.le_refl _) ⟨_, H6.out.2.2.2.1⟩ (.slice D1 N.regs.length f1) (.int .i64 N.pc) (.int .i64 N.back) (.bool N.ints) (.bool N.wait) (.int .i64 N.table) (.int .i64 N.count) (.int .i64 N.fin) (.slice D2 N.mem.length f2) (.slice D3 N.out.length f3) (.int .i64 N.ready) (.int .i64 N.want)
    have hx7 := box_set12 H6.out.2.2.2.1 rfl (.slice D1 N.regs.length f1) (.int .i64 N.pc) (.int .i64 N.back) (.bool N.ints) (.bool N.wait) (.int .i64 N.table) (.int .i64 N.count) (.int .i64 N.fin) (.slice D2 N.mem.length f2) (.slice D3 N.out.length f3) (.int .i64 N.ready) (.int .i64 N.want)
    have hy7 := (heap_set12 (w := w5) (b := w.heap.size + 1) (c := w.heap.size) (by omega) (.slice D1 N.regs.length f1) (.int .i64 N.pc) (.int .i64 N.back) (.bool N.ints) (.bool N.wait) (.int .i64 N.table) (.int .i64 N.count) (.int .i64 N.fin) (.slice D2 N.mem.length f2) (.slice D3 N.out.length f3) (.int .i64 N.ready) (.int .i64 N.want)).trans H6.out.2.2.2.2
    obtain ⟨W6, hW6⟩ : ∃ W6, W6 = set12 w5 w.heap.size (.slice D1 N.regs.length f1) (.int .i64 N.pc) (.int .i64 N.back) (.bool N.ints) (.bool N.wait) (.int .i64 N.table) (.int .i64 N.count) (.int .i64 N.fin) (.slice D2 N.mem.length f2) (.slice D3 N.out.length f3) (.int .i64 N.ready) (.int .i64 N.want) := ⟨_, rfl⟩
    have hW6' : W6 = (((((((((((w5.setCell ⟨w.heap.size, 0, none⟩ (.slice D1 N.regs.length f1)).setCell ⟨w.heap.size, 1, none⟩ (.int .i64 N.pc)).setCell ⟨w.heap.size, 2, none⟩ (.int .i64 N.back)).setCell ⟨w.heap.size, 3, none⟩ (.bool N.ints)).setCell ⟨w.heap.size, 4, none⟩ (.bool N.wait)).setCell ⟨w.heap.size, 5, none⟩ (.int .i64 N.table)).setCell ⟨w.heap.size, 6, none⟩ (.int .i64 N.count)).setCell ⟨w.heap.size, 7, none⟩ (.int .i64 N.fin)).setCell ⟨w.heap.size, 8, none⟩ (.slice D2 N.mem.length f2)).setCell ⟨w.heap.size, 9, none⟩ (.slice D3 N.out.length f3)).setCell ⟨w.heap.size, 10, none⟩ (.int .i64 N.ready)).setCell ⟨w.heap.size, 11, none⟩ (.int .i64 N.want) := hW6
    rw [← hW6] at h7 hy7
    rw [← hW6'] at hx7
    have H7 : Hid (RcAt W6 lo g iv zv x va1 cm1 s.bl due R4 ∧ OwnM W6 lo (.slice D1 N.regs.length f1) (.slice D2 N.mem.length f2) (.slice D3 N.out.length f3) N ∧ KpI lo w W6 ∧ W6.heap[w.heap.size]? = some (.cells #[.slice D1 N.regs.length f1, .int .i64 N.pc, .int .i64 N.back, .bool N.ints, .bool N.wait, .int .i64 N.table, .int .i64 N.count, .int .i64 N.fin, .slice D2 N.mem.length f2, .slice D3 N.out.length f3, .int .i64 N.ready, .int .i64 N.want] 37 (0, 0)) ∧ W6.heap[w.heap.size + 1]? = some (.cells zeroM 37 (0, 0))) := ⟨h7.1, h7.2.1, h7.2.2, hx7, hy7⟩
    rw [← hW6']
    clear h7 hx7 hy7 hW6 hW6' H6 z0 z1 z2 z3 z4 z5 z6 z7 z8 z9 z10 z11 zf zl p0 p1 p2 p3 p4 pf pl y0 y1 y2 y3 y4 y5 y6 y7 y8 y9 y10 y11 yf yl
    obtain ⟨⟨z0, z1, z2, z3, z4, z5, z6, z7, z8, z9, z10, z11⟩, zf, zl⟩ := twelve_cells H7.out.2.2.2.1
    obtain ⟨⟨y0, y1, y2, y3, y4, y5, y6, y7, y8, y9, y10, y11⟩, yf, yl⟩ := twelve_cells H7.out.2.2.2.2
    obtain ⟨⟨p0, p1, p2, p3, p4⟩, pf, pl⟩ := H7.out.1.six
    first
      | refine bodyPost_ret (v := .tuple #[.agg #[.slice D1 N.regs.length f1, .int .i64 N.pc, .int .i64 N.back, .bool N.ints, .bool N.wait, .int .i64 N.table, .int .i64 N.count, .int .i64 N.fin, .slice D2 N.mem.length f2, .slice D3 N.out.length f3, .int .i64 N.ready, .int .i64 N.want], .int .i64 0]) (by simp [results, Tryz.results53, go_sem, y0, y1, y2, y3, y4, y5, y6, y7, y8, y9, y10, y11]) rfl ?_
        have hnew := HNEW.out false (by first | (rw [hn5]; rfl) | (rw [hn5, hw3, hb3]; rfl))
        have h8 := one12 H7.out.1 H7.out.2.1 H7.out.2.2.1 HLO.out (Nat.le_succ _) ⟨_, H7.out.2.2.2.2⟩ (.slice D1 N.regs.length f1) (.int .i64 N.pc) (.int .i64 N.back) (.bool N.ints) (.bool N.wait) (.int .i64 N.table) (.int .i64 N.count) (.int .i64 N.fin) (.slice D2 N.mem.length f2) (.slice D3 N.out.length f3) (.int .i64 N.ready) (.int .i64 N.want)
        exact RStepQ.mk HN.out HVA.out.1 (by show s.bl = if s.new x k = true then _ else _; rw [hnew]; rfl) h8.1 h8.2.1 h8.2.2 (HREL.out.1.next HREL.out.2.1 (HM.out.2.2.2 ▸ HM.out.1) (HM.out.2.2.2 ▸ HM.out.2.1) (HM.out.2.2.2 ▸ hcM) HREL.out.2.2 H1.out.2.2.2.2.2.1 rfl (by rw [hnew]; rfl) H4.out.2.2.1) H4.out.2.2.2
      | skip
  all_goals
    clear y0 y1 y2 y3 y4 y5 y6 y7 y8 y9 y10 y11 yf yl
    have hnew := HNEW.out true (by first | (rw [hn5, hw3]; rfl) | (rw [hn5, hw3, hb3]; rfl))
    have HDL : Hid (∀ w', RcAt w' lo g iv zv x va1 cm1 s.bl due R4 → Calls Tryz.prog 122 #[.pointer (some ⟨g.pd, 0, none⟩), .pointer (some ⟨g.qd, 0, none⟩)] w' fun e w'' => e = .returned (.int .i64 d) ∧ RcAt w'' lo g iv zv x va1 cm1 (s.bl + 1) due R4 ∧ KpI lo w' w'') := fun w' h' => by
      have e := delayNext g lo iv zv x va1 cm1 s.bl due R4 w' h'
      rw [← HD.out.1] at e
      exact e
    have HNEW2 : Hid (s.new x k = true) := hnew
    have hne1 : ¬ g.p = w.heap.size := by have := HGP.out; omega
    have hne2 : ¬ w.heap.size = g.p := by have := HGP.out; omega
    clear hnew
    go_region_law (go_simp; go_at_call 122; refine (HDL.out _ (H7.out.1.below ((Below.refl _ W6).drew))).mono ?_; rintro e w7 ⟨rfl, t1, t2⟩; have H8 : Hid (RcAt w7 lo g iv zv x va1 cm1 (s.bl + 1) due R4 ∧ OwnM w7 lo (.slice D1 N.regs.length f1) (.slice D2 N.mem.length f2) (.slice D3 N.out.length f3) N ∧ KpI lo w w7 ∧ w7.heap[w.heap.size]? = some (.cells #[.slice D1 N.regs.length f1, .int .i64 N.pc, .int .i64 N.back, .bool N.ints, .bool N.wait, .int .i64 N.table, .int .i64 N.count, .int .i64 N.fin, .slice D2 N.mem.length f2, .slice D3 N.out.length f3, .int .i64 N.ready, .int .i64 N.want] 37 (0, 0)) ∧ w7.heap[w.heap.size + 1]? = some (.cells zeroM 37 (0, 0))) := ⟨t1, (H7.out.2.1.below ((Below.refl _ W6).drew)).kp t2, H7.out.2.2.1.trans ((KpI.of_below ((Below.refl _ W6).drew) H7.out.1.lw).trans t2), t2.kept _ _ _ mutM H7.out.2.2.2.1, t2.kept _ _ _ mutM H7.out.2.2.2.2⟩; clear t1 t2 z0 z1 z2 z3 z4 z5 z6 z7 z8 z9 z10 z11 zf zl p0 p1 p2 p3 p4 pf pl; obtain ⟨⟨z0, z1, z2, z3, z4, z5, z6, z7, z8, z9, z10, z11⟩, zf, zl⟩ := twelve_cells H8.out.2.2.2.1; obtain ⟨⟨p0, p1, p2, p3, p4⟩, pf, pl⟩ := H8.out.1.six)
  all_goals
    have h9 := H8.out.1.setDue (N.count + d)
    have hB9 := But.set w7 H8.out.1.le.1 4 (.int .i64 (N.count + d))
    obtain ⟨w8, hw8⟩ : ∃ w8, w8 = w7.setCell ⟨g.p, 4, none⟩ (.int .i64 (N.count + d)) := ⟨_, rfl⟩
    rw [← hw8] at h9 hB9 ⊢
    have H9 : Hid (RcAt w8 lo g iv zv x va1 cm1 (s.bl + 1) (N.count + d) R4 ∧ OwnM w8 lo (.slice D1 N.regs.length f1) (.slice D2 N.mem.length f2) (.slice D3 N.out.length f3) N ∧ KpI lo w w8 ∧ w8.heap[w.heap.size]? = some (.cells #[.slice D1 N.regs.length f1, .int .i64 N.pc, .int .i64 N.back, .bool N.ints, .bool N.wait, .int .i64 N.table, .int .i64 N.count, .int .i64 N.fin, .slice D2 N.mem.length f2, .slice D3 N.out.length f3, .int .i64 N.ready, .int .i64 N.want] 37 (0, 0)) ∧ w8.heap[w.heap.size + 1]? = some (.cells zeroM 37 (0, 0))) := ⟨h9.1, H8.out.2.1.kp h9.2, H8.out.2.2.1.trans h9.2, h9.2.kept _ _ _ mutM H8.out.2.2.2.1, h9.2.kept _ _ _ mutM H8.out.2.2.2.2⟩
    clear h9 hB9 hw8 z0 z1 z2 z3 z4 z5 z6 z7 z8 z9 z10 z11 zf zl p0 p1 p2 p3 p4 pf pl
    obtain ⟨⟨z0, z1, z2, z3, z4, z5, z6, z7, z8, z9, z10, z11⟩, zf, zl⟩ := twelve_cells H9.out.2.2.2.1
    obtain ⟨⟨y0, y1, y2, y3, y4, y5, y6, y7, y8, y9, y10, y11⟩, yf, yl⟩ := twelve_cells H9.out.2.2.2.2
    go_wp2_with fail
    refine bodyPost_ret (v := .tuple #[.agg #[.slice D1 N.regs.length f1, .int .i64 N.pc, .int .i64 N.back, .bool N.ints, .bool N.wait, .int .i64 N.table, .int .i64 N.count, .int .i64 N.fin, .slice D2 N.mem.length f2, .slice D3 N.out.length f3, .int .i64 N.ready, .int .i64 N.want], .int .i64 0]) (by simp [results, Tryz.results53, go_sem, y0, y1, y2, y3, y4, y5, y6, y7, y8, y9, y10, y11]) rfl ?_
    have h10 := one12 H9.out.1 H9.out.2.1 H9.out.2.2.1 HLO.out (Nat.le_succ _) ⟨_, H9.out.2.2.2.2⟩ (.slice D1 N.regs.length f1) (.int .i64 N.pc) (.int .i64 N.back) (.bool N.ints) (.bool N.wait) (.int .i64 N.table) (.int .i64 N.count) (.int .i64 N.fin) (.slice D2 N.mem.length f2) (.slice D3 N.out.length f3) (.int .i64 N.ready) (.int .i64 N.want)
    exact RStepQ.mk HN.out HVA.out.1 (by show s.bl + 1 = if s.new x k = true then _ else _; rw [HNEW2.out]; rfl) h10.1 h10.2.1 h10.2.2 (HREL.out.1.next HREL.out.2.1 (HM.out.2.2.2 ▸ HM.out.1) (HM.out.2.2.2 ▸ HM.out.2.1) (HM.out.2.2.2 ▸ hcM) HREL.out.2.2 H1.out.2.2.2.2.2.1 rfl (by rw [HNEW2.out, HNM.out.2, HD.out.1]; rfl) H4.out.2.2.1) H4.out.2.2.2

end Go.Proofs.YtecpblabaelopaaGreatDoor

/- Contract of run.Record. -/

namespace Go.Proofs.YtecpblabaelopaaGreatDoor
open Go.RowKit
set_option maxRecDepth 100000

theorem rstep_any (g : RcB) (lo : Nat) (iv zv : Value) (x : Wd) (s : RecS) (cm : Nat) (due k : Int) (R : List (Ev × Value)) (rv mv ov : Value) (w : World)
    (h : RcAt w lo g iv zv x s.va cm s.bl due R) (hr : RcRel k s cm due R) (hx : WdMay x) (hR : R.length ≤ 8997) (ho : OwnM w lo rv mv ov s.m) (hm : MayP s.m) (hf : s.m.fin = 0) (hc : s.m.count = k) (hk : 0 ≤ k ∧ k < 3000) :
    Calls Tryz.prog 53 #[ptr g.p, .agg (s.m.cells rv mv ov)] w fun e w' => RStepQ w lo g iv zv x s k R e w' := by
  cases hq : s.ask x k with
  | true => exact rstep_ask g lo iv zv x s cm due k R rv mv ov w h hr hx hR ho hm hf hc hk hq
  | false => exact rstep_quiet g lo iv zv x s cm due k R rv mv ov w h hr hx hR ho hm hf hc hk hq
def cntAt (w : World) (b : Nat) : Nat := match w.cell? ⟨b, 6, none⟩ with
  | some v => (intOf v).toNat
  | none => 0
theorem cntAt_of {w : World} {b : Nat} {rv mv ov : Value} {M : Mach} (h : w.heap[b]? = some (.cells (M.cells rv mv ov) 37 (0, 0))) : cntAt w b = M.count.toNat := by
  obtain ⟨⟨_, _, _, _, _, _, h6, _⟩, _⟩ := twelve_cells h
  unfold cntAt
  rw [h6]
  rfl
theorem recs_data {x : Wd} (hx : WdMay x) {im : List Int} : ∀ k, ∀ y ∈ (recN x im k).evs, y.data.length ≤ 1000
  | 0, y, hy => by simp [recN] at hy
  | k + 1, y, hy => by
    unfold recN at hy
    split at hy
    · simp only [RecS.next, List.mem_append] at hy
      rcases hy with ((hy | hy) | hy) | hy
      · exact recs_data hx k y hy
      · unfold RecS.evI at hy
        split at hy <;> simp at hy
        subst hy
        simp
      · unfold RecS.evB at hy
        split at hy
        · rename_i hd
          simp at hy
          subst hy
          show (RecS.blk _ _ _).length ≤ _
          rw [RecS.blk_at hx hd]
          omega
        · simp at hy
      · unfold RecS.evV at hy
        split at hy <;> simp at hy
        subst hy
        simp
    · exact recs_data hx k y hy

def IsBoxT (w : World) (p : Nat) (t : TypeId) : Prop := ∃ cur, w.heap[p]? = some (.cells cur t (0, 0))
theorem IsBoxT.set {w : World} {p q : Nat} {t : TypeId} (h : IsBoxT w p t) (i : Nat) (x : Value) : IsBoxT (w.setCell ⟨q, i, none⟩ x) p t := by
  obtain ⟨cur, hc⟩ := h
  by_cases e : p = q
  · subst e
    exact ⟨cur.setIfInBounds i x, by simp [World.setCell, Array.getElem?_modify, hc]⟩
  · exact ⟨cur, by rw [Go.Deep.blk_setCell_other _ _ _ _ (by simpa using e)]; exact hc⟩
theorem own_set {w : World} {base n size p : Nat} {e t : TypeId} {v : Value} {xs : List Value} (k : w.ownsRow base e size v n xs) (hp : IsBoxT w p t) (ht : e ≠ t) (i : Nat) (x : Value) : (w.setCell ⟨p, i, none⟩ x).ownsRow base e size v n xs := by
  obtain ⟨cur, hc⟩ := hp
  exact (But.set (lo := 0) w (Nat.zero_le _) i x).owns k (own_ne3 k hc ht)
theorem own_set12 {w : World} {base n size p : Nat} {e t : TypeId} {v : Value} {xs : List Value} (k : w.ownsRow base e size v n xs) (hp : IsBoxT w p t) (ht : e ≠ t) (x0 x1 x2 x3 x4 x5 x6 x7 x8 x9 x10 x11 : Value) : (set12 w p x0 x1 x2 x3 x4 x5 x6 x7 x8 x9 x10 x11).ownsRow base e size v n xs := by
  have step : ∀ (w : World) (i : Nat) (x : Value), (w.ownsRow base e size v n xs ∧ IsBoxT w p t) → ((w.setCell ⟨p, i, none⟩ x).ownsRow base e size v n xs ∧ IsBoxT (w.setCell ⟨p, i, none⟩ x) p t) := fun w i x h => ⟨own_set h.1 h.2 ht i x, h.2.set i x⟩
  exact (step _ 11 x11 (step _ 10 x10 (step _ 9 x9 (step _ 8 x8 (step _ 7 x7 (step _ 6 x6 (step _ 5 x5 (step _ 4 x4 (step _ 3 x3 (step _ 2 x2 (step _ 1 x1 (step _ 0 x0 ⟨k, hp⟩)))))))))))).1
abbrev set15 (w : World) (pT pM : Nat) (z0 z1 z2 x0 x1 x2 x3 x4 x5 x6 x7 x8 x9 x10 x11 : Value) : World :=
  set12 (((w.setCell ⟨pT, 0, none⟩ z0).setCell ⟨pT, 1, none⟩ z1).setCell ⟨pT, 2, none⟩ z2) pM x0 x1 x2 x3 x4 x5 x6 x7 x8 x9 x10 x11
theorem final_own {w : World} {base n size pT pM : Nat} {e tT tM : TypeId} {v : Value} {xs : List Value} (k : w.ownsRow base e size v n xs) (hT : IsBoxT w pT tT) (hM : IsBoxT w pM tM) (h1 : e ≠ tT) (h2 : e ≠ tM) (z0 z1 z2 x0 x1 x2 x3 x4 x5 x6 x7 x8 x9 x10 x11 : Value) : (set15 w pT pM z0 z1 z2 x0 x1 x2 x3 x4 x5 x6 x7 x8 x9 x10 x11).ownsRow base e size v n xs :=
  own_set12 (own_set (own_set (own_set k hT h1 0 z0) (hT.set 0 z0) h1 1 z1) ((hT.set 0 z0).set 1 z1) h1 2 z2) (((hM.set 0 z0).set 1 z1).set 2 z2) h2 _ _ _ _ _ _ _ _ _ _ _ _
theorem final_below {w0 w : World} {B pT pM : Nat} (h : Below B w0 w) (h1 : B ≤ pT) (h2 : B ≤ pM) (z0 z1 z2 x0 x1 x2 x3 x4 x5 x6 x7 x8 x9 x10 x11 : Value) : Below B w0 (set15 w pT pM z0 z1 z2 x0 x1 x2 x3 x4 x5 x6 x7 x8 x9 x10 x11) :=
  below_set12 (((h.setCell (p := ⟨pT, 0, none⟩) h1 z0).setCell (p := ⟨pT, 1, none⟩) h1 z1).setCell (p := ⟨pT, 2, none⟩) h1 z2) h2 _ _ _ _ _ _ _ _ _ _ _ _

set_option maxHeartbeats 4000000 in
theorem Record_any (A : Option Addr) (ca : Nat) (im : List Int) (a b c d : Value) (x : Wd) (n : Int) (w : World) (hi : IntsAt w (.slice A im.length ca) im) (hw : WdT w.heap.size w a b c d x) (hL : Laid w) :
    Calls Tryz.prog 27 #[.slice A im.length ca, .agg #[a, b, c, d], .int .i64 n] w fun e w' => RecQ w (recA x im n) e w' := by
  have HWT : Hid (WdT w.heap.size w a b c d x) := hw
  obtain ⟨A0, k0, rfl, -, -, -⟩ := hw.irqs
  obtain ⟨A1, k1, rfl, -, -, -⟩ := hw.values
  obtain ⟨A2, k2, rfl, -, -, -⟩ := hw.blocks
  obtain ⟨A3, k3, rfl, -, -, -⟩ := hw.delays
  obtain ⟨b0, b1, b2⟩ := three_boxes (w := w) (o1 := .cells #[.slice A0 x.irqs.length k0, .slice A1 x.values.length k1, .slice A2 x.blocks.length k2, .slice A3 x.delays.length k3] 53) (o2 := .cells zeroT 27) (o3 := .cells zeroM 37)
  obtain ⟨W, hW⟩ : ∃ W, W = ((w.alloc (.cells #[.slice A0 x.irqs.length k0, .slice A1 x.values.length k1, .slice A2 x.blocks.length k2, .slice A3 x.delays.length k3] 53)).alloc (.cells zeroT 27)).alloc (.cells zeroM 37) := ⟨_, rfl⟩
  rw [← hW] at b0 b1 b2
  have HW : Hid (W = ((w.alloc (.cells #[.slice A0 x.irqs.length k0, .slice A1 x.values.length k1, .slice A2 x.blocks.length k2, .slice A3 x.delays.length k3] 53)).alloc (.cells zeroT 27)).alloc (.cells zeroM 37)) := hW
  have HX : Hid (W.heap[w.heap.size]? = some (.cells #[.slice A0 x.irqs.length k0, .slice A1 x.values.length k1, .slice A2 x.blocks.length k2, .slice A3 x.delays.length k3] 53 (0, 0)) ∧ W.heap[w.heap.size + 1]? = some (.cells zeroT 27 (0, 0)) ∧ W.heap[w.heap.size + 1 + 1]? = some (.cells zeroM 37 (0, 0)) ∧ Below w.heap.size w W ∧ w.heap.size + 1 + 1 < W.heap.size) := ⟨b0.trans (Go.Deep.blk_alloc_new _ _), by
    rw [b1]
    have := Go.Deep.blk_alloc_new (w.alloc (.cells #[.slice A0 x.irqs.length k0, .slice A1 x.values.length k1, .slice A2 x.blocks.length k2, .slice A3 x.delays.length k3] 53)) (.cells zeroT 27)
    simpa using this, by
    rw [hW]
    have := Go.Deep.blk_alloc_new ((w.alloc (.cells #[.slice A0 x.irqs.length k0, .slice A1 x.values.length k1, .slice A2 x.blocks.length k2, .slice A3 x.delays.length k3] 53)).alloc (.cells zeroT 27)) (.cells zeroM 37)
    simpa using this, b2, by rw [hW]; simp⟩
  have HI : Hid (IntsAt w (.slice A im.length ca) im ∧ Laid w) := ⟨hi, hL⟩
  obtain ⟨G, hG⟩ : ∃ G, G = recA x im n := ⟨_, rfl⟩
  rw [← hG]
  have HG : Hid (G = recA x im n) := hG
  clear hi hw hL b0 b1 b2 hW hG
  by_cases hn : newNo im = 0
  case neg =>
    have HE : Hid (G = ⟨newNo im, [], [], 0, recNone⟩) := HG.out.trans (recA_no (by unfold recNo; rw [if_pos hn]) hn)
    have HNN : Hid (Calls Tryz.prog 46 #[.slice A im.length ca] W fun e w' => e = .returned (.tuple #[.agg zeroM, .int .i64 (newNo im)]) ∧ Below W.heap.size W w') := New_no _ im W (HI.out.1.below HX.out.2.2.2.1) hn
    have d0 : (newNo im != 0) = true := by simpa using hn
    clear hn
    revert HE HNN d0
    generalize newNo im = kn
    intro HE HNN d0
    go_enter Tryz.func27, Tryz.ntmps27
    go_wp2_with fail
    rw [← HW.out]
    refine HNN.out.mono ?_
    rintro e w1 ⟨rfl, hb1⟩
    have HB : Hid (Below w.heap.size w w1) := HX.out.2.2.2.1.trans (hb1.mono HX.out.2.2.2.1.size)
    obtain ⟨t0, t1, t2, tf, tl⟩ := three_cells ((hb1.block _ (lt_of_block HX.out.2.1)).trans HX.out.2.1)
    obtain ⟨⟨y0, y1, y2, y3, y4, y5, y6, y7, y8, y9, y10, y11⟩, yf, yl⟩ := twelve_cells ((hb1.block _ (lt_of_block HX.out.2.2.1)).trans HX.out.2.2.1)
    clear hb1 HNN
    dsimp only
    go_wp2_with fail
    refine bodyPost_ret (v := .tuple #[.agg #[.slice none 0 0, .slice none 0 0, .int .i64 0], .agg zeroM, .int .i64 kn]) (by simp [results, Tryz.results27, go_sem, tl, yl, t0, t1, t2, y0, y1, y2, y3, y4, y5, y6, y7, y8, y9, y10, y11]) rfl ?_
    rw [HE.out]
    refine recQ_no ?_
    have HBS := HB.out.size
    refine Below.alloc ?_ (by simp; omega) _
    repeat (refine Below.setCell ?_ (by first | (simp; done) | (simp; omega)) _)
    exact HB.out
  case pos =>
    go_enter Tryz.func27, Tryz.ntmps27
    go_wp2_with fail
    rw [← HW.out]
    refine (New_ok _ im W (HI.out.1.below HX.out.2.2.2.1) hn).mono ?_
    rintro e w1 ⟨rv, mv, ov, rfl, ho1, hb1⟩
    obtain ⟨D1, f1, D2, f2, D3, f3, rfl, rfl, rfl⟩ := ho1.shape
    have hB1 : Below w.heap.size w w1 := HX.out.2.2.2.1.trans (hb1.mono HX.out.2.2.2.1.size)
    obtain ⟨M0, hM0⟩ : ∃ M0, M0 = newM im := ⟨_, rfl⟩
    rw [← hM0] at ho1 ⊢
    have HM0 : Hid (M0 = newM im) := hM0
    have hA := below_alloc w1 (.cells (M0.cells (.slice D1 M0.regs.length f1) (.slice D2 M0.mem.length f2) (.slice D3 M0.out.length f3)) 37)
    have hbw := HX.out.2.2.2.1.size
    have hbx := HX.out.2.2.2.2
    have hb1s := hb1.size
    have hbox : RBox w (w1.alloc (.cells (M0.cells (.slice D1 M0.regs.length f1) (.slice D2 M0.mem.length f2) (.slice D3 M0.out.length f3)) 37)) #[.slice A0 x.irqs.length k0, .slice A1 x.values.length k1, .slice A2 x.blocks.length k2, .slice A3 x.delays.length k3] w1.heap.size (.slice D1 M0.regs.length f1) (.slice D2 M0.mem.length f2) (.slice D3 M0.out.length f3) M0 :=
      ⟨(hA.block _ (by omega)).trans ((hb1.block _ (by omega)).trans HX.out.1), (hA.block _ (by omega)).trans ((hb1.block _ (by omega)).trans HX.out.2.1), (hA.block _ (by omega)).trans ((hb1.block _ (by omega)).trans HX.out.2.2.1), Go.Deep.blk_alloc_new _ _, (ho1.mono hbw).below hA, hB1.alloc hB1.size _, by omega⟩
    obtain ⟨bM, hbM⟩ : ∃ bM, bM = w1.heap.size := ⟨_, rfl⟩
    obtain ⟨W2, hW2⟩ : ∃ W2, W2 = w1.alloc (.cells (M0.cells (.slice D1 M0.regs.length f1) (.slice D2 M0.mem.length f2) (.slice D3 M0.out.length f3)) 37) := ⟨_, rfl⟩
    rw [← hbM, ← hW2] at hbox
    have HB2 : Hid (RBox w W2 #[.slice A0 x.irqs.length k0, .slice A1 x.values.length k1, .slice A2 x.blocks.length k2, .slice A3 x.delays.length k3] bM (.slice D1 M0.regs.length f1) (.slice D2 M0.mem.length f2) (.slice D3 M0.out.length f3) M0) := hbox
    have HW2 : Hid (W2 = w1.alloc (.cells (M0.cells (.slice D1 M0.regs.length f1) (.slice D2 M0.mem.length f2) (.slice D3 M0.out.length f3)) 37)) := hW2
    have HNI : Hid (newNo im = 0) := hn
    simp only [Mach.cells] at HW2 ⊢
    obtain ⟨z0, z1, z2, z3, zf, zl⟩ := four_cells ((hb1.block _ (by omega)).trans HX.out.1)
    clear ho1 hb1 hB1 hA hbw hbx hb1s hbox hW2 hM0 hn HX HW
    go_wp2_with fail
    rw [← HW2.out, ← hbM]
    clear z0 z1 z2 z3 zf zl HW2 hbM
    refine (CheckWorld_any _ _ _ _ x W2 (HWT.out.below HB2.out.old).at).mono ?_
    rintro e w3 ⟨rfl, hb3⟩
    have HB3 : Hid (RBox w w3 #[.slice A0 x.irqs.length k0, .slice A1 x.values.length k1, .slice A2 x.blocks.length k2, .slice A3 x.delays.length k3] bM (.slice D1 M0.regs.length f1) (.slice D2 M0.mem.length f2) (.slice D3 M0.out.length f3) M0) := HB2.out.below hb3
    clear hb3 HB2
    by_cases hwn : worldNo x = 0
    case neg =>
      have HE : Hid (G = ⟨worldNo x, [], [], 0, recNone⟩) := HG.out.trans (recA_no (by unfold recNo; rw [if_neg (by rw [HNI.out]; simp), if_pos hwn]) hwn)
      have d0 : (worldNo x != 0) = true := by simpa using hwn
      clear hwn
      revert HE d0
      generalize worldNo x = kn
      intro HE d0
      obtain ⟨t0, t1, t2, tf, tl⟩ := three_cells HB3.out.tb
      obtain ⟨⟨y0, y1, y2, y3, y4, y5, y6, y7, y8, y9, y10, y11⟩, yf, yl⟩ := twelve_cells HB3.out.rb
      go_wp2_with fail
      refine bodyPost_ret (v := .tuple #[.agg #[.slice none 0 0, .slice none 0 0, .int .i64 0], .agg zeroM, .int .i64 kn]) (by simp [results, Tryz.results27, go_sem, t0, t1, t2, y0, y1, y2, y3, y4, y5, y6, y7, y8, y9, y10, y11]) rfl ?_
      rw [HE.out]
      refine recQ_no ?_
      have HBS := HB3.out.old.size
      repeat (refine Below.setCell ?_ (by first | (simp; done) | (simp; omega)) _)
      exact HB3.out.old
    case pos =>
    have HWM : Hid (WdMay x ∧ worldNo x = 0) := ⟨worldNo_may hwn, hwn⟩
    rw [hwn]
    clear hwn
    go_wp2_with fail
    refine (isNoCount_any _).mono ?_
    rintro e w4 ⟨p, q, rfl, hq4, hb4⟩
    have HB4 : Hid (RBox w w4 #[.slice A0 x.irqs.length k0, .slice A1 x.values.length k1, .slice A2 x.blocks.length k2, .slice A3 x.delays.length k3] bM (.slice D1 M0.regs.length f1) (.slice D2 M0.mem.length f2) (.slice D3 M0.out.length f3) M0 ∧ CloAtR w4 p q 0 3000) := ⟨HB3.out.below hb4, hq4⟩
    clear hb4 hq4 HB3
    cases hin : inB n 0 3000 with
    | false =>
      have HE : Hid (G = ⟨2, [], [], 0, recNone⟩) := HG.out.trans (recA_no (by unfold recNo; rw [if_neg (by rw [HNI.out]; simp), if_neg (by rw [HWM.out.2]; simp), if_pos hin]) (by decide))
      obtain ⟨t0, t1, t2, tf, tl⟩ := three_cells HB4.out.1.tb
      obtain ⟨⟨y0, y1, y2, y3, y4, y5, y6, y7, y8, y9, y10, y11⟩, yf, yl⟩ := twelve_cells HB4.out.1.rb
      go_wp2_with (go_at_call 72; refine (cloR_any n 0 3000 p q _ HB4.out.2).mono ?_; rw [hin]; rintro e w' ⟨rfl, hw'⟩; rw [hw']; clear hw' w')
      refine bodyPost_ret (v := .tuple #[.agg #[.slice none 0 0, .slice none 0 0, .int .i64 0], .agg zeroM, .int .i64 2]) (by simp [results, Tryz.results27, go_sem, t0, t1, t2, y0, y1, y2, y3, y4, y5, y6, y7, y8, y9, y10, y11]) rfl ?_
      rw [HE.out]
      refine recQ_no ?_
      have HBS := HB4.out.1.old.size
      repeat (refine Below.setCell ?_ (by first | (simp; done) | (simp; omega)) _)
      exact HB4.out.1.old
    | true =>
    obtain ⟨Nn, hN⟩ : ∃ Nn : Nat, n = (Nn : Int) := ⟨n.toNat, by have := (inB_iff.1 hin).1; omega⟩
    subst hN
    have HNN : Hid (Nn ≤ 3000 ∧ recNo x im (Nn : Int) = chkNo (recN x im Nn).evs) := ⟨by have := (inB_iff.1 hin).2; omega, by unfold recNo; rw [if_neg (by rw [HNI.out]; simp), if_neg (by rw [HWM.out.2]; simp), if_neg (by rw [hin]; simp)]; rfl⟩
    obtain ⟨z0, z1, z2, z3, zf, zl⟩ := four_cells HB4.out.1.wb
    go_wp2_with (first | (go_at_call 72; refine (cloR_any (Nn : Int) 0 3000 p q _ HB4.out.2).mono ?_; rw [hin]; rintro e w' ⟨rfl, hw'⟩; rw [hw']; clear hw' w'))
    refine (newRecorder_any _ _ _ _ x w.heap.size w4 (HWT.out.below HB4.out.1.old)).mono ?_
    rintro e w5 ⟨g, iv, zv, rfl, hr5, hb5⟩
    have HB5 : Hid (RBox w w5 #[.slice A0 x.irqs.length k0, .slice A1 x.values.length k1, .slice A2 x.blocks.length k2, .slice A3 x.delays.length k3] bM (.slice D1 M0.regs.length f1) (.slice D2 M0.mem.length f2) (.slice D3 M0.out.length f3) M0 ∧ RcAt w5 w.heap.size g iv zv x 0 0 0 (-1) [] ∧ Laid w5) := ⟨HB4.out.1.below hb5, hr5, HI.out.2.below (HB4.out.1.below hb5).old⟩
    clear hr5 hb5 HB4 z0 z1 z2 z3 zf zl
    dsimp only
    go_wp2_with fail
    go_loopw [10] (fun ev wr => ∃ (k : Nat) (M : Mach) (B1 : Option Addr) (e1 : Nat) (B2 : Option Addr) (e2 : Nat) (B3 : Option Addr) (e3 : Nat) (cm : Nat) (due : Int) (R : List (Ev × Value)), k ≤ Nn ∧ ev = .int .i64 0 ∧ Hid (M = (recN x im k).m ∧ RBox w wr #[.slice A0 x.irqs.length k0, .slice A1 x.values.length k1, .slice A2 x.blocks.length k2, .slice A3 x.delays.length k3] bM (.slice B1 M.regs.length e1) (.slice B2 M.mem.length e2) (.slice B3 M.out.length e3) M ∧ RcAt wr w.heap.size g iv zv x (recN x im k).va cm (recN x im k).bl due R ∧ RcRel (k : Int) (recN x im k) cm due R ∧ R.length ≤ 3 * k)) (fun _ wr => Nn - cntAt wr bM)
    case atStart => exact ⟨0, M0, D1, f1, D2, f2, D3, f3, 0, -1, [], Nat.zero_le _, rfl, HM0.out, HB5.out.1, HB5.out.2.1, ⟨rfl, Or.inl ⟨rfl, rfl, by decide, rfl⟩⟩, by simp⟩
    case round =>
      obtain ⟨k, M, B1, e1, B2, e2, B3, e3, cm, due, R, hk, rfl, HR⟩ := hrel
      have hok := rec_ok HWM.out.1 HNI.out k (by have := HNN.out.1; omega)
      have HMM : Hid (MayP M ∧ (M.fin = 0 → M.count = (k : Int)) ∧ M.count ≤ (k : Int)) := by
        rw [HR.out.1]
        exact ⟨hok.may, hok.cnt, hok.cle⟩
      clear hok
      obtain ⟨⟨m0, m1, m2, m3, m4, m5, m6, m7, m8, m9, m10, m11⟩, mf, ml⟩ := twelve_cells HR.out.2.1.mb
      by_cases hgo : M.fin = 0 ∧ k < Nn
      case pos =>
        have d0 : (M.fin == 0) = true := by simp [hgo.1]
        have hcm := HMM.out.2.1 hgo.1
        have d1 : M.count < (Nn : Int) := by omega
        have HGO : Hid (M.fin = 0 ∧ k < Nn ∧ M.count = (k : Int)) := ⟨hgo.1, hgo.2, hcm⟩
        have hst : Calls Tryz.prog 53 #[ptr g.p, .agg (M.cells (.slice B1 M.regs.length e1) (.slice B2 M.mem.length e2) (.slice B3 M.out.length e3))] wr fun e w' => ∃ rv' mv' ov' R' cm' due', e = .returned (.tuple #[.agg ((recN x im (k + 1)).m.cells rv' mv' ov'), .int .i64 0]) ∧ OwnM w' w.heap.size rv' mv' ov' (recN x im (k + 1)).m ∧ RcAt w' w.heap.size g iv zv x (recN x im (k + 1)).va cm' (recN x im (k + 1)).bl due' R' ∧ RcRel ((k : Int) + 1) (recN x im (k + 1)) cm' due' R' ∧ R'.length ≤ R.length + 3 ∧ KpI w.heap.size wr w' := by
          have hM := HR.out.1
          have hf0 : (recN x im k).m.fin = 0 := by rw [← hM]; exact hgo.1
          rw [rec_step hf0]
          have e := rstep_any g w.heap.size iv zv x (recN x im k) cm due (k : Int) R (.slice B1 M.regs.length e1) (.slice B2 M.mem.length e2) (.slice B3 M.out.length e3) wr HR.out.2.2.1 HR.out.2.2.2.1 HWM.out.1 (by have := HR.out.2.2.2.2; have := HNN.out.1; omega) (by rw [← hM]; exact HR.out.2.1.own) (by rw [← hM]; exact HMM.out.1) hf0 (by rw [← hM]; exact hcm) ⟨by omega, by have := HNN.out.1; omega⟩
          rw [← hM] at e
          exact e
        have HST : Hid (Calls Tryz.prog 53 #[ptr g.p, .agg (M.cells (.slice B1 M.regs.length e1) (.slice B2 M.mem.length e2) (.slice B3 M.out.length e3))] wr fun e w' => ∃ rv' mv' ov' R' cm' due', e = .returned (.tuple #[.agg ((recN x im (k + 1)).m.cells rv' mv' ov'), .int .i64 0]) ∧ OwnM w' w.heap.size rv' mv' ov' (recN x im (k + 1)).m ∧ RcAt w' w.heap.size g iv zv x (recN x im (k + 1)).va cm' (recN x im (k + 1)).bl due' R' ∧ RcRel ((k : Int) + 1) (recN x im (k + 1)) cm' due' R' ∧ R'.length ≤ R.length + 3 ∧ KpI w.heap.size wr w') := hst
        simp only [Mach.cells] at HST
        clear hst hgo hcm
        go_wp2_with fail
        refine HST.out.mono ?_
        rintro e w6 ⟨rv', mv', ov', R', cm', due', rfl, ho6, hr6, hrel6, hl6, hk6⟩
        obtain ⟨E1, g1, E2, g2, E3, g3, rfl, rfl, rfl⟩ := ho6.shape
        obtain ⟨N, hN⟩ : ∃ N, N = (recN x im (k + 1)).m := ⟨_, rfl⟩
        rw [← hN] at ho6 ⊢
        have H6 : Hid (OwnM w6 w.heap.size (.slice E1 N.regs.length g1) (.slice E2 N.mem.length g2) (.slice E3 N.out.length g3) N ∧ RcAt w6 w.heap.size g iv zv x (recN x im (k + 1)).va cm' (recN x im (k + 1)).bl due' R' ∧ RcRel ((k : Int) + 1) (recN x im (k + 1)) cm' due' R' ∧ R'.length ≤ R.length + 3 ∧ RBox w w6 #[.slice A0 x.irqs.length k0, .slice A1 x.values.length k1, .slice A2 x.blocks.length k2, .slice A3 x.delays.length k3] bM (.slice B1 M.regs.length e1) (.slice B2 M.mem.length e2) (.slice B3 M.out.length e3) M ∧ N = (recN x im (k + 1)).m) := ⟨ho6, hr6, hrel6, hl6, HR.out.2.1.kp hk6, hN⟩
        have HMS : Hid (cntAt wr bM = k) := by
          show _ = _
          rw [cntAt_of HR.out.2.1.mb, HGO.out.2.2]
          simp
        clear ho6 hr6 hrel6 hl6 hk6 hN HST m0 m1 m2 m3 m4 m5 m6 m7 m8 m9 m10 m11 mf ml
        obtain ⟨⟨m0, m1, m2, m3, m4, m5, m6, m7, m8, m9, m10, m11⟩, mf, ml⟩ := twelve_cells H6.out.2.2.2.2.1.mb
        simp only
        go_wp2_with fail
        have hput := H6.out.2.2.2.2.1.put H6.out.1
        have hNc : N.count = ((k + 1 : Nat) : Int) := by
          rw [H6.out.2.2.2.2.2, rec_step (by rw [← HR.out.1]; exact HGO.out.1)]
          show (RecS.then_ _ _ _).count = _
          unfold RecS.then_
          rw [step_going _ _ _ (by rw [← HR.out.1]; exact HGO.out.1), ← HR.out.1, HGO.out.2.2]
          omega
        refine ⟨⟨k + 1, N, E1, g1, E2, g2, E3, g3, cm', due', R', HGO.out.2.1, rfl, H6.out.2.2.2.2.2, hput, H6.out.2.1.set12 ⟨_, H6.out.2.2.2.2.1.mb⟩ (by have := H6.out.2.2.2.2.1.hb; omega) _ _ _ _ _ _ _ _ _ _ _ _, by have e := H6.out.2.2.1; rw [Int.natCast_succ]; exact e, by have := H6.out.2.2.2.1; have := HR.out.2.2.2.2; omega⟩, ?_⟩
        have h1 := cntAt_of hput.mb
        rw [HMS.out]
        refine Nat.lt_of_le_of_lt (Nat.le_of_eq (congrArg (Nn - ·) h1)) ?_
        have := HGO.out.2.1
        rw [hNc]
        omega
      case neg =>
        have HEND : Hid (recN x im k = recN x im Nn) := by
          show _ = _
          by_cases hf : M.fin = 0
          · have : k = Nn := by
              have h1 : ¬ k < Nn := fun e => hgo ⟨hf, e⟩
              omega
            rw [this]
          · have e := rec_stays (x := x) (im := im) (k := k) (by rw [← HR.out.1]; exact hf) (Nn - k)
            rw [show k + (Nn - k) = Nn by omega] at e
            exact e.symm
        have hx2 : (M.fin == 0) = false ∨ ((M.fin == 0) = true ∧ ¬ M.count < (Nn : Int)) := by
          by_cases hf : M.fin = 0
          · refine Or.inr ⟨by simp [hf], ?_⟩
            have := HMM.out.2.1 hf
            have h1 : ¬ k < Nn := fun e => hgo ⟨hf, e⟩
            omega
          · exact Or.inl (by simpa using hf)
        obtain ⟨ev6, q1, q2⟩ := HR.out.2.2.1.box
        have HEV : Hid (EvsF wr ev6 (recN x im Nn).evs) := by
          have e := q2.evs HR.out.2.2.1.lw (by have := HR.out.2.2.2.2; have := HNN.out.1; omega) (fun p hp => recs_data HWM.out.1 k p.1 (by rw [← HR.out.2.2.2.1.evs]; exact List.mem_map_of_mem hp))
          rw [HR.out.2.2.2.1.evs, HEND.out] at e
          exact e
        obtain ⟨⟨p0, p1, p2, p3, p4, p5⟩, pf, pl⟩ := six_cells q1
        obtain ⟨Ae, ce, rfl⟩ := q2.shape
        clear q1 q2 hgo
        rcases hx2 with d0 | ⟨d0, d1⟩
        all_goals
          go_wp2_with fail
          by_cases hen : chkNo (recN x im Nn).evs = 0
          case neg =>
            refine (Encode_no _ _ wr HEV.out.at_ (HI.out.2.below HR.out.2.1.old) hen).mono ?_
            rintro e w7 ⟨rfl, hb7⟩
            have HE : Hid (G = ⟨chkNo (recN x im Nn).evs, [], [], 0, recNone⟩) := HG.out.trans (recA_no HNN.out.2 hen)
            have d2 : (chkNo (recN x im Nn).evs != 0) = true := by simpa using hen
            have HB7 := HR.out.2.1.below hb7
            have HBS := HB7.old.size
            have HBO : Hid (Below w.heap.size w w7) := HB7.old
            clear hen
            revert HE d2
            generalize chkNo (recN x im Nn).evs = kn
            intro HE d2
            obtain ⟨t0, t1, t2, tf, tl⟩ := three_cells HB7.tb
            obtain ⟨⟨y0, y1, y2, y3, y4, y5, y6, y7, y8, y9, y10, y11⟩, yf, yl⟩ := twelve_cells HB7.rb
            clear hb7 HB7 m0 m1 m2 m3 m4 m5 m6 m7 m8 m9 m10 m11 mf ml p0 p1 p2 p3 p4 p5 pf pl
            try dsimp only
            go_wp2_with fail
            refine bodyPost_ret (v := .tuple #[.agg #[.slice none 0 0, .slice none 0 0, .int .i64 0], .agg zeroM, .int .i64 kn]) (by simp [results, Tryz.results27, go_sem, t0, t1, t2, y0, y1, y2, y3, y4, y5, y6, y7, y8, y9, y10, y11]) rfl ?_
            rw [HE.out]
            refine recQ_no ?_
            repeat (refine Below.setCell ?_ (by first | (simp; done) | (simp; omega)) _)
            exact HBO.out
          case pos =>
            refine (Encode_ok _ _ wr HEV.out (HI.out.2.below HR.out.2.1.old) hen).mono ?_
            rintro e w7 ⟨u, rfl, hu7, hb7⟩
            obtain ⟨Au, cu, rfl⟩ := hu7.shape
            obtain ⟨nu, hnu⟩ : ∃ nu, nu = (fullB (recN x im Nn).evs).length := ⟨_, rfl⟩
            rw [← hnu] at hu7 ⊢
            clear hnu
            have HE : Hid (G = ⟨0, im, fullB (recN x im k).evs, M.count, M⟩) := by
              show _ = _
              rw [HG.out, recA_ok (HNN.out.2.trans hen), Int.toNat_natCast, ← HEND.out, ← HR.out.1]
            have H7 : Hid (RBox w w7 #[.slice A0 x.irqs.length k0, .slice A1 x.values.length k1, .slice A2 x.blocks.length k2, .slice A3 x.delays.length k3] bM (.slice B1 M.regs.length e1) (.slice B2 M.mem.length e2) (.slice B3 M.out.length e3) M ∧ OwnB w7 w.heap.size (.slice Au nu cu) (fullB (recN x im k).evs) ∧ IntsAt w7 (.slice A im.length ca) im) := ⟨HR.out.2.1.below hb7, by rw [HEND.out]; exact hu7.mono HR.out.2.1.old.size, HI.out.1.below (HR.out.2.1.below hb7).old⟩
            clear hen hu7 hb7 m0 m1 m2 m3 m4 m5 m6 m7 m8 m9 m10 m11 mf ml p0 p1 p2 p3 p4 p5 pf pl
            obtain ⟨⟨m0, m1, m2, m3, m4, m5, m6, m7, m8, m9, m10, m11⟩, mf, ml⟩ := twelve_cells H7.out.1.mb
            try dsimp only
            go_wp2_with fail
            have hbm := H7.out.1.hb
            have hn1 : ¬ w.heap.size + 1 = bM := by omega
            have hn2 : ¬ w.heap.size + 1 + 1 = bM := by omega
            have hn3 : ¬ bM = w.heap.size + 1 := by omega
            have hn4 : ¬ bM = w.heap.size + 1 + 1 := by omega
            go_region_held3 (fun w' => w'.cell? ⟨bM, 0, none⟩ = some (.slice B1 M.regs.length e1) ∧ w'.cell? ⟨bM, 1, none⟩ = some (.int .i64 M.pc) ∧ w'.cell? ⟨bM, 2, none⟩ = some (.int .i64 M.back) ∧ w'.cell? ⟨bM, 3, none⟩ = some (.bool M.ints) ∧ w'.cell? ⟨bM, 4, none⟩ = some (.bool M.wait) ∧ w'.cell? ⟨bM, 5, none⟩ = some (.int .i64 M.table) ∧ w'.cell? ⟨bM, 6, none⟩ = some (.int .i64 M.count) ∧ w'.cell? ⟨bM, 7, none⟩ = some (.int .i64 M.fin) ∧ w'.cell? ⟨bM, 8, none⟩ = some (.slice B2 M.mem.length e2) ∧ w'.cell? ⟨bM, 9, none⟩ = some (.slice B3 M.out.length e3) ∧ w'.cell? ⟨bM, 10, none⟩ = some (.int .i64 M.ready) ∧ w'.cell? ⟨bM, 11, none⟩ = some (.int .i64 M.want)) (go_keep)
              (first | (go_at_call 30; refine (Clone_any _ im _ (by first | exact H7.out.2.2 | exact H7.out.2.2.below ((Below.refl _ w7).drew))).mono ?_; rintro e w8 ⟨A8, c8, rfl, o8, b8⟩; have H8 : Hid (RBox w w8 #[.slice A0 x.irqs.length k0, .slice A1 x.values.length k1, .slice A2 x.blocks.length k2, .slice A3 x.delays.length k3] bM (.slice B1 M.regs.length e1) (.slice B2 M.mem.length e2) (.slice B3 M.out.length e3) M ∧ OwnB w8 w.heap.size (.slice Au nu cu) (fullB (recN x im k).evs) ∧ OwnI w8 w.heap.size (.slice A8 im.length c8) im) := (by first | exact ⟨H7.out.1.below b8, H7.out.2.1.below b8, ownsRow_mono o8 H7.out.1.old.size⟩ | exact ⟨(H7.out.1.below ((Below.refl _ w7).drew)).below b8, (H7.out.2.1.below ((Below.refl _ w7).drew)).below b8, ownsRow_mono o8 H7.out.1.old.size⟩); clear o8 b8 mf ml; obtain ⟨⟨n0, n1, n2, n3, n4, n5, n6, n7, n8, n9, n10, n11⟩, nf, nl⟩ := twelve_cells H8.out.1.mb; obtain ⟨t0, t1, t2, tf, tl⟩ := three_cells H8.out.1.tb; obtain ⟨⟨y0, y1, y2, y3, y4, y5, y6, y7, y8, y9, y10, y11⟩, yf, yl⟩ := twelve_cells H8.out.1.rb))
            go_wp2_with fail
            refine bodyPost_ret (v := .tuple #[.agg #[.slice A8 im.length c8, .slice Au nu cu, .int .i64 M.count], .agg #[.slice B1 M.regs.length e1, .int .i64 M.pc, .int .i64 M.back, .bool M.ints, .bool M.wait, .int .i64 M.table, .int .i64 M.count, .int .i64 M.fin, .slice B2 M.mem.length e2, .slice B3 M.out.length e3, .int .i64 M.ready, .int .i64 M.want], .int .i64 0]) (by simp [results, Tryz.results27, go_sem, t0, t1, t2, y0, y1, y2, y3, y4, y5, y6, y7, y8, y9, y10, y11]) rfl ?_
            rw [HE.out]
            have hT : IsBoxT w8 (w.heap.size + 1) 27 := ⟨_, H8.out.1.tb⟩
            have hM : IsBoxT w8 (w.heap.size + 1 + 1) 37 := ⟨_, H8.out.1.rb⟩
            exact ⟨_, _, B1, e1, B2, e2, B3, e3, rfl, final_own H8.out.2.2 hT hM (by decide) (by decide) _ _ _ _ _ _ _ _ _ _ _ _ _ _ _, final_own H8.out.2.1 hT hM (by decide) (by decide) _ _ _ _ _ _ _ _ _ _ _ _ _ _ _, ⟨final_own H8.out.1.own.regs hT hM (by decide) (by decide) _ _ _ _ _ _ _ _ _ _ _ _ _ _ _, final_own H8.out.1.own.mem hT hM (by decide) (by decide) _ _ _ _ _ _ _ _ _ _ _ _ _ _ _, final_own H8.out.1.own.out hT hM (by decide) (by decide) _ _ _ _ _ _ _ _ _ _ _ _ _ _ _, H8.out.1.own.rm, H8.out.1.own.ro, H8.out.1.own.mo⟩, final_below H8.out.1.old (by omega) (by omega) _ _ _ _ _ _ _ _ _ _ _ _ _ _ _⟩

end Go.Proofs.YtecpblabaelopaaGreatDoor
