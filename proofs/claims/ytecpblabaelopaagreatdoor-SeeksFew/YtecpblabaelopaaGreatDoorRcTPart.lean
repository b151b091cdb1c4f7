/- The recorder's step, walked: the guest asks for a word. -/
import Derived.Test.YtecpblabaelopaaGreatDoorAsksPart
import Derived.WalkSpells
import Derived.Deep.RegionHeld3
namespace Go.Proofs.YtecpblabaelopaaGreatDoor
open Go.RowKit
set_option maxRecDepth 100000

set_option maxHeartbeats 16000000 in
theorem rstep_ask (g : RcB) (lo : Nat) (iv zv : Value) (x : Wd) (s : RecS) (cm : Nat) (due k : Int) (R : List (Ev × Value)) (rv mv ov : Value) (w : World)
    (h : RcAt w lo g iv zv x s.va cm s.bl due R) (hr : RcRel k s cm due R) (hx : WdMay x) (hR : R.length ≤ 8997) (ho : OwnM w lo rv mv ov s.m) (hm : MayP s.m) (hf : s.m.fin = 0) (hc : s.m.count = k) (hk : 0 ≤ k ∧ k < 3000) (hV0 : s.ask x k = true) :
    Calls Tryz.prog 53 #[ptr g.p, .agg (s.m.cells rv mv ov)] w fun e w' => RStepQ w lo g iv zv x s k R e w' := by
  obtain ⟨A1, c1, A2, c2, A3, c3, rfl, rfl, rfl⟩ := ho.shape
  obtain ⟨b0, b1, b2⟩ := two_boxes (Below.refl (((w.alloc (.cells (s.m.cells (.slice A1 s.m.regs.length c1) (.slice A2 s.m.mem.length c2) (.slice A3 s.m.out.length c3)) 37)).alloc (.cells zeroM 37)).heap.size) ((w.alloc (.cells (s.m.cells (.slice A1 s.m.regs.length c1) (.slice A2 s.m.mem.length c2) (.slice A3 s.m.out.length c3)) 37)).alloc (.cells zeroM 37)))
  obtain ⟨W, hW⟩ : ∃ W, W = (w.alloc (.cells (s.m.cells (.slice A1 s.m.regs.length c1) (.slice A2 s.m.mem.length c2) (.slice A3 s.m.out.length c3)) 37)).alloc (.cells zeroM 37) := ⟨_, rfl⟩
  rw [← hW] at b0 b1 b2
  have HW : Hid (W = (w.alloc (.cells (s.m.cells (.slice A1 s.m.regs.length c1) (.slice A2 s.m.mem.length c2) (.slice A3 s.m.out.length c3)) 37)).alloc (.cells zeroM 37)) := hW
  have q22 : ∀ (w : World) (a : Option Addr) (n c n' c' : Nat), (binOp .eql 24 (.slice a n c) (.slice none n' c')).run Tryz.prog w = .ok (.bool a.isNone) w := fun w a n c n' c' => Lib.run_eql_slice_nil w _ _ a n c n' c' Tryz.underlying24
  obtain ⟨M, hM⟩ : ∃ M, M = s.m := ⟨_, rfl⟩
  have HLO : Hid (lo ≤ w.heap.size) := h.lw
  have HRL : Hid (R.length ≤ 8997) := hR
  have HV0 : Hid (s.ask x k = true) := hV0
  have HGP : Hid (g.p < w.heap.size) := h.six.2.2
  have HX : Hid (W.heap[w.heap.size]? = some (.cells (M.cells (.slice A1 M.regs.length c1) (.slice A2 M.mem.length c2) (.slice A3 M.out.length c3)) 37 (0, 0)) ∧ W.heap[w.heap.size + 1]? = some (.cells zeroM 37 (0, 0)) ∧ OwnM W lo (.slice A1 M.regs.length c1) (.slice A2 M.mem.length c2) (.slice A3 M.out.length c3) M ∧ KpI lo w W) := by
    rw [hM]
    exact ⟨b0, b1, ho.below b2, KpI.of_below b2 h.lw⟩
  have HM : Hid (MayP M ∧ M.fin = 0 ∧ M.count = k ∧ M = s.m) := by rw [hM]; exact ⟨hm, hf, hc, rfl⟩
  have hcM : M.count = k := HM.out.2.2.1
  have HREL : Hid (RcRel k s cm due R ∧ WdMay x ∧ (0 ≤ k ∧ k < 3000)) := ⟨hr, hx, hk⟩
  have HA : Hid (Calls Tryz.prog 86 #[ptr g.p, .int .i64 k] W fun e w' => ∃ R' Bk cb cm', e = .returned (.tuple #[.bool (s.irq x k), .slice Bk (s.blk x k).length cb]) ∧ RcAt w' lo g iv zv x s.va cm' s.bl due R' ∧ DataOk w' lo (.slice Bk (s.blk x k).length cb) (s.blk x k) ∧ Bk.isNone = decide (s.due ≠ k) ∧ R'.map Prod.fst = s.evs ++ s.evI x k ++ s.evB x k ∧ R'.length ≤ R.length + 2 ∧ cm' = (if s.due = k then s.bl else cm) ∧ KpI lo W w') := ahead_rel g lo iv zv x s s.va cm s.bl due k R W (h.below b2) hr hx hk.1 hR
  have HBM : Hid (((s.blk x k).length = 0 ∨ (s.blk x k).length = 16) ∧ allB (s.blk x k) = true) := RecS.blk_may hx s k
  rw [← hM] at HW ⊢
  obtain ⟨⟨z0, z1, z2, z3, z4, z5, z6, z7, z8, z9, z10, z11⟩, zf, zl⟩ := twelve_cells HX.out.1
  clear hV0 h hr hx hR ho hm hf hc b0 b1 b2 hW
  obtain ⟨irq, hirq⟩ : ∃ irq, irq = s.irq x k := ⟨_, rfl⟩
  obtain ⟨blk, hblk⟩ : ∃ blk, blk = s.blk x k := ⟨_, rfl⟩
  rw [← hirq, ← hblk] at HA
  rw [← hblk] at HBM
  have HIB : Hid (irq = s.irq x k ∧ blk = s.blk x k) := ⟨hirq, hblk⟩
  clear hirq hblk hM
  simp only [Mach.cells, hcM] at HW z6 ⊢
  go_enter Tryz.func53, Tryz.ntmps53
  go_wp2_with fail
  rw [← HW.out]
  refine HA.out.mono ?_
  rintro e w1 ⟨R1, Bk, cb, cm1, rfl, g1, g2, g3, g4, g5, g6, g7⟩
  have H1 : Hid (RcAt w1 lo g iv zv x s.va cm1 s.bl due R1 ∧ DataOk w1 lo (.slice Bk blk.length cb) blk ∧ Bk.isNone = decide (s.due ≠ k) ∧ R1.map Prod.fst = s.evs ++ s.evI x k ++ s.evB x k ∧ R1.length ≤ R.length + 2 ∧ cm1 = (if s.due = k then s.bl else cm) ∧ KpI lo w w1) := ⟨g1, g2, g3, g4, g5, g6, HX.out.2.2.2.trans g7⟩
  have HB1 : Hid (w1.heap[w.heap.size]? = some (.cells (M.cells (.slice A1 M.regs.length c1) (.slice A2 M.mem.length c2) (.slice A3 M.out.length c3)) 37 (0, 0)) ∧ w1.heap[w.heap.size + 1]? = some (.cells zeroM 37 (0, 0)) ∧ OwnM w1 lo (.slice A1 M.regs.length c1) (.slice A2 M.mem.length c2) (.slice A3 M.out.length c3) M) := ⟨g7.kept _ _ _ mutM HX.out.1, g7.kept _ _ _ mutM HX.out.2.1, HX.out.2.2.1.kp g7⟩
  have HAS : Hid (Calls Tryz.prog 87 #[.agg (M.cells (.slice A1 M.regs.length c1) (.slice A2 M.mem.length c2) (.slice A3 M.out.length c3)), .bool irq, .slice Bk blk.length cb] w1 fun e w' => e = .returned (.bool (M.asks irq blk)) ∧ Below w1.heap.size w1 w') := by
    show Calls _ _ _ _ _
    have hl := HBM.out.1
    exact Asks_go M _ _ _ irq Bk cb blk w1 (HB1.out.2.2.at HM.out.1.fits) (g2.at g1.lw (by omega)) HM.out.1 HBM.out.2 HBM.out.1 (by have := HM.out.2.2.1; have := HREL.out.2.2; omega) HM.out.2.1
  simp only [Mach.cells, hcM] at HAS
  clear HA HX g1 g2 g3 g4 g5 g6 g7 z0 z1 z2 z3 z4 z5 z6 z7 z8 z9 z10 z11 zf zl
  obtain ⟨⟨z0, z1, z2, z3, z4, z5, z6, z7, z8, z9, z10, z11⟩, zf, zl⟩ := twelve_cells HB1.out.1
  rw [hcM] at z6
  obtain ⟨ask, hask⟩ : ∃ ask, ask = M.asks irq blk := ⟨_, rfl⟩
  rw [← hask] at HAS
  have HASK : Hid (ask = s.ask x k) := by
    show _ = _
    rw [hask, HIB.out.1, HIB.out.2, HM.out.2.2.2]
    rfl
  clear hask
  dsimp only
  go_wp2_with fail
  refine HAS.out.mono ?_
  rintro e w2 ⟨rfl, hb2⟩
  have hk2 : KpI lo w1 w2 := KpI.of_below hb2 H1.out.1.lw
  have H2 : Hid (RcAt w2 lo g iv zv x s.va cm1 s.bl due R1 ∧ DataOk w2 lo (.slice Bk blk.length cb) blk ∧ KpI lo w w2 ∧ w2.heap[w.heap.size]? = some (.cells (M.cells (.slice A1 M.regs.length c1) (.slice A2 M.mem.length c2) (.slice A3 M.out.length c3)) 37 (0, 0)) ∧ w2.heap[w.heap.size + 1]? = some (.cells zeroM 37 (0, 0)) ∧ OwnM w2 lo (.slice A1 M.regs.length c1) (.slice A2 M.mem.length c2) (.slice A3 M.out.length c3) M) := ⟨H1.out.1.below hb2, H1.out.2.1.kp hk2, H1.out.2.2.2.2.2.2.trans hk2, hk2.kept _ _ _ mutM HB1.out.1, hk2.kept _ _ _ mutM HB1.out.2.1, HB1.out.2.2.kp hk2⟩
  clear HAS HB1 hb2 hk2 z0 z1 z2 z3 z4 z5 z6 z7 z8 z9 z10 z11 zf zl
  obtain ⟨⟨z0, z1, z2, z3, z4, z5, z6, z7, z8, z9, z10, z11⟩, zf, zl⟩ := twelve_cells H2.out.2.2.2.1
  rw [hcM] at z6
  obtain ⟨⟨p0, p1, p2, p3, p4⟩, pf, pl⟩ := H2.out.1.six
  have hW3 : (M.want != -1) = false ∨ ((M.want != -1) = true ∧ Bk.isNone = true) ∨ ((M.want != -1) = true ∧ Bk.isNone = false) := by
    cases (M.want != -1) <;> cases Bk.isNone <;> simp
  obtain ⟨wt, hwt⟩ : ∃ wt, wt = ((M.want != -1) && Bk.isNone) := ⟨_, rfl⟩
  have HWT : Hid (wt = ((M.want != -1) && Bk.isNone)) := hwt
  obtain ⟨V, hVV⟩ : ∃ V, V = s.val x k := ⟨_, rfl⟩
  have HVV : Hid (V = s.val x k ∧ wordB V = true) := ⟨hVV, hVV ▸ RecS.val_may HREL.out.2.1 s k⟩
  obtain ⟨va1, hva⟩ : ∃ va1, va1 = if s.ask x k = true then s.va + 1 else s.va := ⟨_, rfl⟩
  obtain ⟨N, hN⟩ : ∃ N, N = s.then_ x k := ⟨_, rfl⟩
  have HN : Hid (N = s.then_ x k) := hN
  have HNM : Hid (-1 ≤ N.want ∧ N.count = k + 1) := by
    have hb := HBM.out
    rw [HIB.out.2] at hb
    have hm' : MayP (s.then_ x k) := (HM.out.2.2.2 ▸ HM.out.1).step (s.irq x k) hb.2 hb.1 (RecS.val_may HREL.out.2.1 s k) (by have := HM.out.2.2.1; have := HREL.out.2.2; rw [← HM.out.2.2.2]; omega)
    refine ⟨by rw [hN]; exact hm'.want.1, ?_⟩
    rw [hN]
    show (s.m.step _ _ _).1.count = _
    rw [step_going _ _ _ (by rw [← HM.out.2.2.2]; exact HM.out.2.1), ← HM.out.2.2.2, hcM]
  have HNEW : Hid (∀ b, ((N.want != -1) && !((M.want != -1) && Bk.isNone)) = b → s.new x k = b) := fun b e => by rw [new_is HM.out.2.2.2 hN HNM.out.1 H1.out.2.2.1, e]
  obtain ⟨d, hd⟩ : ∃ d, d = x.delays.getD s.bl 0 := ⟨_, rfl⟩
  have HD : Hid (d = x.delays.getD s.bl 0 ∧ 0 ≤ d ∧ d ≤ 3000) := ⟨hd, by rw [hd]; exact (HREL.out.2.1.delay s.bl).1, by rw [hd]; exact (HREL.out.2.1.delay s.bl).2⟩
  have hwr : IntKind.i64.wrap (N.count + d) = N.count + d := IntWalk.i64_in _ (by have := HNM.out.2; have := HD.out.2; have := HREL.out.2.2; omega)
  have HST : Hid (∀ w', MachAt w' (.slice A1 M.regs.length c1) (.slice A2 M.mem.length c2) (.slice A3 M.out.length c3) M → IntsAt w' (.slice Bk blk.length cb) blk → Calls Tryz.prog 48 #[.agg #[.slice A1 M.regs.length c1, .int .i64 M.pc, .int .i64 M.back, .bool M.ints, .bool M.wait, .int .i64 M.table, .int .i64 k, .int .i64 M.fin, .slice A2 M.mem.length c2, .slice A3 M.out.length c3, .int .i64 M.ready, .int .i64 M.want], .bool irq, .slice Bk blk.length cb, .int .i64 V] w' fun e w'' => ∃ rv' mv' ov', e = .returned (.tuple #[.agg (N.cells rv' mv' ov'), .int .i64 (M.step irq blk V).2, .int .i64 0]) ∧ OwnM w'' w'.heap.size rv' mv' ov' N ∧ Below w'.heap.size w' w'') := fun w' ha hi => by
    have e := Step_ok M _ _ _ irq Bk cb blk V w' ha hi HM.out.1 HBM.out.2 HBM.out.1 (by have := HM.out.2.2.1; have := HREL.out.2.2; omega) (stepNo_of HM.out.1 HBM.out.1 HBM.out.2 HVV.out.2 (by have := HM.out.2.2.1; have := HREL.out.2.2; omega))
    have eS : (M.step irq blk V).1 = N := by rw [hN, HIB.out.1, HIB.out.2, HM.out.2.2.2, HVV.out.1]; rfl
    rw [eS] at e
    simp only [Mach.cells, hcM] at e ⊢
    exact e
  have HVA : Hid (va1 = (s.next x k).va ∧ (s.ask x k = true → va1 = s.va + 1 ∧ V = x.values.getD s.va 0 ∧ s.evV x k = [⟨k, 3, [V]⟩]) ∧ (s.ask x k = false → va1 = s.va ∧ V = 0 ∧ s.evV x k = [])) := by
    refine ⟨hva, fun e => ⟨by rw [hva, if_pos e], by rw [hVV]; unfold RecS.val; rw [if_pos e], by rw [hVV]; unfold RecS.evV; rw [if_pos e]⟩, fun e => ?_⟩
    have e' : ¬ s.ask x k = true := by rw [e]; simp
    exact ⟨by rw [hva, if_neg e'], by rw [hVV]; unfold RecS.val; rw [if_neg e'], by unfold RecS.evV; rw [if_neg e']⟩
  clear hwt hVV hva hN hd
  obtain ⟨Tn, hTn⟩ : ∃ Tn, Tn = (M.step irq blk V).2 := ⟨_, rfl⟩
  rw [← hTn] at HST
  clear hTn
  have hV : ask = true := HASK.out.trans HV0.out
  have HV2 : Hid (s.ask x k = true) := by show _ = _; rw [← HASK.out, hV]
  obtain ⟨hva1, hV1, hev1⟩ := HVA.out.2.1 HV2.out
  rw [hV]
  clear hV
  dsimp only
  go_wp2_with fail
  refine (valueNext g lo iv zv x s.va cm1 s.bl due R1 w2 H2.out.1).mono ?_
  rw [← hV1, ← hva1]
  rintro e w3 ⟨rfl, f1, f2⟩
  have H3 : Hid (RcAt w3 lo g iv zv x va1 cm1 s.bl due R1 ∧ KpI lo w2 w3 ∧ s.evV x k = [⟨k, 3, [V]⟩]) := ⟨f1, f2, hev1⟩
  clear f1 f2 hV1 hva1 hev1 z0 z1 z2 z3 z4 z5 z6 z7 z8 z9 z10 z11 zf zl p0 p1 p2 p3 p4 pf pl
  go_wp2_with fail
  refine (note_any g lo iv zv x va1 cm1 s.bl due R1 k 3 _ 1 1 [V] _ (H3.out.1.below (below_alloc _ _)) (Or.inr (OwnI.madeOne H3.out.1.lw V)) (by have := H1.out.2.2.2.2.1; have := HRL.out; omega)).mono ?_
  rintro e w4 ⟨rfl, f1, f2⟩
  have f3 := H3.out.2.1.trans ((KpI.of_below (below_alloc w3 (.cells #[.int .i64 V] 3)) H3.out.1.lw).trans f2)
  obtain ⟨R4, hR4⟩ : ∃ R4, R4 = R1 ++ [((⟨k, 3, [V]⟩ : Ev), Value.slice (some ⟨w3.heap.size, 0, none⟩) 1 1)] := ⟨_, rfl⟩
  rw [← hR4] at f1
  have H4 : Hid (RcAt w4 lo g iv zv x va1 cm1 s.bl due R4 ∧ KpI lo w2 w4 ∧ R4.map Prod.fst = (s.next x k).evs ∧ R4.length ≤ R.length + 3) := ⟨f1, f3, by rw [hR4, List.map_append, H1.out.2.2.2.1]; show _ = s.evs ++ s.evI x k ++ s.evB x k ++ s.evV x k; rw [H3.out.2.2]; rfl, by rw [hR4]; simp; exact H1.out.2.2.2.2.1⟩
  clear f1 f2 f3 hR4 H3
  all_goals
    have H5 : Hid (w4.heap[w.heap.size]? = some (.cells (M.cells (.slice A1 M.regs.length c1) (.slice A2 M.mem.length c2) (.slice A3 M.out.length c3)) 37 (0, 0)) ∧ w4.heap[w.heap.size + 1]? = some (.cells zeroM 37 (0, 0)) ∧ OwnM w4 lo (.slice A1 M.regs.length c1) (.slice A2 M.mem.length c2) (.slice A3 M.out.length c3) M ∧ KpI lo w w4 ∧ DataOk w4 lo (.slice Bk blk.length cb) blk) := ⟨H4.out.2.1.kept _ _ _ mutM H2.out.2.2.2.1, H4.out.2.1.kept _ _ _ mutM H2.out.2.2.2.2.1, H2.out.2.2.2.2.2.kp H4.out.2.1, H2.out.2.2.1.trans H4.out.2.1, H2.out.2.1.kp H4.out.2.1⟩
    obtain ⟨⟨z0, z1, z2, z3, z4, z5, z6, z7, z8, z9, z10, z11⟩, zf, zl⟩ := twelve_cells H5.out.1
    rw [hcM] at z6
    rcases hW3 with hw3 | ⟨hw3, hb3⟩ | ⟨hw3, hb3⟩
  all_goals
    rcases (by cases (N.want != -1) <;> simp : (N.want != -1) = true ∨ (N.want != -1) = false) with hn5 | hn5
  all_goals
    try dsimp only
    go_wp2_with fail
    refine (HST.out w4 (H5.out.2.2.1.at HM.out.1.fits) (H5.out.2.2.2.2.at H4.out.1.lw (by have := HBM.out.1; omega))).mono ?_
    rintro e w5 ⟨rv', mv', ov', rfl, ho5, hb5⟩
    obtain ⟨D1, f1, D2, f2, D3, f3, rfl, rfl, rfl⟩ := ho5.shape
    have k5 := KpI.of_below hb5 H4.out.1.lw
    have H6 : Hid (RcAt w5 lo g iv zv x va1 cm1 s.bl due R4 ∧ OwnM w5 lo (.slice D1 N.regs.length f1) (.slice D2 N.mem.length f2) (.slice D3 N.out.length f3) N ∧ KpI lo w w5 ∧ w5.heap[w.heap.size]? = some (.cells (M.cells (.slice A1 M.regs.length c1) (.slice A2 M.mem.length c2) (.slice A3 M.out.length c3)) 37 (0, 0)) ∧ w5.heap[w.heap.size + 1]? = some (.cells zeroM 37 (0, 0))) := ⟨H4.out.1.below hb5, ho5.mono H4.out.1.lw, H5.out.2.2.2.1.trans k5, k5.kept _ _ _ mutM H5.out.1, k5.kept _ _ _ mutM H5.out.2.1⟩
    clear ho5 hb5 k5 HST z0 z1 z2 z3 z4 z5 z6 z7 z8 z9 z10 z11 zf zl
    obtain ⟨⟨z0, z1, z2, z3, z4, z5, z6, z7, z8, z9, z10, z11⟩, zf, zl⟩ := twelve_cells H6.out.2.2.2.1
    obtain ⟨⟨y0, y1, y2, y3, y4, y5, y6, y7, y8, y9, y10, y11⟩, yf, yl⟩ := twelve_cells H6.out.2.2.2.2
    obtain ⟨⟨p0, p1, p2, p3, p4⟩, pf, pl⟩ := H6.out.1.six
    rw [hcM] at z6
    simp only [Mach.cells]
    go_wp2_with fail
    have h7 := one12 H6.out.1 H6.out.2.1 H6.out.2.2.1 HLO.out (Nat.le_refl _) ⟨_, H6.out.2.2.2.1⟩ (.slice D1 N.regs.length f1) (.int .i64 N.pc) (.int .i64 N.back) (.bool N.ints) (.bool N.wait) (.int .i64 N.table) (.int .i64 N.count) (.int .i64 N.fin) (.slice D2 N.mem.length f2) (.slice D3 N.out.length f3) (.int .i64 N.ready) (.int .i64 N.want)
    have hx7 := box_set12 H6.out.2.2.2.1 rfl (.slice D1 N.regs.length f1) (.int .i64 N.pc) (.int .i64 N.back) (.bool N.ints) (.bool N.wait) (.int .i64 N.table) (.int .i64 N.count) (.int .i64 N.fin) (.slice D2 N.mem.length f2) (.slice D3 N.out.length f3) (.int .i64 N.ready) (.int .i64 N.want)
    have hy7 := (heap_set12 (w := w5) (b := w.heap.size + 1) (c := w.heap.size) (by omega) (.slice D1 N.regs.length f1) (.int .i64 N.pc) (.int .i64 N.back) (.bool N.ints) (.bool N.wait) (.int .i64 N.table) (.int .i64 N.count) (.int .i64 N.fin) (.slice D2 N.mem.length f2) (.slice D3 N.out.length f3) (.int .i64 N.ready) (.int .i64 N.want)).trans H6.out.2.2.2.2
    obtain ⟨W6, hW6⟩ : ∃ W6, W6 = set12 w5 w.heap.size (.slice D1 N.regs.length f1) (.int .i64 N.pc) (.int .i64 N.back) (.bool N.ints) (.bool N.wait) (.int .i64 N.table) (.int .i64 N.count) (.int .i64 N.fin) (.slice D2 N.mem.length f2) (.slice D3 N.out.length f3) (.int .i64 N.ready) (.int .i64 N.want) := ⟨_, rfl⟩
    have hW6' : W6 = (((((((((((w5.setCell ⟨w.heap.size, 0, none⟩ (.slice D1 N.regs.length f1)).setCell ⟨w.heap.size, 1, none⟩ (.int .i64 N.pc)).setCell ⟨w.heap.size, 2, none⟩ (.int .i64 N.back)).setCell ⟨w.heap.size, 3, none⟩ (.bool N.ints)).setCell ⟨w.heap.size, 4, none⟩ (.bool N.wait)).setCell ⟨w.heap.size, 5, none⟩ (.int .i64 N.table)).setCell ⟨w.heap.size, 6, none⟩ (.int .i64 N.count)).setCell ⟨w.heap.size, 7, none⟩ (.int .i64 N.fin)).setCell ⟨w.heap.size, 8, none⟩ (.slice D2 N.mem.length f2)).setCell ⟨w.heap.size, 9, none⟩ (.slice D3 N.out.length f3)).setCell ⟨w.heap.size, 10, none⟩ (.int .i64 N.ready)).setCell ⟨w.heap.size, 11, none⟩ (.int .i64 N.want) := hW6
    rw [← hW6] at h7 hy7
    rw [← hW6'] at hx7
    have H7 : Hid (RcAt W6 lo g iv zv x va1 cm1 s.bl due R4 ∧ OwnM W6 lo (.slice D1 N.regs.length f1) (.slice D2 N.mem.length f2) (.slice D3 N.out.length f3) N ∧ KpI lo w W6 ∧ W6.heap[w.heap.size]? = some (.cells #[.slice D1 N.regs.length f1, .int .i64 N.pc, .int .i64 N.back, .bool N.ints, .bool N.wait, .int .i64 N.table, .int .i64 N.count, .int .i64 N.fin, .slice D2 N.mem.length f2, .slice D3 N.out.length f3, .int .i64 N.ready, .int .i64 N.want] 37 (0, 0)) ∧ W6.heap[w.heap.size + 1]? = some (.cells zeroM 37 (0, 0))) := ⟨h7.1, h7.2.1, h7.2.2, hx7, hy7⟩
    rw [← hW6']
    clear h7 hx7 hy7 hW6 hW6' H6 z0 z1 z2 z3 z4 z5 z6 z7 z8 z9 z10 z11 zf zl p0 p1 p2 p3 p4 pf pl y0 y1 y2 y3 y4 y5 y6 y7 y8 y9 y10 y11 yf yl
    obtain ⟨⟨z0, z1, z2, z3, z4, z5, z6, z7, z8, z9, z10, z11⟩, zf, zl⟩ := twelve_cells H7.out.2.2.2.1
    obtain ⟨⟨y0, y1, y2, y3, y4, y5, y6, y7, y8, y9, y10, y11⟩, yf, yl⟩ := twelve_cells H7.out.2.2.2.2
    obtain ⟨⟨p0, p1, p2, p3, p4⟩, pf, pl⟩ := H7.out.1.six
    first
      | refine bodyPost_ret (v := .tuple #[.agg #[.slice D1 N.regs.length f1, .int .i64 N.pc, .int .i64 N.back, .bool N.ints, .bool N.wait, .int .i64 N.table, .int .i64 N.count, .int .i64 N.fin, .slice D2 N.mem.length f2, .slice D3 N.out.length f3, .int .i64 N.ready, .int .i64 N.want], .int .i64 0]) (by simp [results, Tryz.results53, go_sem, y0, y1, y2, y3, y4, y5, y6, y7, y8, y9, y10, y11]) rfl ?_
        have hnew := HNEW.out false (by first | (rw [hn5]; rfl) | (rw [hn5, hw3, hb3]; rfl))
        have h8 := one12 H7.out.1 H7.out.2.1 H7.out.2.2.1 HLO.out (Nat.le_succ _) ⟨_, H7.out.2.2.2.2⟩ (.slice D1 N.regs.length f1) (.int .i64 N.pc) (.int .i64 N.back) (.bool N.ints) (.bool N.wait) (.int .i64 N.table) (.int .i64 N.count) (.int .i64 N.fin) (.slice D2 N.mem.length f2) (.slice D3 N.out.length f3) (.int .i64 N.ready) (.int .i64 N.want)
        exact RStepQ.mk HN.out HVA.out.1 (by show s.bl = if s.new x k = true then _ else _; rw [hnew]; rfl) h8.1 h8.2.1 h8.2.2 (HREL.out.1.next HREL.out.2.1 (HM.out.2.2.2 ▸ HM.out.1) (HM.out.2.2.2 ▸ HM.out.2.1) (HM.out.2.2.2 ▸ hcM) HREL.out.2.2 H1.out.2.2.2.2.2.1 rfl (by rw [hnew]; rfl) H4.out.2.2.1) H4.out.2.2.2
      | skip
  all_goals
    clear y0 y1 y2 y3 y4 y5 y6 y7 y8 y9 y10 y11 yf yl
    have hnew := HNEW.out true (by first | (rw [hn5, hw3]; rfl) | (rw [hn5, hw3, hb3]; rfl))
    have HDL : Hid (∀ w', RcAt w' lo g iv zv x va1 cm1 s.bl due R4 → Calls Tryz.prog 122 #[.pointer (some ⟨g.pd, 0, none⟩), .pointer (some ⟨g.qd, 0, none⟩)] w' fun e w'' => e = .returned (.int .i64 d) ∧ RcAt w'' lo g iv zv x va1 cm1 (s.bl + 1) due R4 ∧ KpI lo w' w'') := fun w' h' => by
      have e := delayNext g lo iv zv x va1 cm1 s.bl due R4 w' h'
      rw [← HD.out.1] at e
      exact e
    have HNEW2 : Hid (s.new x k = true) := hnew
    have hne1 : ¬ g.p = w.heap.size := by have := HGP.out; omega
    have hne2 : ¬ w.heap.size = g.p := by have := HGP.out; omega
    clear hnew
    go_region_law (go_simp; go_at_call 122; refine (HDL.out _ (H7.out.1.below ((Below.refl _ W6).drew))).mono ?_; rintro e w7 ⟨rfl, t1, t2⟩; have H8 : Hid (RcAt w7 lo g iv zv x va1 cm1 (s.bl + 1) due R4 ∧ OwnM w7 lo (.slice D1 N.regs.length f1) (.slice D2 N.mem.length f2) (.slice D3 N.out.length f3) N ∧ KpI lo w w7 ∧ w7.heap[w.heap.size]? = some (.cells #[.slice D1 N.regs.length f1, .int .i64 N.pc, .int .i64 N.back, .bool N.ints, .bool N.wait, .int .i64 N.table, .int .i64 N.count, .int .i64 N.fin, .slice D2 N.mem.length f2, .slice D3 N.out.length f3, .int .i64 N.ready, .int .i64 N.want] 37 (0, 0)) ∧ w7.heap[w.heap.size + 1]? = some (.cells zeroM 37 (0, 0))) := ⟨t1, (H7.out.2.1.below ((Below.refl _ W6).drew)).kp t2, H7.out.2.2.1.trans ((KpI.of_below ((Below.refl _ W6).drew) H7.out.1.lw).trans t2), t2.kept _ _ _ mutM H7.out.2.2.2.1, t2.kept _ _ _ mutM H7.out.2.2.2.2⟩; clear t1 t2 z0 z1 z2 z3 z4 z5 z6 z7 z8 z9 z10 z11 zf zl p0 p1 p2 p3 p4 pf pl; obtain ⟨⟨z0, z1, z2, z3, z4, z5, z6, z7, z8, z9, z10, z11⟩, zf, zl⟩ := twelve_cells H8.out.2.2.2.1; obtain ⟨⟨p0, p1, p2, p3, p4⟩, pf, pl⟩ := H8.out.1.six)
  all_goals
    have h9 := H8.out.1.setDue (N.count + d)
    have hB9 := But.set w7 H8.out.1.le.1 4 (.int .i64 (N.count + d))
    obtain ⟨w8, hw8⟩ : ∃ w8, w8 = w7.setCell ⟨g.p, 4, none⟩ (.int .i64 (N.count + d)) := ⟨_, rfl⟩
    rw [← hw8] at h9 hB9 ⊢
    have H9 : Hid (RcAt w8 lo g iv zv x va1 cm1 (s.bl + 1) (N.count + d) R4 ∧ OwnM w8 lo (.slice D1 N.regs.length f1) (.slice D2 N.mem.length f2) (.slice D3 N.out.length f3) N ∧ KpI lo w w8 ∧ w8.heap[w.heap.size]? = some (.cells #[.slice D1 N.regs.length f1, .int .i64 N.pc, .int .i64 N.back, .bool N.ints, .bool N.wait, .int .i64 N.table, .int .i64 N.count, .int .i64 N.fin, .slice D2 N.mem.length f2, .slice D3 N.out.length f3, .int .i64 N.ready, .int .i64 N.want] 37 (0, 0)) ∧ w8.heap[w.heap.size + 1]? = some (.cells zeroM 37 (0, 0))) := ⟨h9.1, H8.out.2.1.kp h9.2, H8.out.2.2.1.trans h9.2, h9.2.kept _ _ _ mutM H8.out.2.2.2.1, h9.2.kept _ _ _ mutM H8.out.2.2.2.2⟩
    clear h9 hB9 hw8 z0 z1 z2 z3 z4 z5 z6 z7 z8 z9 z10 z11 zf zl p0 p1 p2 p3 p4 pf pl
    obtain ⟨⟨z0, z1, z2, z3, z4, z5, z6, z7, z8, z9, z10, z11⟩, zf, zl⟩ := twelve_cells H9.out.2.2.2.1
    obtain ⟨⟨y0, y1, y2, y3, y4, y5, y6, y7, y8, y9, y10, y11⟩, yf, yl⟩ := twelve_cells H9.out.2.2.2.2
    go_wp2_with fail
    refine bodyPost_ret (v := .tuple #[.agg #[.slice D1 N.regs.length f1, .int .i64 N.pc, .int .i64 N.back, .bool N.ints, .bool N.wait, .int .i64 N.table, .int .i64 N.count, .int .i64 N.fin, .slice D2 N.mem.length f2, .slice D3 N.out.length f3, .int .i64 N.ready, .int .i64 N.want], .int .i64 0]) (by simp [results, Tryz.results53, go_sem, y0, y1, y2, y3, y4, y5, y6, y7, y8, y9, y10, y11]) rfl ?_
    have h10 := one12 H9.out.1 H9.out.2.1 H9.out.2.2.1 HLO.out (Nat.le_succ _) ⟨_, H9.out.2.2.2.2⟩ (.slice D1 N.regs.length f1) (.int .i64 N.pc) (.int .i64 N.back) (.bool N.ints) (.bool N.wait) (.int .i64 N.table) (.int .i64 N.count) (.int .i64 N.fin) (.slice D2 N.mem.length f2) (.slice D3 N.out.length f3) (.int .i64 N.ready) (.int .i64 N.want)
    exact RStepQ.mk HN.out HVA.out.1 (by show s.bl + 1 = if s.new x k = true then _ else _; rw [HNEW2.out]; rfl) h10.1 h10.2.1 h10.2.2 (HREL.out.1.next HREL.out.2.1 (HM.out.2.2.2 ▸ HM.out.1) (HM.out.2.2.2 ▸ HM.out.2.1) (HM.out.2.2.2 ▸ hcM) HREL.out.2.2 H1.out.2.2.2.2.2.1 rfl (by rw [HNEW2.out, HNM.out.2, HD.out.1]; rfl) H4.out.2.2.1) H4.out.2.2.2

end Go.Proofs.YtecpblabaelopaaGreatDoor

/- The recorder's step, walked: the guest asks for no word. -/

namespace Go.Proofs.YtecpblabaelopaaGreatDoor
open Go.RowKit
set_option maxRecDepth 100000

set_option maxHeartbeats 16000000 in
theorem rstep_quiet (g : RcB) (lo : Nat) (iv zv : Value) (x : Wd) (s : RecS) (cm : Nat) (due k : Int) (R : List (Ev × Value)) (rv mv ov : Value) (w : World)
    (h : RcAt w lo g iv zv x s.va cm s.bl due R) (hr : RcRel k s cm due R) (hx : WdMay x) (hR : R.length ≤ 8997) (ho : OwnM w lo rv mv ov s.m) (hm : MayP s.m) (hf : s.m.fin = 0) (hc : s.m.count = k) (hk : 0 ≤ k ∧ k < 3000) (hV0 : s.ask x k = false) :
    Calls Tryz.prog 53 #[ptr g.p, .agg (s.m.cells rv mv ov)] w fun e w' => RStepQ w lo g iv zv x s k R e w' := by
  obtain ⟨A1, c1, A2, c2, A3, c3, rfl, rfl, rfl⟩ := ho.shape
  obtain ⟨b0, b1, b2⟩ := two_boxes (Below.refl (((w.alloc (.cells (s.m.cells (.slice A1 s.m.regs.length c1) (.slice A2 s.m.mem.length c2) (.slice A3 s.m.out.length c3)) 37)).alloc (.cells zeroM 37)).heap.size) ((w.alloc (.cells (s.m.cells (.slice A1 s.m.regs.length c1) (.slice A2 s.m.mem.length c2) (.slice A3 s.m.out.length c3)) 37)).alloc (.cells zeroM 37)))
  obtain ⟨W, hW⟩ : ∃ W, W = (w.alloc (.cells (s.m.cells (.slice A1 s.m.regs.length c1) (.slice A2 s.m.mem.length c2) (.slice A3 s.m.out.length c3)) 37)).alloc (.cells zeroM 37) := ⟨_, rfl⟩
  rw [← hW] at b0 b1 b2
  have HW : Hid (W = (w.alloc (.cells (s.m.cells (.slice A1 s.m.regs.length c1) (.slice A2 s.m.mem.length c2) (.slice A3 s.m.out.length c3)) 37)).alloc (.cells zeroM 37)) := hW
  have q22 : ∀ (w : World) (a : Option Addr) (n c n' c' : Nat), (binOp .eql 24 (.slice a n c) (.slice none n' c')).run Tryz.prog w = .ok (.bool a.isNone) w := fun w a n c n' c' => Lib.run_eql_slice_nil w _ _ a n c n' c' Tryz.underlying24
  obtain ⟨M, hM⟩ : ∃ M, M = s.m := ⟨_, rfl⟩
  have HLO : Hid (lo ≤ w.heap.size) := h.lw
  have HRL : Hid (R.length ≤ 8997) := hR
  have HV0 : Hid (s.ask x k = false) := hV0
  have HGP : Hid (g.p < w.heap.size) := h.six.2.2
  have HX : Hid (W.heap[w.heap.size]? = some (.cells (M.cells (.slice A1 M.regs.length c1) (.slice A2 M.mem.length c2) (.slice A3 M.out.length c3)) 37 (0, 0)) ∧ W.heap[w.heap.size + 1]? = some (.cells zeroM 37 (0, 0)) ∧ OwnM W lo (.slice A1 M.regs.length c1) (.slice A2 M.mem.length c2) (.slice A3 M.out.length c3) M ∧ KpI lo w W) := by
    rw [hM]
    exact ⟨b0, b1, ho.below b2, KpI.of_below b2 h.lw⟩
  have HM : Hid (MayP M ∧ M.fin = 0 ∧ M.count = k ∧ M = s.m) := by rw [hM]; exact ⟨hm, hf, hc, rfl⟩
  have hcM : M.count = k := HM.out.2.2.1
  have HREL : Hid (RcRel k s cm due R ∧ WdMay x ∧ (0 ≤ k ∧ k < 3000)) := ⟨hr, hx, hk⟩
  have HA : Hid (Calls Tryz.prog 86 #[ptr g.p, .int .i64 k] W fun e w' => ∃ R' Bk cb cm', e = .returned (.tuple #[.bool (s.irq x k), .slice Bk (s.blk x k).length cb]) ∧ RcAt w' lo g iv zv x s.va cm' s.bl due R' ∧ DataOk w' lo (.slice Bk (s.blk x k).length cb) (s.blk x k) ∧ Bk.isNone = decide (s.due ≠ k) ∧ R'.map Prod.fst = s.evs ++ s.evI x k ++ s.evB x k ∧ R'.length ≤ R.length + 2 ∧ cm' = (if s.due = k then s.bl else cm) ∧ KpI lo W w') := ahead_rel g lo iv zv x s s.va cm s.bl due k R W (h.below b2) hr hx hk.1 hR
  have HBM : Hid (((s.blk x k).length = 0 ∨ (s.blk x k).length = 16) ∧ allB (s.blk x k) = true) := RecS.blk_may hx s k
  rw [← hM] at HW ⊢
  obtain ⟨⟨z0, z1, z2, z3, z4, z5, z6, z7, z8, z9, z10, z11⟩, zf, zl⟩ := twelve_cells HX.out.1
  clear hV0 h hr hx hR ho hm hf hc b0 b1 b2 hW
  obtain ⟨irq, hirq⟩ : ∃ irq, irq = s.irq x k := ⟨_, rfl⟩
  obtain ⟨blk, hblk⟩ : ∃ blk, blk = s.blk x k := ⟨_, rfl⟩
  rw [← hirq, ← hblk] at HA
  rw [← hblk] at HBM
  have HIB : Hid (irq = s.irq x k ∧ blk = s.blk x k) := ⟨hirq, hblk⟩
  clear hirq hblk hM
  simp only [Mach.cells, hcM] at HW z6 ⊢
  go_enter Tryz.func53, Tryz.ntmps53
  go_wp2_with fail
  rw [← HW.out]
  refine HA.out.mono ?_
  rintro e w1 ⟨R1, Bk, cb, cm1, rfl, g1, g2, g3, g4, g5, g6, g7⟩
  have H1 : Hid (RcAt w1 lo g iv zv x s.va cm1 s.bl due R1 ∧ DataOk w1 lo (.slice Bk blk.length cb) blk ∧ Bk.isNone = decide (s.due ≠ k) ∧ R1.map Prod.fst = s.evs ++ s.evI x k ++ s.evB x k ∧ R1.length ≤ R.length + 2 ∧ cm1 = (if s.due = k then s.bl else cm) ∧ KpI lo w w1) := ⟨g1, g2, g3, g4, g5, g6, HX.out.2.2.2.trans g7⟩
  have HB1 : Hid (w1.heap[w.heap.size]? = some (.cells (M.cells (.slice A1 M.regs.length c1) (.slice A2 M.mem.length c2) (.slice A3 M.out.length c3)) 37 (0, 0)) ∧ w1.heap[w.heap.size + 1]? = some (.cells zeroM 37 (0, 0)) ∧ OwnM w1 lo (.slice A1 M.regs.length c1) (.slice A2 M.mem.length c2) (.slice A3 M.out.length c3) M) := ⟨g7.kept _ _ _ mutM HX.out.1, g7.kept _ _ _ mutM HX.out.2.1, HX.out.2.2.1.kp g7⟩
  have HAS : Hid (Calls Tryz.prog 87 #[.agg (M.cells (.slice A1 M.regs.length c1) (.slice A2 M.mem.length c2) (.slice A3 M.out.length c3)), .bool irq, .slice Bk blk.length cb] w1 fun e w' => e = .returned (.bool (M.asks irq blk)) ∧ Below w1.heap.size w1 w') := by
    show Calls _ _ _ _ _
    have hl := HBM.out.1
    exact Asks_go M _ _ _ irq Bk cb blk w1 (HB1.out.2.2.at HM.out.1.fits) (g2.at g1.lw (by omega)) HM.out.1 HBM.out.2 HBM.out.1 (by have := HM.out.2.2.1; have := HREL.out.2.2; omega) HM.out.2.1
  simp only [Mach.cells, hcM] at HAS
  clear HA HX g1 g2 g3 g4 g5 g6 g7 z0 z1 z2 z3 z4 z5 z6 z7 z8 z9 z10 z11 zf zl
  obtain ⟨⟨z0, z1, z2, z3, z4, z5, z6, z7, z8, z9, z10, z11⟩, zf, zl⟩ := twelve_cells HB1.out.1
  rw [hcM] at z6
  obtain ⟨ask, hask⟩ : ∃ ask, ask = M.asks irq blk := ⟨_, rfl⟩
  rw [← hask] at HAS
  have HASK : Hid (ask = s.ask x k) := by
    show _ = _
    rw [hask, HIB.out.1, HIB.out.2, HM.out.2.2.2]
    rfl
  clear hask
  dsimp only
  go_wp2_with fail
  refine HAS.out.mono ?_
  rintro e w2 ⟨rfl, hb2⟩
  have hk2 : KpI lo w1 w2 := KpI.of_below hb2 H1.out.1.lw
  have H2 : Hid (RcAt w2 lo g iv zv x s.va cm1 s.bl due R1 ∧ DataOk w2 lo (.slice Bk blk.length cb) blk ∧ KpI lo w w2 ∧ w2.heap[w.heap.size]? = some (.cells (M.cells (.slice A1 M.regs.length c1) (.slice A2 M.mem.length c2) (.slice A3 M.out.length c3)) 37 (0, 0)) ∧ w2.heap[w.heap.size + 1]? = some (.cells zeroM 37 (0, 0)) ∧ OwnM w2 lo (.slice A1 M.regs.length c1) (.slice A2 M.mem.length c2) (.slice A3 M.out.length c3) M) := ⟨H1.out.1.below hb2, H1.out.2.1.kp hk2, H1.out.2.2.2.2.2.2.trans hk2, hk2.kept _ _ _ mutM HB1.out.1, hk2.kept _ _ _ mutM HB1.out.2.1, HB1.out.2.2.kp hk2⟩
  clear HAS HB1 hb2 hk2 z0 z1 z2 z3 z4 z5 z6 z7 z8 z9 z10 z11 zf zl
  obtain ⟨⟨z0, z1, z2, z3, z4, z5, z6, z7, z8, z9, z10, z11⟩, zf, zl⟩ := twelve_cells H2.out.2.2.2.1
  rw [hcM] at z6
  obtain ⟨⟨p0, p1, p2, p3, p4⟩, pf, pl⟩ := H2.out.1.six
  have hW3 : (M.want != -1) = false ∨ ((M.want != -1) = true ∧ Bk.isNone = true) ∨ ((M.want != -1) = true ∧ Bk.isNone = false) := by
    cases (M.want != -1) <;> cases Bk.isNone <;> simp
  obtain ⟨wt, hwt⟩ : ∃ wt, wt = ((M.want != -1) && Bk.isNone) := ⟨_, rfl⟩
  have HWT : Hid (wt = ((M.want != -1) && Bk.isNone)) := hwt
  obtain ⟨V, hVV⟩ : ∃ V, V = s.val x k := ⟨_, rfl⟩
  have HVV : Hid (V = s.val x k ∧ wordB V = true) := ⟨hVV, hVV ▸ RecS.val_may HREL.out.2.1 s k⟩
  obtain ⟨va1, hva⟩ : ∃ va1, va1 = if s.ask x k = true then s.va + 1 else s.va := ⟨_, rfl⟩
  obtain ⟨N, hN⟩ : ∃ N, N = s.then_ x k := ⟨_, rfl⟩
  have HN : Hid (N = s.then_ x k) := hN
  have HNM : Hid (-1 ≤ N.want ∧ N.count = k + 1) := by
    have hb := HBM.out
    rw [HIB.out.2] at hb
    have hm' : MayP (s.then_ x k) := (HM.out.2.2.2 ▸ HM.out.1).step (s.irq x k) hb.2 hb.1 (RecS.val_may HREL.out.2.1 s k) (by have := HM.out.2.2.1; have := HREL.out.2.2; rw [← HM.out.2.2.2]; omega)
    refine ⟨by rw [hN]; exact hm'.want.1, ?_⟩
    rw [hN]
    show (s.m.step _ _ _).1.count = _
    rw [step_going _ _ _ (by rw [← HM.out.2.2.2]; exact HM.out.2.1), ← HM.out.2.2.2, hcM]
  have HNEW : Hid (∀ b, ((N.want != -1) && !((M.want != -1) && Bk.isNone)) = b → s.new x k = b) := fun b e => by rw [new_is HM.out.2.2.2 hN HNM.out.1 H1.out.2.2.1, e]
  obtain ⟨d, hd⟩ : ∃ d, d = x.delays.getD s.bl 0 := ⟨_, rfl⟩
  have HD : Hid (d = x.delays.getD s.bl 0 ∧ 0 ≤ d ∧ d ≤ 3000) := ⟨hd, by rw [hd]; exact (HREL.out.2.1.delay s.bl).1, by rw [hd]; exact (HREL.out.2.1.delay s.bl).2⟩
  have hwr : IntKind.i64.wrap (N.count + d) = N.count + d := IntWalk.i64_in _ (by have := HNM.out.2; have := HD.out.2; have := HREL.out.2.2; omega)
  have HST : Hid (∀ w', MachAt w' (.slice A1 M.regs.length c1) (.slice A2 M.mem.length c2) (.slice A3 M.out.length c3) M → IntsAt w' (.slice Bk blk.length cb) blk → Calls Tryz.prog 48 #[.agg #[.slice A1 M.regs.length c1, .int .i64 M.pc, .int .i64 M.back, .bool M.ints, .bool M.wait, .int .i64 M.table, .int .i64 k, .int .i64 M.fin, .slice A2 M.mem.length c2, .slice A3 M.out.length c3, .int .i64 M.ready, .int .i64 M.want], .bool irq, .slice Bk blk.length cb, .int .i64 V] w' fun e w'' => ∃ rv' mv' ov', e = .returned (.tuple #[.agg (N.cells rv' mv' ov'), .int .i64 (M.step irq blk V).2, .int .i64 0]) ∧ OwnM w'' w'.heap.size rv' mv' ov' N ∧ Below w'.heap.size w' w'') := fun w' ha hi => by
    have e := Step_ok M _ _ _ irq Bk cb blk V w' ha hi HM.out.1 HBM.out.2 HBM.out.1 (by have := HM.out.2.2.1; have := HREL.out.2.2; omega) (stepNo_of HM.out.1 HBM.out.1 HBM.out.2 HVV.out.2 (by have := HM.out.2.2.1; have := HREL.out.2.2; omega))
    have eS : (M.step irq blk V).1 = N := by rw [hN, HIB.out.1, HIB.out.2, HM.out.2.2.2, HVV.out.1]; rfl
    rw [eS] at e
    simp only [Mach.cells, hcM] at e ⊢
    exact e
  have HVA : Hid (va1 = (s.next x k).va ∧ (s.ask x k = true → va1 = s.va + 1 ∧ V = x.values.getD s.va 0 ∧ s.evV x k = [⟨k, 3, [V]⟩]) ∧ (s.ask x k = false → va1 = s.va ∧ V = 0 ∧ s.evV x k = [])) := by
    refine ⟨hva, fun e => ⟨by rw [hva, if_pos e], by rw [hVV]; unfold RecS.val; rw [if_pos e], by rw [hVV]; unfold RecS.evV; rw [if_pos e]⟩, fun e => ?_⟩
    have e' : ¬ s.ask x k = true := by rw [e]; simp
    exact ⟨by rw [hva, if_neg e'], by rw [hVV]; unfold RecS.val; rw [if_neg e'], by unfold RecS.evV; rw [if_neg e']⟩
  clear hwt hVV hva hN hd
  obtain ⟨Tn, hTn⟩ : ∃ Tn, Tn = (M.step irq blk V).2 := ⟨_, rfl⟩
  rw [← hTn] at HST
  clear hTn
  have hV : ask = false := HASK.out.trans HV0.out
  have HV2 : Hid (s.ask x k = false) := by show _ = _; rw [← HASK.out, hV]
  obtain ⟨hva1, hV1, hev1⟩ := HVA.out.2.2 HV2.out
  rw [hV]
  clear hV
  dsimp only
  obtain ⟨w4, hw4⟩ : ∃ w4, w4 = w2 := ⟨_, rfl⟩
  obtain ⟨R4, hR4⟩ : ∃ R4, R4 = R1 := ⟨_, rfl⟩
  have H4 : Hid (RcAt w4 lo g iv zv x va1 cm1 s.bl due R4 ∧ KpI lo w2 w4 ∧ R4.map Prod.fst = (s.next x k).evs ∧ R4.length ≤ R.length + 3) := ⟨by rw [hw4, hR4, hva1]; exact H2.out.1, by rw [hw4]; exact KpI.refl _ _, by rw [hR4, H1.out.2.2.2.1]; show _ = s.evs ++ s.evI x k ++ s.evB x k ++ s.evV x k; rw [hev1, List.append_nil], by rw [hR4]; have := H1.out.2.2.2.2.1; omega⟩
  rw [← hw4] at z0 z1 z2 z3 z4 z5 z6 z7 z8 z9 z10 z11 zf zl p0 p1 p2 p3 p4 pf pl ⊢
  subst hV1
  clear hw4 hR4 hva1 hev1 z0 z1 z2 z3 z4 z5 z6 z7 z8 z9 z10 z11 zf zl p0 p1 p2 p3 p4 pf pl
  all_goals
    have H5 : Hid (w4.heap[w.heap.size]? = some (.cells (M.cells (.slice A1 M.regs.length c1) (.slice A2 M.mem.length c2) (.slice A3 M.out.length c3)) 37 (0, 0)) ∧ w4.heap[w.heap.size + 1]? = some (.cells zeroM 37 (0, 0)) ∧ OwnM w4 lo (.slice A1 M.regs.length c1) (.slice A2 M.mem.length c2) (.slice A3 M.out.length c3) M ∧ KpI lo w w4 ∧ DataOk w4 lo (.slice Bk blk.length cb) blk) := ⟨H4.out.2.1.kept _ _ _ mutM H2.out.2.2.2.1, H4.out.2.1.kept _ _ _ mutM H2.out.2.2.2.2.1, H2.out.2.2.2.2.2.kp H4.out.2.1, H2.out.2.2.1.trans H4.out.2.1, H2.out.2.1.kp H4.out.2.1⟩
    obtain ⟨⟨z0, z1, z2, z3, z4, z5, z6, z7, z8, z9, z10, z11⟩, zf, zl⟩ := twelve_cells H5.out.1
    rw [hcM] at z6
    rcases hW3 with hw3 | ⟨hw3, hb3⟩ | ⟨hw3, hb3⟩
  all_goals
    rcases (by cases (N.want != -1) <;> simp : (N.want != -1) = true ∨ (N.want != -1) = false) with hn5 | hn5
  all_goals
    try dsimp only
    go_wp2_with fail
    refine (HST.out w4 (H5.out.2.2.1.at HM.out.1.fits) (H5.out.2.2.2.2.at H4.out.1.lw (by have := HBM.out.1; omega))).mono ?_
    rintro e w5 ⟨rv', mv', ov', rfl, ho5, hb5⟩
    obtain ⟨D1, f1, D2, f2, D3, f3, rfl, rfl, rfl⟩ := ho5.shape
    have k5 := KpI.of_below hb5 H4.out.1.lw
    have H6 : Hid (RcAt w5 lo g iv zv x va1 cm1 s.bl due R4 ∧ OwnM w5 lo (.slice D1 N.regs.length f1) (.slice D2 N.mem.length f2) (.slice D3 N.out.length f3) N ∧ KpI lo w w5 ∧ w5.heap[w.heap.size]? = some (.cells (M.cells (.slice A1 M.regs.length c1) (.slice A2 M.mem.length c2) (.slice A3 M.out.length c3)) 37 (0, 0)) ∧ w5.heap[w.heap.size + 1]? = some (.cells zeroM 37 (0, 0))) := ⟨H4.out.1.below hb5, ho5.mono H4.out.1.lw, H5.out.2.2.2.1.trans k5, k5.kept _ _ _ mutM H5.out.1, k5.kept _ _ _ mutM H5.out.2.1⟩
    clear ho5 hb5 k5 HST z0 z1 z2 z3 z4 z5 z6 z7 z8 z9 z10 z11 zf zl
    obtain ⟨⟨z0, z1, z2, z3, z4, z5, z6, z7, z8, z9, z10, z11⟩, zf, zl⟩ := twelve_cells H6.out.2.2.2.1
    obtain ⟨⟨y0, y1, y2, y3, y4, y5, y6, y7, y8, y9, y10, y11⟩, yf, yl⟩ := twelve_cells H6.out.2.2.2.2
    obtain ⟨⟨p0, p1, p2, p3, p4⟩, pf, pl⟩ := H6.out.1.six
    rw [hcM] at z6
    simp only [Mach.cells]
    go_wp2_with fail
    have h7 := one12 H6.out.1 H6.out.2.1 H6.out.2.2.1 HLO.out (Nat.le_refl _) ⟨_, H6.out.2.2.2.1⟩ (.slice D1 N.regs.length f1) (.int .i64 N.pc) (.int .i64 N.back) (.bool N.ints) (.bool N.wait) (.int .i64 N.table) (.int .i64 N.count) (.int .i64 N.fin) (.slice D2 N.mem.length f2) (.slice D3 N.out.length f3) (.int .i64 N.ready) (.int .i64 N.want)
    have hx7 := box_set12 H6.out.2.2.2.1 rfl (.slice D1 N.regs.length f1) (.int .i64 N.pc) (.int .i64 N.back) (.bool N.ints) (.bool N.wait) (.int .i64 N.table) (.int .i64 N.count) (.int .i64 N.fin) (.slice D2 N.mem.length f2) (.slice D3 N.out.length f3) (.int .i64 N.ready) (.int .i64 N.want)
    have hy7 := (heap_set12 (w := w5) (b := w.heap.size + 1) (c := w.heap.size) (by omega) (.slice D1 N.regs.length f1) (.int .i64 N.pc) (.int .i64 N.back) (.bool N.ints) (.bool N.wait) (.int .i64 N.table) (.int .i64 N.count) (.int .i64 N.fin) (.slice D2 N.mem.length f2) (.slice D3 N.out.length f3) (.int .i64 N.ready) (.int .i64 N.want)).trans H6.out.2.2.2.2
    obtain ⟨W6, hW6⟩ : ∃ W6, W6 = set12 w5 w.heap.size (.slice D1 N.regs.length f1) (.int .i64 N.pc) (.int .i64 N.back) (.bool N.ints) (.bool N.wait) (.int .i64 N.table) (.int .i64 N.count) (.int .i64 N.fin) (.slice D2 N.mem.length f2) (.slice D3 N.out.length f3) (.int .i64 N.ready) (.int .i64 N.want) := ⟨_, rfl⟩
    have hW6' : W6 = (((((((((((w5.setCell ⟨w.heap.size, 0, none⟩ (.slice D1 N.regs.length f1)).setCell ⟨w.heap.size, 1, none⟩ (.int .i64 N.pc)).setCell ⟨w.heap.size, 2, none⟩ (.int .i64 N.back)).setCell ⟨w.heap.size, 3, none⟩ (.bool N.ints)).setCell ⟨w.heap.size, 4, none⟩ (.bool N.wait)).setCell ⟨w.heap.size, 5, none⟩ (.int .i64 N.table)).setCell ⟨w.heap.size, 6, none⟩ (.int .i64 N.count)).setCell ⟨w.heap.size, 7, none⟩ (.int .i64 N.fin)).setCell ⟨w.heap.size, 8, none⟩ (.slice D2 N.mem.length f2)).setCell ⟨w.heap.size, 9, none⟩ (.slice D3 N.out.length f3)).setCell ⟨w.heap.size, 10, none⟩ (.int .i64 N.ready)).setCell ⟨w.heap.size, 11, none⟩ (.int .i64 N.want) := hW6
    rw [← hW6] at h7 hy7
    rw [← hW6'] at hx7
    have H7 : Hid (RcAt W6 lo g iv zv x va1 cm1 s.bl due R4 ∧ OwnM W6 lo (.slice D1 N.regs.length f1) (.slice D2 N.mem.length f2) (.slice D3 N.out.length f3) N ∧ KpI lo w W6 ∧ W6.heap[w.heap.size]? = some (.cells #[.slice D1 N.regs.length f1, .int .i64 N.pc, .int .i64 N.back, .bool N.ints, .bool N.wait, .int .i64 N.table, .int .i64 N.count, .int .i64 N.fin, .slice D2 N.mem.length f2, .slice D3 N.out.length f3, .int .i64 N.ready, .int .i64 N.want] 37 (0, 0)) ∧ W6.heap[w.heap.size + 1]? = some (.cells zeroM 37 (0, 0))) := ⟨h7.1, h7.2.1, h7.2.2, hx7, hy7⟩
    rw [← hW6']
    clear h7 hx7 hy7 hW6 hW6' H6 z0 z1 z2 z3 z4 z5 z6 z7 z8 z9 z10 z11 zf zl p0 p1 p2 p3 p4 pf pl y0 y1 y2 y3 y4 y5 y6 y7 y8 y9 y10 y11 yf yl
    obtain ⟨⟨z0, z1, z2, z3, z4, z5, z6, z7, z8, z9, z10, z11⟩, zf, zl⟩ := twelve_cells H7.out.2.2.2.1
    obtain ⟨⟨y0, y1, y2, y3, y4, y5, y6, y7, y8, y9, y10, y11⟩, yf, yl⟩ := twelve_cells H7.out.2.2.2.2
    obtain ⟨⟨p0, p1, p2, p3, p4⟩, pf, pl⟩ := H7.out.1.six
    first
      | refine bodyPost_ret (v := .tuple #[.agg #[.slice D1 N.regs.length f1, .int .i64 N.pc, .int .i64 N.back, .bool N.ints, .bool N.wait, .int .i64 N.table, .int .i64 N.count, .int .i64 N.fin, .slice D2 N.mem.length f2, .slice D3 N.out.length f3, .int .i64 N.ready, .int .i64 N.want], .int .i64 0]) (by simp [results, Tryz.results53, go_sem, y0, y1, y2, y3, y4, y5, y6, y7, y8, y9, y10, y11]) rfl ?_
        have hnew := HNEW.out false (by first | (rw [hn5]; rfl) | (rw [hn5, hw3, hb3]; rfl))
        have h8 := one12 H7.out.1 H7.out.2.1 H7.out.2.2.1 HLO.out (Nat.le_succ _) ⟨_, H7.out.2.2.2.2⟩ (.slice D1 N.regs.length f1) (.int .i64 N.pc) (.int .i64 N.back) (.bool N.ints) (.bool N.wait) (.int .i64 N.table) (.int .i64 N.count) (.int .i64 N.fin) (.slice D2 N.mem.length f2) (.slice D3 N.out.length f3) (.int .i64 N.ready) (.int .i64 N.want)
        exact RStepQ.mk HN.out HVA.out.1 (by show s.bl = if s.new x k = true then _ else _; rw [hnew]; rfl) h8.1 h8.2.1 h8.2.2 (HREL.out.1.next HREL.out.2.1 (HM.out.2.2.2 ▸ HM.out.1) (HM.out.2.2.2 ▸ HM.out.2.1) (HM.out.2.2.2 ▸ hcM) HREL.out.2.2 H1.out.2.2.2.2.2.1 rfl (by rw [hnew]; rfl) H4.out.2.2.1) H4.out.2.2.2
      | skip
  all_goals
    clear y0 y1 y2 y3 y4 y5 y6 y7 y8 y9 y10 y11 yf yl
    have hnew := HNEW.out true (by first | (rw [hn5, hw3]; rfl) | (rw [hn5, hw3, hb3]; rfl))
    have HDL : Hid (∀ w', RcAt w' lo g iv zv x va1 cm1 s.bl due R4 → Calls Tryz.prog 122 #[.pointer (some ⟨g.pd, 0, none⟩), .pointer (some ⟨g.qd, 0, none⟩)] w' fun e w'' => e = .returned (.int .i64 d) ∧ RcAt w'' lo g iv zv x va1 cm1 (s.bl + 1) due R4 ∧ KpI lo w' w'') := fun w' h' => by
      have e := delayNext g lo iv zv x va1 cm1 s.bl due R4 w' h'
      rw [← HD.out.1] at e
      exact e
    have HNEW2 : Hid (s.new x k = true) := hnew
    have hne1 : ¬ g.p = w.heap.size := by have := HGP.out; omega
    have hne2 : ¬ w.heap.size = g.p := by have := HGP.out; omega
    clear hnew
    go_region_law (go_simp; go_at_call 122; refine (HDL.out _ (H7.out.1.below ((Below.refl _ W6).drew))).mono ?_; rintro e w7 ⟨rfl, t1, t2⟩; have H8 : Hid (RcAt w7 lo g iv zv x va1 cm1 (s.bl + 1) due R4 ∧ OwnM w7 lo (.slice D1 N.regs.length f1) (.slice D2 N.mem.length f2) (.slice D3 N.out.length f3) N ∧ KpI lo w w7 ∧ w7.heap[w.heap.size]? = some (.cells #[.slice D1 N.regs.length f1, .int .i64 N.pc, .int .i64 N.back, .bool N.ints, .bool N.wait, .int .i64 N.table, .int .i64 N.count, .int .i64 N.fin, .slice D2 N.mem.length f2, .slice D3 N.out.length f3, .int .i64 N.ready, .int .i64 N.want] 37 (0, 0)) ∧ w7.heap[w.heap.size + 1]? = some (.cells zeroM 37 (0, 0))) := ⟨t1, (H7.out.2.1.below ((Below.refl _ W6).drew)).kp t2, H7.out.2.2.1.trans ((KpI.of_below ((Below.refl _ W6).drew) H7.out.1.lw).trans t2), t2.kept _ _ _ mutM H7.out.2.2.2.1, t2.kept _ _ _ mutM H7.out.2.2.2.2⟩; clear t1 t2 z0 z1 z2 z3 z4 z5 z6 z7 z8 z9 z10 z11 zf zl p0 p1 p2 p3 p4 pf pl; obtain ⟨⟨z0, z1, z2, z3, z4, z5, z6, z7, z8, z9, z10, z11⟩, zf, zl⟩ := twelve_cells H8.out.2.2.2.1; obtain ⟨⟨p0, p1, p2, p3, p4⟩, pf, pl⟩ := H8.out.1.six)
  all_goals
    have h9 := H8.out.1.setDue (N.count + d)
    have hB9 := But.set w7 H8.out.1.le.1 4 (.int .i64 (N.count + d))
    obtain ⟨w8, hw8⟩ : ∃ w8, w8 = w7.setCell ⟨g.p, 4, none⟩ (.int .i64 (N.count + d)) := ⟨_, rfl⟩
    rw [← hw8] at h9 hB9 ⊢
    have H9 : Hid (RcAt w8 lo g iv zv x va1 cm1 (s.bl + 1) (N.count + d) R4 ∧ OwnM w8 lo (.slice D1 N.regs.length f1) (.slice D2 N.mem.length f2) (.slice D3 N.out.length f3) N ∧ KpI lo w w8 ∧ w8.heap[w.heap.size]? = some (.cells #[.slice D1 N.regs.length f1, .int .i64 N.pc, .int .i64 N.back, .bool N.ints, .bool N.wait, .int .i64 N.table, .int .i64 N.count, .int .i64 N.fin, .slice D2 N.mem.length f2, .slice D3 N.out.length f3, .int .i64 N.ready, .int .i64 N.want] 37 (0, 0)) ∧ w8.heap[w.heap.size + 1]? = some (.cells zeroM 37 (0, 0))) := ⟨h9.1, H8.out.2.1.kp h9.2, H8.out.2.2.1.trans h9.2, h9.2.kept _ _ _ mutM H8.out.2.2.2.1, h9.2.kept _ _ _ mutM H8.out.2.2.2.2⟩
    clear h9 hB9 hw8 z0 z1 z2 z3 z4 z5 z6 z7 z8 z9 z10 z11 zf zl p0 p1 p2 p3 p4 pf pl
    obtain ⟨⟨z0, z1, z2, z3, z4, z5, z6, z7, z8, z9, z10, z11⟩, zf, zl⟩ := twelve_cells H9.out.2.2.2.1
    obtain ⟨⟨y0, y1, y2, y3, y4, y5, y6, y7, y8, y9, y10, y11⟩, yf, yl⟩ := twelve_cells H9.out.2.2.2.2
    go_wp2_with fail
    refine bodyPost_ret (v := .tuple #[.agg #[.slice D1 N.regs.length f1, .int .i64 N.pc, .int .i64 N.back, .bool N.ints, .bool N.wait, .int .i64 N.table, .int .i64 N.count, .int .i64 N.fin, .slice D2 N.mem.length f2, .slice D3 N.out.length f3, .int .i64 N.ready, .int .i64 N.want], .int .i64 0]) (by simp [results, Tryz.results53, go_sem, y0, y1, y2, y3, y4, y5, y6, y7, y8, y9, y10, y11]) rfl ?_
    have h10 := one12 H9.out.1 H9.out.2.1 H9.out.2.2.1 HLO.out (Nat.le_succ _) ⟨_, H9.out.2.2.2.2⟩ (.slice D1 N.regs.length f1) (.int .i64 N.pc) (.int .i64 N.back) (.bool N.ints) (.bool N.wait) (.int .i64 N.table) (.int .i64 N.count) (.int .i64 N.fin) (.slice D2 N.mem.length f2) (.slice D3 N.out.length f3) (.int .i64 N.ready) (.int .i64 N.want)
    exact RStepQ.mk HN.out HVA.out.1 (by show s.bl + 1 = if s.new x k = true then _ else _; rw [HNEW2.out]; rfl) h10.1 h10.2.1 h10.2.2 (HREL.out.1.next HREL.out.2.1 (HM.out.2.2.2 ▸ HM.out.1) (HM.out.2.2.2 ▸ HM.out.2.1) (HM.out.2.2.2 ▸ hcM) HREL.out.2.2 H1.out.2.2.2.2.2.1 rfl (by rw [HNEW2.out, HNM.out.2, HD.out.1]; rfl) H4.out.2.2.1) H4.out.2.2.2

end Go.Proofs.YtecpblabaelopaaGreatDoor
