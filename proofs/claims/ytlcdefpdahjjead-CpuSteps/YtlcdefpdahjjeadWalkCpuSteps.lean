/- The walk of the law CpuSteps. -/
import Derived.Test.YtlcdefpdahjjeadSpX
import Derived.Test.YtlcdefpdahjjeadWalkBPart
import Derived.Deep.RegionLaw
namespace Go.Proofs.Ytlcdefpdahjjead
open Go.RowKit

set_option maxRecDepth 20000 in
set_option maxHeartbeats 4000000 in
theorem CpuSteps_any (m : Mach) (rv mv ov : Value) (irq : Bool) (v : Value) (l : List Int) (value : Int) (w : World) (ha : MachAt w rv mv ov m) (_ : MachWf m) (h : IntsAt w v l) (_ : ∀ n ∈ l, (Lit.int .i64 n).wf = true) (hv : v = .slice none 0 0 ∨ ∃ a n c, v = .slice (some a) n c) (_ : (Lit.int .i64 value).wf = true) :
    Calls Try.prog 3 #[.agg (m.cells rv mv ov), .bool irq, v, .int .i64 value] w fun e w' => e = .returned (.bool true) ∧ Below w.heap.size w w' := by
  obtain ⟨A1, c1, A2, c2, A3, c3, rfl, rfl, rfl⟩ := ha.shape
  obtain ⟨i0, hi, hz0, hz1, hz2⟩ := info_parts infoInt
  have HA : Hid (∀ W, Below w.heap.size w W → MachAt W (.slice A1 m.regs.length c1) (.slice A2 m.mem.length c2) (.slice A3 m.out.length c3) m) := fun W hb => ha.below hb
  have HG : Hid (∀ W, Below w.heap.size w W → Calls Try.prog 9 #[.agg (m.cells (.slice A1 m.regs.length c1) (.slice A2 m.mem.length c2) (.slice A3 m.out.length c3))] W fun e w' => ∃ rv' mv' ov', e = .returned (.agg (m.cells rv' mv' ov')) ∧ OwnM w' W.heap.size rv' mv' ov' m ∧ Below W.heap.size W w') := fun W hb => GuestCopy_any m _ _ _ W (ha.below hb)
  have HT : Hid (MachFits m) := ha.fits
  obtain ⟨S, hS⟩ : ∃ S, S = stepA m irq l value := ⟨_, rfl⟩
  have HF : Hid (∀ W rv mv ov v1, MachAt W rv mv ov m → IntsAt W v1 l → Calls Try.prog 10 #[.agg (m.cells rv mv ov), .bool irq, v1, .int .i64 value] W fun e w' => StepAns W S e w') := fun W rv mv ov v1 h1 h2 => by
    obtain ⟨B, cb, hB, _⟩ := id h2
    subst hB
    rw [hS]
    exact Step_all m rv mv ov irq B cb l value W h1 h2
  have HR : Hid (∀ W, Below w.heap.size w W → Calls Try.prog 11 #[.agg (m.cells (.slice A1 m.regs.length c1) (.slice A2 m.mem.length c2) (.slice A3 m.out.length c3)), .bool irq, v, .int .i64 value] W fun e w' => StepAns W S e w') := fun W hb => by
    obtain ⟨B, cb, hB, _⟩ := id h
    subst hB
    rw [hS]
    exact SteppedOf_all m _ _ _ irq B cb l value W (ha.below hb) (h.below hb)
  have HSM : Hid (∀ W M rv mv ov rv' mv' ov', MachAt W rv mv ov M → MachAt W rv' mv' ov' M → Calls Try.prog 12 #[.agg (Mach.cells M rv mv ov), .agg (Mach.cells M rv' mv' ov')] W fun e w' => e = .returned (.bool true) ∧ Below W.heap.size W w') := fun W M rv mv ov rv' mv' ov' h1 h2 => sameMachine_same M rv mv ov rv' mv' ov' W h1 h2
  have HV : Hid (∀ W, Below w.heap.size w W → IntsAt W v l) := fun W hb => h.below hb
  have hl8 := h.bound
  clear hS ha
  obtain ⟨M, wr, no⟩ := S
  simp only [StepAns] at HF HR
  have hold := below_alloc w (.cells (m.cells (.slice A1 m.regs.length c1) (.slice A2 m.mem.length c2) (.slice A3 m.out.length c3)) 24)
  have hbox0 := Go.Deep.blk_alloc_new w (.cells (m.cells (.slice A1 m.regs.length c1) (.slice A2 m.mem.length c2) (.slice A3 m.out.length c3)) 24)
  obtain ⟨W0, hW0⟩ : ∃ W0, W0 = w.alloc (.cells (m.cells (.slice A1 m.regs.length c1) (.slice A2 m.mem.length c2) (.slice A3 m.out.length c3)) 24) := ⟨_, rfl⟩
  rw [← hW0] at hold hbox0
  have HW0 : Hid (W0 = w.alloc (.cells (m.cells (.slice A1 m.regs.length c1) (.slice A2 m.mem.length c2) (.slice A3 m.out.length c3)) 24)) := hW0
  have H0 : Hid (Below w.heap.size w W0 ∧ W0.heap[w.heap.size]? = some (.cells (m.cells (.slice A1 m.regs.length c1) (.slice A2 m.mem.length c2) (.slice A3 m.out.length c3)) 24 (0, 0))) := ⟨hold, hbox0⟩
  clear hold hbox0 hW0
  simp only [Mach.cells] at HW0 H0 HG HF HR HSM ⊢
  go_enter Try.func3, Try.ntmps3
  go_wp2_with fail
  rw [← HW0.out]
  refine (HG.out _ H0.out.1).mono ?_
  rintro e w1 ⟨rv', mv', ov', rfl, ho, hb1⟩
  obtain ⟨D1, e1, D2, e2, D3, e3, g1, g2, g3⟩ := ho.shape
  subst g1 g2 g3
  have hB1 : Below w.heap.size w w1 := H0.out.1.trans (hb1.mono H0.out.1.size)
  have hx1 := (hb1.block _ (lt_of_block H0.out.2)).trans H0.out.2
  have hlt := lt_of_block hx1
  have hM1 := ho.at HT.out
  have HX1 : Hid (_) := hx1
  have HM1 : Hid (_) := hM1
  have HB1 : Hid (_) := hB1
  clear hx1 hM1 hB1 hb1 ho HG HW0 H0
  go_upto_region 2 with fail
  have hx1 := HX1.out
  have hM1 := HM1.out
  have hB1 := HB1.out
  have h2 : Below w1.heap.size w1 (w1.alloc (.cells (m.cells (.slice D1 m.regs.length e1) (.slice D2 m.mem.length e2) (.slice D3 m.out.length e3)) 24)) := below_alloc _ _
  have hk2 := Go.Deep.blk_alloc_new w1 (.cells (m.cells (.slice D1 m.regs.length e1) (.slice D2 m.mem.length e2) (.slice D3 m.out.length e3)) 24)
  obtain ⟨W2, hW2⟩ : ∃ W2, W2 = w1.alloc (.cells (m.cells (.slice D1 m.regs.length e1) (.slice D2 m.mem.length e2) (.slice D3 m.out.length e3)) 24) := ⟨_, rfl⟩
  rw [← hW2] at h2 hk2
  simp only [Mach.cells] at hW2 hk2
  rw [← hW2]
  have H2 : Hid (Below w.heap.size w W2 ∧ W2.heap[w.heap.size]? = some (.cells #[.slice A1 m.regs.length c1, .int .i64 m.pc, .int .i64 m.back, .bool m.ints, .bool m.wait, .int .i64 m.table, .int .i64 m.count, .int .i64 m.fin, .slice A2 m.mem.length c2, .slice A3 m.out.length c3, .int .i64 m.ready, .int .i64 m.want] 24 (0, 0)) ∧ W2.heap[w1.heap.size]? = some (.cells #[.slice D1 m.regs.length e1, .int .i64 m.pc, .int .i64 m.back, .bool m.ints, .bool m.wait, .int .i64 m.table, .int .i64 m.count, .int .i64 m.fin, .slice D2 m.mem.length e2, .slice D3 m.out.length e3, .int .i64 m.ready, .int .i64 m.want] 24 (0, 0)) ∧ MachAt W2 (.slice D1 m.regs.length e1) (.slice D2 m.mem.length e2) (.slice D3 m.out.length e3) m) :=
    ⟨hB1.trans (h2.mono hB1.size), by rw [h2.block _ hlt]; exact hx1, hk2, hM1.below h2⟩
  clear hW2 h2 hk2 hx1 hM1 hB1 HX1 HM1 HB1 h
  go_cut [10, 11, 12] (fun p i e wx => ∃ ba E1 k1 E2 k2 E3 k3, p = .pointer (some ⟨ba, 0, none⟩) ∧ i = .int .i64 wr ∧ e = .int .i64 no ∧ wx.heap[ba]? = some (.cells #[.slice E1 M.regs.length k1, .int .i64 M.pc, .int .i64 M.back, .bool M.ints, .bool M.wait, .int .i64 M.table, .int .i64 M.count, .int .i64 M.fin, .slice E2 M.mem.length k2, .slice E3 M.out.length k3, .int .i64 M.ready, .int .i64 M.want] 24 (0, 0)) ∧ MachAt wx (.slice E1 M.regs.length k1) (.slice E2 M.mem.length k2) (.slice E3 M.out.length k3) M ∧ Below W2.heap.size W2 wx)
  case first =>
    obtain ⟨⟨z0, z1, z2, z3, z4, z5, z6, z7, z8, z9, z10, z11⟩, zf, zl⟩ := twelve_cells H2.out.2.2.1
    have HK2 : Hid (∀ W, Below W2.heap.size W2 W → MachAt W (.slice D1 m.regs.length e1) (.slice D2 m.mem.length e2) (.slice D3 m.out.length e3) m ∧ W.heap[w1.heap.size]? = some (.cells #[.slice D1 m.regs.length e1, .int .i64 m.pc, .int .i64 m.back, .bool m.ints, .bool m.wait, .int .i64 m.table, .int .i64 m.count, .int .i64 m.fin, .slice D2 m.mem.length e2, .slice D3 m.out.length e3, .int .i64 m.ready, .int .i64 m.want] 24 (0, 0))) := fun W hB => ⟨H2.out.2.2.2.below hB, by rw [hB.block _ (lt_of_block H2.out.2.2.1)]; exact H2.out.2.2.1⟩
    have HFIN : Hid (∀ X w6 E1 k1 E2 k2 E3 k3, Below W2.heap.size W2 X → MachLo X.heap.size w6 (.slice E1 M.regs.length k1) (.slice E2 M.mem.length k2) (.slice E3 M.out.length k3) M → Below X.heap.size X w6 → (w6.alloc (.cells #[.slice E1 M.regs.length k1, .int .i64 M.pc, .int .i64 M.back, .bool M.ints, .bool M.wait, .int .i64 M.table, .int .i64 M.count, .int .i64 M.fin, .slice E2 M.mem.length k2, .slice E3 M.out.length k3, .int .i64 M.ready, .int .i64 M.want] 24)).heap[w6.heap.size]? = some (.cells #[.slice E1 M.regs.length k1, .int .i64 M.pc, .int .i64 M.back, .bool M.ints, .bool M.wait, .int .i64 M.table, .int .i64 M.count, .int .i64 M.fin, .slice E2 M.mem.length k2, .slice E3 M.out.length k3, .int .i64 M.ready, .int .i64 M.want] 24 (0, 0)) ∧ MachAt (w6.alloc (.cells #[.slice E1 M.regs.length k1, .int .i64 M.pc, .int .i64 M.back, .bool M.ints, .bool M.wait, .int .i64 M.table, .int .i64 M.count, .int .i64 M.fin, .slice E2 M.mem.length k2, .slice E3 M.out.length k3, .int .i64 M.ready, .int .i64 M.want] 24)) (.slice E1 M.regs.length k1) (.slice E2 M.mem.length k2) (.slice E3 M.out.length k3) M ∧ Below W2.heap.size W2 (w6.alloc (.cells #[.slice E1 M.regs.length k1, .int .i64 M.pc, .int .i64 M.back, .bool M.ints, .bool M.wait, .int .i64 M.table, .int .i64 M.count, .int .i64 M.fin, .slice E2 M.mem.length k2, .slice E3 M.out.length k3, .int .i64 M.ready, .int .i64 M.want] 24))) := fun X w6 E1 k1 E2 k2 E3 k3 h1 h2 h3 => ⟨Go.Deep.blk_alloc_new _ _, h2.at.below (below_alloc _ _), (h1.trans (h3.mono h1.size)).trans ((below_alloc _ _).mono (h1.trans (h3.mono h1.size)).size)⟩
    have HSET : Hid (∀ bz X w6 E1 k1 E2 k2 E3 k3, Below W2.heap.size W2 X → W2.heap.size ≤ bz → bz < X.heap.size → w6.heap[bz]? = some (.cells zeroM 24 (0, 0)) → MachLo X.heap.size w6 (.slice E1 M.regs.length k1) (.slice E2 M.mem.length k2) (.slice E3 M.out.length k3) M → Below X.heap.size X w6 → (((((((((((((w6.setCell ⟨bz, 0, none⟩ (.slice E1 M.regs.length k1)).setCell ⟨bz, 1, none⟩ (.int .i64 M.pc)).setCell ⟨bz, 2, none⟩ (.int .i64 M.back)).setCell ⟨bz, 3, none⟩ (.bool M.ints)).setCell ⟨bz, 4, none⟩ (.bool M.wait)).setCell ⟨bz, 5, none⟩ (.int .i64 M.table)).setCell ⟨bz, 6, none⟩ (.int .i64 M.count)).setCell ⟨bz, 7, none⟩ (.int .i64 M.fin)).setCell ⟨bz, 8, none⟩ (.slice E2 M.mem.length k2)).setCell ⟨bz, 9, none⟩ (.slice E3 M.out.length k3)).setCell ⟨bz, 10, none⟩ (.int .i64 M.ready)).setCell ⟨bz, 11, none⟩ (.int .i64 M.want))).heap[bz]? = some (.cells #[.slice E1 M.regs.length k1, .int .i64 M.pc, .int .i64 M.back, .bool M.ints, .bool M.wait, .int .i64 M.table, .int .i64 M.count, .int .i64 M.fin, .slice E2 M.mem.length k2, .slice E3 M.out.length k3, .int .i64 M.ready, .int .i64 M.want] 24 (0, 0)) ∧ MachAt (((((((((((((w6.setCell ⟨bz, 0, none⟩ (.slice E1 M.regs.length k1)).setCell ⟨bz, 1, none⟩ (.int .i64 M.pc)).setCell ⟨bz, 2, none⟩ (.int .i64 M.back)).setCell ⟨bz, 3, none⟩ (.bool M.ints)).setCell ⟨bz, 4, none⟩ (.bool M.wait)).setCell ⟨bz, 5, none⟩ (.int .i64 M.table)).setCell ⟨bz, 6, none⟩ (.int .i64 M.count)).setCell ⟨bz, 7, none⟩ (.int .i64 M.fin)).setCell ⟨bz, 8, none⟩ (.slice E2 M.mem.length k2)).setCell ⟨bz, 9, none⟩ (.slice E3 M.out.length k3)).setCell ⟨bz, 10, none⟩ (.int .i64 M.ready)).setCell ⟨bz, 11, none⟩ (.int .i64 M.want))) (.slice E1 M.regs.length k1) (.slice E2 M.mem.length k2) (.slice E3 M.out.length k3) M ∧ Below W2.heap.size W2 (((((((((((((w6.setCell ⟨bz, 0, none⟩ (.slice E1 M.regs.length k1)).setCell ⟨bz, 1, none⟩ (.int .i64 M.pc)).setCell ⟨bz, 2, none⟩ (.int .i64 M.back)).setCell ⟨bz, 3, none⟩ (.bool M.ints)).setCell ⟨bz, 4, none⟩ (.bool M.wait)).setCell ⟨bz, 5, none⟩ (.int .i64 M.table)).setCell ⟨bz, 6, none⟩ (.int .i64 M.count)).setCell ⟨bz, 7, none⟩ (.int .i64 M.fin)).setCell ⟨bz, 8, none⟩ (.slice E2 M.mem.length k2)).setCell ⟨bz, 9, none⟩ (.slice E3 M.out.length k3)).setCell ⟨bz, 10, none⟩ (.int .i64 M.ready)).setCell ⟨bz, 11, none⟩ (.int .i64 M.want)))) := fun bz X w6 E1 k1 E2 k2 E3 k3 h1 hle hlt hbx h2 h3 => ⟨box_set12 hbx rfl _ _ _ _ _ _ _ _ _ _ _ _, ((((((((((((h2.setCell (by simpa using hlt) _).setCell (by simpa using hlt) _).setCell (by simpa using hlt) _).setCell (by simpa using hlt) _).setCell (by simpa using hlt) _).setCell (by simpa using hlt) _).setCell (by simpa using hlt) _).setCell (by simpa using hlt) _).setCell (by simpa using hlt) _).setCell (by simpa using hlt) _).setCell (by simpa using hlt) _).setCell (by simpa using hlt) _).at, below_set12 (h1.trans (h3.mono h1.size)) hle _ _ _ _ _ _ _ _ _ _ _ _⟩
    have HXZ : Hid (Below W2.heap.size W2 (W2.alloc (.cells zeroM 24)).drew ∧ (W2.alloc (.cells zeroM 24)).drew.heap[W2.heap.size]? = some (.cells zeroM 24 (0, 0)) ∧ Below W2.heap.size W2 W2.drew) := ⟨(below_alloc _ _).drew, Go.Deep.blk_alloc_new _ _, (Below.refl _ _).drew⟩
    rcases hv with rfl | ⟨a, n, c, rfl⟩
    · obtain rfl : l = [] := by
        obtain ⟨A, c, e, _, _⟩ := HV.out _ (Below.refl _ _)
        simp at e
        exact List.eq_nil_of_length_eq_zero e.2.1.symm
      have HN : Hid (∀ W, IntsAt W (.slice none 0 0) []) := fun W => ⟨none, 0, rfl, by simp, fun h => by simp at h⟩
      go_region_law
        (first
          | (refine step_append_none (by rfl) _ _ 22 (by rfl) w.heap.size 3 i0 1 Try.underlying22 hi (.slice none 0 0) 0 [] (by rfl) (World.ownsRow_nil _ _ _ _) (by rfl) ?_)
          | (go_simp; go_at_call 10; refine (HF.out _ _ _ _ _ (HK2.out _ HXZ.out.1).1 (HN.out _)).mono ?_; rintro e w6 ⟨E1, k1, E2, k2, E3, k3, rfl, hM6, hB6⟩; have hbx6 := (hB6.block _ (lt_of_block HXZ.out.2.1)).trans HXZ.out.2.1; have HM6 := HSET.out _ _ _ _ _ _ _ _ _ HXZ.out.1 (Nat.le_refl _) (lt_of_block HXZ.out.2.1) hbx6 hM6 hB6; have HM7 : Hid (_) := HM6; obtain ⟨⟨x0, x1, x2, x3, x4, x5, x6, x7, x8, x9, x10, x11⟩, xf, xl⟩ := twelve_cells hbx6; clear hM6 hB6 HM6 hbx6)
          | (go_simp; go_at_call 10; refine (HF.out _ _ _ _ _ (HK2.out _ HXZ.out.2.2).1 (HN.out _)).mono ?_; rintro e w6 ⟨E1, k1, E2, k2, E3, k3, rfl, hM6, hB6⟩; have HM6 := HFIN.out _ _ _ _ _ _ _ _ HXZ.out.2.2 hM6 hB6; have HM7 : Hid (_) := HM6; clear hM6 hB6 HM6))
      all_goals
        go_wp2_with fail
        go_meet
        exact ⟨_, E1, k1, E2, k2, E3, k3, rfl, rfl, rfl, HM7.out.1, HM7.out.2.1, HM7.out.2.2⟩
    · obtain ⟨A, c', e, hl, hc⟩ := HV.out W2 H2.out.1
      simp only [Value.slice.injEq] at e
      obtain ⟨rfl, rfl, rfl⟩ := e
      have HN : Hid (∀ X, Below W2.heap.size W2 X → ∀ j u, (l.map (Value.int .i64))[j]? = some u → X.cell? (a.add j) = some u) := fun X hX => by
        intro j u hu
        have hjl : j < l.length := by
          by_cases hh : j < l.length
          · exact hh
          · simp [List.getElem?_eq_none (show l.length ≤ j by omega)] at hu
        obtain ⟨b, off, ea, hb, hj⟩ := hc (by omega)
        simp only [Option.some.injEq] at ea
        subst ea
        rw [Go.WideShapes.add_plain, hX.cell (p := ⟨b, off + j, none⟩) hb, hj j hjl]
        simp [hjl] at hu
        simp [List.getD, hjl, hu]
      have HGR : Hid (∀ X v1 w3, Below W2.heap.size W2 X → w3.ownsRow W2.heap.size 3 1 v1 (0 + l.length) ([] ++ l.map (Value.int .i64)) → X.grownBy w3 (Value.slice none 0 0).ownBlock → IntsAt w3 v1 l ∧ (∃ B cb, v1 = .slice B l.length cb) ∧ Below W2.heap.size W2 w3 ∧ X.heap.size ≤ w3.heap.size ∧ ∀ i o, X.heap[i]? = some o → w3.heap[i]? = some o) := fun X v1 w3 hX hown hgrow => by
        have ho : OwnI w3 W2.heap.size v1 l := by
          show w3.ownsRow W2.heap.size 3 1 v1 l.length (l.map (Value.int .i64))
          simpa using hown
        have hXw : Below X.heap.size X w3 := (Below.refl _ X).grown hgrow (Nat.le_refl _) (fun k hk => by simp [Value.ownBlock] at hk)
        exact ⟨ho.at hl, ho.shape, hX.trans (hXw.mono hX.size), hXw.size, fun i o h => (hXw.block _ (lt_of_block h)).trans h⟩
      clear hc
      go_region_law
        (first
          | (refine step_append_at (by rfl) _ _ 22 (by rfl) W2.heap.size 3 i0 (.int .i64 0) 1 8 Try.underlying22 hi hz0 hz1 hz2 rfl (by decide) (.slice none 0 0) 0 [] (by rfl) (World.ownsRow_nil _ _ _ _) a l.length c (l.map (Value.int .i64)) (by rfl) (by simp) (HN.out _ HXZ.out.1) (ints_oneCell _ _) (by unfold maxLen; omega) (by omega) HXZ.out.1.size ?_; intro v3 w3 hown hgrow; obtain ⟨hi3, ⟨B3, cb3, hv3⟩, hb3, hs3, hk3⟩ := HGR.out _ _ _ HXZ.out.1 hown hgrow; subst hv3; have HI3 : Hid (_) := hi3; have HB3 : Hid (_) := hb3; obtain ⟨hm3, hx3⟩ := HK2.out _ hb3; have HM3 : Hid (_) := hm3; obtain ⟨⟨y0, y1, y2, y3, y4, y5, y6, y7, y8, y9, y10, y11⟩, yf, yl⟩ := twelve_cells hx3; have HZ3 : Hid (w3.heap[W2.heap.size]? = some (.cells zeroM 24 (0, 0))) := hk3 _ _ HXZ.out.2.1; clear hi3 hb3 hm3 hx3 hown hgrow hs3 hk3)
          | (refine step_append_at (by rfl) _ _ 22 (by rfl) W2.heap.size 3 i0 (.int .i64 0) 1 8 Try.underlying22 hi hz0 hz1 hz2 rfl (by decide) (.slice none 0 0) 0 [] (by rfl) (World.ownsRow_nil _ _ _ _) a l.length c (l.map (Value.int .i64)) (by rfl) (by simp) (HN.out _ HXZ.out.2.2) (ints_oneCell _ _) (by unfold maxLen; omega) (by omega) HXZ.out.2.2.size ?_; intro v3 w3 hown hgrow; obtain ⟨hi3, ⟨B3, cb3, hv3⟩, hb3, hs3, hk3⟩ := HGR.out _ _ _ HXZ.out.2.2 hown hgrow; subst hv3; have HI3 : Hid (_) := hi3; have HB3 : Hid (_) := hb3; obtain ⟨hm3, hx3⟩ := HK2.out _ hb3; have HM3 : Hid (_) := hm3; obtain ⟨⟨y0, y1, y2, y3, y4, y5, y6, y7, y8, y9, y10, y11⟩, yf, yl⟩ := twelve_cells hx3; clear hi3 hb3 hm3 hx3 hown hgrow hs3 hk3)
          | (go_simp; go_at_call 10; refine (HF.out _ _ _ _ _ HM3.out HI3.out).mono ?_; rintro e w6 ⟨E1, k1, E2, k2, E3, k3, rfl, hM6, hB6⟩; have hbx6 := (hB6.block _ (lt_of_block HZ3.out)).trans HZ3.out; have HM6 := HSET.out _ _ _ _ _ _ _ _ _ HB3.out (Nat.le_refl _) (lt_of_block HZ3.out) hbx6 hM6 hB6; have HM7 : Hid (_) := HM6; obtain ⟨⟨x0, x1, x2, x3, x4, x5, x6, x7, x8, x9, x10, x11⟩, xf, xl⟩ := twelve_cells hbx6; clear hM6 hB6 HM6 hbx6)
          | (go_simp; go_at_call 10; refine (HF.out _ _ _ _ _ HM3.out HI3.out).mono ?_; rintro e w6 ⟨E1, k1, E2, k2, E3, k3, rfl, hM6, hB6⟩; have HM6 := HFIN.out _ _ _ _ _ _ _ _ HB3.out hM6 hB6; have HM7 : Hid (_) := HM6; clear hM6 hB6 HM6)
          | (go_simp; go_at_call 10; refine (HF.out _ _ _ _ _ (MachAt.below HM3.out (below_alloc _ _)) (IntsAt.below HI3.out (below_alloc _ _))).mono ?_; rintro e w6 ⟨E1, k1, E2, k2, E3, k3, rfl, hM6, hB6⟩; have hz3 := Go.Deep.blk_alloc_new w3 (.cells zeroM 24); have hbx6 := (hB6.block _ (lt_of_block hz3)).trans hz3; have HM6 := HSET.out _ _ _ _ _ _ _ _ _ (HB3.out.alloc HB3.out.size _) HB3.out.size (lt_of_block hz3) hbx6 hM6 hB6; have HM7 : Hid (_) := HM6; obtain ⟨⟨x0, x1, x2, x3, x4, x5, x6, x7, x8, x9, x10, x11⟩, xf, xl⟩ := twelve_cells hbx6; clear hM6 hB6 HM6 hbx6 hz3))
      all_goals
        go_wp2_with fail
        go_meet
        exact ⟨_, E1, k1, E2, k2, E3, k3, rfl, rfl, rfl, HM7.out.1, HM7.out.2.1, HM7.out.2.2⟩
  case rest =>
    obtain ⟨ba, E1, k1, E2, k2, E3, k3, rfl, rfl, rfl, hxa, hMa, hBa⟩ := hcut
    have hx0 := (hBa.block _ (lt_of_block H2.out.2.1)).trans H2.out.2.1
    have hxk := (hBa.block _ (lt_of_block H2.out.2.2.1)).trans H2.out.2.2.1
    have hBw : Below w.heap.size w wc := H2.out.1.trans (hBa.mono H2.out.1.size)
    obtain ⟨⟨z0, z1, z2, z3, z4, z5, z6, z7, z8, z9, z10, z11⟩, zf, zl⟩ := twelve_cells hx0
    have HC : Hid (wc.heap[w.heap.size]? = _ ∧ wc.heap[w1.heap.size]? = _ ∧ wc.heap[ba]? = _) := ⟨hx0, hxk, hxa⟩
    have HMM : Hid (MachAt wc _ _ _ M ∧ MachAt wc _ _ _ m ∧ Below w.heap.size w wc) := ⟨hMa, H2.out.2.2.2.below hBa, hBw⟩
    clear hx0 hxk hxa hMa hBa hBw H2 HF HV hv
    go_wp2_with fail
    refine (HR.out _ HMM.out.2.2).mono ?_
    rintro e w4 ⟨F1, j1, F2, j2, F3, j3, rfl, hM4', hB4⟩
    have hM4 := hM4'.at
    clear hM4'
    have hB := (HMM.out.2.2.trans (hB4.mono HMM.out.2.2.size))
    have hx0 := (hB4.block _ (lt_of_block HC.out.1)).trans HC.out.1
    have hxk := (hB4.block _ (lt_of_block HC.out.2.1)).trans HC.out.2.1
    have hxa := (hB4.block _ (lt_of_block HC.out.2.2)).trans HC.out.2.2
    clear z0 z1 z2 z3 z4 z5 z6 z7 z8 z9 z10 z11 zf zl
    obtain ⟨⟨z0, z1, z2, z3, z4, z5, z6, z7, z8, z9, z10, z11⟩, zf, zl⟩ := twelve_cells hx0
    obtain ⟨⟨y0, y1, y2, y3, y4, y5, y6, y7, y8, y9, y10, y11⟩, yf, yl⟩ := twelve_cells hxk
    obtain ⟨⟨x0, x1, x2, x3, x4, x5, x6, x7, x8, x9, x10, x11⟩, xf, xl⟩ := twelve_cells hxa
    have n0 : ¬ w.heap.size = w4.heap.size := by omega
    have n1 : ¬ w1.heap.size = w4.heap.size := by omega
    have n2 : ¬ ba = w4.heap.size := by omega
    have HM4 : Hid (MachAt w4 (.slice F1 M.regs.length j1) (.slice F2 M.mem.length j2) (.slice F3 M.out.length j3) M ∧ MachAt w4 (.slice E1 M.regs.length k1) (.slice E2 M.mem.length k2) (.slice E3 M.out.length k3) M ∧ MachAt w4 (.slice D1 m.regs.length e1) (.slice D2 m.mem.length e2) (.slice D3 m.out.length e3) m ∧ Below w.heap.size w w4) := ⟨hM4, HMM.out.1.below hB4, HMM.out.2.1.below hB4, hB⟩
    have HC4 : Hid (w4.heap[w.heap.size]? = _ ∧ w4.heap[w1.heap.size]? = _) := ⟨hx0, hxk⟩
    clear hM4 hB hx0 hxk hxa HMM HC HR hB4
    go_wp2_with fail
    refine (HSM.out _ _ _ _ _ _ _ _ (HM4.out.2.1.below (below_alloc _ _)) (HM4.out.1.below (below_alloc _ _))).mono ?_
    rintro e w5 ⟨rfl, hB5⟩
    have hbb := (below_alloc w4 _).trans (hB5.mono (by simp))
    have hB : Below w.heap.size w w5 := HM4.out.2.2.2.trans (hbb.mono HM4.out.2.2.2.size)
    have hx0 := (hbb.block _ (lt_of_block HC4.out.1)).trans HC4.out.1
    have hxk := (hbb.block _ (lt_of_block HC4.out.2)).trans HC4.out.2
    clear z0 z1 z2 z3 z4 z5 z6 z7 z8 z9 z10 z11 zf zl y0 y1 y2 y3 y4 y5 y6 y7 y8 y9 y10 y11 yf yl x0 x1 x2 x3 x4 x5 x6 x7 x8 x9 x10 x11 xf xl
    obtain ⟨⟨z0, z1, z2, z3, z4, z5, z6, z7, z8, z9, z10, z11⟩, zf, zl⟩ := twelve_cells hx0
    obtain ⟨⟨y0, y1, y2, y3, y4, y5, y6, y7, y8, y9, y10, y11⟩, yf, yl⟩ := twelve_cells hxk
    have HM5 : Hid (MachAt w5 (.slice D1 m.regs.length e1) (.slice D2 m.mem.length e2) (.slice D3 m.out.length e3) m ∧ MachAt w5 (.slice A1 m.regs.length c1) (.slice A2 m.mem.length c2) (.slice A3 m.out.length c3) m ∧ Below w.heap.size w w5) := ⟨HM4.out.2.2.1.below hbb, HA.out _ hB, hB⟩
    clear hbb hB hx0 hxk HM4 HC4 hB5 HA
    go_wp2_with fail
    refine (HSM.out _ _ _ _ _ _ _ _ HM5.out.1 HM5.out.2.1).mono ?_
    rintro e w6 ⟨rfl, hB6⟩
    have HB6 : Hid (Below w.heap.size w w6) := HM5.out.2.2.trans (hB6.mono HM5.out.2.2.size)
    clear hB6
    go_wp2_with fail
    go_ret
    exact ⟨rfl, HB6.out⟩

end Go.Proofs.Ytlcdefpdahjjead
