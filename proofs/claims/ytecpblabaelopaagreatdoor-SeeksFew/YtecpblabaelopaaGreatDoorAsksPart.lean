/- Contract of cpu.Asks. -/
import Derived.Test.YtecpblabaelopaaGreatDoorMaySPart
import Derived.Test.YtecpblabaelopaaGreatDoorNxtPart
import Derived.Test.YtecpblabaelopaaGreatDoorDoEPart
import Derived.Test.YtecpblabaelopaaGreatDoorOwnPart
import Derived.Deep.RegionHeld3
import Derived.Deep.RegionWith
import Derived.Test.YtecpblabaelopaaGreatDoorTapePart
namespace Go.Proofs.YtecpblabaelopaaGreatDoor
open Go.RowKit
set_option maxRecDepth 100000

theorem stepNo_of {m : Mach} (hm : MayP m) {blk : List Int} {v : Int} (hl : blk.length = 0 ∨ blk.length = 16) (hab : allB blk = true) (hv : wordB v = true) (hc : m.count < 1099511627776) : stepNo m blk v = 0 := by
  have h1 : (m.count == 1099511627776) = false := by simp; omega
  unfold stepNo
  rw [mayP_iff.2 hm, hab, hv, h1]
  rcases hl with e | e <;> simp [e]

set_option maxHeartbeats 4000000 in
theorem Asks_go (m : Mach) (rv mv ov : Value) (irq : Bool) (B : Option Addr) (cb : Nat) (blk : List Int) (w : World) (ha : MachAt w rv mv ov m) (hb : IntsAt w (.slice B blk.length cb) blk) (hm : MayP m) (hab : allB blk = true) (hl : blk.length = 0 ∨ blk.length = 16) (hct : m.count < 1099511627776) (hf : m.fin = 0) :
    Calls Tryz.prog 87 #[.agg (m.cells rv mv ov), .bool irq, .slice B blk.length cb] w fun e w' => e = .returned (.bool (m.asks irq blk)) ∧ Below w.heap.size w w' := by
  have hx := Go.Deep.blk_alloc_new w (.cells (m.cells rv mv ov) 37)
  have hbw := below_alloc w (.cells (m.cells rv mv ov) 37)
  have hcs := checkStep_any m rv mv ov B cb blk 0 (w.alloc (.cells (m.cells rv mv ov) 37)) (ha.below hbw) (hb.below hbw)
  rw [stepNo_of hm hl hab (by decide) hct] at hcs
  obtain ⟨W, hW⟩ : ∃ W, W = w.alloc (.cells (m.cells rv mv ov) 37) := ⟨_, rfl⟩
  rw [← hW] at hx hbw hcs
  have HW : Hid (W = w.alloc (.cells (m.cells rv mv ov) 37)) := hW
  have HX : Hid (W.heap[w.heap.size]? = some (.cells (m.cells rv mv ov) 37 (0, 0)) ∧ Below w.heap.size w W) := ⟨hx, hbw⟩
  have HA : Hid (∀ w', Below w.heap.size w w' → MachAt w' rv mv ov m ∧ IntsAt w' (.slice B blk.length cb) blk) := fun w' hb' => ⟨ha.below hb', hb.below hb'⟩
  have HM : Hid (MayP m ∧ allB blk = true ∧ (blk.length = 0 ∨ blk.length = 16)) := ⟨hm, hab, hl⟩
  obtain ⟨A1, c1, A2, c2, A3, c3, rfl, rfl, rfl⟩ := ha.shape
  have HC : Hid (Calls Tryz.prog 77 #[.agg (m.cells (.slice A1 m.regs.length c1) (.slice A2 m.mem.length c2) (.slice A3 m.out.length c3)), .slice B blk.length cb, .int .i64 0] W fun e w' => e = .returned (.int .i64 0) ∧ Below W.heap.size W w') := hcs
  have HCP : Hid (∀ w', Below w.heap.size w w' → Calls Tryz.prog 78 #[.agg (m.cells (.slice A1 m.regs.length c1) (.slice A2 m.mem.length c2) (.slice A3 m.out.length c3))] w' fun e w'' => ∃ A c B c' C c'', e = .returned (.agg (m.cells (.slice A m.regs.length c) (.slice B m.mem.length c') (.slice C m.out.length c''))) ∧ OwnM w'' w'.heap.size (.slice A m.regs.length c) (.slice B m.mem.length c') (.slice C m.out.length c'') m ∧ Below w'.heap.size w' w'') := fun w' hb' => CpuCopy_any m _ _ _ w' (ha.below hb')
  obtain ⟨r, hr⟩ : ∃ r, r = m.asks irq blk := ⟨_, rfl⟩
  rw [← hr]
  have HR : Hid (r = decide ((m.ahead irq blk).nextE = 0 ∧ (m.ahead irq blk).nextX % 16 = 10 ∧ ((m.ahead irq blk).nextX / 1024 = 0 ∨ (m.ahead irq blk).nextX / 1024 = 1))) := by
    show _ = _
    rw [hr, Mach.asks]
    simp only [hf, true_and]
  have d0 : (m.fin != 0) = false := by simp [hf]
  have hm5 : MayP (m.ahead irq blk) := (hm.told irq hab hl).enter
  have HM5 : Hid (MayP (m.ahead irq blk)) := hm5
  obtain ⟨⟨z0, z1, z2, z3, z4, z5, z6, z7, z8, z9, z10, z11⟩, zf, zl⟩ := twelve_cells hx
  clear hb ha hbw hcs hW hr hm hab hl hct hf hx hm5
  simp only [Mach.cells] at HW HX HC HCP ⊢
  go_enter Tryz.func87, Tryz.ntmps87
  go_wp2_with fail
  rw [← HW.out]
  refine HC.out.mono ?_
  rintro e w1 ⟨rfl, hb1⟩
  obtain ⟨hx1, hbb1⟩ := box_below HX.out.1 HX.out.2 hb1
  have HX1 : Hid (Below w.heap.size w w1) := hbb1
  clear z0 z1 z2 z3 z4 z5 z6 z7 z8 z9 z10 z11 zf zl
  obtain ⟨⟨z0, z1, z2, z3, z4, z5, z6, z7, z8, z9, z10, z11⟩, zf, zl⟩ := twelve_cells hx1
  clear hb1 HC HX HW hx1 hbb1
  go_wp2_with fail
  refine (HCP.out _ HX1.out).mono ?_
  rintro e w2 ⟨D1, e1, D2, e2, D3, e3, rfl, ho2, hb2⟩
  have HO : Hid (OwnM w2 w1.heap.size (.slice D1 m.regs.length e1) (.slice D2 m.mem.length e2) (.slice D3 m.out.length e3) m ∧ Below w1.heap.size w1 w2 ∧ w.heap.size ≤ w1.heap.size) := ⟨ho2, hb2, HX1.out.size⟩
  clear z0 z1 z2 z3 z4 z5 z6 z7 z8 z9 z10 z11 zf zl hb2 ho2 HCP
  go_wp2_with fail
  refine (comeAhead_any w1.heap.size w2.heap.size (.slice D1 m.regs.length e1) (.slice D2 m.mem.length e2) (.slice D3 m.out.length e3) m irq B cb blk _ ⟨Go.Deep.blk_alloc_new _ _, (HO.out.1.below (below_alloc _ _)).of rfl rfl rfl, HO.out.2.1.size⟩ (fun w' hb' => (HA.out _ (((HX1.out.trans (HO.out.2.1.mono HO.out.2.2)).alloc (by have := HO.out.2.1.size; have := HO.out.2.2; omega) _).trans (hb'.mono HX1.out.size))).2) HM.out.1.mem HM.out.1.want HM.out.2.2).mono ?_
  rintro e w5 ⟨rfl, h5, hb5⟩
  have h5' : AtP w5 w1.heap.size w2.heap.size (.slice D1 m.regs.length e1) (.slice D2 m.mem.length e2) (.slice D3 m.out.length e3) (m.ahead irq blk) := h5
  obtain ⟨M5, eM⟩ : ∃ M5, M5 = m.ahead irq blk := ⟨_, rfl⟩
  rw [← eM] at HR HM5 h5'
  have HB5 : Hid (Below w.heap.size w w5 ∧ AtP w5 w1.heap.size w2.heap.size (.slice D1 m.regs.length e1) (.slice D2 m.mem.length e2) (.slice D3 m.out.length e3) M5) := ⟨HX1.out.trans (((HO.out.2.1.alloc HO.out.2.1.size _).trans hb5).mono HO.out.2.2), h5'⟩
  clear h5 hb5 h5' eM HO HX1 HA HM
  have hsz : w.heap.size ≤ w5.heap.size := HB5.out.1.size
  by_cases hE : M5.meantE M5.pc false = 0
  case neg =>
    have hne : M5.nextE ≠ 0 := by simp [Mach.nextE, hE]
    have d1 : (M5.nextE == 0) = false := by simpa using hne
    have HRF : Hid (r = false) := by show _ = _; rw [HR.out]; simp [hne]
    go_wp2_with fail
    refine (next_at w1.heap.size w2.heap.size _ _ _ M5 w5 HB5.out.2 HM5.out hE).mono ?_
    rintro e w6 ⟨rfl, hb6⟩
    have HB6 : Hid (Below w.heap.size w w6) := HB5.out.1.trans (hb6.mono HB5.out.1.size)
    clear hb6 hE hne
    go_wp2_with fail
    go_ret
    exact ⟨ret_bool HRF.out.symm, HB6.out.alloc HB6.out.size _⟩
  case pos =>
  by_cases hD : decNo M5.nextX = 0
  case neg =>
    have hne : M5.nextE ≠ 0 := by simp [Mach.nextE, hE, hD]
    have HRF : Hid (r = false) := by show _ = _; rw [HR.out]; simp [hne]
    go_wp2_with fail
    refine (next_code w1.heap.size w2.heap.size _ _ _ M5 w5 HB5.out.2 HM5.out hE hD).mono ?_
    rintro e w6 ⟨rfl, hb6⟩
    have HB6 : Hid (Below w.heap.size w w6) := HB5.out.1.trans (hb6.mono HB5.out.1.size)
    clear hb6 hE hne
    go_wp2_with fail
    go_ret
    exact ⟨ret_bool HRF.out.symm, HB6.out.alloc HB6.out.size _⟩
  case pos =>
    have hne : M5.nextE = 0 := by simp [Mach.nextE, hE, hD]
    have HRN : Hid (r = (decide (M5.nextX % 16 = 10) && (M5.nextX / 1024 == 0 || M5.nextX / 1024 == 1))) := by
      show _ = _
      rw [HR.out]
      simp only [hne, true_and, Bool.decide_and, Bool.decide_or]
      rfl
    go_wp2_with fail
    refine (next_ok w1.heap.size w2.heap.size _ _ _ M5 w5 HB5.out.2 HM5.out hE hD).mono ?_
    rintro e w6 ⟨rfl, hb6⟩
    have HB6 : Hid (Below w.heap.size w w6) := HB5.out.1.trans (hb6.mono HB5.out.1.size)
    obtain ⟨x0, hx0⟩ : ∃ x0, x0 = M5.nextX % 16 := ⟨_, rfl⟩
    obtain ⟨x3, hx3⟩ : ∃ x3, x3 = M5.nextX / 1024 := ⟨_, rfl⟩
    rw [← hx0, ← hx3] at HRN
    simp only [instrA]
    rw [← hx0, ← hx3]
    clear hb6 hE hne hD hx0 hx3
    by_cases h10 : x0 = 10
    · have d2 : (x0 == 10) = true := by simp [h10]
      obtain ⟨q, hq⟩ : ∃ q, q = (x3 == 0 || x3 == 1) := ⟨_, rfl⟩
      have HRQ : Hid (r = q) := by show _ = _; rw [HRN.out, hq]; simp [h10]
      have HQ : Hid ((x3 == 0 || x3 == 1) = q) := hq.symm
      clear hq h10 HRN
      go_wp2_with (go_at_call 125; refine (isOfWorld_any _ _ _ HQ.out).mono ?_; rintro e w' ⟨rfl, hw'⟩; rw [hw']; clear hw' w')
      go_ret
      exact ⟨ret_bool HRQ.out.symm, HB6.out.alloc HB6.out.size _⟩
    · have d2 : (x0 == 10) = false := by simpa using h10
      have HRF : Hid (r = false) := by show _ = _; rw [HRN.out]; simp [h10]
      clear h10 HRN
      go_wp2_with fail
      go_ret
      exact ⟨ret_bool HRF.out.symm, HB6.out.alloc HB6.out.size _⟩

end Go.Proofs.YtecpblabaelopaaGreatDoor

/- Contract of the recorder's step. -/

namespace Go.Proofs.YtecpblabaelopaaGreatDoor
open Go.RowKit
set_option maxRecDepth 100000

theorem OwnI.madeOne {w : World} {lo : Nat} (h : lo ≤ w.heap.size) (x : Int) : OwnI (w.alloc (.cells #[.int .i64 x] 3)) lo (.slice (some ⟨w.heap.size, 0, none⟩) 1 1) [x] :=
  ⟨by simp, Or.inr ⟨w.heap.size, 1, _, rfl, h, Go.Deep.blk_alloc_new _ _, by simp, by unfold maxLen; omega, by simp, by simp⟩⟩

abbrev set12 (w : World) (b : Nat) (x0 x1 x2 x3 x4 x5 x6 x7 x8 x9 x10 x11 : Value) : World :=
  ((((((((((((w.setCell ⟨b, 0, none⟩ x0).setCell ⟨b, 1, none⟩ x1).setCell ⟨b, 2, none⟩ x2).setCell ⟨b, 3, none⟩ x3).setCell ⟨b, 4, none⟩ x4).setCell ⟨b, 5, none⟩ x5).setCell ⟨b, 6, none⟩ x6).setCell ⟨b, 7, none⟩ x7).setCell ⟨b, 8, none⟩ x8).setCell ⟨b, 9, none⟩ x9).setCell ⟨b, 10, none⟩ x10).setCell ⟨b, 11, none⟩ x11)
theorem KpI.fresh {lo b : Nat} {w w' : World} (h : KpI lo w w') (hb : w.heap.size ≤ b) (hlo : lo ≤ w.heap.size) (i : Nat) (v : Value) : KpI lo w (w'.setCell ⟨b, i, none⟩ v) :=
  ⟨h.old.setCell (Nat.le_trans hlo hb) v, fun g cur t ht hg => by
    have := lt_of_block hg
    rw [Go.Deep.blk_setCell_other _ _ _ _ (by simp; omega)]
    exact h.kept g cur t ht hg⟩
theorem KpI.set12 {lo b : Nat} {w w' : World} (h : KpI lo w w') (hb : w.heap.size ≤ b) (hlo : lo ≤ w.heap.size) (x0 x1 x2 x3 x4 x5 x6 x7 x8 x9 x10 x11 : Value) : KpI lo w (set12 w' b x0 x1 x2 x3 x4 x5 x6 x7 x8 x9 x10 x11) :=
  (((((((((((h.fresh hb hlo 0 x0).fresh hb hlo 1 x1).fresh hb hlo 2 x2).fresh hb hlo 3 x3).fresh hb hlo 4 x4).fresh hb hlo 5 x5).fresh hb hlo 6 x6).fresh hb hlo 7 x7).fresh hb hlo 8 x8).fresh hb hlo 9 x9).fresh hb hlo 10 x10).fresh hb hlo 11 x11
theorem DataOk.but {lo p : Nat} {w w' : World} {v : Value} {l : List Int} {cur : Array Value} {t : TypeId} (k : DataOk w lo v l) (hB : But p lo w w') (hp : w.heap[p]? = some (.cells cur t (0, 0))) (ht : 3 ≠ t) : DataOk w' lo v l := by
  rcases k with k | k
  · exact Or.inl (k.below hB.old)
  · exact Or.inr (hB.owns k (own_ne3 k hp ht))
theorem RcAt.setM {w : World} {lo b : Nat} {g : RcB} {iv zv : Value} {x : Wd} {va cm bl : Nat} {due : Int} {R : List (Ev × Value)} (h : RcAt w lo g iv zv x va cm bl due R) (hb : IsBox w b) (hlo : lo ≤ b) (i : Nat) (v : Value) : RcAt (w.setCell ⟨b, i, none⟩ v) lo g iv zv x va cm bl due R := by
  obtain ⟨cur, hc⟩ := hb
  have hB := But.set w hlo i v
  obtain ⟨ev, e1, e2⟩ := h.box
  obtain ⟨u1, v1, v2⟩ := h.bv
  obtain ⟨u2, b1, b2⟩ := h.bb
  obtain ⟨u3, d1, d2⟩ := h.bd
  exact ⟨⟨ev, hB.at_ e1 (blk_ne e1 hc (by decide)), ⟨hB.owns e2.row (own_ne3 e2.row hc (by decide)), fun q hq => (e2.data q hq).but hB hc (by decide)⟩⟩, ⟨u1, hB.at_ v1 (blk_ne v1 hc (by decide)), v2.below hB.old⟩, ⟨u2, hB.at_ b1 (blk_ne b1 hc (by decide)), b2.below hB.old⟩, ⟨u3, hB.at_ d1 (blk_ne d1 hc (by decide)), d2.below hB.old⟩, hB.at_ h.cv (blk_ne h.cv hc (by decide)), hB.at_ h.cb (blk_ne h.cb hc (by decide)), hB.at_ h.cd (blk_ne h.cd hc (by decide)), h.irqs.below hB.old, hB.owns h.zero (own_ne3 h.zero hc (by decide)), h.le, h.ne, Nat.le_trans h.lw hB.old.size⟩
theorem RcAt.set12 {w : World} {lo b : Nat} {g : RcB} {iv zv : Value} {x : Wd} {va cm bl : Nat} {due : Int} {R : List (Ev × Value)} (h : RcAt w lo g iv zv x va cm bl due R) (hb : IsBox w b) (hlo : lo ≤ b) (x0 x1 x2 x3 x4 x5 x6 x7 x8 x9 x10 x11 : Value) : RcAt (set12 w b x0 x1 x2 x3 x4 x5 x6 x7 x8 x9 x10 x11) lo g iv zv x va cm bl due R := by
  have h0 := h.setM hb hlo 0 x0
  have b0 := hb.set 0 x0
  have h1 := h0.setM b0 hlo 1 x1
  have b1 := b0.set 1 x1
  have h2 := h1.setM b1 hlo 2 x2
  have b2 := b1.set 2 x2
  have h3 := h2.setM b2 hlo 3 x3
  have b3 := b2.set 3 x3
  have h4 := h3.setM b3 hlo 4 x4
  have b4 := b3.set 4 x4
  have h5 := h4.setM b4 hlo 5 x5
  have b5 := b4.set 5 x5
  have h6 := h5.setM b5 hlo 6 x6
  have b6 := b5.set 6 x6
  have h7 := h6.setM b6 hlo 7 x7
  have b7 := b6.set 7 x7
  have h8 := h7.setM b7 hlo 8 x8
  have b8 := b7.set 8 x8
  have h9 := h8.setM b8 hlo 9 x9
  have b9 := b8.set 9 x9
  have h10 := h9.setM b9 hlo 10 x10
  have b10 := b9.set 10 x10
  exact h10.setM b10 hlo 11 x11

structure RcRel (k : Int) (s : RecS) (cm : Nat) (due : Int) (R : List (Ev × Value)) : Prop where
  evs : R.map Prod.fst = s.evs
  blk : (s.due = -1 ∧ cm = s.bl ∧ due < k ∧ s.m.want = -1) ∨ (due = s.due ∧ k ≤ s.due ∧ s.bl = cm + 1 ∧ 0 ≤ s.m.want)
theorem RcRel.next {x : Wd} {s : RecS} {k due due' : Int} {cm cm1 cm2 : Nat} {R R' : List (Ev × Value)} (h : RcRel k s cm due R) (hx : WdMay x) (hm : MayP s.m) (hf : s.m.fin = 0) (hc : s.m.count = k) (hk : 0 ≤ k ∧ k < 3000)
    (h1 : cm1 = if s.due = k then s.bl else cm) (h2 : cm2 = cm1) (hd : due' = if s.new x k = true then k + 1 + x.delays.getD s.bl 0 else due) (he : R'.map Prod.fst = (s.next x k).evs) : RcRel (k + 1) (s.next x k) cm2 due' R' := by
  have hb := RecS.blk_may hx s k
  have hv := RecS.val_may hx s k
  have hm' : MayP (s.then_ x k) := hm.step (s.irq x k) hb.2 hb.1 hv (by omega)
  have hw1 := hm'.want.1
  refine ⟨he, ?_⟩
  subst h2
  by_cases hn : s.new x k = true
  · refine Or.inr ⟨?_, ?_, ?_, ?_⟩
    · rw [hd, if_pos hn]
      show _ = (if s.new x k = true then _ else _)
      rw [if_pos hn]
    · show k + 1 ≤ (if s.new x k = true then _ else _)
      rw [if_pos hn]
      have := (hx.delay s.bl).1
      omega
    · show (if s.new x k = true then s.bl + 1 else s.bl) = _
      rw [if_pos hn, h1]
      unfold RecS.new at hn
      have hn' := of_decide_eq_true hn
      split
      · rfl
      · rcases h.blk with ⟨a1, a2, a3, a4⟩ | ⟨a1, a2, a3, a4⟩
        · rw [a2]
        · omega
    · unfold RecS.new at hn
      exact (of_decide_eq_true hn).2
  · have hn' : ¬ ((s.due = k ∨ s.m.want = -1) ∧ 0 ≤ (s.then_ x k).want) := fun e => hn (by unfold RecS.new; exact decide_eq_true e)
    have hnd : (s.next x k).due = if s.due = k then -1 else s.due := if_neg hn
    have hnb : (s.next x k).bl = s.bl := if_neg hn
    have hnw : (s.next x k).m.want = (s.then_ x k).want := rfl
    rw [if_neg hn] at hd
    rw [hnd, hnb, hnw]
    by_cases hd0 : s.due = k
    · rw [if_pos hd0] at h1 ⊢
      refine Or.inl ⟨rfl, h1, ?_, by omega⟩
      rcases h.blk with ⟨a1, a2, a3, a4⟩ | ⟨a1, a2, a3, a4⟩ <;> omega
    · rw [if_neg hd0] at h1 ⊢
      rcases h.blk with ⟨a1, a2, a3, a4⟩ | ⟨a1, a2, a3, a4⟩
      · exact Or.inl ⟨a1, by rw [h1, a2], by omega, by omega⟩
      · refine Or.inr ⟨by omega, by omega, by omega, ?_⟩
        unfold RecS.then_
        rw [show s.blk x k = [] by unfold RecS.blk; rw [if_neg hd0], step_want _ _ hf (by omega)]
        exact a4

theorem ahead_rel (g : RcB) (lo : Nat) (iv zv : Value) (x : Wd) (s : RecS) (va cm bl : Nat) (due k : Int) (R : List (Ev × Value)) (w : World) (h : RcAt w lo g iv zv x va cm bl due R) (hr : RcRel k s cm due R) (hx : WdMay x) (hk : 0 ≤ k) (hR : R.length ≤ 8997) :
    Calls Tryz.prog 86 #[ptr g.p, .int .i64 k] w fun e w' => ∃ R' Bk cb cm', e = .returned (.tuple #[.bool (s.irq x k), .slice Bk (s.blk x k).length cb]) ∧ RcAt w' lo g iv zv x va cm' bl due R' ∧ DataOk w' lo (.slice Bk (s.blk x k).length cb) (s.blk x k) ∧ Bk.isNone = decide (s.due ≠ k) ∧ R'.map Prod.fst = s.evs ++ s.evI x k ++ s.evB x k ∧ R'.length ≤ R.length + 2 ∧ cm' = (if s.due = k then s.bl else cm) ∧ KpI lo w w' := by
  by_cases hd : s.due = k
  · have hd2 : due = k ∧ s.bl = cm + 1 := by rcases hr.blk with ⟨a1, a2, a3, a4⟩ | ⟨a1, a2, a3, a4⟩ <;> omega
    obtain ⟨hd2, hb⟩ := hd2
    have eb : s.blk x k = x.blocks.getD cm zero16 := by unfold RecS.blk; rw [if_pos hd, hb]; rfl
    have el : (x.blocks.getD cm zero16).length = 16 := (hx.blk cm).1
    subst hd2
    refine (ahead_due g lo iv zv x va cm bl due R w h hx hR).mono ?_
    rintro e w' ⟨R', Ab, cb, rfl, g1, g2, g3, g4, g5⟩
    refine ⟨R', some Ab, cb, cm + 1, by rw [eb, el]; rfl, g1, by rw [eb, el]; exact g2, by simp [hd], ?_, g4, by rw [if_pos hd, hb], g5⟩
    rw [g3, hr.evs]
    show _ = s.evs ++ irqE (hasI x.irqs due) due ++ (if s.due = due then [⟨due, 2, s.blk x due⟩] else [])
    rw [if_pos hd, eb]
  · have hd2 : due ≠ k := by rcases hr.blk with ⟨a1, a2, a3, a4⟩ | ⟨a1, a2, a3, a4⟩ <;> omega
    have eb : s.blk x k = [] := by unfold RecS.blk; rw [if_neg hd]
    refine (ahead_not g lo iv zv x va cm bl due k R w h hR hd2).mono ?_
    rintro e w' ⟨R', rfl, g1, g3, g4, g5⟩
    refine ⟨R', none, 0, cm, by rw [eb]; rfl, g1, by rw [eb]; exact Or.inl (tailI_nil _ _), by simp [hd], ?_, by omega, by rw [if_neg hd], g5⟩
    rw [g3, hr.evs]
    show _ = s.evs ++ irqE (hasI x.irqs k) k ++ (if s.due = k then _ else [])
    rw [if_neg hd, List.append_nil]

theorem getD_drop0 {l : List Int} {n : Nat} {d : Int} : (l.drop n).getD 0 d = l.getD n d := by simp [List.getD]
theorem valueNext (g : RcB) (lo : Nat) (iv zv : Value) (x : Wd) (va cm bl : Nat) (due : Int) (R : List (Ev × Value)) (w : World) (h : RcAt w lo g iv zv x va cm bl due R) :
    Calls Tryz.prog 122 #[.pointer (some ⟨g.pv, 0, none⟩), .pointer (some ⟨g.qv, 0, none⟩)] w fun e w' => e = .returned (.int .i64 (x.values.getD va 0)) ∧ RcAt w' lo g iv zv x (va + 1) cm bl due R ∧ KpI lo w w' := by
  obtain ⟨u, b1, b2⟩ := h.bv
  refine (cloI_any g.pv g.qv lo u _ 0 w b1 h.cv b2 h.le.2.1).mono ?_
  rintro e w' ⟨u', rfl, h1, h2, hB⟩
  obtain ⟨hN, hK⟩ := h.tookV hB h1 h2
  exact ⟨by rw [getD_drop0], hN, hK⟩
theorem delayNext (g : RcB) (lo : Nat) (iv zv : Value) (x : Wd) (va cm bl : Nat) (due : Int) (R : List (Ev × Value)) (w : World) (h : RcAt w lo g iv zv x va cm bl due R) :
    Calls Tryz.prog 122 #[.pointer (some ⟨g.pd, 0, none⟩), .pointer (some ⟨g.qd, 0, none⟩)] w fun e w' => e = .returned (.int .i64 (x.delays.getD bl 0)) ∧ RcAt w' lo g iv zv x va cm (bl + 1) due R ∧ KpI lo w w' := by
  obtain ⟨u, b1, b2⟩ := h.bd
  refine (cloI_any g.pd g.qd lo u _ 0 w b1 h.cd b2 h.le.2.2.2).mono ?_
  rintro e w' ⟨u', rfl, h1, h2, hB⟩
  obtain ⟨hN, hK⟩ := h.tookD hB h1 h2
  exact ⟨by rw [getD_drop0], hN, hK⟩

def RStepQ (w : World) (lo : Nat) (g : RcB) (iv zv : Value) (x : Wd) (s : RecS) (k : Int) (R : List (Ev × Value)) (e : Ending) (w' : World) : Prop :=
  ∃ rv' mv' ov' R' cm' due', e = .returned (.tuple #[.agg ((s.next x k).m.cells rv' mv' ov'), .int .i64 0]) ∧ OwnM w' lo rv' mv' ov' (s.next x k).m ∧ RcAt w' lo g iv zv x (s.next x k).va cm' (s.next x k).bl due' R' ∧ RcRel (k + 1) (s.next x k) cm' due' R' ∧ R'.length ≤ R.length + 3 ∧ KpI lo w w'

theorem heap_set12 {w : World} {b c : Nat} (hne : b ≠ c) (x0 x1 x2 x3 x4 x5 x6 x7 x8 x9 x10 x11 : Value) : (set12 w c x0 x1 x2 x3 x4 x5 x6 x7 x8 x9 x10 x11).heap[b]? = w.heap[b]? := by
  have e : ∀ (w : World) (i : Nat) (x : Value), (w.setCell ⟨c, i, none⟩ x).heap[b]? = w.heap[b]? := fun w i x => Go.Deep.blk_setCell_other _ _ _ _ (by simpa using hne)
  unfold set12
  rw [e, e, e, e, e, e, e, e, e, e, e, e]
theorem one12 {w w5 : World} {lo b : Nat} {g : RcB} {iv zv rv mv ov : Value} {x : Wd} {va cm bl : Nat} {due : Int} {R : List (Ev × Value)} {N : Mach} (hR : RcAt w5 lo g iv zv x va cm bl due R) (ho : OwnM w5 lo rv mv ov N) (hk : KpI lo w w5) (hlo : lo ≤ w.heap.size) (hb : w.heap.size ≤ b) (h0 : IsBox w5 b) (x0 x1 x2 x3 x4 x5 x6 x7 x8 x9 x10 x11 : Value) :
    RcAt (set12 w5 b x0 x1 x2 x3 x4 x5 x6 x7 x8 x9 x10 x11) lo g iv zv x va cm bl due R ∧ OwnM (set12 w5 b x0 x1 x2 x3 x4 x5 x6 x7 x8 x9 x10 x11) lo rv mv ov N ∧ KpI lo w (set12 w5 b x0 x1 x2 x3 x4 x5 x6 x7 x8 x9 x10 x11) :=
  ⟨hR.set12 h0 (by omega) _ _ _ _ _ _ _ _ _ _ _ _, ho.set12 h0 _ _ _ _ _ _ _ _ _ _ _ _, hk.set12 hb hlo _ _ _ _ _ _ _ _ _ _ _ _⟩
theorem RStepQ.mk {w w' : World} {lo : Nat} {g : RcB} {iv zv rv mv ov : Value} {x : Wd} {s : RecS} {k : Int} {R R' : List (Ev × Value)} {cm' va' bl' : Nat} {due' : Int} {N : Mach} (hN : N = s.then_ x k) (hv : va' = (s.next x k).va) (hbl : bl' = (s.next x k).bl) (hR : RcAt w' lo g iv zv x va' cm' bl' due' R') (ho : OwnM w' lo rv mv ov N) (hk : KpI lo w w') (hrel : RcRel (k + 1) (s.next x k) cm' due' R') (hl : R'.length ≤ R.length + 3) :
    RStepQ w lo g iv zv x s k R (.returned (.tuple #[.agg (N.cells rv mv ov), .int .i64 0])) w' := by
  subst hN hv hbl
  exact ⟨rv, mv, ov, R', cm', due', rfl, ho, hR, hrel, hl, hk⟩
theorem new_is {x : Wd} {s : RecS} {k : Int} {M N : Mach} {Bk : Option Addr} (hM : M = s.m) (hN : N = s.then_ x k) (hw : -1 ≤ N.want) (hb : Bk.isNone = decide (s.due ≠ k)) : s.new x k = ((N.want != -1) && !((M.want != -1) && Bk.isNone)) := by
  subst hM hN
  unfold RecS.new
  rw [hb]
  by_cases h3 : (s.then_ x k).want = -1
  · have h4 : ¬ (0 : Int) ≤ (s.then_ x k).want := by omega
    by_cases h1 : s.due = k <;> by_cases h2 : s.m.want = -1 <;> simp [h1, h2, h3]
  · have h4 : (0 : Int) ≤ (s.then_ x k).want := by omega
    by_cases h1 : s.due = k <;> by_cases h2 : s.m.want = -1 <;> simp [h1, h2, h3, h4]

end Go.Proofs.YtecpblabaelopaaGreatDoor

/- Contract of run.newRecorder. -/

namespace Go.Proofs.YtecpblabaelopaaGreatDoor
open Go.RowKit
set_option maxRecDepth 100000

structure WdT (lo : Nat) (w : World) (a b c d : Value) (x : Wd) : Prop where
  irqs : TailI lo w a x.irqs
  values : TailI lo w b x.values
  blocks : TailR lo w c x.blocks
  delays : TailI lo w d x.delays
  low : lo ≤ w.heap.size
theorem TailR.at {lo : Nat} {w : World} {u : Value} {D : List (List Int)} (h : TailR lo w u D) (hlo : lo ≤ w.heap.size) : RowsAt w u D := by
  obtain ⟨A, c, rfl, hf, hl, hc⟩ := h
  refine ⟨A, c, rfl, hl, fun h0 => ?_⟩
  obtain ⟨b, off, rfl, hlt, hj⟩ := hc h0
  refine ⟨b, off, rfl, by omega, fun j hjl => ?_⟩
  obtain ⟨r, h1, h2⟩ := hj j hjl
  exact ⟨r, h1, h2.at hlo⟩
theorem WdT.at {lo : Nat} {w : World} {a b c d : Value} {x : Wd} (h : WdT lo w a b c d x) : WdAt w a b c d x := ⟨h.irqs.at h.low, h.values.at h.low, h.blocks.at h.low, h.delays.at h.low⟩
theorem WdT.below {lo : Nat} {w w' : World} {a b c d : Value} {x : Wd} (h : WdT lo w a b c d x) (hb : Below lo w w') : WdT lo w' a b c d x :=
  ⟨h.irqs.below hb, h.values.below hb, h.blocks.below hb, h.delays.below hb, Nat.le_trans h.low hb.size⟩

theorem rcAt_new {w w3 : World} {a b c d : Value} {x : Wd} {pv qv pb qb pd qd : Nat} {cz : Nat} {zb lo : Nat} (h : WdT lo w a b c d x) (hB : Below w.heap.size w w3)
    (h1 : w3.heap[pv]? = some (.cells #[b] 24 (0, 0))) (h2 : w3.heap[qv]? = some (.cells #[.int .i64 0] 3 (0, 0)))
    (h3 : w3.heap[pb]? = some (.cells #[c] 51 (0, 0))) (h4 : w3.heap[qb]? = some (.cells #[.slice (some ⟨zb, 0, none⟩) 16 cz] 24 (0, 0)))
    (h5 : w3.heap[pd]? = some (.cells #[d] 24 (0, 0))) (h6 : w3.heap[qd]? = some (.cells #[.int .i64 0] 3 (0, 0)))
    (hz : OwnI w3 lo (.slice (some ⟨zb, 0, none⟩) 16 cz) zero16)
    (hle : lo ≤ pv ∧ lo ≤ pb ∧ lo ≤ pd) (hne : pv ≠ pd ∧ pv ≠ qb ∧ pd ≠ qb) :
    RcAt (w3.alloc (.cells #[a, nxI pv qv, nxB pb qb, nxI pd qd, .int .i64 (-1), .slice none 0 0] 101)) lo ⟨w3.heap.size, pv, qv, pb, qb, pd, qd⟩ a (.slice (some ⟨zb, 0, none⟩) 16 cz) x 0 0 0 (-1) [] ∧ Below w.heap.size w (w3.alloc (.cells #[a, nxI pv qv, nxB pb qb, nxI pd qd, .int .i64 (-1), .slice none 0 0] 101)) := by
  have hA := below_alloc w3 (.cells #[a, nxI pv qv, nxB pb qb, nxI pd qd, .int .i64 (-1), .slice none 0 0] 101)
  have hW := hB.trans (hA.mono hB.size)
  have at_ : ∀ {b : Nat} {o : Obj}, w3.heap[b]? = some o → (w3.alloc (.cells #[a, nxI pv qv, nxB pb qb, nxI pd qd, .int .i64 (-1), .slice none 0 0] 101)).heap[b]? = some o := fun hbo => by rw [hA.block _ (lt_of_block hbo)]; exact hbo
  exact ⟨⟨⟨.slice none 0 0, Go.Deep.blk_alloc_new _ _, OwnV.nil _ _⟩, ⟨b, at_ h1, h.values.below (hW.mono h.low)⟩, ⟨c, at_ h3, h.blocks.below (hW.mono h.low)⟩, ⟨d, at_ h5, h.delays.below (hW.mono h.low)⟩, at_ h2, at_ h4, at_ h6, h.irqs.below (hW.mono h.low), OwnI.below hz hA, ⟨Nat.le_trans h.low hB.size, hle⟩, hne, Nat.le_trans h.low hW.size⟩, hW⟩

set_option maxHeartbeats 4000000 in
theorem newRecorder_any (a b c d : Value) (x : Wd) (lo : Nat) (w : World) (h : WdT lo w a b c d x) :
    Calls Tryz.prog 52 #[.agg #[a, b, c, d]] w fun e w' => ∃ g iv zv, e = .returned (ptr g.p) ∧ RcAt w' lo g iv zv x 0 0 0 (-1) [] ∧ Below w.heap.size w w' := by
  have H : Hid (WdT lo w a b c d x) := h
  obtain ⟨A0, k0, rfl, -, -, -⟩ := h.irqs
  obtain ⟨A1, k1, rfl, -, -, -⟩ := h.values
  obtain ⟨A2, k2, rfl, -, -, -⟩ := h.blocks
  obtain ⟨A3, k3, rfl, -, -, -⟩ := h.delays
  have hmk : ∀ W : World, (Instr.makeSlice 24 (.int .i64 16) (.int .i64 16)).run Tryz.prog W = .ok (.slice (some ⟨W.heap.size, 0, none⟩) 16 16) (W.alloc (.cells (madeCells #[.int .i64 0] 16) 3)) := fun W => run_make_row' (P := Tryz.prog) 24 3 (.int .i64 0) 8 Tryz.underlying24 infoInt rfl .i64 .i64 16 (by omega) (by omega) W
  clear h
  have HX : Hid ((w.alloc (.cells #[.slice A0 x.irqs.length k0, .slice A1 x.values.length k1, .slice A2 x.blocks.length k2, .slice A3 x.delays.length k3] 53)).heap[w.heap.size]? = some (.cells #[.slice A0 x.irqs.length k0, .slice A1 x.values.length k1, .slice A2 x.blocks.length k2, .slice A3 x.delays.length k3] 53 (0, 0)) ∧ Below w.heap.size w (w.alloc (.cells #[.slice A0 x.irqs.length k0, .slice A1 x.values.length k1, .slice A2 x.blocks.length k2, .slice A3 x.delays.length k3] 53))) := ⟨Go.Deep.blk_alloc_new _ _, below_alloc _ _⟩
  obtain ⟨W, hW⟩ : ∃ W, W = w.alloc (.cells #[.slice A0 x.irqs.length k0, .slice A1 x.values.length k1, .slice A2 x.blocks.length k2, .slice A3 x.delays.length k3] 53) := ⟨_, rfl⟩
  rw [← hW] at HX
  have HW : Hid (W = w.alloc (.cells #[.slice A0 x.irqs.length k0, .slice A1 x.values.length k1, .slice A2 x.blocks.length k2, .slice A3 x.delays.length k3] 53)) := hW
  clear hW
  go_enter Tryz.func52, Tryz.ntmps52
  go_wp2_with fail
  rw [← HW.out]
  obtain ⟨z0, z1, z2, z3, zf, zl⟩ := four_cells HX.out.1
  go_region_held3 (fun w' => w'.cell? ⟨w.heap.size, 0, none⟩ = some (.slice A0 x.irqs.length k0) ∧ w'.cell? ⟨w.heap.size, 1, none⟩ = some (.slice A1 x.values.length k1) ∧ w'.cell? ⟨w.heap.size, 2, none⟩ = some (.slice A2 x.blocks.length k2) ∧ w'.cell? ⟨w.heap.size, 3, none⟩ = some (.slice A3 x.delays.length k3)) (go_keep)
    (first
      | (go_at_call_of 84 (Value.slice A1 x.values.length k1); refine (nextI_any A1 x.values.length k1 0 _).mono ?_; rintro e w1 ⟨pv, qv, rfl, v1, v2, v3, v4, v5⟩; have vs := v5.size; (try simp at v1); (try simp at vs); have v6 := fun j => v5.cell (p := ⟨w.heap.size, j, none⟩) (by (try simp); omega))
      | (go_at_call_of 85 (Value.slice A2 x.blocks.length k2); refine (nextB_any A2 _ x.blocks.length k2 _ _ _).mono ?_; rintro e w2 ⟨pb, qb, rfl, b1, b2, b3, b4, b5⟩; have bs := b5.size; (try simp at b1); (try simp at bs); have b6 := fun j => b5.cell (p := ⟨w.heap.size, j, none⟩) (by (try simp); omega))
      | (go_at_call_of 84 (Value.slice A3 x.delays.length k3); refine (nextI_any A3 x.delays.length k3 0 _).mono ?_; rintro e w3 ⟨pd, qd, rfl, d1, d2, d3, d4, d5⟩; have ds := d5.size; (try simp at d1); (try simp at ds); have d6 := fun j => d5.cell (p := ⟨w.heap.size, j, none⟩) (by (try simp); omega)))
  all_goals
    have hbW : Below w.heap.size w W := HX.out.2
    have sW := hbW.size
    have l1 := lt_of_block v3
    have l2 := lt_of_block v4
    have l3 := lt_of_block b3
    have l4 := lt_of_block b4
    have l5 := lt_of_block d3
    have hr : ∃ (zb : Nat), RcAt (w3.alloc (.cells #[.slice A0 x.irqs.length k0, nxI pv qv, nxB pb qb, nxI pd qd, .int .i64 (-1), .slice none 0 0] 101)) lo ⟨w3.heap.size, pv, qv, pb, qb, pd, qd⟩ (.slice A0 x.irqs.length k0) (.slice (some ⟨zb, 0, none⟩) 16 16) x 0 0 0 (-1) [] ∧ Below w.heap.size w (w3.alloc (.cells #[.slice A0 x.irqs.length k0, nxI pv qv, nxB pb qb, nxI pd qd, .int .i64 (-1), .slice none 0 0] 101)) := by
      first
        | (have hb1 : Below w.heap.size w w1 := hbW.drew.trans (v5.mono (by simp; omega))
           have s1 := hb1.size
           have t2 : Below w1.heap.size w1 w2 := (below_alloc w1 (.cells (madeCells #[.int .i64 0] 16) 3)).trans (b5.mono (by simp))
           have t3 : Below w1.heap.size w1 w3 := t2.trans (d5.mono t2.size)
           have hz : w3.heap[w1.heap.size]? = some (.cells (madeCells #[.int .i64 0] 16) 3 (0, 0)) := by rw [d5.block _ (by omega), b5.block _ (by simp)]; exact Go.Deep.blk_alloc_new _ _
           exact ⟨w1.heap.size, rcAt_new H.out (hb1.trans (t3.mono s1)) ((t3.block _ l1).trans v3) ((t3.block _ l2).trans v4) ((d5.block _ l3).trans b3) ((d5.block _ l4).trans b4) d3 d4 (OwnI.madeZ (Nat.le_trans H.out.low s1) (by unfold maxLen; omega) hz) ⟨by have := H.out.low; omega, by have := H.out.low; omega, by have := H.out.low; omega⟩ ⟨by omega, by omega, by omega⟩⟩)
        | (have hb0 : Below w.heap.size w (W.alloc (.cells (madeCells #[.int .i64 0] 16) 3)).drew := (hbW.alloc sW _).drew
           have hb1 : Below w.heap.size w w1 := hb0.trans (v5.mono (by simp; omega))
           have s1 := hb1.size
           have t2 : Below w1.heap.size w1 w2 := b5
           have t3 : Below w1.heap.size w1 w3 := t2.trans (d5.mono t2.size)
           have hz : w3.heap[W.heap.size]? = some (.cells (madeCells #[.int .i64 0] 16) 3 (0, 0)) := by rw [t3.block _ (by omega), v5.block _ (by simp)]; exact Go.Deep.blk_alloc_new _ _
           exact ⟨W.heap.size, rcAt_new H.out (hb1.trans (t3.mono s1)) ((t3.block _ l1).trans v3) ((t3.block _ l2).trans v4) ((d5.block _ l3).trans b3) ((d5.block _ l4).trans b4) d3 d4 (OwnI.madeZ (Nat.le_trans H.out.low sW) (by unfold maxLen; omega) hz) ⟨by have := H.out.low; omega, by have := H.out.low; omega, by have := H.out.low; omega⟩ ⟨by omega, by omega, by omega⟩⟩)
    obtain ⟨zb, hr⟩ := hr
    have HR : Hid (RcAt (w3.alloc (.cells #[.slice A0 x.irqs.length k0, nxI pv qv, nxB pb qb, nxI pd qd, .int .i64 (-1), .slice none 0 0] 101)) lo ⟨w3.heap.size, pv, qv, pb, qb, pd, qd⟩ (.slice A0 x.irqs.length k0) (.slice (some ⟨zb, 0, none⟩) 16 16) x 0 0 0 (-1) [] ∧ Below w.heap.size w (w3.alloc (.cells #[.slice A0 x.irqs.length k0, nxI pv qv, nxB pb qb, nxI pd qd, .int .i64 (-1), .slice none 0 0] 101))) := hr
    clear hr
    go_wp2_with fail
    go_ret
    exact ⟨⟨w3.heap.size, pv, qv, pb, qb, pd, qd⟩, _, _, rfl, HR.out⟩

end Go.Proofs.YtecpblabaelopaaGreatDoor

/- Contract of run.CheckWorld. -/

namespace Go.Proofs.YtecpblabaelopaaGreatDoor
open Go.RowKit

theorem wd_cells {w : World} {b : Nat} {x0 x1 x2 x3 : Value} {t : TypeId} (h : w.heap[b]? = some (.cells #[x0, x1, x2, x3] t (0, 0))) :
    w.cell? ⟨b, 0, none⟩ = some x0 ∧ w.cell? ⟨b, 1, none⟩ = some x1 ∧ w.cell? ⟨b, 2, none⟩ = some x2 ∧ w.cell? ⟨b, 3, none⟩ = some x3 := by
  refine ⟨?_, ?_, ?_, ?_⟩ <;> simp [World.cell?, h]

theorem max4_run {P : Program} (ts : Array TypeId) (t : TypeId) (x y z u : Int) : ∃ M, (∀ w, (Builtin.max_ ts t #[.int .i64 x, .int .i64 y, .int .i64 z, .int .i64 u]).run P w = .ok (.int .i64 M) w) ∧ (1000 < M ↔ ¬ (x ≤ 1000 ∧ y ≤ 1000 ∧ z ≤ 1000 ∧ u ≤ 1000)) := by
  refine ⟨_, fun w => by simp only [Builtin.max_, Builtin.max2, List.foldlM, Sem.run_bind, Sem.run_pure, Result.andThen_ok]; rfl, ?_⟩
  split <;> split <;> split <;> omega

theorem RowsAt.look {w : World} {A : Option Addr} {c : Nat} {D : List (List Int)} (h : RowsAt w (.slice A D.length c) D) :
    D.length * 24 ≤ 140737488351232 ∧ (0 < D.length → ∃ b off, A = some ⟨b, off, none⟩ ∧ b < w.heap.size ∧ ∀ j, j < D.length → ∃ rv, w.cell? ⟨b, off + j, none⟩ = some rv ∧ IntsAt w rv (D.getD j [])) := by
  obtain ⟨A', c', e, hl, hc⟩ := h
  simp only [Value.slice.injEq, true_and] at e
  obtain ⟨rfl, rfl⟩ := e
  exact ⟨hl, hc⟩

set_option maxHeartbeats 2000000 in
theorem CheckWorld_any (a b c d : Value) (x : Wd) (w : World) (h : WdAt w a b c d x) :
    Calls Tryz.prog 50 #[.agg #[a, b, c, d]] w fun e w' => e = .returned (.int .i64 (worldNo x)) ∧ Below w.heap.size w w' := by
  have H : Hid (WdAt w a b c d x) := h
  obtain ⟨A0, k0, rfl, -, -⟩ := h.irqs
  obtain ⟨A1, k1, rfl, -, -⟩ := h.values
  obtain ⟨A2, k2, rfl, -, -⟩ := h.blocks
  obtain ⟨A3, k3, rfl, -, -⟩ := h.delays
  obtain ⟨N, eN⟩ : ∃ N, N = worldNo x := ⟨_, rfl⟩
  rw [← eN]
  obtain ⟨M, hM, hm⟩ := max4_run (P := Tryz.prog) #[3, 3, 3, 3] 3 x.irqs.length x.values.length x.blocks.length x.delays.length
  clear h
  by_cases hf : x.fits = true
  case neg =>
    have hq : 1000 < M := hm.2 (by simp only [Wd.fits, decide_eq_true_eq] at hf; omega)
    have HE : Hid (N = 1) := by show _ = _; rw [eN, worldNo, if_neg hf]
    clear hf eN hm
    go_enter Tryz.func50, Tryz.ntmps50
    go_wp2_with fail
    go_ret
    exact ⟨ret_int HE.out.symm, below_alloc _ _⟩
  case pos =>
    have hq : ¬ 1000 < M := fun hh => (hm.1 hh) (by simp only [Wd.fits, decide_eq_true_eq] at hf; omega)
    have hx : (w.alloc (.cells #[.slice A0 x.irqs.length k0, .slice A1 x.values.length k1, .slice A2 x.blocks.length k2, .slice A3 x.delays.length k3] 53)).heap[w.heap.size]? = some (.cells #[.slice A0 x.irqs.length k0, .slice A1 x.values.length k1, .slice A2 x.blocks.length k2, .slice A3 x.delays.length k3] 53 (0, 0)) := Go.Deep.blk_alloc_new _ _
    have hb0 := below_alloc w (.cells #[.slice A0 x.irqs.length k0, .slice A1 x.values.length k1, .slice A2 x.blocks.length k2, .slice A3 x.delays.length k3] 53)
    obtain ⟨W, hW⟩ : ∃ W, W = w.alloc (.cells #[.slice A0 x.irqs.length k0, .slice A1 x.values.length k1, .slice A2 x.blocks.length k2, .slice A3 x.delays.length k3] 53) := ⟨_, rfl⟩
    rw [← hW] at hx hb0
    have HW : Hid (W = w.alloc (.cells #[.slice A0 x.irqs.length k0, .slice A1 x.values.length k1, .slice A2 x.blocks.length k2, .slice A3 x.delays.length k3] 53)) := hW
    have HX : Hid (W.heap[w.heap.size]? = some (.cells #[.slice A0 x.irqs.length k0, .slice A1 x.values.length k1, .slice A2 x.blocks.length k2, .slice A3 x.delays.length k3] 53 (0, 0)) ∧ Below w.heap.size w W) := ⟨hx, hb0⟩
    have EN : Hid (N = if allIn 0 3000 x.irqs = true ∧ allIn 0 3000 x.delays = true ∧ allB x.values = true then blocksNo x.blocks else 2) := by show _ = _; rw [eN, worldNo, if_pos hf]
    clear hm hf hx hb0 hW eN
    go_enter Tryz.func50, Tryz.ntmps50
    go_wp2_with fail
    rw [← HW.out]
    refine (isNoCount_any _).mono ?_
    rintro e w1 ⟨p, q, rfl, hc1, hb1⟩
    have HC1 : Hid (CloAtR w1 p q 0 3000 ∧ Below w.heap.size w w1 ∧ Below W.heap.size W w1) := ⟨hc1, HX.out.2.trans (hb1.mono HX.out.2.size), hb1⟩
    clear hc1 hb1
    go_wp2_with fail
    refine (isNoWordR_any _).mono ?_
    rintro e w2 ⟨p2, q2, rfl, hc3, hb2⟩
    have hb12 : Below W.heap.size W w2 := HC1.out.2.2.trans (hb2.mono HC1.out.2.2.size)
    have hbw : Below w.heap.size w w2 := HX.out.2.trans (hb12.mono HX.out.2.size)
    obtain ⟨z0, z1, z2, z3⟩ := wd_cells (show w2.heap[w.heap.size]? = _ from (hb12.block _ (lt_of_block HX.out.1)).trans HX.out.1)
    have HD : Hid (CloAtR w2 p q 0 3000 ∧ CloAtR w2 p2 q2 (-1099511627776) 1099511627776 ∧ WdAt w2 (.slice A0 x.irqs.length k0) (.slice A1 x.values.length k1) (.slice A2 x.blocks.length k2) (.slice A3 x.delays.length k3) x ∧ Below w.heap.size w w2) := ⟨HC1.out.1.below hb2, hc3, H.out.below hbw, hbw⟩
    clear hc3 hb2 hb12 hbw HC1 HX HW H hM
    obtain ⟨hl2, hc2⟩ := HD.out.2.2.1.blocks.look
    have HC : Hid (0 < x.blocks.length → ∃ b off, A2 = some ⟨b, off, none⟩ ∧ b < w2.heap.size ∧ ∀ j, j < x.blocks.length → ∃ rv, w2.cell? ⟨b, off + j, none⟩ = some rv ∧ IntsAt w2 rv (x.blocks.getD j [])) := hc2
    clear hc2
    cases g0 : allIn 0 3000 x.irqs with
    | false =>
      have HE : Hid (N = 2) := by show _ = _; rw [EN.out, if_neg (by rw [g0]; simp)]
      go_wp2_with fail
      refine (ContainsFuncR _ x.irqs p q 0 3000 _ HD.out.2.2.1.irqs HD.out.1).mono ?_
      rw [g0]
      rintro e w' ⟨rfl, hw'⟩
      rw [hw']
      clear hw' w'
      go_wp2_with fail
      go_ret
      exact ⟨ret_int HE.out.symm, HD.out.2.2.2⟩
    | true =>
    cases g1 : allIn 0 3000 x.delays with
    | false =>
      have HE : Hid (N = 2) := by show _ = _; rw [EN.out, if_neg (by rw [g1]; simp)]
      go_wp2_with fail
      refine (ContainsFuncR _ x.irqs p q 0 3000 _ HD.out.2.2.1.irqs HD.out.1).mono ?_
      rw [g0]
      rintro e w' ⟨rfl, hw'⟩
      rw [hw']
      clear hw' w'
      go_wp2_with fail
      refine (ContainsFuncR _ x.delays p q 0 3000 _ HD.out.2.2.1.delays HD.out.1).mono ?_
      rw [g1]
      rintro e w' ⟨rfl, hw'⟩
      rw [hw']
      clear hw' w'
      go_wp2_with fail
      go_ret
      exact ⟨ret_int HE.out.symm, HD.out.2.2.2⟩
    | true =>
    cases g2 : allB x.values with
    | false =>
      have HE : Hid (N = 2) := by show _ = _; rw [EN.out, if_neg (by rw [g2]; simp)]
      go_wp2_with fail
      refine (ContainsFuncR _ x.irqs p q 0 3000 _ HD.out.2.2.1.irqs HD.out.1).mono ?_
      rw [g0]
      rintro e w' ⟨rfl, hw'⟩
      rw [hw']
      clear hw' w'
      go_wp2_with fail
      refine (ContainsFuncR _ x.delays p q 0 3000 _ HD.out.2.2.1.delays HD.out.1).mono ?_
      rw [g1]
      rintro e w' ⟨rfl, hw'⟩
      rw [hw']
      clear hw' w'
      go_wp2_with fail
      refine (ContainsFuncR _ x.values p2 q2 _ _ _ HD.out.2.2.1.values HD.out.2.1).mono ?_
      rw [allIn_word, g2]
      rintro e w' ⟨rfl, hw'⟩
      rw [hw']
      clear hw' w'
      go_wp2_with fail
      go_ret
      exact ⟨ret_int HE.out.symm, HD.out.2.2.2⟩
    | true =>
      have HE : Hid (N = blocksNo x.blocks) := by show _ = _; rw [EN.out, if_pos ⟨g0, g1, g2⟩]
      go_wp2_with fail
      refine (ContainsFuncR _ x.irqs p q 0 3000 _ HD.out.2.2.1.irqs HD.out.1).mono ?_
      rw [g0]
      rintro e w' ⟨rfl, hw'⟩
      rw [hw']
      clear hw' w'
      go_wp2_with fail
      refine (ContainsFuncR _ x.delays p q 0 3000 _ HD.out.2.2.1.delays HD.out.1).mono ?_
      rw [g1]
      rintro e w' ⟨rfl, hw'⟩
      rw [hw']
      clear hw' w'
      go_wp2_with fail
      refine (ContainsFuncR _ x.values p2 q2 _ _ _ HD.out.2.2.1.values HD.out.2.1).mono ?_
      rw [allIn_word, g2]
      rintro e w' ⟨rfl, hw'⟩
      rw [hw']
      clear hw' w' EN g0 g1 g2 hq
      go_wp2_with fail
      go_loopw [42] (fun i wr => ∃ k : Nat, k ≤ x.blocks.length ∧ i = .int .i64 k ∧ Hid (N = blocksNo (x.blocks.drop k)) ∧ wr = w2) (fun i _ => x.blocks.length - (intOf i).toNat)
      case atStart => exact ⟨0, Nat.zero_le _, rfl, HE, rfl⟩
      case round =>
        obtain ⟨k, hk, rfl, ht, hw⟩ := hrel
        subst wr
        by_cases hlt : k < x.blocks.length
        · obtain ⟨b, off, rfl, hbs, hcell⟩ := HC.out (by omega)
          obtain ⟨rv, h1, h2⟩ := hcell k hlt
          have HT : Hid (N = if (x.blocks.getD k []).length = 16 then (if allB (x.blocks.getD k []) = true then blocksNo (x.blocks.drop (k + 1)) else 2) else 1) := by show _ = _; rw [← blocksNo_drop x.blocks k hlt]; exact ht.out
          obtain ⟨row, hrow⟩ : ∃ row, row = x.blocks.getD k [] := ⟨_, rfl⟩
          rw [← hrow] at h2 HT
          have HI : Hid (IntsAt w2 rv row) := h2
          obtain ⟨A, c, rfl, -, -⟩ := h2
          clear hcell hrow HC ht HE
          by_cases hr : row.length = 16
          · have d0 : ((row.length : Int) != 16) = false := by simp [hr]
            have HT2 : Hid (N = if allB row = true then blocksNo (x.blocks.drop (k + 1)) else 2) := by show _ = _; rw [HT.out, if_pos hr]
            clear hr HT
            cases g : allB row with
            | false =>
              have HE : Hid (N = 2) := by show _ = _; rw [HT2.out, g]; rfl
              go_wp2_with fail
              refine (ContainsFuncR _ row p2 q2 _ _ _ HI.out HD.out.2.1).mono ?_
              rw [allIn_word, g]
              rintro e w' ⟨rfl, hw'⟩
              rw [hw']
              clear hw' w'
              go_wp2_with fail
              go_ret
              exact ⟨ret_int HE.out.symm, HD.out.2.2.2⟩
            | true =>
              have HE : Hid (N = blocksNo (x.blocks.drop (k + 1))) := by show _ = _; rw [HT2.out, if_pos g]
              have hw2 : IntKind.i64.wrap ((k : Int) + 1) = (k : Int) + 1 := IntWalk.i64_in _ (by omega)
              go_wp2_with fail
              refine (ContainsFuncR _ row p2 q2 _ _ _ HI.out HD.out.2.1).mono ?_
              rw [allIn_word, g]
              rintro e w' ⟨rfl, hw'⟩
              rw [hw']
              clear hw' w'
              go_wp2_with fail
              refine ⟨⟨k + 1, by omega, by go_num, HE, trivial⟩, ?_⟩
              simp [intOf]; omega
          · have d0 : ((row.length : Int) != 16) = true := by simp; omega
            have HE : Hid (N = 1) := by show _ = _; rw [HT.out, if_neg hr]
            go_wp2_with fail
            go_ret
            exact ⟨ret_int HE.out.symm, HD.out.2.2.2⟩
        · have HT : Hid (N = 0) := by show _ = _; rw [ht.out, List.drop_of_length_le (by omega)]; rfl
          clear HC ht HE
          go_wp2_with fail
          go_ret
          exact ⟨ret_int HT.out.symm, HD.out.2.2.2⟩

end Go.Proofs.YtecpblabaelopaaGreatDoor
