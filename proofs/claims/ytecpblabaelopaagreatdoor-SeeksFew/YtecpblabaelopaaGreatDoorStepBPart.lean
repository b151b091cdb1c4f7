/- Contract of cpu.takeBlock: a block comes to the page that was wanted. -/
import Derived.Test.YtecpblabaelopaaGreatDoorStepIPart
import Derived.Test.YtecpblabaelopaaGreatDoorCpuMPart
namespace Go.Proofs.YtecpblabaelopaaGreatDoor
open Go.RowKit

theorem putWords_run (l : List Int) (p : Nat) (blk : List Int) (k : Nat) (hk : k ≤ blk.length) (hp : p + k ≤ l.length) : putWords l p blk k = l.take p ++ blk.take k ++ l.drop (p + k) := by
  induction k with
  | zero => simp [putWords]
  | succ k ih =>
    have hl : (l.take p ++ blk.take k).length = p + k := by simp; omega
    have hd : l.drop (p + k) = l.getD (p + k) 0 :: l.drop (p + (k + 1)) := by
      have e := List.drop_eq_getElem_cons (show p + k < l.length by omega)
      have e2 : l.getD (p + k) 0 = l[p + k] := by simp [List.getD, show p + k < l.length by omega]
      rw [e2]
      exact e
    rw [putWords, ih (by omega) (by omega), hd, List.set_append_right _ _ (by omega), hl, Nat.sub_self, List.set_cons_zero, take_snoc blk k (by omega)]
    simp [List.append_assoc]

theorem putWords_all16 (l : List Int) (p : Nat) (blk : List Int) (hb : blk.length = 16) (hp : p + 16 ≤ l.length) : putWords l p blk 16 = l.take p ++ blk ++ l.drop (p + blk.length) := by
  rw [putWords_run l p blk 16 (by omega) hp, List.take_of_length_le (l := blk) (by omega), hb]

def Mach.taken (m : Mach) (blk : List Int) : Mach := if 0 < blk.length ∧ 0 ≤ m.want then { m with mem := putWords m.mem (16 * m.want).toNat blk 16, want := -1, ready := 1, wait := true } else m
theorem told_taken (m : Mach) (irq : Bool) (blk : List Int) : m.told irq blk = ({ m with wait := m.wait || irq } : Mach).taken blk := by
  unfold Mach.told Mach.taken
  split <;> rfl

set_option maxHeartbeats 1000000 in
theorem takeBlock_any (lo b : Nat) (rv mv ov : Value) (m : Mach) (B : Option Addr) (cb : Nat) (blk : List Int) (w : World) (h : AtP w lo b rv mv ov m) (hb : IntsAt w (.slice B blk.length cb) blk)
    (hm : m.mem.length = 256) (hw : -1 ≤ m.want ∧ m.want ≤ 15) (hl : blk.length = 0 ∨ blk.length = 16) :
    Calls Tryz.prog 111 #[ptr b, .slice B blk.length cb] w fun e w' => e = .returned (.tuple #[]) ∧ AtP w' lo b rv mv ov (m.taken blk) ∧ Below lo w w' := by
  have H : Hid (AtP w lo b rv mv ov m) := h
  obtain ⟨⟨z0, z1, z2, z3, z4, z5, z6, z7, z8, z9, z10, z11⟩, zf, zl⟩ := twelve_cells h.box
  by_cases c0 : blk.length = 0
  · have HT : Hid (m.taken blk = m) := by show _ = _; simp [Mach.taken, c0]
    rw [HT.out]
    have d0 : ((blk.length : Int) == 0) = true := by simp [c0]
    clear h hb HT c0 hl
    go_enter Tryz.func111, Tryz.ntmps111
    go_wp2_with fail
    first | go_end0 | refine bodyPost_ret (results_none rfl _ _ _) rfl ?_
    exact ⟨rfl, H.out, Below.refl _ _⟩
  have d0 : ((blk.length : Int) == 0) = false := by simp [c0]
  cases c1 : m.want == -1 with
  | true =>
    have HT : Hid (m.taken blk = m) := by
      show _ = _
      have : m.want = -1 := by simpa using c1
      simp [Mach.taken, this]
    rw [HT.out]
    clear h hb HT c0 hl
    go_enter Tryz.func111, Tryz.ntmps111
    go_wp2_with fail
    first | go_end0 | refine bodyPost_ret (results_none rfl _ _ _) rfl ?_
    exact ⟨rfl, H.out, Below.refl _ _⟩
  | false =>
    have w0 : 0 ≤ m.want := by
      have : m.want ≠ -1 := by simpa using c1
      omega
    have hl16 : blk.length = 16 := by omega
    obtain ⟨g, c, rfl, hg1, hg2, hcell, -⟩ := h.own.mem.opened (by omega)
    obtain ⟨cur, hcur⟩ : ∃ cur, w.heap[g]? = some (.cells cur 3 (0, 0)) := by
      obtain ⟨_, _, e, _, _, ⟨cur, hc⟩, _⟩ := ownsRow_at h.own.mem (by omega)
      simp only [Value.slice.injEq, Option.some.injEq, Addr.mk.injEq] at e
      obtain ⟨⟨rfl, -, -⟩, -, -⟩ := e
      exact ⟨cur, hc⟩
    have hcs : m.mem.length ≤ c ∧ cur.size = c := by
      obtain ⟨_, e2⟩ := h.own.mem
      rcases e2 with ⟨e2, _⟩ | ⟨g', cap, cu, hv, _, hh, r1, _, r3, _⟩
      · simp at e2
      · simp only [Value.slice.injEq, Option.some.injEq, Addr.mk.injEq] at hv
        obtain ⟨⟨rfl, -, -⟩, -, rfl⟩ := hv
        rw [hcur] at hh
        simp only [Option.some.injEq, Obj.cells.injEq, and_true] at hh
        subst hh
        exact ⟨r1, by omega⟩
    obtain ⟨A, cA, hA, hA8, hAc⟩ := hb
    simp only [Value.slice.injEq, true_and] at hA
    obtain ⟨rfl, rfl⟩ := hA
    obtain ⟨bb, off, rfl, hbb, hbc⟩ := hAc (by omega)
    have HP : Hid (∀ w4, w4 = w.drew.setRow g (cur.toList.take (m.want * 16).toNat ++ blk.map (Value.int .i64) ++ cur.toList.drop ((m.want * 16).toNat + (blk.map (Value.int .i64)).length)).toArray →
        AtP w4 lo b rv (.slice (some ⟨g, 0, none⟩) m.mem.length c) ov { m with mem := putWords m.mem (16 * m.want).toNat blk 16 } ∧ Below lo w w4) := fun w4 e => by
      have hr := AtP.putRun (off := (m.want * 16).toNat) (blk := blk) h.drew (show w.drew.heap[g]? = some (.cells cur 3 (0, 0)) from hcur) (by omega)
      subst e
      rw [putWords_all16 _ _ _ hl16 (by omega), show (16 * m.want).toNat = (m.want * 16).toNat by omega]
      exact ⟨hr.1, ((Below.refl _ w).drew).trans hr.2⟩
    have HT : Hid (m.taken blk = { m with mem := putWords m.mem (16 * m.want).toNat blk 16, want := -1, ready := 1, wait := true }) := by show _ = _; unfold Mach.taken; rw [if_pos ⟨by omega, w0⟩]
    rw [HT.out]
    have hsi : (Tryz.prog.info? 3).map (·.size) = some 1 := by kernel_rfl
    have hcopy : ∀ j v, (blk.map (Value.int .i64))[j]? = some v → w.drew.cell? ((⟨bb, off, none⟩ : Addr).add j) = some v := fun j v hv => by
      have hjl : j < blk.length := by
        by_cases hh : j < blk.length
        · exact hh
        · simp [List.getElem?_eq_none (show blk.length ≤ j by omega)] at hv
      rw [Go.WideShapes.add_plain]
      have := hbc j hjl
      simp [hjl] at hv
      simpa [List.getD, hjl, hv] using this
    have HC : Hid (_ ∧ _ ∧ _) := ⟨hcopy, hcs, hcur⟩
    have j1 : 0 ≤ m.want * 16 := by omega
    have j2 : m.want * 16 ≤ (m.mem.length : Int) := by omega
    have HJ : Hid (m.want * 16 ≤ 240 ∧ 0 ≤ m.want ∧ m.mem.length = 256 ∧ blk.length = 16) := ⟨by omega, w0, hm, hl16⟩
    have hwr : IntKind.i64.wrap (m.want * 16) = m.want * 16 := IntWalk.i64_in _ (by omega)
    have HMIN : Hid ((blk.map (Value.int .i64)).length = Nat.min blk.length (m.mem.length - (m.want * 16).toNat)) := by show _ = _; simp only [List.length_map]; exact (Nat.min_eq_left (by omega)).symm
    have j3 : m.mem.length ≤ c := hcs.1
    have j4 : ¬ c = (m.want * 16).toNat := by omega
    clear h HT c0 hl hcopy hcur hcell hbc hAc hcs hg1 hg2 hbb hA8 hm hl16 hw w0
    go_enter Tryz.func111, Tryz.ntmps111
    go_wp2_with fail
    go_region_law ((refine step_copy_exact rfl (.tmp 23) (.tmp 24) 24 24 rfl 3 Tryz.underlying24 hsi g (m.want * 16).toNat (m.mem.length - (m.want * 16).toNat) (c - (m.want * 16).toNat) ⟨bb, off, none⟩ blk.length cb (by rfl) (by rfl) cur 3 HC.out.2.2 (blk.map (Value.int .i64)) HMIN.out HC.out.1 (by simp; have := HJ.out; have := HC.out.2.1; omega) (ints_oneCell _ _) ?_; intro w4 hw4; obtain ⟨h4, hb4⟩ := HP.out w4 hw4; have H4 : Hid (AtP w4 lo b rv (.slice (some ⟨g, 0, none⟩) m.mem.length c) ov { m with mem := putWords m.mem (16 * m.want).toNat blk 16 }) := h4; have HB4 : Hid (Below lo w w4) := hb4; obtain ⟨⟨y0, y1, y2, y3, y4, y5, y6, y7, y8, y9, y10, y11⟩, yf, yl⟩ := twelve_cells h4.box; clear h4 hb4 hw4))
    all_goals
      go_wp2_with fail
      first | go_end0 | refine bodyPost_ret (results_none rfl _ _ _) rfl ?_
      exact ⟨rfl, (((H4.out.setWant (-1)).1.setReady 1).1.setWait true).1, ((HB4.out.trans (H4.out.setWant (-1)).2).trans ((H4.out.setWant (-1)).1.setReady 1).2).trans (((H4.out.setWant (-1)).1.setReady 1).1.setWait true).2⟩

end Go.Proofs.YtecpblabaelopaaGreatDoor

/- Contracts of cpu.doNext, by operator: Halt, Li, Ei, Iret, Nop. -/

namespace Go.Proofs.YtecpblabaelopaaGreatDoor
open Go.RowKit
set_option maxRecDepth 100000
set_option linter.unusedVariables false

set_option maxRecDepth 100000 in
set_option maxHeartbeats 4000000 in
theorem doNext_0 (lo b : Nat) (rv mv ov : Value) (m : Mach) (a k n value : Int) (w : World) (h : AtP w lo b rv mv ov m) (hlo : lo ≤ w.heap.size) (hm : MayP m) (hf : m.fin = 0) (ha : 0 ≤ a ∧ a ≤ 7) (hk : 0 ≤ k ∧ k ≤ 7) (hn : -1048576 ≤ n ∧ n ≤ 1048575)
    (hnr : 0 = (2 : Int) ∨ 0 = (3 : Int) → 0 ≤ n ∧ n ≤ 7)
    (hx : Calls Tryz.prog 113 #[ptr b] w fun e w' => e = .returned (.tuple #[.agg #[.int .i64 0, .int .i64 a, .int .i64 k, .int .i64 n], .int .i64 0]) ∧ Below w.heap.size w w') :
    Calls Tryz.prog 80 #[ptr b, .int .i64 value] w fun e w' => e = .returned (.int .i64 (m.exec 0 a k n value).2) ∧ (∃ ov', AtP w' lo b rv mv ov' (m.exec 0 a k n value).1) ∧ Below lo w w' := by
  obtain ⟨R, eR⟩ : ∃ R, R = m.exec 0 a k n value := ⟨_, rfl⟩
  rw [← eR]
  obtain ⟨g, c, rfl, -, -, -⟩ := h.regs_at hm.regs
  obtain ⟨p1, p2⟩ := wordB_iff.1 hm.pc
  have HX : Hid (Calls Tryz.prog 113 #[ptr b] w fun e w' => e = .returned (.tuple #[.agg #[.int .i64 0, .int .i64 a, .int .i64 k, .int .i64 n], .int .i64 0]) ∧ Below w.heap.size w w') := hx
  have HM : Hid (MayP m) := hm
  have HF : Hid (m.fin = 0) := hf
  have HH : Hid (AtP w lo b (.slice (some ⟨g, 0, none⟩) m.regs.length c) mv ov m ∧ lo ≤ w.heap.size) := ⟨h, hlo⟩
  have HBD : Hid ((0 ≤ a ∧ a ≤ 7) ∧ (0 ≤ k ∧ k ≤ 7) ∧ (-1048576 ≤ n ∧ n ≤ 1048575)) := ⟨ha, hk, hn⟩
  have HNR : Hid (0 = (2 : Int) ∨ 0 = (3 : Int) → 0 ≤ n ∧ n ≤ 7) := hnr
  have ER : Hid (R = m.exec 0 a k n value) := eR
  obtain ⟨a0, a7⟩ := ha
  obtain ⟨k0, k7⟩ := hk
  obtain ⟨n0, n7⟩ := hn
  have ab : a < (m.regs.length : Int) := by have := hm.regs; omega
  have kb : k < (m.regs.length : Int) := by have := hm.regs; omega
  clear hx h hm eR hnr
  go_enter Tryz.func80, Tryz.ntmps80
  go_wp2_with fail
  refine HX.out.mono ?_
  rintro e w1 ⟨rfl, hb1⟩
  clear HX
  have h1 := HH.out.1.below hb1
  have H1 : Hid (AtP w1 lo b (.slice (some ⟨g, 0, none⟩) m.regs.length c) mv ov m ∧ Below lo w w1 ∧ lo ≤ w1.heap.size) := ⟨h1, hb1.mono HH.out.2, Nat.le_trans HH.out.2 hb1.size⟩
  obtain ⟨⟨z0, z1, z2, z3, z4, z5, z6, z7, z8, z9, z10, z11⟩, zf, zl⟩ := twelve_cells h1.box
  rw [hf] at z7
  have hne : ¬ b = w1.heap.size := by omega
  clear hf HH hb1 h1
  go_wp2_with fail
  go_ret
  rw [show R = (({ m with fin := 1 } : Mach), -1) from ER.out]
  exact ⟨rfl, ⟨_, (H1.out.1.setFin 1).1.below (below_alloc _ _)⟩, H1.out.2.1.trans ((H1.out.1.setFin 1).2.trans ((below_alloc _ _).mono (by simpa using H1.out.2.2)))⟩

set_option maxRecDepth 100000 in
set_option maxHeartbeats 4000000 in
theorem doNext_1 (lo b : Nat) (rv mv ov : Value) (m : Mach) (a k n value : Int) (w : World) (h : AtP w lo b rv mv ov m) (hlo : lo ≤ w.heap.size) (hm : MayP m) (hf : m.fin = 0) (ha : 0 ≤ a ∧ a ≤ 7) (hk : 0 ≤ k ∧ k ≤ 7) (hn : -1048576 ≤ n ∧ n ≤ 1048575)
    (hnr : 1 = (2 : Int) ∨ 1 = (3 : Int) → 0 ≤ n ∧ n ≤ 7)
    (hx : Calls Tryz.prog 113 #[ptr b] w fun e w' => e = .returned (.tuple #[.agg #[.int .i64 1, .int .i64 a, .int .i64 k, .int .i64 n], .int .i64 0]) ∧ Below w.heap.size w w') :
    Calls Tryz.prog 80 #[ptr b, .int .i64 value] w fun e w' => e = .returned (.int .i64 (m.exec 1 a k n value).2) ∧ (∃ ov', AtP w' lo b rv mv ov' (m.exec 1 a k n value).1) ∧ Below lo w w' := by
  obtain ⟨R, eR⟩ : ∃ R, R = m.exec 1 a k n value := ⟨_, rfl⟩
  rw [← eR]
  obtain ⟨g, c, rfl, -, -, -⟩ := h.regs_at hm.regs
  obtain ⟨p1, p2⟩ := wordB_iff.1 hm.pc
  have HX : Hid (Calls Tryz.prog 113 #[ptr b] w fun e w' => e = .returned (.tuple #[.agg #[.int .i64 1, .int .i64 a, .int .i64 k, .int .i64 n], .int .i64 0]) ∧ Below w.heap.size w w') := hx
  have HM : Hid (MayP m) := hm
  have HF : Hid (m.fin = 0) := hf
  have HH : Hid (AtP w lo b (.slice (some ⟨g, 0, none⟩) m.regs.length c) mv ov m ∧ lo ≤ w.heap.size) := ⟨h, hlo⟩
  have HBD : Hid ((0 ≤ a ∧ a ≤ 7) ∧ (0 ≤ k ∧ k ≤ 7) ∧ (-1048576 ≤ n ∧ n ≤ 1048575)) := ⟨ha, hk, hn⟩
  have HNR : Hid (1 = (2 : Int) ∨ 1 = (3 : Int) → 0 ≤ n ∧ n ≤ 7) := hnr
  have ER : Hid (R = m.exec 1 a k n value) := eR
  obtain ⟨a0, a7⟩ := ha
  obtain ⟨k0, k7⟩ := hk
  obtain ⟨n0, n7⟩ := hn
  have ab : a < (m.regs.length : Int) := by have := hm.regs; omega
  have kb : k < (m.regs.length : Int) := by have := hm.regs; omega
  clear hx h hm eR hnr
  go_enter Tryz.func80, Tryz.ntmps80
  go_wp2_with fail
  refine HX.out.mono ?_
  rintro e w1 ⟨rfl, hb1⟩
  clear HX
  have h1 := HH.out.1.below hb1
  have H1 : Hid (AtP w1 lo b (.slice (some ⟨g, 0, none⟩) m.regs.length c) mv ov m ∧ Below lo w w1 ∧ lo ≤ w1.heap.size) := ⟨h1, hb1.mono HH.out.2, Nat.le_trans HH.out.2 hb1.size⟩
  obtain ⟨⟨z0, z1, z2, z3, z4, z5, z6, z7, z8, z9, z10, z11⟩, zf, zl⟩ := twelve_cells h1.box
  rw [hf] at z7
  have hne : ¬ b = w1.heap.size := by omega
  clear hf HH hb1 h1
  go_wp2_with fail
  rw [show w1.alloc (.cells #[.int .i64 1, .int .i64 a, .int .i64 k, .int .i64 n] 103) = w1.alloc (.cells #[.int .i64 1, .int .i64 a, .int .i64 k, .int .i64 n] 103) from rfl]
  have hx := Go.Deep.blk_alloc_new w1 (.cells #[.int .i64 1, .int .i64 a, .int .i64 k, .int .i64 n] 103)
  have hb2 := below_alloc w1 (.cells #[.int .i64 1, .int .i64 a, .int .i64 k, .int .i64 n] 103)
  have h2 := H1.out.1.below hb2
  have H2 : Hid (AtP _ lo b (.slice (some ⟨g, 0, none⟩) m.regs.length c) mv ov m ∧ Below lo w _ ∧ lo ≤ _) := ⟨h2, H1.out.2.1.trans (hb2.mono H1.out.2.2), Nat.le_trans H1.out.2.2 hb2.size⟩
  generalize w1.alloc (.cells #[.int .i64 1, .int .i64 a, .int .i64 k, .int .i64 n] 103) = W at hx hb2 h2 H2 ⊢
  clear z0 z1 z2 z3 z4 z5 z6 z7 z8 z9 z10 z11 zf zl hne
  obtain ⟨⟨z0, z1, z2, z3, z4, z5, z6, z7, z8, z9, z10, z11⟩, zf, zl⟩ := twelve_cells h2.box
  rw [HF.out] at z7
  obtain ⟨x0, x1, x2, x3, xf, xl⟩ := four_cells hx
  obtain ⟨q3, q4, q5⟩ := h2.reg_cell HM.out.regs a0 a7
  have gb : ¬ b = g := h2.ne_regs
  have gb2 : ¬ g = b := fun e => gb e.symm
  clear hx hb2 h2
  go_still_tail 9, (by kernel_rfl)
  go_wp2_with fail
  refine (Fold_same _ _ (by omega) (by omega)).mono ?_
  rintro e w9 ⟨rfl, rfl⟩
  go_wp2_with fail
  go_ret
  rw [show R = (({ m with regs := m.regs.set a.toNat n, pc := foldF (m.pc + 1) } : Mach), -1) from ER.out]
  have r1 := H2.out.1.drew.putReg a.toNat n
  have r2 := r1.1.setPc (foldF (m.pc + 1))
  exact ⟨rfl, ⟨_, r2.1⟩, (H2.out.2.1.drew).trans (r1.2.trans r2.2)⟩

set_option maxRecDepth 100000 in
set_option maxHeartbeats 4000000 in
theorem doNext_12 (lo b : Nat) (rv mv ov : Value) (m : Mach) (a k n value : Int) (w : World) (h : AtP w lo b rv mv ov m) (hlo : lo ≤ w.heap.size) (hm : MayP m) (hf : m.fin = 0) (ha : 0 ≤ a ∧ a ≤ 7) (hk : 0 ≤ k ∧ k ≤ 7) (hn : -1048576 ≤ n ∧ n ≤ 1048575)
    (hnr : 12 = (2 : Int) ∨ 12 = (3 : Int) → 0 ≤ n ∧ n ≤ 7)
    (hx : Calls Tryz.prog 113 #[ptr b] w fun e w' => e = .returned (.tuple #[.agg #[.int .i64 12, .int .i64 a, .int .i64 k, .int .i64 n], .int .i64 0]) ∧ Below w.heap.size w w') :
    Calls Tryz.prog 80 #[ptr b, .int .i64 value] w fun e w' => e = .returned (.int .i64 (m.exec 12 a k n value).2) ∧ (∃ ov', AtP w' lo b rv mv ov' (m.exec 12 a k n value).1) ∧ Below lo w w' := by
  obtain ⟨R, eR⟩ : ∃ R, R = m.exec 12 a k n value := ⟨_, rfl⟩
  rw [← eR]
  obtain ⟨g, c, rfl, -, -, -⟩ := h.regs_at hm.regs
  obtain ⟨p1, p2⟩ := wordB_iff.1 hm.pc
  have HX : Hid (Calls Tryz.prog 113 #[ptr b] w fun e w' => e = .returned (.tuple #[.agg #[.int .i64 12, .int .i64 a, .int .i64 k, .int .i64 n], .int .i64 0]) ∧ Below w.heap.size w w') := hx
  have HM : Hid (MayP m) := hm
  have HF : Hid (m.fin = 0) := hf
  have HH : Hid (AtP w lo b (.slice (some ⟨g, 0, none⟩) m.regs.length c) mv ov m ∧ lo ≤ w.heap.size) := ⟨h, hlo⟩
  have HBD : Hid ((0 ≤ a ∧ a ≤ 7) ∧ (0 ≤ k ∧ k ≤ 7) ∧ (-1048576 ≤ n ∧ n ≤ 1048575)) := ⟨ha, hk, hn⟩
  have HNR : Hid (12 = (2 : Int) ∨ 12 = (3 : Int) → 0 ≤ n ∧ n ≤ 7) := hnr
  have ER : Hid (R = m.exec 12 a k n value) := eR
  obtain ⟨a0, a7⟩ := ha
  obtain ⟨k0, k7⟩ := hk
  obtain ⟨n0, n7⟩ := hn
  have ab : a < (m.regs.length : Int) := by have := hm.regs; omega
  have kb : k < (m.regs.length : Int) := by have := hm.regs; omega
  clear hx h hm eR hnr
  go_enter Tryz.func80, Tryz.ntmps80
  go_wp2_with fail
  refine HX.out.mono ?_
  rintro e w1 ⟨rfl, hb1⟩
  clear HX
  have h1 := HH.out.1.below hb1
  have H1 : Hid (AtP w1 lo b (.slice (some ⟨g, 0, none⟩) m.regs.length c) mv ov m ∧ Below lo w w1 ∧ lo ≤ w1.heap.size) := ⟨h1, hb1.mono HH.out.2, Nat.le_trans HH.out.2 hb1.size⟩
  obtain ⟨⟨z0, z1, z2, z3, z4, z5, z6, z7, z8, z9, z10, z11⟩, zf, zl⟩ := twelve_cells h1.box
  rw [hf] at z7
  have hne : ¬ b = w1.heap.size := by omega
  clear hf HH hb1 h1
  go_wp2_with fail
  refine (Fold_same _ _ (by omega) (by omega)).mono ?_
  rintro e w9 ⟨rfl, rfl⟩
  go_wp2_with fail
  go_ret
  rw [show R = (({ m with ints := n == 1, pc := foldF (m.pc + 1) } : Mach), -1) from ER.out]
  have r1 := H1.out.1.setInts (n == 1)
  have r2 := r1.1.setPc (foldF (m.pc + 1))
  exact ⟨rfl, ⟨_, r2.1.below (below_alloc _ _)⟩, H1.out.2.1.trans ((r1.2.trans r2.2).trans ((below_alloc _ _).mono (by simpa using H1.out.2.2)))⟩

set_option maxRecDepth 100000 in
set_option maxHeartbeats 4000000 in
theorem doNext_13 (lo b : Nat) (rv mv ov : Value) (m : Mach) (a k n value : Int) (w : World) (h : AtP w lo b rv mv ov m) (hlo : lo ≤ w.heap.size) (hm : MayP m) (hf : m.fin = 0) (ha : 0 ≤ a ∧ a ≤ 7) (hk : 0 ≤ k ∧ k ≤ 7) (hn : -1048576 ≤ n ∧ n ≤ 1048575)
    (hnr : 13 = (2 : Int) ∨ 13 = (3 : Int) → 0 ≤ n ∧ n ≤ 7)
    (hx : Calls Tryz.prog 113 #[ptr b] w fun e w' => e = .returned (.tuple #[.agg #[.int .i64 13, .int .i64 a, .int .i64 k, .int .i64 n], .int .i64 0]) ∧ Below w.heap.size w w') :
    Calls Tryz.prog 80 #[ptr b, .int .i64 value] w fun e w' => e = .returned (.int .i64 (m.exec 13 a k n value).2) ∧ (∃ ov', AtP w' lo b rv mv ov' (m.exec 13 a k n value).1) ∧ Below lo w w' := by
  obtain ⟨R, eR⟩ : ∃ R, R = m.exec 13 a k n value := ⟨_, rfl⟩
  rw [← eR]
  obtain ⟨g, c, rfl, -, -, -⟩ := h.regs_at hm.regs
  obtain ⟨p1, p2⟩ := wordB_iff.1 hm.pc
  have HX : Hid (Calls Tryz.prog 113 #[ptr b] w fun e w' => e = .returned (.tuple #[.agg #[.int .i64 13, .int .i64 a, .int .i64 k, .int .i64 n], .int .i64 0]) ∧ Below w.heap.size w w') := hx
  have HM : Hid (MayP m) := hm
  have HF : Hid (m.fin = 0) := hf
  have HH : Hid (AtP w lo b (.slice (some ⟨g, 0, none⟩) m.regs.length c) mv ov m ∧ lo ≤ w.heap.size) := ⟨h, hlo⟩
  have HBD : Hid ((0 ≤ a ∧ a ≤ 7) ∧ (0 ≤ k ∧ k ≤ 7) ∧ (-1048576 ≤ n ∧ n ≤ 1048575)) := ⟨ha, hk, hn⟩
  have HNR : Hid (13 = (2 : Int) ∨ 13 = (3 : Int) → 0 ≤ n ∧ n ≤ 7) := hnr
  have ER : Hid (R = m.exec 13 a k n value) := eR
  obtain ⟨a0, a7⟩ := ha
  obtain ⟨k0, k7⟩ := hk
  obtain ⟨n0, n7⟩ := hn
  have ab : a < (m.regs.length : Int) := by have := hm.regs; omega
  have kb : k < (m.regs.length : Int) := by have := hm.regs; omega
  clear hx h hm eR hnr
  go_enter Tryz.func80, Tryz.ntmps80
  go_wp2_with fail
  refine HX.out.mono ?_
  rintro e w1 ⟨rfl, hb1⟩
  clear HX
  have h1 := HH.out.1.below hb1
  have H1 : Hid (AtP w1 lo b (.slice (some ⟨g, 0, none⟩) m.regs.length c) mv ov m ∧ Below lo w w1 ∧ lo ≤ w1.heap.size) := ⟨h1, hb1.mono HH.out.2, Nat.le_trans HH.out.2 hb1.size⟩
  obtain ⟨⟨z0, z1, z2, z3, z4, z5, z6, z7, z8, z9, z10, z11⟩, zf, zl⟩ := twelve_cells h1.box
  rw [hf] at z7
  have hne : ¬ b = w1.heap.size := by omega
  clear hf HH hb1 h1
  obtain ⟨b1, b2⟩ := wordB_iff.1 HM.out.back
  go_wp2_with fail
  refine (Fold_same _ _ (by omega) (by omega)).mono ?_
  rintro e w9 ⟨rfl, rfl⟩
  go_wp2_with fail
  go_ret
  rw [show R = (({ m with ints := true, pc := foldF m.back } : Mach), -1) from ER.out]
  have r1 := H1.out.1.setInts true
  have r2 := r1.1.setPc (foldF m.back)
  exact ⟨rfl, ⟨_, r2.1.below (below_alloc _ _)⟩, H1.out.2.1.trans ((r1.2.trans r2.2).trans ((below_alloc _ _).mono (by simpa using H1.out.2.2)))⟩

set_option maxRecDepth 100000 in
set_option maxHeartbeats 4000000 in
theorem doNext_15 (lo b : Nat) (rv mv ov : Value) (m : Mach) (a k n value : Int) (w : World) (h : AtP w lo b rv mv ov m) (hlo : lo ≤ w.heap.size) (hm : MayP m) (hf : m.fin = 0) (ha : 0 ≤ a ∧ a ≤ 7) (hk : 0 ≤ k ∧ k ≤ 7) (hn : -1048576 ≤ n ∧ n ≤ 1048575)
    (hnr : 15 = (2 : Int) ∨ 15 = (3 : Int) → 0 ≤ n ∧ n ≤ 7)
    (hx : Calls Tryz.prog 113 #[ptr b] w fun e w' => e = .returned (.tuple #[.agg #[.int .i64 15, .int .i64 a, .int .i64 k, .int .i64 n], .int .i64 0]) ∧ Below w.heap.size w w') :
    Calls Tryz.prog 80 #[ptr b, .int .i64 value] w fun e w' => e = .returned (.int .i64 (m.exec 15 a k n value).2) ∧ (∃ ov', AtP w' lo b rv mv ov' (m.exec 15 a k n value).1) ∧ Below lo w w' := by
  obtain ⟨R, eR⟩ : ∃ R, R = m.exec 15 a k n value := ⟨_, rfl⟩
  rw [← eR]
  obtain ⟨g, c, rfl, -, -, -⟩ := h.regs_at hm.regs
  obtain ⟨p1, p2⟩ := wordB_iff.1 hm.pc
  have HX : Hid (Calls Tryz.prog 113 #[ptr b] w fun e w' => e = .returned (.tuple #[.agg #[.int .i64 15, .int .i64 a, .int .i64 k, .int .i64 n], .int .i64 0]) ∧ Below w.heap.size w w') := hx
  have HM : Hid (MayP m) := hm
  have HF : Hid (m.fin = 0) := hf
  have HH : Hid (AtP w lo b (.slice (some ⟨g, 0, none⟩) m.regs.length c) mv ov m ∧ lo ≤ w.heap.size) := ⟨h, hlo⟩
  have HBD : Hid ((0 ≤ a ∧ a ≤ 7) ∧ (0 ≤ k ∧ k ≤ 7) ∧ (-1048576 ≤ n ∧ n ≤ 1048575)) := ⟨ha, hk, hn⟩
  have HNR : Hid (15 = (2 : Int) ∨ 15 = (3 : Int) → 0 ≤ n ∧ n ≤ 7) := hnr
  have ER : Hid (R = m.exec 15 a k n value) := eR
  obtain ⟨a0, a7⟩ := ha
  obtain ⟨k0, k7⟩ := hk
  obtain ⟨n0, n7⟩ := hn
  have ab : a < (m.regs.length : Int) := by have := hm.regs; omega
  have kb : k < (m.regs.length : Int) := by have := hm.regs; omega
  clear hx h hm eR hnr
  go_enter Tryz.func80, Tryz.ntmps80
  go_wp2_with fail
  refine HX.out.mono ?_
  rintro e w1 ⟨rfl, hb1⟩
  clear HX
  have h1 := HH.out.1.below hb1
  have H1 : Hid (AtP w1 lo b (.slice (some ⟨g, 0, none⟩) m.regs.length c) mv ov m ∧ Below lo w w1 ∧ lo ≤ w1.heap.size) := ⟨h1, hb1.mono HH.out.2, Nat.le_trans HH.out.2 hb1.size⟩
  obtain ⟨⟨z0, z1, z2, z3, z4, z5, z6, z7, z8, z9, z10, z11⟩, zf, zl⟩ := twelve_cells h1.box
  rw [hf] at z7
  have hne : ¬ b = w1.heap.size := by omega
  clear hf HH hb1 h1
  go_wp2_with fail
  refine (Fold_same _ _ (by omega) (by omega)).mono ?_
  rintro e w9 ⟨rfl, rfl⟩
  go_wp2_with fail
  go_ret
  rw [show R = (({ m with pc := foldF (m.pc + 1) } : Mach), -1) from ER.out]
  have r2 := H1.out.1.setPc (foldF (m.pc + 1))
  exact ⟨rfl, ⟨_, r2.1.below (below_alloc _ _)⟩, H1.out.2.1.trans (r2.2.trans ((below_alloc _ _).mono (by simpa using H1.out.2.2)))⟩

end Go.Proofs.YtecpblabaelopaaGreatDoor

/- Contracts of cpu.doNext, by operator: Add, Sub, Addi. -/

namespace Go.Proofs.YtecpblabaelopaaGreatDoor
open Go.RowKit
set_option maxRecDepth 100000
set_option linter.unusedVariables false

set_option maxRecDepth 100000 in
set_option maxHeartbeats 4000000 in
theorem doNext_2 (lo b : Nat) (rv mv ov : Value) (m : Mach) (a k n value : Int) (w : World) (h : AtP w lo b rv mv ov m) (hlo : lo ≤ w.heap.size) (hm : MayP m) (hf : m.fin = 0) (ha : 0 ≤ a ∧ a ≤ 7) (hk : 0 ≤ k ∧ k ≤ 7) (hn : -1048576 ≤ n ∧ n ≤ 1048575)
    (hnr : 2 = (2 : Int) ∨ 2 = (3 : Int) → 0 ≤ n ∧ n ≤ 7)
    (hx : Calls Tryz.prog 113 #[ptr b] w fun e w' => e = .returned (.tuple #[.agg #[.int .i64 2, .int .i64 a, .int .i64 k, .int .i64 n], .int .i64 0]) ∧ Below w.heap.size w w') :
    Calls Tryz.prog 80 #[ptr b, .int .i64 value] w fun e w' => e = .returned (.int .i64 (m.exec 2 a k n value).2) ∧ (∃ ov', AtP w' lo b rv mv ov' (m.exec 2 a k n value).1) ∧ Below lo w w' := by
  obtain ⟨R, eR⟩ : ∃ R, R = m.exec 2 a k n value := ⟨_, rfl⟩
  rw [← eR]
  obtain ⟨g, c, rfl, -, -, -⟩ := h.regs_at hm.regs
  obtain ⟨p1, p2⟩ := wordB_iff.1 hm.pc
  have HX : Hid (Calls Tryz.prog 113 #[ptr b] w fun e w' => e = .returned (.tuple #[.agg #[.int .i64 2, .int .i64 a, .int .i64 k, .int .i64 n], .int .i64 0]) ∧ Below w.heap.size w w') := hx
  have HM : Hid (MayP m) := hm
  have HF : Hid (m.fin = 0) := hf
  have HH : Hid (AtP w lo b (.slice (some ⟨g, 0, none⟩) m.regs.length c) mv ov m ∧ lo ≤ w.heap.size) := ⟨h, hlo⟩
  have HBD : Hid ((0 ≤ a ∧ a ≤ 7) ∧ (0 ≤ k ∧ k ≤ 7) ∧ (-1048576 ≤ n ∧ n ≤ 1048575)) := ⟨ha, hk, hn⟩
  have HNR : Hid (2 = (2 : Int) ∨ 2 = (3 : Int) → 0 ≤ n ∧ n ≤ 7) := hnr
  have ER : Hid (R = m.exec 2 a k n value) := eR
  obtain ⟨a0, a7⟩ := ha
  obtain ⟨k0, k7⟩ := hk
  obtain ⟨n0, n7⟩ := hn
  have ab : a < (m.regs.length : Int) := by have := hm.regs; omega
  have kb : k < (m.regs.length : Int) := by have := hm.regs; omega
  clear hx h hm eR hnr
  go_enter Tryz.func80, Tryz.ntmps80
  go_wp2_with fail
  refine HX.out.mono ?_
  rintro e w1 ⟨rfl, hb1⟩
  clear HX
  have h1 := HH.out.1.below hb1
  have H1 : Hid (AtP w1 lo b (.slice (some ⟨g, 0, none⟩) m.regs.length c) mv ov m ∧ Below lo w w1 ∧ lo ≤ w1.heap.size) := ⟨h1, hb1.mono HH.out.2, Nat.le_trans HH.out.2 hb1.size⟩
  obtain ⟨⟨z0, z1, z2, z3, z4, z5, z6, z7, z8, z9, z10, z11⟩, zf, zl⟩ := twelve_cells h1.box
  rw [hf] at z7
  have hne : ¬ b = w1.heap.size := by omega
  clear hf HH hb1 h1
  go_wp2_with fail
  rw [show w1.alloc (.cells #[.int .i64 2, .int .i64 a, .int .i64 k, .int .i64 n] 103) = w1.alloc (.cells #[.int .i64 2, .int .i64 a, .int .i64 k, .int .i64 n] 103) from rfl]
  have hx := Go.Deep.blk_alloc_new w1 (.cells #[.int .i64 2, .int .i64 a, .int .i64 k, .int .i64 n] 103)
  have hb2 := below_alloc w1 (.cells #[.int .i64 2, .int .i64 a, .int .i64 k, .int .i64 n] 103)
  have h2 := H1.out.1.below hb2
  have H2 : Hid (AtP _ lo b (.slice (some ⟨g, 0, none⟩) m.regs.length c) mv ov m ∧ Below lo w _ ∧ lo ≤ _) := ⟨h2, H1.out.2.1.trans (hb2.mono H1.out.2.2), Nat.le_trans H1.out.2.2 hb2.size⟩
  generalize w1.alloc (.cells #[.int .i64 2, .int .i64 a, .int .i64 k, .int .i64 n] 103) = W at hx hb2 h2 H2 ⊢
  clear z0 z1 z2 z3 z4 z5 z6 z7 z8 z9 z10 z11 zf zl hne
  obtain ⟨⟨z0, z1, z2, z3, z4, z5, z6, z7, z8, z9, z10, z11⟩, zf, zl⟩ := twelve_cells h2.box
  rw [HF.out] at z7
  obtain ⟨x0, x1, x2, x3, xf, xl⟩ := four_cells hx
  obtain ⟨q1, q4, q5⟩ := h2.reg_cell HM.out.regs k0 k7
  obtain ⟨q2, q4, q5⟩ := h2.reg_cell HM.out.regs (HNR.out (by decide)).1 (HNR.out (by decide)).2
  obtain ⟨q3, q4, q5⟩ := h2.reg_cell HM.out.regs a0 a7
  have gb : ¬ b = g := h2.ne_regs
  have gb2 : ¬ g = b := fun e => gb e.symm
  clear hx hb2 h2
  obtain ⟨u1, u2⟩ := wordB_iff.1 (reg_word HM.out ⟨k0, k7⟩)
  obtain ⟨v1, v2⟩ := wordB_iff.1 (reg_word HM.out (HNR.out (by decide)))
  have nn := (HNR.out (by decide)).1
  have nb : n < (m.regs.length : Int) := by have := HM.out.regs; have := (HNR.out (by decide)).2; omega
  obtain ⟨u, eu⟩ : ∃ u, u = m.reg k := ⟨_, rfl⟩
  obtain ⟨v, ev⟩ : ∃ v, v = m.reg n := ⟨_, rfl⟩
  rw [← eu] at q1 u1 u2
  rw [← ev] at q2 v1 v2
  have EU : Hid (u = m.reg k ∧ v = m.reg n) := ⟨eu, ev⟩
  clear eu ev
  have hwr : IntKind.i64.wrap (u + v) = u + v := IntWalk.i64_in _ (by omega)
  go_still_tail 25, (by kernel_rfl)
  still_call (Fold_same _ _ (by omega) (by omega))
  repeat still_step
  refine wpStill_nil ?_
  go_wp2_with fail
  refine (Fold_same _ _ (by omega) (by omega)).mono ?_
  rintro e w9 ⟨rfl, rfl⟩
  go_wp2_with fail
  go_ret
  rw [show R = (({ m with regs := m.regs.set a.toNat (foldF (u + v)), pc := foldF (m.pc + 1) } : Mach), -1) by rw [EU.out.1, EU.out.2]; exact ER.out]
  have r1 := H2.out.1.drew.putReg a.toNat (foldF (u + v))
  have r2 := r1.1.setPc (foldF (m.pc + 1))
  exact ⟨rfl, ⟨_, r2.1⟩, (H2.out.2.1.drew).trans (r1.2.trans r2.2)⟩

set_option maxRecDepth 100000 in
set_option maxHeartbeats 4000000 in
theorem doNext_3 (lo b : Nat) (rv mv ov : Value) (m : Mach) (a k n value : Int) (w : World) (h : AtP w lo b rv mv ov m) (hlo : lo ≤ w.heap.size) (hm : MayP m) (hf : m.fin = 0) (ha : 0 ≤ a ∧ a ≤ 7) (hk : 0 ≤ k ∧ k ≤ 7) (hn : -1048576 ≤ n ∧ n ≤ 1048575)
    (hnr : 3 = (2 : Int) ∨ 3 = (3 : Int) → 0 ≤ n ∧ n ≤ 7)
    (hx : Calls Tryz.prog 113 #[ptr b] w fun e w' => e = .returned (.tuple #[.agg #[.int .i64 3, .int .i64 a, .int .i64 k, .int .i64 n], .int .i64 0]) ∧ Below w.heap.size w w') :
    Calls Tryz.prog 80 #[ptr b, .int .i64 value] w fun e w' => e = .returned (.int .i64 (m.exec 3 a k n value).2) ∧ (∃ ov', AtP w' lo b rv mv ov' (m.exec 3 a k n value).1) ∧ Below lo w w' := by
  obtain ⟨R, eR⟩ : ∃ R, R = m.exec 3 a k n value := ⟨_, rfl⟩
  rw [← eR]
  obtain ⟨g, c, rfl, -, -, -⟩ := h.regs_at hm.regs
  obtain ⟨p1, p2⟩ := wordB_iff.1 hm.pc
  have HX : Hid (Calls Tryz.prog 113 #[ptr b] w fun e w' => e = .returned (.tuple #[.agg #[.int .i64 3, .int .i64 a, .int .i64 k, .int .i64 n], .int .i64 0]) ∧ Below w.heap.size w w') := hx
  have HM : Hid (MayP m) := hm
  have HF : Hid (m.fin = 0) := hf
  have HH : Hid (AtP w lo b (.slice (some ⟨g, 0, none⟩) m.regs.length c) mv ov m ∧ lo ≤ w.heap.size) := ⟨h, hlo⟩
  have HBD : Hid ((0 ≤ a ∧ a ≤ 7) ∧ (0 ≤ k ∧ k ≤ 7) ∧ (-1048576 ≤ n ∧ n ≤ 1048575)) := ⟨ha, hk, hn⟩
  have HNR : Hid (3 = (2 : Int) ∨ 3 = (3 : Int) → 0 ≤ n ∧ n ≤ 7) := hnr
  have ER : Hid (R = m.exec 3 a k n value) := eR
  obtain ⟨a0, a7⟩ := ha
  obtain ⟨k0, k7⟩ := hk
  obtain ⟨n0, n7⟩ := hn
  have ab : a < (m.regs.length : Int) := by have := hm.regs; omega
  have kb : k < (m.regs.length : Int) := by have := hm.regs; omega
  clear hx h hm eR hnr
  go_enter Tryz.func80, Tryz.ntmps80
  go_wp2_with fail
  refine HX.out.mono ?_
  rintro e w1 ⟨rfl, hb1⟩
  clear HX
  have h1 := HH.out.1.below hb1
  have H1 : Hid (AtP w1 lo b (.slice (some ⟨g, 0, none⟩) m.regs.length c) mv ov m ∧ Below lo w w1 ∧ lo ≤ w1.heap.size) := ⟨h1, hb1.mono HH.out.2, Nat.le_trans HH.out.2 hb1.size⟩
  obtain ⟨⟨z0, z1, z2, z3, z4, z5, z6, z7, z8, z9, z10, z11⟩, zf, zl⟩ := twelve_cells h1.box
  rw [hf] at z7
  have hne : ¬ b = w1.heap.size := by omega
  clear hf HH hb1 h1
  go_wp2_with fail
  rw [show w1.alloc (.cells #[.int .i64 3, .int .i64 a, .int .i64 k, .int .i64 n] 103) = w1.alloc (.cells #[.int .i64 3, .int .i64 a, .int .i64 k, .int .i64 n] 103) from rfl]
  have hx := Go.Deep.blk_alloc_new w1 (.cells #[.int .i64 3, .int .i64 a, .int .i64 k, .int .i64 n] 103)
  have hb2 := below_alloc w1 (.cells #[.int .i64 3, .int .i64 a, .int .i64 k, .int .i64 n] 103)
  have h2 := H1.out.1.below hb2
  have H2 : Hid (AtP _ lo b (.slice (some ⟨g, 0, none⟩) m.regs.length c) mv ov m ∧ Below lo w _ ∧ lo ≤ _) := ⟨h2, H1.out.2.1.trans (hb2.mono H1.out.2.2), Nat.le_trans H1.out.2.2 hb2.size⟩
  generalize w1.alloc (.cells #[.int .i64 3, .int .i64 a, .int .i64 k, .int .i64 n] 103) = W at hx hb2 h2 H2 ⊢
  clear z0 z1 z2 z3 z4 z5 z6 z7 z8 z9 z10 z11 zf zl hne
  obtain ⟨⟨z0, z1, z2, z3, z4, z5, z6, z7, z8, z9, z10, z11⟩, zf, zl⟩ := twelve_cells h2.box
  rw [HF.out] at z7
  obtain ⟨x0, x1, x2, x3, xf, xl⟩ := four_cells hx
  obtain ⟨q1, q4, q5⟩ := h2.reg_cell HM.out.regs k0 k7
  obtain ⟨q2, q4, q5⟩ := h2.reg_cell HM.out.regs (HNR.out (by decide)).1 (HNR.out (by decide)).2
  obtain ⟨q3, q4, q5⟩ := h2.reg_cell HM.out.regs a0 a7
  have gb : ¬ b = g := h2.ne_regs
  have gb2 : ¬ g = b := fun e => gb e.symm
  clear hx hb2 h2
  obtain ⟨u1, u2⟩ := wordB_iff.1 (reg_word HM.out ⟨k0, k7⟩)
  obtain ⟨v1, v2⟩ := wordB_iff.1 (reg_word HM.out (HNR.out (by decide)))
  have nn := (HNR.out (by decide)).1
  have nb : n < (m.regs.length : Int) := by have := HM.out.regs; have := (HNR.out (by decide)).2; omega
  obtain ⟨u, eu⟩ : ∃ u, u = m.reg k := ⟨_, rfl⟩
  obtain ⟨v, ev⟩ : ∃ v, v = m.reg n := ⟨_, rfl⟩
  rw [← eu] at q1 u1 u2
  rw [← ev] at q2 v1 v2
  have EU : Hid (u = m.reg k ∧ v = m.reg n) := ⟨eu, ev⟩
  clear eu ev
  have hwr : IntKind.i64.wrap (u - v) = u - v := IntWalk.i64_in _ (by omega)
  go_still_tail 25, (by kernel_rfl)
  still_call (Fold_same _ _ (by omega) (by omega))
  repeat still_step
  refine wpStill_nil ?_
  go_wp2_with fail
  refine (Fold_same _ _ (by omega) (by omega)).mono ?_
  rintro e w9 ⟨rfl, rfl⟩
  go_wp2_with fail
  go_ret
  rw [show R = (({ m with regs := m.regs.set a.toNat (foldF (u - v)), pc := foldF (m.pc + 1) } : Mach), -1) by rw [EU.out.1, EU.out.2]; exact ER.out]
  have r1 := H2.out.1.drew.putReg a.toNat (foldF (u - v))
  have r2 := r1.1.setPc (foldF (m.pc + 1))
  exact ⟨rfl, ⟨_, r2.1⟩, (H2.out.2.1.drew).trans (r1.2.trans r2.2)⟩

set_option maxRecDepth 100000 in
set_option maxHeartbeats 4000000 in
theorem doNext_4 (lo b : Nat) (rv mv ov : Value) (m : Mach) (a k n value : Int) (w : World) (h : AtP w lo b rv mv ov m) (hlo : lo ≤ w.heap.size) (hm : MayP m) (hf : m.fin = 0) (ha : 0 ≤ a ∧ a ≤ 7) (hk : 0 ≤ k ∧ k ≤ 7) (hn : -1048576 ≤ n ∧ n ≤ 1048575)
    (hnr : 4 = (2 : Int) ∨ 4 = (3 : Int) → 0 ≤ n ∧ n ≤ 7)
    (hx : Calls Tryz.prog 113 #[ptr b] w fun e w' => e = .returned (.tuple #[.agg #[.int .i64 4, .int .i64 a, .int .i64 k, .int .i64 n], .int .i64 0]) ∧ Below w.heap.size w w') :
    Calls Tryz.prog 80 #[ptr b, .int .i64 value] w fun e w' => e = .returned (.int .i64 (m.exec 4 a k n value).2) ∧ (∃ ov', AtP w' lo b rv mv ov' (m.exec 4 a k n value).1) ∧ Below lo w w' := by
  obtain ⟨R, eR⟩ : ∃ R, R = m.exec 4 a k n value := ⟨_, rfl⟩
  rw [← eR]
  obtain ⟨g, c, rfl, -, -, -⟩ := h.regs_at hm.regs
  obtain ⟨p1, p2⟩ := wordB_iff.1 hm.pc
  have HX : Hid (Calls Tryz.prog 113 #[ptr b] w fun e w' => e = .returned (.tuple #[.agg #[.int .i64 4, .int .i64 a, .int .i64 k, .int .i64 n], .int .i64 0]) ∧ Below w.heap.size w w') := hx
  have HM : Hid (MayP m) := hm
  have HF : Hid (m.fin = 0) := hf
  have HH : Hid (AtP w lo b (.slice (some ⟨g, 0, none⟩) m.regs.length c) mv ov m ∧ lo ≤ w.heap.size) := ⟨h, hlo⟩
  have HBD : Hid ((0 ≤ a ∧ a ≤ 7) ∧ (0 ≤ k ∧ k ≤ 7) ∧ (-1048576 ≤ n ∧ n ≤ 1048575)) := ⟨ha, hk, hn⟩
  have HNR : Hid (4 = (2 : Int) ∨ 4 = (3 : Int) → 0 ≤ n ∧ n ≤ 7) := hnr
  have ER : Hid (R = m.exec 4 a k n value) := eR
  obtain ⟨a0, a7⟩ := ha
  obtain ⟨k0, k7⟩ := hk
  obtain ⟨n0, n7⟩ := hn
  have ab : a < (m.regs.length : Int) := by have := hm.regs; omega
  have kb : k < (m.regs.length : Int) := by have := hm.regs; omega
  clear hx h hm eR hnr
  go_enter Tryz.func80, Tryz.ntmps80
  go_wp2_with fail
  refine HX.out.mono ?_
  rintro e w1 ⟨rfl, hb1⟩
  clear HX
  have h1 := HH.out.1.below hb1
  have H1 : Hid (AtP w1 lo b (.slice (some ⟨g, 0, none⟩) m.regs.length c) mv ov m ∧ Below lo w w1 ∧ lo ≤ w1.heap.size) := ⟨h1, hb1.mono HH.out.2, Nat.le_trans HH.out.2 hb1.size⟩
  obtain ⟨⟨z0, z1, z2, z3, z4, z5, z6, z7, z8, z9, z10, z11⟩, zf, zl⟩ := twelve_cells h1.box
  rw [hf] at z7
  have hne : ¬ b = w1.heap.size := by omega
  clear hf HH hb1 h1
  go_wp2_with fail
  rw [show w1.alloc (.cells #[.int .i64 4, .int .i64 a, .int .i64 k, .int .i64 n] 103) = w1.alloc (.cells #[.int .i64 4, .int .i64 a, .int .i64 k, .int .i64 n] 103) from rfl]
  have hx := Go.Deep.blk_alloc_new w1 (.cells #[.int .i64 4, .int .i64 a, .int .i64 k, .int .i64 n] 103)
  have hb2 := below_alloc w1 (.cells #[.int .i64 4, .int .i64 a, .int .i64 k, .int .i64 n] 103)
  have h2 := H1.out.1.below hb2
  have H2 : Hid (AtP _ lo b (.slice (some ⟨g, 0, none⟩) m.regs.length c) mv ov m ∧ Below lo w _ ∧ lo ≤ _) := ⟨h2, H1.out.2.1.trans (hb2.mono H1.out.2.2), Nat.le_trans H1.out.2.2 hb2.size⟩
  generalize w1.alloc (.cells #[.int .i64 4, .int .i64 a, .int .i64 k, .int .i64 n] 103) = W at hx hb2 h2 H2 ⊢
  clear z0 z1 z2 z3 z4 z5 z6 z7 z8 z9 z10 z11 zf zl hne
  obtain ⟨⟨z0, z1, z2, z3, z4, z5, z6, z7, z8, z9, z10, z11⟩, zf, zl⟩ := twelve_cells h2.box
  rw [HF.out] at z7
  obtain ⟨x0, x1, x2, x3, xf, xl⟩ := four_cells hx
  obtain ⟨q1, q4, q5⟩ := h2.reg_cell HM.out.regs k0 k7
  obtain ⟨q3, q4, q5⟩ := h2.reg_cell HM.out.regs a0 a7
  have gb : ¬ b = g := h2.ne_regs
  have gb2 : ¬ g = b := fun e => gb e.symm
  clear hx hb2 h2
  obtain ⟨u1, u2⟩ := wordB_iff.1 (reg_word HM.out ⟨k0, k7⟩)
  obtain ⟨u, eu⟩ : ∃ u, u = m.reg k := ⟨_, rfl⟩
  rw [← eu] at q1 u1 u2
  have EU : Hid (u = m.reg k) := eu
  clear eu
  have hwr : IntKind.i64.wrap (u + n) = u + n := IntWalk.i64_in _ (by omega)
  go_still_tail 19, (by kernel_rfl)
  still_call (Fold_same _ _ (by omega) (by omega))
  repeat still_step
  refine wpStill_nil ?_
  go_wp2_with fail
  refine (Fold_same _ _ (by omega) (by omega)).mono ?_
  rintro e w9 ⟨rfl, rfl⟩
  go_wp2_with fail
  go_ret
  rw [show R = (({ m with regs := m.regs.set a.toNat (foldF (u + n)), pc := foldF (m.pc + 1) } : Mach), -1) by rw [EU.out]; exact ER.out]
  have r1 := H2.out.1.drew.putReg a.toNat (foldF (u + n))
  have r2 := r1.1.setPc (foldF (m.pc + 1))
  exact ⟨rfl, ⟨_, r2.1⟩, (H2.out.2.1.drew).trans (r1.2.trans r2.2)⟩

end Go.Proofs.YtecpblabaelopaaGreatDoor
