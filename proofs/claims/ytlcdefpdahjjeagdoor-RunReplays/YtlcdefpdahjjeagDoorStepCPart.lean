/- Contracts of cpu.checkStep and Step. -/
import Derived.Test.YtlcdefpdahjjeagDoorDoEPart
import Derived.Test.YtlcdefpdahjjeagDoorCpuMPart
import Derived.Test.YtlcdefpdahjjeagDoorCpuWordsPart
import Derived.Test.YtlcdefpdahjjeagDoorStepOPart
namespace Go.Proofs.YtlcdefpdahjjeagDoor
open Go.RowKit
set_option maxRecDepth 100000
set_option linter.unusedVariables false

/-- What is wrong with a step. -/
def stepNo (m : Mach) (blk : List Int) (value : Int) : Int :=
  if !m.may then 8 else if decide (blk.length ≠ 0) && decide (blk.length ≠ 16) then 1 else if !allB blk || !wordB value || m.count == 1099511627776 then 2 else 0

set_option maxHeartbeats 2000000 in
theorem checkStep_any (m : Mach) (rv mv ov : Value) (B : Option Addr) (cb : Nat) (blk : List Int) (value : Int) (w : World) (ha : MachAt w rv mv ov m) (hb : IntsAt w (.slice B blk.length cb) blk) :
    Calls Tryd.prog 51 #[.agg (m.cells rv mv ov), .slice B blk.length cb, .int .i64 value] w fun e w' => e = .returned (.int .i64 (stepNo m blk value)) ∧ Below w.heap.size w w' := by
  obtain ⟨N, eN⟩ : ∃ N, N = stepNo m blk value := ⟨_, rfl⟩
  rw [← eN]
  have hcm := CheckMachine_no m rv mv ov (w.alloc (.cells (m.cells rv mv ov) 30)) (ha.below (below_alloc _ _))
  have HB : Hid (IntsAt w (.slice B blk.length cb) blk) := hb
  have hx := Go.Deep.blk_alloc_new w (.cells (m.cells rv mv ov) 30)
  have hbw := below_alloc w (.cells (m.cells rv mv ov) 30)
  obtain ⟨W, hW⟩ : ∃ W, W = w.alloc (.cells (m.cells rv mv ov) 30) := ⟨_, rfl⟩
  rw [← hW] at hx hbw hcm
  have HX : Hid (W.heap[w.heap.size]? = some (.cells (m.cells rv mv ov) 30 (0, 0)) ∧ Below w.heap.size w W) := ⟨hx, hbw⟩
  have HW : Hid (W = w.alloc (.cells (m.cells rv mv ov) 30)) := hW
  obtain ⟨A1, c1, A2, c2, A3, c3, rfl, rfl, rfl⟩ := ha.shape
  clear hb hx hbw hW ha
  cases g0 : m.may with
  | false =>
    have HN : Hid (8 = N) := by show _ = _; rw [eN]; simp [stepNo, g0]
    rw [show mayNoM m = 8 by simp [mayNoM, g0]] at hcm
    have HC : Hid (Calls Tryd.prog 21 #[.agg (m.cells (.slice A1 m.regs.length c1) (.slice A2 m.mem.length c2) (.slice A3 m.out.length c3))] W fun e w' => e = .returned (.int .i64 8) ∧ Below W.heap.size W w') := hcm
    clear hcm g0 eN
    simp only [Mach.cells] at *
    go_enter Tryd.func51, Tryd.ntmps51
    go_wp2_with fail
    rw [← HW.out]
    refine HC.out.mono ?_
    rintro e w1 ⟨rfl, hb1⟩
    have HB1 : Hid (Below w.heap.size w w1) := HX.out.2.trans (hb1.mono HX.out.2.size)
    clear hb1 HC
    go_wp2_with fail
    go_ret
    exact ⟨ret_int HN.out, HB1.out⟩
  | true =>
  rw [show mayNoM m = 0 by simp [mayNoM, g0]] at hcm
  have HC : Hid (Calls Tryd.prog 21 #[.agg (m.cells (.slice A1 m.regs.length c1) (.slice A2 m.mem.length c2) (.slice A3 m.out.length c3))] W fun e w' => e = .returned (.int .i64 0) ∧ Below W.heap.size W w') := hcm
  have EN : Hid (N = if decide (blk.length ≠ 0) && decide (blk.length ≠ 16) then 1 else if !allB blk || !wordB value || m.count == 1099511627776 then 2 else 0) := by show _ = _; rw [eN]; simp only [stepNo, g0]; rfl
  clear hcm g0 eN
  by_cases l0 : blk.length = 0
  case' pos => have d0 : ((blk.length : Int) != 0) = false := by simp [l0]
  case' neg => have d0 : ((blk.length : Int) != 0) = true := by simp [l0]
  case neg =>
    by_cases l1 : blk.length = 16
    case neg =>
      have d1 : ((blk.length : Int) != 16) = true := by simp; omega
      have HN : Hid (1 = N) := by show _ = _; rw [EN.out]; simp [l0, l1]
      clear EN l0 l1
      simp only [Mach.cells] at *
      go_enter Tryd.func51, Tryd.ntmps51
      go_wp2_with fail
      rw [← HW.out]
      refine HC.out.mono ?_
      rintro e w1 ⟨rfl, hb1⟩
      have HB1 : Hid (Below w.heap.size w w1) := HX.out.2.trans (hb1.mono HX.out.2.size)
      clear hb1 HC
      go_wp2_with fail
      go_ret
      exact ⟨ret_int HN.out, HB1.out⟩
    have d1 : ((blk.length : Int) != 16) = false := by simp [l1]
    have EM : Hid (N = if !allB blk || !wordB value || m.count == 1099511627776 then 2 else 0) := by show _ = _; rw [EN.out]; simp [l1]
    clear EN l0 l1
    simp only [Mach.cells] at *
    go_enter Tryd.func51, Tryd.ntmps51
    go_wp2_with fail
    rw [← HW.out]
    refine HC.out.mono ?_
    rintro e w1 ⟨rfl, hb1⟩
    obtain ⟨hx1, hbb1⟩ := box_below HX.out.1 HX.out.2 hb1
    have HX1 : Hid (_ ∧ Below w.heap.size w w1) := ⟨hx1, hbb1⟩
    clear hb1 HC HX HW hx1 hbb1
    go_wp2_with fail
    refine (haveNoWord_any _ blk _ (HB.out.below HX1.out.2)).mono ?_
    cases g1 : allB blk with
    | false =>
      rintro e w2 ⟨rfl, hb2⟩
      have HN : Hid (2 = N) := by show _ = _; rw [EM.out, g1]; rfl
      have HB2 : Hid (Below w.heap.size w w2) := HX1.out.2.trans (hb2.mono HX1.out.2.size)
      clear hb2 g1 EM
      go_wp2_with fail
      go_ret
      exact ⟨ret_int HN.out, HB2.out⟩
    | true =>
    rintro e w2 ⟨rfl, hb2⟩
    obtain ⟨hx2, hbb2⟩ := box_below HX1.out.1 HX1.out.2 hb2
    have HX2 : Hid (_ ∧ Below w.heap.size w w2) := ⟨hx2, hbb2⟩
    have G1 : Hid (allB blk = true) := g1
    clear hb2 HX1 hx2 hbb2 g1
    go_wp2_with fail
    refine (isNoWord_any _).mono ?_
    rintro e w3 ⟨p, q, rfl, hc, hb3⟩
    obtain ⟨hx3, hbb3⟩ := box_below HX2.out.1 HX2.out.2 hb3
    have HC : Hid (CloAt w3 p q (-1099511627776) 1099511627776) := hc
    obtain ⟨⟨z0, z1, z2, z3, z4, z5, z6, z7, z8, z9, z10, z11⟩, zf, zl⟩ := twelve_cells hx3
    have HB3 : Hid (Below w.heap.size w w3) := hbb3
    clear hc hb3 HX2 hx3 hbb3
    go_wp2_with fail
    refine (word_clo value p q _ HC.out).mono ?_
    cases g2 : wordB value with
    | false =>
      rintro e w3 ⟨rfl, rfl⟩
      have HN : Hid (2 = N) := by show _ = _; rw [EM.out, G1.out, g2]; rfl
      clear g2 EM
      go_wp2_with fail
      go_ret
      exact ⟨ret_int HN.out, HB3.out⟩
    | true =>
    rintro e w3 ⟨rfl, rfl⟩
    have G2 : Hid (wordB value = true) := g2
    clear g2
    cases g3 : m.count == 1099511627776 with
    | true =>
      have HN : Hid (2 = N) := by show _ = _; rw [EM.out, G1.out, G2.out, g3]; rfl
      clear EM
      go_wp2_with fail
      go_ret
      exact ⟨ret_int HN.out, HB3.out⟩
    | false =>
      have HN : Hid (0 = N) := by show _ = _; rw [EM.out, G1.out, G2.out, g3]; rfl
      clear EM
      go_wp2_with fail
      go_ret
      exact ⟨ret_int HN.out, HB3.out⟩
  have EM : Hid (N = if !allB blk || !wordB value || m.count == 1099511627776 then 2 else 0) := by show _ = _; rw [EN.out]; simp [l0]
  clear EN l0
  simp only [Mach.cells] at *
  go_enter Tryd.func51, Tryd.ntmps51
  go_wp2_with fail
  rw [← HW.out]
  refine HC.out.mono ?_
  rintro e w1 ⟨rfl, hb1⟩
  obtain ⟨hx1, hbb1⟩ := box_below HX.out.1 HX.out.2 hb1
  have HX1 : Hid (_ ∧ Below w.heap.size w w1) := ⟨hx1, hbb1⟩
  clear hb1 HC HX HW hx1 hbb1
  go_wp2_with fail
  refine (haveNoWord_any _ blk _ (HB.out.below HX1.out.2)).mono ?_
  cases g1 : allB blk with
  | false =>
    rintro e w2 ⟨rfl, hb2⟩
    have HN : Hid (2 = N) := by show _ = _; rw [EM.out, g1]; rfl
    have HB2 : Hid (Below w.heap.size w w2) := HX1.out.2.trans (hb2.mono HX1.out.2.size)
    clear hb2 g1 EM
    go_wp2_with fail
    go_ret
    exact ⟨ret_int HN.out, HB2.out⟩
  | true =>
  rintro e w2 ⟨rfl, hb2⟩
  obtain ⟨hx2, hbb2⟩ := box_below HX1.out.1 HX1.out.2 hb2
  have HX2 : Hid (_ ∧ Below w.heap.size w w2) := ⟨hx2, hbb2⟩
  have G1 : Hid (allB blk = true) := g1
  clear hb2 HX1 hx2 hbb2 g1
  go_wp2_with fail
  refine (isNoWord_any _).mono ?_
  rintro e w3 ⟨p, q, rfl, hc, hb3⟩
  obtain ⟨hx3, hbb3⟩ := box_below HX2.out.1 HX2.out.2 hb3
  have HC : Hid (CloAt w3 p q (-1099511627776) 1099511627776) := hc
  obtain ⟨⟨z0, z1, z2, z3, z4, z5, z6, z7, z8, z9, z10, z11⟩, zf, zl⟩ := twelve_cells hx3
  have HB3 : Hid (Below w.heap.size w w3) := hbb3
  clear hc hb3 HX2 hx3 hbb3
  go_wp2_with fail
  refine (word_clo value p q _ HC.out).mono ?_
  cases g2 : wordB value with
  | false =>
    rintro e w3 ⟨rfl, rfl⟩
    have HN : Hid (2 = N) := by show _ = _; rw [EM.out, G1.out, g2]; rfl
    clear g2 EM
    go_wp2_with fail
    go_ret
    exact ⟨ret_int HN.out, HB3.out⟩
  | true =>
  rintro e w3 ⟨rfl, rfl⟩
  have G2 : Hid (wordB value = true) := g2
  clear g2
  cases g3 : m.count == 1099511627776 with
  | true =>
    have HN : Hid (2 = N) := by show _ = _; rw [EM.out, G1.out, G2.out, g3]; rfl
    clear EM
    go_wp2_with fail
    go_ret
    exact ⟨ret_int HN.out, HB3.out⟩
  | false =>
    have HN : Hid (0 = N) := by show _ = _; rw [EM.out, G1.out, G2.out, g3]; rfl
    clear EM
    go_wp2_with fail
    go_ret
    exact ⟨ret_int HN.out, HB3.out⟩

end Go.Proofs.YtlcdefpdahjjeagDoor

/- Contract of cpu.comeAhead: an interrupt, and a block, ahead of an instruction. -/

namespace Go.Proofs.YtlcdefpdahjjeagDoor
open Go.RowKit

set_option maxHeartbeats 1000000 in
theorem comeAhead_any (lo b : Nat) (rv mv ov : Value) (m : Mach) (irq : Bool) (B : Option Addr) (cb : Nat) (blk : List Int) (w : World) (h : AtP w lo b rv mv ov m) (hb : ∀ w', Below lo w w' → IntsAt w' (.slice B blk.length cb) blk)
    (hm : m.mem.length = 256) (hw : -1 ≤ m.want ∧ m.want ≤ 15) (hl : blk.length = 0 ∨ blk.length = 16) :
    Calls Tryd.prog 53 #[ptr b, .bool irq, .slice B blk.length cb] w fun e w' => e = .returned (.tuple #[]) ∧ AtP w' lo b rv mv ov (m.told irq blk).enter ∧ Below lo w w' := by
  have H : Hid (AtP w lo b rv mv ov m ∧ ∀ w', Below lo w w' → IntsAt w' (.slice B blk.length cb) blk) := ⟨h, hb⟩
  have HM : Hid (m.mem.length = 256 ∧ (-1 ≤ m.want ∧ m.want ≤ 15) ∧ (blk.length = 0 ∨ blk.length = 16)) := ⟨hm, hw, hl⟩
  obtain ⟨⟨z0, z1, z2, z3, z4, z5, z6, z7, z8, z9, z10, z11⟩, zf, zl⟩ := twelve_cells h.box
  clear h hb hm hw hl
  cases irq with
  | false =>
    have HT : Hid ((m : Mach).taken blk = m.told false blk) := by show _ = _; rw [told_taken]; simp
    go_enter Tryd.func53, Tryd.ntmps53
    go_wp2_with fail
    refine (takeBlock_any lo b rv mv ov m B cb blk w H.out.1 (H.out.2 _ (Below.refl _ _)) HM.out.1 HM.out.2.1 HM.out.2.2).mono ?_
    rintro e w4 ⟨rfl, h4, hb4⟩
    rw [HT.out] at h4
    have H4 : Hid (AtP w4 lo b rv mv ov (m.told false blk) ∧ Below lo w w4) := ⟨h4, hb4⟩
    clear h4 hb4 z0 z1 z2 z3 z4 z5 z6 z7 z8 z9 z10 z11 zf zl
    go_wp2_with fail
    refine (letIn_any lo b _ _ _ _ _ H4.out.1).mono ?_
    rintro e w5 ⟨rfl, h5, hb5⟩
    have H5 : Hid (AtP w5 lo b rv mv ov (m.told false blk).enter ∧ Below lo w w5) := ⟨h5, H4.out.2.trans hb5⟩
    clear h5 hb5
    go_wp2_with fail
    first | go_end0 | refine bodyPost_ret (results_none rfl _ _ _) rfl ?_
    exact ⟨rfl, H5.out⟩
  | true =>
    have HT : Hid (({ m with wait := true } : Mach).taken blk = m.told true blk) := by show _ = _; rw [told_taken]; simp
    have HS : Hid (AtP (w.setCell ⟨b, 4, none⟩ (.bool true)) lo b rv mv ov { m with wait := true } ∧ Below lo w (w.setCell ⟨b, 4, none⟩ (.bool true))) := H.out.1.setWait true
    go_enter Tryd.func53, Tryd.ntmps53
    go_wp2_with fail
    refine (takeBlock_any lo b rv mv ov { m with wait := true } B cb blk _ HS.out.1 (H.out.2 _ HS.out.2) HM.out.1 HM.out.2.1 HM.out.2.2).mono ?_
    rintro e w4 ⟨rfl, h4, hb4⟩
    rw [HT.out] at h4
    have H4 : Hid (AtP w4 lo b rv mv ov (m.told true blk) ∧ Below lo w w4) := ⟨h4, HS.out.2.trans hb4⟩
    clear h4 hb4 z0 z1 z2 z3 z4 z5 z6 z7 z8 z9 z10 z11 zf zl
    go_wp2_with fail
    refine (letIn_any lo b _ _ _ _ _ H4.out.1).mono ?_
    rintro e w5 ⟨rfl, h5, hb5⟩
    have H5 : Hid (AtP w5 lo b rv mv ov (m.told true blk).enter ∧ Below lo w w5) := ⟨h5, H4.out.2.trans hb5⟩
    clear h5 hb5
    go_wp2_with fail
    first | go_end0 | refine bodyPost_ret (results_none rfl _ _ _) rfl ?_
    exact ⟨rfl, H5.out⟩

end Go.Proofs.YtlcdefpdahjjeagDoor
