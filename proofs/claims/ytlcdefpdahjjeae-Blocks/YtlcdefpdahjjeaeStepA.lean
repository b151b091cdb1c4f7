/- Contract of cpu.comeAhead: an interrupt, and a block, ahead of an instruction. -/
import Derived.Test.YtlcdefpdahjjeaeStepB
namespace Go.Proofs.Ytlcdefpdahjjeae
open Go.RowKit

set_option maxHeartbeats 1000000 in
theorem comeAhead_any (lo b : Nat) (rv mv ov : Value) (m : Mach) (irq : Bool) (B : Option Addr) (cb : Nat) (blk : List Int) (w : World) (h : AtP w lo b rv mv ov m) (hb : ∀ w', Below lo w w' → IntsAt w' (.slice B blk.length cb) blk)
    (hm : m.mem.length = 256) (hw : -1 ≤ m.want ∧ m.want ≤ 15) (hl : blk.length = 0 ∨ blk.length = 16) :
    Calls Try.prog 17 #[ptr b, .bool irq, .slice B blk.length cb] w fun e w' => e = .returned (.tuple #[]) ∧ AtP w' lo b rv mv ov (m.told irq blk).enter ∧ Below lo w w' := by
  have H : Hid (AtP w lo b rv mv ov m ∧ ∀ w', Below lo w w' → IntsAt w' (.slice B blk.length cb) blk) := ⟨h, hb⟩
  have HM : Hid (m.mem.length = 256 ∧ (-1 ≤ m.want ∧ m.want ≤ 15) ∧ (blk.length = 0 ∨ blk.length = 16)) := ⟨hm, hw, hl⟩
  obtain ⟨⟨z0, z1, z2, z3, z4, z5, z6, z7, z8, z9, z10, z11⟩, zf, zl⟩ := twelve_cells h.box
  clear h hb hm hw hl
  cases irq with
  | false =>
    have HT : Hid ((m : Mach).taken blk = m.told false blk) := by show _ = _; rw [told_taken]; simp
    go_enter Try.func17, Try.ntmps17
    go_wp2_with fail
    refine (takeBlock_any lo b rv mv ov m B cb blk w H.out.1 (H.out.2 _ (Below.refl _ _)) HM.out.1 HM.out.2.1 HM.out.2.2).mono ?_
    rintro e w4 ⟨rfl, h4, hb4⟩
    rw [HT.out] at h4
    have H4 : Hid (AtP w4 lo b rv mv ov (m.told false blk) ∧ Below lo w w4) := ⟨h4, hb4⟩
    clear h4 hb4 z0 z1 z2 z3 z4 z5 z6 z7 z8 z9 z10 z11 zf zl
    go_wp2_with fail
    refine (letIn_any lo b _ _ _ _ _ H4.out.1).mono ?_
    rintro e w5 ⟨rfl, h5, hb5⟩
    have H5 : Hid (AtP w5 lo b rv mv ov (m.told false blk).enter ∧ Below lo w w5) := ⟨h5, H4.out.2.trans hb5⟩
    clear h5 hb5
    go_wp2_with fail
    first | go_end0 | refine bodyPost_ret (results_none rfl _ _ _) rfl ?_
    exact ⟨rfl, H5.out⟩
  | true =>
    have HT : Hid (({ m with wait := true } : Mach).taken blk = m.told true blk) := by show _ = _; rw [told_taken]; simp
    have HS : Hid (AtP (w.setCell ⟨b, 4, none⟩ (.bool true)) lo b rv mv ov { m with wait := true } ∧ Below lo w (w.setCell ⟨b, 4, none⟩ (.bool true))) := H.out.1.setWait true
    go_enter Try.func17, Try.ntmps17
    go_wp2_with fail
    refine (takeBlock_any lo b rv mv ov { m with wait := true } B cb blk _ HS.out.1 (H.out.2 _ HS.out.2) HM.out.1 HM.out.2.1 HM.out.2.2).mono ?_
    rintro e w4 ⟨rfl, h4, hb4⟩
    rw [HT.out] at h4
    have H4 : Hid (AtP w4 lo b rv mv ov (m.told true blk) ∧ Below lo w w4) := ⟨h4, HS.out.2.trans hb4⟩
    clear h4 hb4 z0 z1 z2 z3 z4 z5 z6 z7 z8 z9 z10 z11 zf zl
    go_wp2_with fail
    refine (letIn_any lo b _ _ _ _ _ H4.out.1).mono ?_
    rintro e w5 ⟨rfl, h5, hb5⟩
    have H5 : Hid (AtP w5 lo b rv mv ov (m.told true blk).enter ∧ Below lo w w5) := ⟨h5, H4.out.2.trans hb5⟩
    clear h5 hb5
    go_wp2_with fail
    first | go_end0 | refine bodyPost_ret (results_none rfl _ _ _) rfl ?_
    exact ⟨rfl, H5.out⟩

end Go.Proofs.Ytlcdefpdahjjeae
