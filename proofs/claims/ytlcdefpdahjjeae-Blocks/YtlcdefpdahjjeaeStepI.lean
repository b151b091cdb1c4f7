/- Contracts of cpu.askBlock, letIn. -/
import Derived.Test.YtlcdefpdahjjeaeStepS
namespace Go.Proofs.Ytlcdefpdahjjeae
open Go.RowKit

set_option maxHeartbeats 400000 in
theorem askBlock_any (lo b : Nat) (rv mv ov : Value) (m : Mach) (x : Int) (w : World) (h : AtP w lo b rv mv ov m) (hlo : lo ≤ w.heap.size) :
    Calls Try.prog 40 #[ptr b, .int .i64 x] w fun e w' => e = .returned (.tuple #[]) ∧ AtP w' lo b rv mv ov (m.asked x) ∧ Below lo w w' := by
  have H : Hid (AtP w lo b rv mv ov m) := h
  cases c : inB x 0 15 with
  | false =>
    have HT : Hid (m.asked x = { m with fin := 3 }) := by show _ = _; simp [Mach.asked, c]
    rw [HT.out]
    clear h HT
    go_enter Try.func40, Try.ntmps40
    go_wp2_with fail
    refine (outside_any _ _ _).mono ?_
    rintro e w1 ⟨p, q, rfl, hc, hb⟩
    have HC : Hid (CloAt w1 p q 0 15) := hc
    have h1 := H.out.below hb
    have HB : Hid (Below lo w w1) := hb.mono hlo
    obtain ⟨⟨z0, z1, z2, z3, z4, z5, z6, z7, z8, z9, z10, z11⟩, zf, zl⟩ := twelve_cells h1.box
    have H1 : Hid (AtP w1 lo b rv mv ov m) := h1
    clear hc hb h1
    go_wp2_with (go_at_call 42; refine (clo_any _ 0 15 _ _ _ HC.out).mono ?_; rw [c]; rintro e w1 ⟨rfl, rfl⟩)
    first | go_end0 | refine bodyPost_ret (results_none rfl _ _ _) rfl ?_
    exact ⟨rfl, (H1.out.setFin 3).1, HB.out.trans ((H1.out.setFin 3).2)⟩
  | true =>
  cases c2 : m.want == -1 with
  | false =>
    have HT : Hid (m.asked x = m) := by show _ = _; simp only [Mach.asked, c, c2]; rfl
    rw [HT.out]
    clear h HT
    go_enter Try.func40, Try.ntmps40
    go_wp2_with fail
    refine (outside_any _ _ _).mono ?_
    rintro e w1 ⟨p, q, rfl, hc, hb⟩
    have HC : Hid (CloAt w1 p q 0 15) := hc
    have h1 := H.out.below hb
    have HB : Hid (Below lo w w1) := hb.mono hlo
    obtain ⟨⟨z0, z1, z2, z3, z4, z5, z6, z7, z8, z9, z10, z11⟩, zf, zl⟩ := twelve_cells h1.box
    have H1 : Hid (AtP w1 lo b rv mv ov m) := h1
    clear hc hb h1
    go_wp2_with (go_at_call 42; refine (clo_any _ 0 15 _ _ _ HC.out).mono ?_; rw [c]; rintro e w1 ⟨rfl, rfl⟩)
    first | go_end0 | refine bodyPost_ret (results_none rfl _ _ _) rfl ?_
    exact ⟨rfl, H1.out, HB.out⟩
  | true =>
    have HT : Hid (m.asked x = { m with want := x, ready := 0 }) := by show _ = _; simp only [Mach.asked, c, c2]; rfl
    rw [HT.out]
    clear h HT
    go_enter Try.func40, Try.ntmps40
    go_wp2_with fail
    refine (outside_any _ _ _).mono ?_
    rintro e w1 ⟨p, q, rfl, hc, hb⟩
    have HC : Hid (CloAt w1 p q 0 15) := hc
    have h1 := H.out.below hb
    have HB : Hid (Below lo w w1) := hb.mono hlo
    obtain ⟨⟨z0, z1, z2, z3, z4, z5, z6, z7, z8, z9, z10, z11⟩, zf, zl⟩ := twelve_cells h1.box
    have H1 : Hid (AtP w1 lo b rv mv ov m) := h1
    clear hc hb h1
    go_wp2_with (go_at_call 42; refine (clo_any _ 0 15 _ _ _ HC.out).mono ?_; rw [c]; rintro e w1 ⟨rfl, rfl⟩)
    first | go_end0 | refine bodyPost_ret (results_none rfl _ _ _) rfl ?_
    exact ⟨rfl, ((H1.out.setWant x).1.setReady 0).1, (HB.out.trans (H1.out.setWant x).2).trans ((H1.out.setWant x).1.setReady 0).2⟩

set_option maxHeartbeats 400000 in
theorem letIn_any (lo b : Nat) (rv mv ov : Value) (m : Mach) (w : World) (h : AtP w lo b rv mv ov m) :
    Calls Try.prog 26 #[ptr b] w fun e w' => e = .returned (.tuple #[]) ∧ AtP w' lo b rv mv ov m.enter ∧ Below lo w w' := by
  have H : Hid (AtP w lo b rv mv ov m) := h
  obtain ⟨⟨z0, z1, z2, z3, z4, z5, z6, z7, z8, z9, z10, z11⟩, zf, zl⟩ := twelve_cells h.box
  cases c : m.wait with
  | false =>
    have HT : Hid (m.enter = m) := by show _ = _; simp [Mach.enter, c]
    rw [HT.out]
    rw [c] at z4
    clear h HT
    go_enter Try.func26, Try.ntmps26
    go_wp2_with fail
    first | go_end0 | refine bodyPost_ret (results_none rfl _ _ _) rfl ?_
    exact ⟨rfl, H.out, Below.refl _ _⟩
  | true =>
  cases c2 : m.ints with
  | false =>
    have HT : Hid (m.enter = m) := by show _ = _; simp [Mach.enter, c2]
    rw [HT.out]
    rw [c] at z4
    rw [c2] at z3
    clear h HT
    go_enter Try.func26, Try.ntmps26
    go_wp2_with fail
    first | go_end0 | refine bodyPost_ret (results_none rfl _ _ _) rfl ?_
    exact ⟨rfl, H.out, Below.refl _ _⟩
  | true =>
    have HT : Hid (m.enter = { m with wait := false, ints := false, back := m.pc, pc := 8 }) := by show _ = _; simp [Mach.enter, c, c2]
    rw [HT.out]
    rw [c] at z4
    rw [c2] at z3
    have a1 := h.setWait false
    have a2 := a1.1.setInts false
    have a3 := a2.1.setBack m.pc
    have a4 := a3.1.setPc 8
    have HA : Hid (AtP _ lo b rv mv ov _ ∧ Below lo w _) := ⟨a4.1, ((a1.2.trans a2.2).trans a3.2).trans a4.2⟩
    clear h HT a1 a2 a3 a4
    go_enter Try.func26, Try.ntmps26
    go_wp2_with fail
    first | go_end0 | refine bodyPost_ret (results_none rfl _ _ _) rfl ?_
    exact ⟨rfl, HA.out⟩

end Go.Proofs.Ytlcdefpdahjjeae
