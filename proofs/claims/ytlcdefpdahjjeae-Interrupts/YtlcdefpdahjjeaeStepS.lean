/- Contracts of cpu.setTable, askBlock, jumps, letIn. -/
import Derived.Test.YtlcdefpdahjjeaePtr
namespace Go.Proofs.Ytlcdefpdahjjeae
open Go.RowKit

/-- What Map does with a word. -/
def Mach.tabled (m : Mach) (x : Int) : Mach := if inB x (-1) 15 then { m with table := x } else { m with fin := 3 }
/-- What Disk does with a word. -/
def Mach.asked (m : Mach) (x : Int) : Mach := if inB x 0 15 then (if m.want == -1 then { m with want := x, ready := 0 } else m) else { m with fin := 3 }
/-- Does an operator go on elsewhere? -/
def jumpB (op x : Int) : Bool := if op == 7 then x == 0 else if op == 8 then decide (x < 0) else true

set_option maxHeartbeats 400000 in
theorem setTable_any (lo b : Nat) (rv mv ov : Value) (m : Mach) (x : Int) (w : World) (h : AtP w lo b rv mv ov m) (hlo : lo ≤ w.heap.size) :
    Calls Try.prog 33 #[ptr b, .int .i64 x] w fun e w' => e = .returned (.tuple #[]) ∧ AtP w' lo b rv mv ov (m.tabled x) ∧ Below lo w w' := by
  have H : Hid (AtP w lo b rv mv ov m) := h
  cases c : inB x (-1) 15 with
  | false =>
    have HT : Hid (m.tabled x = { m with fin := 3 }) := by show _ = _; simp [Mach.tabled, c]
    rw [HT.out]
    clear h HT
    go_enter Try.func33, Try.ntmps33
    go_wp2_with fail
    refine (outside_any _ _ _).mono ?_
    rintro e w1 ⟨p, q, rfl, hc, hb⟩
    have HC : Hid (CloAt w1 p q (-1) 15) := hc
    have h1 := H.out.below hb
    have HB : Hid (Below lo w w1) := hb.mono hlo
    obtain ⟨⟨z0, z1, z2, z3, z4, z5, z6, z7, z8, z9, z10, z11⟩, zf, zl⟩ := twelve_cells h1.box
    have H1 : Hid (AtP w1 lo b rv mv ov m) := h1
    clear hc hb h1
    go_wp2_with (go_at_call 42; refine (clo_any _ (-1) 15 _ _ _ HC.out).mono ?_; rw [c]; rintro e w1 ⟨rfl, rfl⟩)
    first | go_end0 | refine bodyPost_ret (results_none rfl _ _ _) rfl ?_
    exact ⟨rfl, (H1.out.setFin 3).1, HB.out.trans ((H1.out.setFin 3).2.mono (Nat.le_refl _))⟩
  | true =>
    have HT : Hid (m.tabled x = { m with table := x }) := by show _ = _; simp [Mach.tabled, c]
    rw [HT.out]
    clear h HT
    go_enter Try.func33, Try.ntmps33
    go_wp2_with fail
    refine (outside_any _ _ _).mono ?_
    rintro e w1 ⟨p, q, rfl, hc, hb⟩
    have HC : Hid (CloAt w1 p q (-1) 15) := hc
    have h1 := H.out.below hb
    have HB : Hid (Below lo w w1) := hb.mono hlo
    obtain ⟨⟨z0, z1, z2, z3, z4, z5, z6, z7, z8, z9, z10, z11⟩, zf, zl⟩ := twelve_cells h1.box
    have H1 : Hid (AtP w1 lo b rv mv ov m) := h1
    clear hc hb h1
    go_wp2_with (go_at_call 42; refine (clo_any _ (-1) 15 _ _ _ HC.out).mono ?_; rw [c]; rintro e w1 ⟨rfl, rfl⟩)
    first | go_end0 | refine bodyPost_ret (results_none rfl _ _ _) rfl ?_
    exact ⟨rfl, (H1.out.setTab x).1, HB.out.trans ((H1.out.setTab x).2.mono (Nat.le_refl _))⟩

theorem jumps_any (op x : Int) (w : World) : Calls Try.prog 30 #[.int .i64 op, .int .i64 x] w fun e w' => e = .returned (.bool (jumpB op x)) ∧ w' = w := by
  cases c1 : op == 7 with
  | true =>
    have HJ : Hid ((x == 0) = jumpB op x) := by show _ = _; simp [jumpB, c1]
    go_enter Try.func30, Try.ntmps30
    go_wp2
    go_ret
    exact ⟨ret_bool HJ.out, rfl⟩
  | false =>
  cases c2 : op == 8 with
  | true =>
    have HJ : Hid (decide (x < 0) = jumpB op x) := by show _ = _; simp [jumpB, c1, c2]
    go_enter Try.func30, Try.ntmps30
    go_wp2
    go_ret
    exact ⟨ret_bool HJ.out, rfl⟩
  | false =>
    have HJ : Hid (true = jumpB op x) := by show _ = _; simp [jumpB, c1, c2]
    go_enter Try.func30, Try.ntmps30
    go_wp2
    go_ret
    exact ⟨ret_bool HJ.out, rfl⟩

end Go.Proofs.Ytlcdefpdahjjeae
