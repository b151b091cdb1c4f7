/- Contract of hourglassref.MachineMay: a guest that may be. -/
import Derived.Test.YtbdpnaklincgfacGuest
import Derived.Test.YtbdpnaklincgfacMay
namespace Go.Proofs.Ytbdpnaklincgfac
open Go.RowKit
set_option linter.unusedVariables false

set_option maxHeartbeats 4000000 in
theorem MachineMay_any (m : Mach) (rv mv ov : Value) (w : World) (hr : IntsAt w rv m.regs) (hm : IntsAt w mv m.mem) (ho : IntsAt w ov m.out) :
    Calls Try.prog 16 #[.agg (m.cells rv mv ov)] w fun e w' => e = .returned (.bool m.may) ∧ Below w.heap.size w w' := by
  obtain ⟨regs, pc, back, ints, wait, table, count, fin, mem, out, ready, want⟩ := m
  simp only [Mach.cells]
  have H1 : Hid (IntsAt w rv regs) := hr
  have H2 : Hid (IntsAt w mv mem) := hm
  have H3 : Hid (IntsAt w ov out) := ho
  obtain ⟨A1, c1, rfl, -, -⟩ := hr
  obtain ⟨A2, c2, rfl, -, -⟩ := hm
  obtain ⟨A3, c3, rfl, -, -⟩ := ho
  by_cases g0 : regs.length = 8
  case neg =>
    have HN : Hid (false = Mach.may ⟨regs, pc, back, ints, wait, table, count, fin, mem, out, ready, want⟩) := by show _ = _; simp [Mach.may, g0]
    have d0 : ((regs.length : Int) != 8) = true := by simp; omega
    clear g0
    go_enter Try.func16, Try.ntmps16
    go_wp2_with fail
    go_ret
    exact ⟨ret_bool HN.out, below_alloc _ _⟩
  by_cases g1 : mem.length = 256
  case neg =>
    have HN : Hid (false = Mach.may ⟨regs, pc, back, ints, wait, table, count, fin, mem, out, ready, want⟩) := by show _ = _; simp [Mach.may, g1]
    have d0 : ((regs.length : Int) != 8) = false := by simp [g0]
    have d1 : ((mem.length : Int) != 256) = true := by simp; omega
    clear g0 g1
    go_enter Try.func16, Try.ntmps16
    go_wp2_with fail
    go_ret
    exact ⟨ret_bool HN.out, below_alloc _ _⟩
  by_cases g2 : out.length ≤ 200
  case neg =>
    have HN : Hid (false = Mach.may ⟨regs, pc, back, ints, wait, table, count, fin, mem, out, ready, want⟩) := by show _ = _; simp [Mach.may, g2]
    have d0 : ((regs.length : Int) != 8) = false := by simp [g0]
    have d1 : ((mem.length : Int) != 256) = false := by simp [g1]
    have d2 : decide (200 < (out.length : Int)) = true := by simp; omega
    clear g0 g1 g2
    go_enter Try.func16, Try.ntmps16
    go_wp2_with fail
    go_ret
    exact ⟨ret_bool HN.out, below_alloc _ _⟩
  have d0 : ((regs.length : Int) != 8) = false := by simp [g0]
  have d1 : ((mem.length : Int) != 256) = false := by simp [g1]
  have d2 : decide (200 < (out.length : Int)) = false := by simp; omega
  have HM : Hid (Mach.may ⟨regs, pc, back, ints, wait, table, count, fin, mem, out, ready, want⟩ = (allB regs && allB mem && allB out && wordB pc && wordB back && inB table (-1) 15 && inB count 0 1099511627776 && inB fin 0 4 && inB ready 0 1 && inB want (-1) 15)) := by show _ = _; simp [Mach.may, g0, g1, g2]
  clear g0 g1 g2
  rw [HM.out]
  clear HM
  go_enter Try.func16, Try.ntmps16
  go_wp2_with fail
  refine (wordsMay_any (.slice A1 regs.length c1) regs _ (H1.out.below (below_alloc _ _))).mono ?_
  clear H1
  cases g0 : allB regs
  · rintro e w' ⟨rfl, rfl⟩
    have HG : Hid (allB regs = false) := g0
    clear g0
    go_wp2_with fail
    go_ret
    exact ⟨ret_bool (by simp [HG.out]), below_alloc _ _⟩
  have G0 : Hid (allB regs = true) := g0
  clear g0
  rintro e w' ⟨rfl, rfl⟩
  go_wp2_with fail
  refine (wordsMay_any (.slice A2 mem.length c2) mem _ (H2.out.below (below_alloc _ _))).mono ?_
  clear H2
  cases g1 : allB mem
  · rintro e w' ⟨rfl, rfl⟩
    have HG : Hid (allB mem = false) := g1
    clear g1
    go_wp2_with fail
    go_ret
    exact ⟨ret_bool (by simp [HG.out]), below_alloc _ _⟩
  have G1 : Hid (allB mem = true) := g1
  clear g1
  rintro e w' ⟨rfl, rfl⟩
  go_wp2_with fail
  refine (wordsMay_any (.slice A3 out.length c3) out _ (H3.out.below (below_alloc _ _))).mono ?_
  clear H3
  cases g2 : allB out
  · rintro e w' ⟨rfl, rfl⟩
    have HG : Hid (allB out = false) := g2
    clear g2
    go_wp2_with fail
    go_ret
    exact ⟨ret_bool (by simp [HG.out]), below_alloc _ _⟩
  have G2 : Hid (allB out = true) := g2
  clear g2
  rintro e w' ⟨rfl, rfl⟩
  go_wp2_with fail
  refine (wordMay_any pc _).mono ?_
  cases g3 : wordB pc
  · rintro e w' ⟨rfl, rfl⟩
    have HG : Hid (wordB pc = false) := g3
    clear g3
    go_wp2_with fail
    go_ret
    exact ⟨ret_bool (by simp [HG.out]), below_alloc _ _⟩
  have G3 : Hid (wordB pc = true) := g3
  clear g3
  rintro e w' ⟨rfl, rfl⟩
  go_wp2_with fail
  refine (wordMay_any back _).mono ?_
  cases g4 : wordB back
  · rintro e w' ⟨rfl, rfl⟩
    have HG : Hid (wordB back = false) := g4
    clear g4
    go_wp2_with fail
    go_ret
    exact ⟨ret_bool (by simp [HG.out]), below_alloc _ _⟩
  have G4 : Hid (wordB back = true) := g4
  clear g4
  rintro e w' ⟨rfl, rfl⟩
  go_wp2_with fail
  refine (In_B _ _ _ _).mono ?_
  cases g5 : inB table (-1) 15
  · rintro e w' ⟨rfl, rfl⟩
    have HG : Hid (inB table (-1) 15 = false) := g5
    clear g5
    go_wp2_with fail
    go_ret
    exact ⟨ret_bool (by simp [HG.out]), below_alloc _ _⟩
  have G5 : Hid (inB table (-1) 15 = true) := g5
  clear g5
  rintro e w' ⟨rfl, rfl⟩
  go_wp2_with fail
  refine (In_B _ _ _ _).mono ?_
  cases g6 : inB count 0 1099511627776
  · rintro e w' ⟨rfl, rfl⟩
    have HG : Hid (inB count 0 1099511627776 = false) := g6
    clear g6
    go_wp2_with fail
    go_ret
    exact ⟨ret_bool (by simp [HG.out]), below_alloc _ _⟩
  have G6 : Hid (inB count 0 1099511627776 = true) := g6
  clear g6
  rintro e w' ⟨rfl, rfl⟩
  go_wp2_with fail
  refine (In_B _ _ _ _).mono ?_
  cases g7 : inB fin 0 4
  · rintro e w' ⟨rfl, rfl⟩
    have HG : Hid (inB fin 0 4 = false) := g7
    clear g7
    go_wp2_with fail
    go_ret
    exact ⟨ret_bool (by simp [HG.out]), below_alloc _ _⟩
  have G7 : Hid (inB fin 0 4 = true) := g7
  clear g7
  rintro e w' ⟨rfl, rfl⟩
  go_wp2_with fail
  refine (In_B _ _ _ _).mono ?_
  cases g8 : inB ready 0 1
  · rintro e w' ⟨rfl, rfl⟩
    have HG : Hid (inB ready 0 1 = false) := g8
    clear g8
    go_wp2_with fail
    go_ret
    exact ⟨ret_bool (by simp [HG.out]), below_alloc _ _⟩
  have G8 : Hid (inB ready 0 1 = true) := g8
  clear g8
  rintro e w' ⟨rfl, rfl⟩
  go_wp2_with fail
  refine (In_B _ _ _ _).mono ?_
  rintro e w' ⟨rfl, rfl⟩
  go_wp2_with fail
  go_ret
  exact ⟨ret_bool (by simp [G0.out, G1.out, G2.out, G3.out, G4.out, G5.out, G6.out, G7.out, G8.out]), below_alloc _ _⟩

end Go.Proofs.Ytbdpnaklincgfac
