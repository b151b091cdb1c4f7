/- The walk of the law CpuMachines. -/
import Derived.Test.YtbdpnaklincgfacCpuM
import Derived.Test.YtbdpnaklincgfacMachMay
import Derived.Test.YtbdpnaklincgfacOpenM
namespace Go.Proofs.Ytbdpnaklincgfac
open Go.RowKit

set_option maxHeartbeats 1000000 in
theorem CpuMachines_any (m : Mach) (rv mv ov : Value) (w : World) (ha : MachAt w rv mv ov m) (_ : MachWf m) :
    Calls Try.prog 6 #[.agg (m.cells rv mv ov)] w fun e w' => e = .returned (.bool true) ∧ Below w.heap.size w w' := by
  have HF : Hid (∀ W, Below w.heap.size w W → Calls Try.prog 15 #[.agg (m.cells rv mv ov)] W fun e w' => e = .returned (.int .i64 (if m.may then 0 else 8)) ∧ Below W.heap.size W w') := fun W hb => CpuCheckMachine_any m rv mv ov W (ha.below hb)
  have HG : Hid (∀ W, Below w.heap.size w W → Calls Try.prog 16 #[.agg (m.cells rv mv ov)] W fun e w' => e = .returned (.bool m.may) ∧ Below W.heap.size W w') := fun W hb => MachineMay_any m rv mv ov W (ha.regs.below hb) (ha.mem.below hb) (ha.out.below hb)
  clear ha
  revert HF; revert HG
  cases m.may with
  | _ =>
    intro HG HF
    obtain ⟨r, p, k, i, t, a, n, f, m, o, y, q⟩ := m
    simp only [Mach.cells] at *
    go_enter Try.func6, Try.ntmps6
    go_wp2_with fail
    refine (HF.out _ (below_alloc _ _)).mono ?_
    rintro e w1 ⟨rfl, hb1⟩
    obtain ⟨⟨z0, z1, z2, z3, z4, z5, z6, z7, z8, z9, z10, z11⟩, zf, zl⟩ := twelve_cells (box_kept hb1)
    have hb : Below w.heap.size w w1 := (below_alloc _ _).trans (hb1.mono (by simp))
    clear hb1 HF
    go_wp2_with fail
    refine (HG.out _ hb).mono ?_
    rintro e w2 ⟨rfl, hb2⟩
    go_wp2_with fail
    go_ret
    exact ⟨rfl, hb.trans (hb2.mono hb.size)⟩

end Go.Proofs.Ytbdpnaklincgfac
