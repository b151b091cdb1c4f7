/- The walk of the law CpuCopies. -/
import Derived.Test.YtbdpnaklincgfacCpuB
import Derived.Test.YtbdpnaklincgfacSameM
import Derived.Test.YtbdpnaklincgfacOpenM
namespace Go.Proofs.Ytbdpnaklincgfac
open Go.RowKit

set_option maxHeartbeats 1000000 in
theorem CpuCopies_any (m : Mach) (rv mv ov : Value) (w : World) (ha : MachAt w rv mv ov m) (_ : MachWf m) :
    Calls Try.prog 8 #[.agg (m.cells rv mv ov)] w fun e w' => e = .returned (.bool true) ∧ Below w.heap.size w w' := by
  have HF : Hid (∀ W, Below w.heap.size w W → Calls Try.prog 20 #[.agg (m.cells rv mv ov)] W fun e w' => ∃ A c B c' C c'', e = .returned (.agg (m.cells (.slice A m.regs.length c) (.slice B m.mem.length c') (.slice C m.out.length c''))) ∧ OwnM w' W.heap.size (.slice A m.regs.length c) (.slice B m.mem.length c') (.slice C m.out.length c'') m ∧ Below W.heap.size W w') := fun W hb => CpuCopy_any m rv mv ov W (ha.below hb)
  have HG : Hid (∀ W rv' mv' ov', Below w.heap.size w W → MachAt W rv' mv' ov' m → Calls Try.prog 19 #[.agg (m.cells rv' mv' ov'), .agg (m.cells rv mv ov)] W fun e w' => e = .returned (.bool true) ∧ Below W.heap.size W w') := fun W rv' mv' ov' hb h => sameMachine_same m rv' mv' ov' rv mv ov W h (ha.below hb)
  have HM : Hid (MachFits m) := ha.fits
  clear ha
  obtain ⟨r, p, k, i, t, a, n, f, m, o, y, q⟩ := m
  simp only [Mach.cells] at *
  go_enter Try.func8, Try.ntmps8
  go_wp2_with fail
  refine (HF.out _ (below_alloc _ _)).mono ?_
  rintro e w1 ⟨A, c, B, c', C, c'', rfl, ho, hb1⟩
  obtain ⟨⟨z0, z1, z2, z3, z4, z5, z6, z7, z8, z9, z10, z11⟩, zf, zl⟩ := twelve_cells (box_kept hb1)
  have hb : Below w.heap.size w w1 := (below_alloc _ _).trans (hb1.mono (by simp))
  have HO : Hid (MachAt w1 (.slice A r.length c) (.slice B m.length c') (.slice C o.length c'') ⟨r, p, k, i, t, a, n, f, m, o, y, q⟩) := ho.at HM.out
  clear hb1 HF ho
  go_wp2_with fail
  refine (HG.out _ _ _ _ (hb.alloc hb.size _) (HO.out.below (below_alloc _ _))).mono ?_
  rintro e w2 ⟨rfl, hb2⟩
  go_wp2_with fail
  go_ret
  exact ⟨rfl, (hb.alloc hb.size _).trans (hb2.mono (by simp; have := hb.size; omega))⟩

end Go.Proofs.Ytbdpnaklincgfac
