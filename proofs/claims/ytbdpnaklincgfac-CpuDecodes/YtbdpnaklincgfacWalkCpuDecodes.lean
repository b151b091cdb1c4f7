/- The walk of the law CpuDecodes. -/
import Derived.Test.YtbdpnaklincgfacCpuCode
import Derived.Test.YtbdpnaklincgfacInstrO
namespace Go.Proofs.Ytbdpnaklincgfac
open Go.RowKit

set_option maxHeartbeats 1000000 in
theorem CpuDecodes_any (x : Int) (w : World) (hx : (Lit.int .i64 x).wf = true) :
    Calls Try.prog 5 #[.int .i64 x] w fun e w' => e = .returned (.bool true) ∧ Below w.heap.size w w' := by
  have h := i64_bd hx
  have HF : Hid (∀ W, Calls Try.prog 13 #[.int .i64 x] W fun e w' => e = .returned (.tuple #[decI x, .int .i64 (decNo x)]) ∧ Below W.heap.size W w') := fun W => CpuDecode_any x W h
  have HG : Hid (∀ W, Calls Try.prog 14 #[.int .i64 x] W fun e w' => e = .returned (.tuple #[decI x, .int .i64 (decNo x)]) ∧ Below W.heap.size W w') := fun W => InstrOf_any x W h
  obtain ⟨p, q, r, s, hI, -⟩ := decI_four x
  rw [hI] at HF HG
  clear hI h hx
  revert HF; revert HG
  generalize decNo x = N
  intro HG HF
  go_enter Try.func5, Try.ntmps5
  go_wp2_with fail
  refine (HF.out _).mono ?_
  rintro e w1 ⟨rfl, hb1⟩
  go_wp2_with fail
  refine (HG.out _).mono ?_
  rintro e w2 ⟨rfl, hb2⟩
  have hbx : w2.heap[w1.heap.size]? = _ := box_kept hb2
  obtain ⟨y0, y1, y2, y3, yf, yl⟩ := four_cells hbx
  have hb : Below w.heap.size w w2 := (hb1.alloc hb1.size _).trans (hb2.mono (by simp; have := hb1.size; omega))
  clear hbx hb1 hb2
  go_wp2_with fail
  go_ret
  exact ⟨rfl, hb.alloc hb.size _⟩

end Go.Proofs.Ytbdpnaklincgfac
