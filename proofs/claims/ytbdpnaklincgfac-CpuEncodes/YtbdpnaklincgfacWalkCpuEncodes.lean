/- The walk of the law CpuEncodes. -/
import Derived.Test.YtbdpnaklincgfacCpuCode
import Derived.Test.YtbdpnaklincgfacInstrW
namespace Go.Proofs.Ytbdpnaklincgfac
open Go.RowKit

set_option maxHeartbeats 400000 in
theorem CpuEncodes_any (op a b n : Int) (w : World) (_ : (Lit.int .i64 op).wf = true) (_ : (Lit.int .i64 a).wf = true) (_ : (Lit.int .i64 b).wf = true) (_ : (Lit.int .i64 n).wf = true) :
    Calls Try.prog 4 #[.agg #[.int .i64 op, .int .i64 a, .int .i64 b, .int .i64 n]] w fun e w' => e = .returned (.bool true) ∧ Below w.heap.size w w' := by
  have HF : Hid (∀ W, Calls Try.prog 11 #[.agg #[.int .i64 op, .int .i64 a, .int .i64 b, .int .i64 n]] W fun e w' => e = .returned (.tuple #[.int .i64 (wordNo op a b n), .int .i64 (instrNo op a b n)]) ∧ Below W.heap.size W w') := fun W => CpuEncode_any op a b n W
  have HG : Hid (∀ W, Calls Try.prog 12 #[.agg #[.int .i64 op, .int .i64 a, .int .i64 b, .int .i64 n]] W fun e w' => e = .returned (.tuple #[.int .i64 (wordNo op a b n), .int .i64 (instrNo op a b n)]) ∧ Below W.heap.size W w') := fun W => WordOf_any op a b n W
  revert HF; revert HG
  generalize instrNo op a b n = x
  generalize wordNo op a b n = y
  intro HG HF
  go_enter Try.func4, Try.ntmps4
  go_wp2_with fail
  refine (HF.out _).mono ?_
  rintro e w1 ⟨rfl, hb1⟩
  have hbx := box_kept hb1
  have hb : Below w.heap.size w w1 := (below_alloc _ _).trans (hb1.mono (by simp))
  obtain ⟨y0, y1, y2, y3, yf, yl⟩ := four_cells hbx
  clear hbx hb1
  go_wp2_with fail
  refine (HG.out _).mono ?_
  rintro e w2 ⟨rfl, hb2⟩
  go_wp2_with fail
  go_ret
  exact ⟨rfl, hb.trans (hb2.mono hb.size)⟩

end Go.Proofs.Ytbdpnaklincgfac
