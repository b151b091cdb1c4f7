/- Contracts of hourglassref's WordOf, floor and InstrOf: an instruction is a word. -/
import Derived.Test.YtbdpnaklincgfacInstr
namespace Go.Proofs.Ytbdpnaklincgfac
open Go.RowKit

set_option maxHeartbeats 400000 in
theorem WordOf_any (op a b n : Int) (w : World) :
    Calls Try.prog 12 #[.agg #[.int .i64 op, .int .i64 a, .int .i64 b, .int .i64 n]] w fun e w' => e = .returned (.tuple #[.int .i64 (wordNo op a b n), .int .i64 (instrNo op a b n)]) ∧ Below w.heap.size w w' := by
  have HC : Hid (∀ w1, Below (w.alloc (.cells #[.int .i64 op, .int .i64 a, .int .i64 b, .int .i64 n] 23)).heap.size (w.alloc (.cells #[.int .i64 op, .int .i64 a, .int .i64 b, .int .i64 n] 23)) w1 → w1.heap[w.heap.size]? = some (.cells #[.int .i64 op, .int .i64 a, .int .i64 b, .int .i64 n] 23) ∧ Below w.heap.size w w1) :=
    fun w1 hb => ⟨box_kept hb, (below_alloc _ _).trans (hb.mono (by simp))⟩
  by_cases h : instrNo op a b n = 0
  · have HW : Hid (1024 * n + 128 * b + 16 * a + op = wordNo op a b n) := by show _ = _; simp [wordNo, h, wordF]
    obtain ⟨⟨o1, o2⟩, ⟨a1, a2⟩, ⟨b1, b2⟩, n1, n2⟩ := instrNo_bd h
    have HN : Hid (instrNo op a b n = 0) := h
    clear h
    go_enter Try.func12, Try.ntmps12
    go_wp2_with fail
    refine (InstrFault_any op a b n _).mono ?_
    rw [HN.out]
    rintro e w1 ⟨rfl, hb1⟩
    obtain ⟨hbx, hb⟩ := HC.out w1 hb1
    obtain ⟨hx0, hx1, hx2, hx3, hxf, hxl⟩ := four_cells hbx
    clear hbx hb1
    go_wp2
    go_ret2
    exact ⟨ret_two HW.out HN.out.symm, hb⟩
  · have HW : Hid (wordNo op a b n = 0) := by show _ = _; simp [wordNo, h]
    have hne : (instrNo op a b n != 0) = true := by simpa using h
    revert hne HW
    generalize wordNo op a b n = x
    generalize hg : instrNo op a b n = y
    intro HW hne
    have HG : Hid (instrNo op a b n = y) := hg
    clear hg h
    go_enter Try.func12, Try.ntmps12
    go_wp2_with fail
    refine (InstrFault_any op a b n _).mono ?_
    rw [HG.out]
    rintro e w1 ⟨rfl, hb1⟩
    obtain ⟨hbx, hb⟩ := HC.out w1 hb1
    clear hbx hb1
    go_wp2
    go_ret2
    exact ⟨ret_two HW.out.symm rfl, hb⟩

end Go.Proofs.Ytbdpnaklincgfac
