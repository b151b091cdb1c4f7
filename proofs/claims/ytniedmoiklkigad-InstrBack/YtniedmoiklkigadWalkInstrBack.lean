/- The walk of hourglasskeep.InstrBack: an instruction is a word, and the word is that instruction. -/
import Derived.Test.YtniedmoiklkigadKInsAll
namespace Go.Proofs.Ytniedmoiklkigad
open Go.RowKit

theorem dec_word {op a b n : Int} (h : instrNo op a b n = 0) : wordF op a b n % 16 = op ∧ wordF op a b n / 16 % 8 = a ∧ wordF op a b n / 128 % 8 = b ∧ wordF op a b n / 1024 = n := by
  have := instrNo_bd h
  unfold wordF
  omega

set_option maxRecDepth 20000 in
set_option maxHeartbeats 2000000 in
theorem InstrBack_any (K A B C : Int) (w : World) (hK : (Lit.int .i64 K).wf = true) (hA : (Lit.int .i64 A).wf = true) (hB : (Lit.int .i64 B).wf = true) (hC : (Lit.int .i64 C).wf = true) :
    Calls Try.prog 4 #[.agg #[.int .i64 K, .int .i64 A, .int .i64 B, .int .i64 C]] w fun e w' => e = .returned (.bool true) ∧ Below w.heap.size w w' := by
  have HI : Hid (∀ W, Calls Try.prog 13 #[.agg #[.int .i64 K, .int .i64 A, .int .i64 B, .int .i64 C]] W fun e w' => ∃ op a b n, e = .returned (.agg #[.int .i64 op, .int .i64 a, .int .i64 b, .int .i64 n]) ∧ instrNo op a b n = 0 ∧ Below W.heap.size W w') := fun W => instr_any K A B C W hK hA hB hC
  clear hK hA hB hC
  go_enter Try.func4, Try.ntmps4
  go_wp2_with fail
  refine (HI.out _).mono ?_
  rintro e w1 ⟨op, a, b, n, rfl, hno, hb1⟩
  have HB1 : Hid (Below w.heap.size w w1) := (below_alloc _ _).trans (hb1.mono (by simp))
  obtain ⟨hd0, hd1, hd2, hd3⟩ := dec_word hno
  have hbd := instrNo_bd hno
  have hxb : -9223372036854775808 ≤ wordF op a b n ∧ wordF op a b n ≤ 9223372036854775807 := by unfold wordF; omega
  have HE : Hid (∀ W, Calls Try.prog 14 #[.agg #[.int .i64 op, .int .i64 a, .int .i64 b, .int .i64 n]] W fun e w' => e = .returned (.tuple #[.int .i64 (wordF op a b n), .int .i64 0]) ∧ Below W.heap.size W w') := fun W => by
    have := CpuEncode_any op a b n W
    rwa [show wordNo op a b n = wordF op a b n by simp [wordNo, hno], hno] at this
  have HD : Hid (∀ W, Calls Try.prog 15 #[.int .i64 (wordF op a b n)] W fun e w' => e = .returned (.tuple #[.agg #[.int .i64 op, .int .i64 a, .int .i64 b, .int .i64 n], .int .i64 0]) ∧ Below W.heap.size W w') := fun W => by
    have := CpuDecode_any (wordF op a b n) W hxb
    have e0 : decNo (wordF op a b n) = 0 := by rw [decNo, hd0, hd1, hd2, hd3]; exact hno
    have e1 : decI (wordF op a b n) = .agg #[.int .i64 op, .int .i64 a, .int .i64 b, .int .i64 n] := by rw [decI, if_pos e0, hd0, hd1, hd2, hd3]
    rwa [e1, e0] at this
  have HC : Hid (∀ W, Calls Try.prog 16 #[.agg #[.int .i64 op, .int .i64 a, .int .i64 b, .int .i64 n]] W fun e w' => e = .returned (.int .i64 0) ∧ Below W.heap.size W w') := fun W => by
    have := CpuCheck_any op a b n W
    rwa [hno] at this
  clear hb1 hno hd0 hd1 hd2 hd3 hxb HI
  revert HE HD
  generalize wordF op a b n = x
  intro HE HD
  go_wp2_with fail
  refine (HE.out _).mono ?_
  rintro e w2 ⟨rfl, hb2⟩
  have hbx : w2.heap[w1.heap.size]? = some (.cells #[.int .i64 op, .int .i64 a, .int .i64 b, .int .i64 n] 34 (0, 0)) := by
    rw [hb2.block _ (by simp)]
    exact Go.Deep.blk_alloc_new _ _
  have HB2 : Hid (Below w.heap.size w w2) := (HB1.out.alloc HB1.out.size _).trans (hb2.mono (by simp; have := HB1.out.size; omega))
  have HX2 : Hid (w2.heap[w1.heap.size]? = some (.cells #[.int .i64 op, .int .i64 a, .int .i64 b, .int .i64 n] 34 (0, 0))) := hbx
  clear hb2 hbx HE
  go_wp2_with fail
  refine (HD.out _).mono ?_
  rintro e w3 ⟨rfl, hb3⟩
  have hbx : w3.heap[w1.heap.size]? = some (.cells #[.int .i64 op, .int .i64 a, .int .i64 b, .int .i64 n] 34 (0, 0)) := by
    rw [hb3.block _ (lt_of_block HX2.out)]
    exact HX2.out
  have HB3 : Hid (Below w.heap.size w w3) := HB2.out.trans (hb3.mono HB2.out.size)
  obtain ⟨x0, x1, x2, x3, xf, xl⟩ := four_cells hbx
  have hne : ¬ w1.heap.size = w3.heap.size := by omega
  clear hb3 hbx HD HX2
  go_wp2_with fail
  refine (HC.out _).mono ?_
  rintro e w4 ⟨rfl, hb4⟩
  have HB4 : Hid (Below w.heap.size w w4) := (HB3.out.alloc HB3.out.size _).trans (hb4.mono (by simp; have := HB3.out.size; omega))
  clear hb4
  go_wp2_with fail
  go_ret
  exact ⟨rfl, HB4.out⟩

end Go.Proofs.Ytniedmoiklkigad
