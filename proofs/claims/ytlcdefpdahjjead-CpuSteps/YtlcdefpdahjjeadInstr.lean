/- Contracts of hourglassref's InstrFault, WordOf, floor and InstrOf: an instruction is a word. -/
import Derived.Test.YtlcdefpdahjjeadIn
namespace Go.Proofs.Ytlcdefpdahjjead
open Go.RowKit

set_option maxHeartbeats 1000000 in
theorem InstrFault_any (op a b n : Int) (w : World) :
    Calls Try.prog 60 #[.agg #[.int .i64 op, .int .i64 a, .int .i64 b, .int .i64 n]] w fun e w' => e = .returned (.int .i64 (instrNo op a b n)) ∧ Below w.heap.size w w' := by
  cases c0 : inB op 0 15 with
  | false =>
    have HN : Hid (3 = instrNo op a b n) := by show _ = _; simp [instrNo, c0]
    go_enter Try.func60, Try.ntmps60
    go_wp2_with (go_at_call 48; refine (In_B _ _ _ _).mono ?_; rintro e w' ⟨rfl, rfl⟩)
    go_ret
    exact ⟨ret_int HN.out, below_alloc _ _⟩
  | true =>
  cases c1 : inB a 0 7 with
  | false =>
    have HN : Hid (2 = instrNo op a b n) := by show _ = _; simp [instrNo, c0, c1]
    go_enter Try.func60, Try.ntmps60
    go_wp2_with (go_at_call 48; refine (In_B _ _ _ _).mono ?_; rintro e w' ⟨rfl, rfl⟩)
    go_ret
    exact ⟨ret_int HN.out, below_alloc _ _⟩
  | true =>
  cases c2 : inB b 0 7 with
  | false =>
    have HN : Hid (2 = instrNo op a b n) := by show _ = _; simp [instrNo, c0, c1, c2]
    go_enter Try.func60, Try.ntmps60
    go_wp2_with (go_at_call 48; refine (In_B _ _ _ _).mono ?_; rintro e w' ⟨rfl, rfl⟩)
    go_ret
    exact ⟨ret_int HN.out, below_alloc _ _⟩
  | true =>
  cases c3 : inB n (-1048576) 1048575 with
  | false =>
    have HN : Hid (2 = instrNo op a b n) := by show _ = _; simp [instrNo, c0, c1, c2, c3]
    go_enter Try.func60, Try.ntmps60
    go_wp2_with (go_at_call 48; refine (In_B _ _ _ _).mono ?_; rintro e w' ⟨rfl, rfl⟩)
    go_ret
    exact ⟨ret_int HN.out, below_alloc _ _⟩
  | true =>
  cases c4 : op == 2 with
  | true =>
    have c6 : (op == 12) = false := by simp at c4; simp [c4]
    cases c5 : inB n 0 7 with
    | false =>
      have HN : Hid (4 = instrNo op a b n) := by show _ = _; simp only [instrNo, c0, c1, c2, c3, c4, c5]; rfl
      go_enter Try.func60, Try.ntmps60
      go_wp2_with (go_at_call 48; refine (In_B _ _ _ _).mono ?_; rintro e w' ⟨rfl, rfl⟩)
      go_ret
      exact ⟨ret_int HN.out, below_alloc _ _⟩
    | true =>
      have HN : Hid (0 = instrNo op a b n) := by show _ = _; simp only [instrNo, c0, c1, c2, c3, c4, c5, c6]; rfl
      go_enter Try.func60, Try.ntmps60
      go_wp2_with (go_at_call 48; refine (In_B _ _ _ _).mono ?_; rintro e w' ⟨rfl, rfl⟩)
      go_ret
      exact ⟨ret_int HN.out, below_alloc _ _⟩
  | false =>
  cases c7 : op == 3 with
  | true =>
    have c6 : (op == 12) = false := by simp at c7; simp [c7]
    cases c5 : inB n 0 7 with
    | false =>
      have HN : Hid (4 = instrNo op a b n) := by show _ = _; simp only [instrNo, c0, c1, c2, c3, c4, c7, c5]; rfl
      go_enter Try.func60, Try.ntmps60
      go_wp2_with (go_at_call 48; refine (In_B _ _ _ _).mono ?_; rintro e w' ⟨rfl, rfl⟩)
      go_ret
      exact ⟨ret_int HN.out, below_alloc _ _⟩
    | true =>
      have HN : Hid (0 = instrNo op a b n) := by show _ = _; simp only [instrNo, c0, c1, c2, c3, c4, c5, c6, c7]; rfl
      go_enter Try.func60, Try.ntmps60
      go_wp2_with (go_at_call 48; refine (In_B _ _ _ _).mono ?_; rintro e w' ⟨rfl, rfl⟩)
      go_ret
      exact ⟨ret_int HN.out, below_alloc _ _⟩
  | false =>
  cases c6 : op == 12 with
  | true =>
    cases c5 : inB n 0 1 with
    | false =>
      have HN : Hid (4 = instrNo op a b n) := by show _ = _; simp only [instrNo, c0, c1, c2, c3, c4, c7, c5, c6]; rfl
      go_enter Try.func60, Try.ntmps60
      go_wp2_with (go_at_call 48; refine (In_B _ _ _ _).mono ?_; rintro e w' ⟨rfl, rfl⟩)
      go_ret
      exact ⟨ret_int HN.out, below_alloc _ _⟩
    | true =>
      have HN : Hid (0 = instrNo op a b n) := by show _ = _; simp only [instrNo, c0, c1, c2, c3, c4, c5, c6, c7]; rfl
      go_enter Try.func60, Try.ntmps60
      go_wp2_with (go_at_call 48; refine (In_B _ _ _ _).mono ?_; rintro e w' ⟨rfl, rfl⟩)
      go_ret
      exact ⟨ret_int HN.out, below_alloc _ _⟩
  | false =>
    have HN : Hid (0 = instrNo op a b n) := by show _ = _; simp only [instrNo, c0, c1, c2, c3, c4, c6, c7]; rfl
    go_enter Try.func60, Try.ntmps60
    go_wp2_with (go_at_call 48; refine (In_B _ _ _ _).mono ?_; rintro e w' ⟨rfl, rfl⟩)
    go_ret
    exact ⟨ret_int HN.out, below_alloc _ _⟩

end Go.Proofs.Ytlcdefpdahjjead
