/- Contract of hourglassref.InstrOf: a word is an instruction. -/
import Derived.Test.YtlcdefpdahjjeadInstr
namespace Go.Proofs.Ytlcdefpdahjjead
open Go.RowKit

set_option maxHeartbeats 400000 in
theorem floor_any (n : Int) (w : World) (hn : -9223372036854775808 ≤ n ∧ n ≤ 9223372036854775807) :
    Calls Try.prog 59 #[.int .i64 n, .int .i64 1024] w fun e w' => e = .returned (.int .i64 (n / 1024)) ∧ w' = w := by
  obtain ⟨n1, n2⟩ := hn
  have HD := tdiv_sign n 1024
  have HM := tmod_sign n 1024
  by_cases h : n.tmod 1024 < 0
  · have HE : Hid (n.tdiv 1024 - 1 = n / 1024) := by show _ = _; omega
    have h1 : n.tdiv 1024 ≤ 9007199254740992 := by omega
    have h2 : -9007199254740992 ≤ n.tdiv 1024 := by omega
    clear HD HM
    go_enter Try.func59, Try.ntmps59
    go_wp2
    go_ret
    exact ⟨ret_int HE.out, rfl⟩
  · have HE : Hid (n.tdiv 1024 = n / 1024) := by show _ = _; omega
    clear HD HM
    go_enter Try.func59, Try.ntmps59
    go_wp2
    go_ret
    exact ⟨ret_int HE.out, rfl⟩

set_option maxHeartbeats 400000 in
theorem InstrOf_any (x : Int) (w : World) (hx : -9223372036854775808 ≤ x ∧ x ≤ 9223372036854775807) :
    Calls Try.prog 57 #[.int .i64 x] w fun e w' => e = .returned (.tuple #[decI x, .int .i64 (decNo x)]) ∧ Below w.heap.size w w' := by
  obtain ⟨x1, x2⟩ := hx
  have y1 : -9007199254740992 ≤ x / 1024 := by omega
  have y2 : x / 1024 ≤ 9007199254740991 := by omega
  have y3 : x - 1024 * (x / 1024) ≤ 1023 := by omega
  have y4 : 0 ≤ x - 1024 * (x / 1024) := by omega
  obtain ⟨e1, e2, e3⟩ := low_parts x
  have HE : Hid ((x - 1024 * (x / 1024)) % 16 = x % 16 ∧ (x - 1024 * (x / 1024)) / 16 % 8 = x / 16 % 8 ∧ (x - 1024 * (x / 1024)) / 128 = x / 128 % 8) := ⟨e1, e2, e3⟩
  clear e1 e2 e3
  by_cases h : decNo x = 0
  · have HN : Hid (instrNo (x % 16) (x / 16 % 8) (x / 128 % 8) (x / 1024) = 0) := h
    have HI : Hid (decI x = .agg #[.int .i64 (x % 16), .int .i64 (x / 16 % 8), .int .i64 (x / 128 % 8), .int .i64 (x / 1024)]) := by show _ = _; simp [decI, h]
    have HD : Hid (decNo x = 0) := h
    clear h
    go_enter Try.func57, Try.ntmps57
    go_wp2_with (go_at_call 59; refine (floor_any _ _ ⟨x1, x2⟩).mono ?_; rintro e w' ⟨rfl, rfl⟩)
    rw [HE.out.1, HE.out.2.1, HE.out.2.2]
    refine (InstrFault_any _ _ _ _ _).mono ?_
    rw [HN.out]
    rintro e w1 ⟨rfl, hb1⟩
    obtain ⟨hz, hy, hb⟩ := two_boxes hb1
    obtain ⟨hz0, hz1, hz2, hz3, hzf, hzl⟩ := four_cells hz
    obtain ⟨hy0, hy1, hy2, hy3, hyf, hyl⟩ := four_cells hy
    clear hb1 hz hy
    go_wp2
    refine bodyPost_ret (v := .tuple #[.agg #[.int .i64 (x % 16), .int .i64 (x / 16 % 8), .int .i64 (x / 128 % 8), .int .i64 (x / 1024)], .int .i64 0]) (by simp [results, Try.results57, go_sem, hz0, hz1, hz2, hz3]) rfl ?_
    exact ⟨by rw [HI.out, HD.out], (((hb.setCell (by simp) _).setCell (by simp) _).setCell (by simp) _).setCell (by simp) _⟩
  · have HI : Hid (decI x = .agg #[.int .i64 0, .int .i64 0, .int .i64 0, .int .i64 0]) := by show _ = _; simp [decI, h]
    have hne : (decNo x != 0) = true := by simpa using h
    obtain ⟨y, hg⟩ : ∃ y, y = decNo x := ⟨_, rfl⟩
    rw [← hg] at hne
    have HD : Hid (y = decNo x) := hg
    have HN : Hid (instrNo (x % 16) (x / 16 % 8) (x / 128 % 8) (x / 1024) = y) := hg.symm
    clear h hg
    go_enter Try.func57, Try.ntmps57
    go_wp2_with (go_at_call 59; refine (floor_any _ _ ⟨x1, x2⟩).mono ?_; rintro e w' ⟨rfl, rfl⟩)
    rw [HE.out.1, HE.out.2.1, HE.out.2.2]
    refine (InstrFault_any _ _ _ _ _).mono ?_
    rw [HN.out]
    rintro e w1 ⟨rfl, hb1⟩
    obtain ⟨hz, hy, hb⟩ := two_boxes hb1
    obtain ⟨hz0, hz1, hz2, hz3, hzf, hzl⟩ := four_cells hz
    obtain ⟨hy0, hy1, hy2, hy3, hyf, hyl⟩ := four_cells hy
    clear hb1 hz hy
    go_wp2
    refine bodyPost_ret (v := .tuple #[.agg #[.int .i64 0, .int .i64 0, .int .i64 0, .int .i64 0], .int .i64 y]) (by simp [results, Try.results57, go_sem, hz0, hz1, hz2, hz3]) rfl ?_
    first
      | exact ⟨by rw [HI.out, ← HD.out], hb⟩
      | exact ⟨by rw [HI.out, ← HD.out], (((hb.setCell (by simp) _).setCell (by simp) _).setCell (by simp) _).setCell (by simp) _⟩

end Go.Proofs.Ytlcdefpdahjjead
