/- The walk of the law InstrFixed. -/
import Derived.Test.YtbdpnaklincgfadCpuCode
namespace Go.Proofs.Ytbdpnaklincgfad
open Go.RowKit

theorem word_dec (x : Int) : wordF (x % 16) (x / 16 % 8) (x / 128 % 8) (x / 1024) = x := by unfold wordF; omega

set_option maxHeartbeats 1000000 in
theorem InstrFixed_any (x : Int) (w : World) (hx : (Lit.int .i64 x).wf = true) :
    Calls Try.prog 5 #[.int .i64 x] w fun e w' => e = .returned (.bool true) ∧ Below w.heap.size w w' := by
  have h := i64_bd hx
  obtain ⟨p, q, r, s, hI, hy, hn⟩ := decI_four x
  by_cases hd : decNo x = 0
  · obtain ⟨rfl, rfl, rfl, rfl⟩ := hy hd
    have HF : Hid (∀ W, Calls Try.prog 15 #[.int .i64 x] W fun e w' => e = .returned (.tuple #[.agg #[.int .i64 (x % 16), .int .i64 (x / 16 % 8), .int .i64 (x / 128 % 8), .int .i64 (x / 1024)], .int .i64 0]) ∧ Below W.heap.size W w') := fun W => by
      have := CpuDecode_any x W h
      rwa [hI, hd] at this
    have HE : Hid (∀ W, Calls Try.prog 14 #[.agg #[.int .i64 (x % 16), .int .i64 (x / 16 % 8), .int .i64 (x / 128 % 8), .int .i64 (x / 1024)]] W fun e w' => e = .returned (.tuple #[.int .i64 x, .int .i64 0]) ∧ Below W.heap.size W w') := fun W => by
      have := CpuEncode_any (x % 16) (x / 16 % 8) (x / 128 % 8) (x / 1024) W
      have e : instrNo (x % 16) (x / 16 % 8) (x / 128 % 8) (x / 1024) = 0 := hd
      rwa [show wordNo (x % 16) (x / 16 % 8) (x / 128 % 8) (x / 1024) = x by simp [wordNo, e, word_dec], e] at this
    clear hI hy hn hd h hx
    go_enter Try.func5, Try.ntmps5
    go_wp2_with fail
    refine (HF.out _).mono ?_
    rintro e w1 ⟨rfl, hb1⟩
    have HB1 : Hid (Below w.heap.size w w1) := hb1
    clear hb1 HF
    go_wp2_with fail
    refine (HE.out _).mono ?_
    rintro e w2 ⟨rfl, hb2⟩
    have HB2 : Hid (Below w.heap.size w w2) := (HB1.out.alloc HB1.out.size _).trans (hb2.mono (by simp; have := HB1.out.size; omega))
    clear hb2 HE
    go_wp2_with fail
    go_ret
    exact ⟨rfl, HB2.out⟩
  · obtain ⟨rfl, rfl, rfl, rfl⟩ := hn hd
    have HF : Hid (∀ W, Calls Try.prog 15 #[.int .i64 x] W fun e w' => e = .returned (.tuple #[.agg #[.int .i64 0, .int .i64 0, .int .i64 0, .int .i64 0], .int .i64 (decNo x)]) ∧ Below W.heap.size W w') := fun W => by
      have := CpuDecode_any x W h
      rwa [hI] at this
    have d0 : (decNo x != 0) = true := by simpa using hd
    revert d0 HF
    generalize decNo x = N
    intro HF d0
    clear hI hy hn h hx
    go_enter Try.func5, Try.ntmps5
    go_wp2_with fail
    refine (HF.out _).mono ?_
    rintro e w1 ⟨rfl, hb1⟩
    have HB1 : Hid (Below w.heap.size w w1) := hb1
    clear hb1 HF
    go_wp2_with fail
    go_ret
    exact ⟨rfl, HB1.out.alloc HB1.out.size _⟩

end Go.Proofs.Ytbdpnaklincgfad
