/- Contract of hourglassref.FoldOf: a number goes round. -/
import Derived.Test.YtlcdefpdahjjeadIn
namespace Go.Proofs.Ytlcdefpdahjjead
open Go.RowKit

set_option maxHeartbeats 400000 in
theorem FoldOf_any (n : Int) (w : World) (hn : -9223372036854775808 ≤ n ∧ n ≤ 9223372036854775807) :
    Calls Try.prog 50 #[.int .i64 n] w fun e w' => e = .returned (.int .i64 (foldF n)) ∧ w' = w := by
  obtain ⟨n1, n2⟩ := hn
  go_enter Try.func50, Try.ntmps50
  go_wp2_with fail
  go_loopw [0] (fun v wr => ∃ c : Int, v = .int .i64 c ∧ wr = w ∧ -9223372036854775808 ≤ c ∧ c ≤ 9223372036854775807 ∧ Hid ((n - c) % 2199023255553 = 0)) (fun v _ => (intOf v + 9223372036854775808).toNat)
  case atStart => exact ⟨n, rfl, rfl, n1, n2, by simp [Hid]⟩
  case round =>
    obtain ⟨c, rfl, hw, c1, c2, hc⟩ := hrel
    subst wr
    by_cases hgt : 1099511627776 < c
    · go_wp2
      refine ⟨⟨c - 2199023255553, by go_num, trivial, by omega, by omega, by have := hc.out; simp only [Hid]; omega⟩, ?_⟩
      simp [intOf]; omega
    · go_wp2
      go_loopw [0] (fun v wr => ∃ c : Int, v = .int .i64 c ∧ wr = w ∧ -9223372036854775808 ≤ c ∧ c ≤ 1099511627776 ∧ Hid ((n - c) % 2199023255553 = 0)) (fun v _ => (9223372036854775808 - intOf v).toNat)
      case atStart => exact ⟨c, rfl, rfl, c1, by omega, hc⟩
      case round =>
        clear hc hgt c1 c2
        obtain ⟨d, rfl, hw, d1, d2, hd⟩ := hrel
        subst wr
        by_cases hlt : d < -1099511627776
        · go_wp2
          refine ⟨⟨d + 2199023255553, by go_num, trivial, by omega, by omega, by have := hd.out; simp only [Hid]; omega⟩, ?_⟩
          simp [intOf]; omega
        · go_wp2
          go_ret
          exact ⟨ret_int (foldF_of (by omega) (by omega) hd.out).symm, rfl⟩

end Go.Proofs.Ytlcdefpdahjjead
