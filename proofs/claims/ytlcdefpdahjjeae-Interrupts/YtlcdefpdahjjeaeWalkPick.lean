/- Contract of picked: a number from 0 to many - 1. -/
import Derived.Test.YtlcdefpdahjjeaeNum
namespace Go.Proofs.Ytlcdefpdahjjeae
open Go.RowKit

def pickF (n m : Int) : Int := (if n < 0 then -(n + 1) else n) % m
theorem pickF_bd (n : Int) {m : Int} (hm : 0 < m) : 0 ≤ pickF n m ∧ pickF n m < m := ⟨Int.emod_nonneg _ (by omega), Int.emod_lt_of_pos _ hm⟩
theorem wf_bd {n : Int} (h : (Lit.int .i64 n).wf = true) : -9223372036854775808 ≤ n ∧ n ≤ 9223372036854775807 := by
  simpa [Lit.wf, IntKind.min, IntKind.max, IntKind.signed, IntKind.bits] using h

set_option maxHeartbeats 400000 in
theorem picked_any (n m : Int) (w : World) (hn : (Lit.int .i64 n).wf = true) (hm : 0 < m) (hm2 : m ≤ 1000000) :
    Calls Try.prog 6 #[.int .i64 n, .int .i64 m] w fun e w' => e = .returned (.int .i64 (pickF n m)) ∧ w' = w := by
  obtain ⟨b1, b2⟩ := wf_bd hn
  clear hn
  have hm0 : (m == 0) = false := by simp; omega
  by_cases h : n < 0
  · have HP : Hid (pickF n m = (-(n + 1)) % m) := by show _ = _; simp [pickF, h]
    go_enter Try.func6, Try.ntmps6
    go_wp2
    go_ret
    rw [HP.out, ← Int.tmod_eq_emod_of_nonneg (by omega), Int.neg_tmod]
    exact ⟨rfl, rfl⟩
  · have HP : Hid (pickF n m = n % m) := by show _ = _; simp [pickF, h]
    go_enter Try.func6, Try.ntmps6
    go_wp2
    go_ret
    rw [HP.out]
    exact ⟨rfl, rfl⟩

end Go.Proofs.Ytlcdefpdahjjeae
