/- Contract of cpu.Fold. -/
import Derived.Test.YtlcdefpdahjjeaeNum
namespace Go.Proofs.Ytlcdefpdahjjeae
open Go.RowKit
set_option linter.unusedVariables false

set_option maxHeartbeats 400000 in
theorem Fold_same (n : Int) (w : World) (h1 : -9223372036854775808 ≤ n) (h2 : n ≤ 9223372036854775807) :
    Calls Try.prog 10 #[.int .i64 n] w fun e w' => e = .returned (.int .i64 (foldF n)) ∧ w' = w := by
  have HM := tmod_sign n 2199023255553
  have b1 : -2199023255553 ≤ n.tmod 2199023255553 := by omega
  have b2 : n.tmod 2199023255553 ≤ 2199023255553 := by omega
  by_cases c1 : 1099511627776 < n.tmod 2199023255553
  · have HF : Hid (n.tmod 2199023255553 - 2199023255553 = foldF n) := by show _ = _; unfold foldF; omega
    clear HM
    go_enter Try.func10, Try.ntmps10
    go_wp2
    go_ret
    exact ⟨ret_int HF.out, rfl⟩
  · by_cases c2 : n.tmod 2199023255553 < -1099511627776
    · have HF : Hid (n.tmod 2199023255553 + 2199023255553 = foldF n) := by show _ = _; unfold foldF; omega
      clear HM
      go_enter Try.func10, Try.ntmps10
      go_wp2
      go_ret
      exact ⟨ret_int HF.out, rfl⟩
    · have HF : Hid (n.tmod 2199023255553 = foldF n) := by show _ = _; unfold foldF; omega
      clear HM
      go_enter Try.func10, Try.ntmps10
      go_wp2
      go_ret
      exact ⟨ret_int HF.out, rfl⟩

theorem Fold_any (n : Int) (w : World) (h1 : -9223372036854775808 ≤ n) (h2 : n ≤ 9223372036854775807) :
    Calls Try.prog 10 #[.int .i64 n] w fun e w' => e = .returned (.int .i64 (foldF n)) ∧ Below w.heap.size w w' :=
  (Fold_same n w h1 h2).mono fun _ _ ⟨he, hw⟩ => ⟨he, by rw [hw]; exact Below.refl _ _⟩

end Go.Proofs.Ytlcdefpdahjjeae
