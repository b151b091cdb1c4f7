/- Contract of In: is a number from low to high; and laws on callees met in a region that draws. -/
import Derived.Test.YtgjlomccdgpnnaaNum
namespace Go.Proofs.Ytgjlomccdgpnnaa
open Go.RowKit
set_option maxRecDepth 100000
set_option linter.unusedVariables false

theorem In_any (n lo hi : Int) (w : World) : Calls Try.prog 21 #[.int .i64 n, .int .i64 lo, .int .i64 hi] w fun e w' => e = .returned (.bool (decide (lo ≤ n ∧ n ≤ hi))) ∧ w' = w := by
  by_cases h1 : lo ≤ n <;> by_cases h2 : n ≤ hi
  all_goals
    go_enter Try.func21, Try.ntmps21
    go_wp2
    go_ret
    simp [h1, h2]

theorem In_B (n lo hi : Int) (w : World) : Calls Try.prog 21 #[.int .i64 n, .int .i64 lo, .int .i64 hi] w fun e w' => e = .returned (.bool (inB n lo hi)) ∧ w' = w := In_any n lo hi w

end Go.Proofs.Ytgjlomccdgpnnaa
