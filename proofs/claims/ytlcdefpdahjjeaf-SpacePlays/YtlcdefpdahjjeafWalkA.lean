/- Contract of frames.wordsFor. -/
import Derived.Test.YtlcdefpdahjjeafIn
namespace Go.Proofs.Ytlcdefpdahjjeaf
open Go.RowKit

def wordsB (n : Int) : Int := if n = 0 then 0 else 16

theorem wordsFor_any (n : Int) (w : World) : Calls Try.prog 41 #[.int .i64 n] w fun e w' => e = .returned (.int .i64 (wordsB n)) ∧ w' = w := by
  by_cases h1 : n = 0
  · go_enter Try.func41, Try.ntmps41
    go_wp2
    go_ret
    simp [wordsB, h1]
  · go_enter Try.func41, Try.ntmps41
    go_wp2
    go_ret
    simp [wordsB, h1]

end Go.Proofs.Ytlcdefpdahjjeaf
