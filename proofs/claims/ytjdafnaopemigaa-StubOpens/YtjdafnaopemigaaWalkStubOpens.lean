/- StubOpens, walked. -/
import Derived.Test.YtjdafnaopemigaaStubO
namespace Go.Proofs.Ytjdafnaopemigaa
open Go.RowKit
set_option maxRecDepth 100000

theorem StubOpens_any (s : ByteArray) (w : World) (hs : s.size ≤ maxLen) :
    Calls Try.prog 4 #[.string s] w fun e w' => e = .returned (.bool true) ∧ Below w.heap.size w w' := by
  unfold maxLen at hs
  go_enter Try.func4, Try.ntmps4
  go_wp2_with fail
  refine (Open_any s _ (by omega)).mono ?_
  rintro e w1 ⟨rfl, hb1⟩
  go_wp2_with fail
  refine (OpenedOf_any s _ (by omega)).mono ?_
  rintro e w2 ⟨rfl, hb2⟩
  have HB : Below w.heap.size w w2 := hb1.trans (hb2.mono hb1.size)
  clear hb1 hb2
  generalize openTx s = X
  generalize openNo s = N
  have hx : (X.toList == X.toList) = true := beq_self_eq_true _
  go_wp2_with fail
  go_ret
  exact ⟨by simp, HB⟩

end Go.Proofs.Ytjdafnaopemigaa
