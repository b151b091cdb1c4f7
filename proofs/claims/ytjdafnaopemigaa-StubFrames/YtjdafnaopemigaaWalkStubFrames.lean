/- StubFrames, walked. -/
import Derived.Test.YtjdafnaopemigaaStub
namespace Go.Proofs.Ytjdafnaopemigaa
open Go.RowKit
set_option maxRecDepth 100000

theorem StubFrames_any (s : ByteArray) (w : World) (hs : s.size ≤ maxLen) :
    Calls Try.prog 3 #[.string s] w fun e w' => e = .returned (.bool true) ∧ Below w.heap.size w w' := by
  unfold maxLen at hs
  go_enter Try.func3, Try.ntmps3
  go_wp2_with fail
  refine (Frame_any s _ (by omega)).mono ?_
  rintro e w1 ⟨rfl, hb1⟩
  go_wp2_with fail
  refine (FramedOf_any s _ (by omega)).mono ?_
  rintro e w2 ⟨rfl, hb2⟩
  have HB : Below w.heap.size w w2 := hb1.trans (hb2.mono hb1.size)
  clear hb1 hb2
  generalize frameTx s = X
  generalize frameNo s = N
  have hx : (X.toList == X.toList) = true := beq_self_eq_true _
  go_wp2_with fail
  go_ret
  exact ⟨by simp, HB⟩

end Go.Proofs.Ytjdafnaopemigaa
