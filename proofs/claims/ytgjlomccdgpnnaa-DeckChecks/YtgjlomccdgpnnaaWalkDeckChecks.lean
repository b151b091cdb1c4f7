/- DeckChecks, walked. -/
import Derived.Test.YtgjlomccdgpnnaaDkF
namespace Go.Proofs.Ytgjlomccdgpnnaa
open Go.RowKit
set_option maxRecDepth 100000

theorem DeckChecks_any (f e k : Int) (w : World) :
    Calls Try.prog 5 #[.agg #[.int .i64 f, .int .i64 e, .int .i64 k]] w fun e w' => e = .returned (.bool true) ∧ Below w.heap.size w w' := by
  have HX : Hid ((w.alloc (.cells #[.int .i64 f, .int .i64 e, .int .i64 k] 39)).heap[w.heap.size]? = some (.cells #[.int .i64 f, .int .i64 e, .int .i64 k] 39 (0, 0)) ∧ Below w.heap.size w (w.alloc (.cells #[.int .i64 f, .int .i64 e, .int .i64 k] 39))) := ⟨Go.Deep.blk_alloc_new _ _, below_alloc _ _⟩
  go_enter Try.func5, Try.ntmps5
  go_wp2_with fail
  refine (DeckCheck_any f e k _).mono ?_
  rintro r w1 ⟨rfl, hb1⟩
  obtain ⟨z0, z1, z2, zf, zl⟩ := box3 ((hb1.block _ (lt_of_block HX.out.1)).trans HX.out.1)
  have H1 : Hid (Below w.heap.size w w1) := HX.out.2.trans (hb1.mono HX.out.2.size)
  clear hb1 HX
  go_wp2_with fail
  refine (SetupFault_any f e k _).mono ?_
  rintro r w2 ⟨rfl, hb2⟩
  have H2 : Hid (Below w.heap.size w w2) := H1.out.trans (hb2.mono H1.out.size)
  clear hb2
  go_wp2_with fail
  go_ret
  exact ⟨by simp, H2.out⟩

end Go.Proofs.Ytgjlomccdgpnnaa
