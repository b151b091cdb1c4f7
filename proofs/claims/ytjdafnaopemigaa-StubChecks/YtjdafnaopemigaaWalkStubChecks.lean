/- StubChecks, walked (in the law's order of words). -/
import Derived.Test.YtjdafnaopemigaaStubC
namespace Go.Proofs.Ytjdafnaopemigaa

theorem StubChecksL_any (x y : Value) (cnt a : Int) (bv wv : Value) (bl wl : List Int) (w : World) (_ : (Lit.int .i64 cnt).wf = true) (hb : IntsAt w bv bl) (hw : IntsAt w wv wl) (_ : (Lit.int .i64 a).wf = true) :
    Calls Try.prog 5 #[.agg #[x, y, .int .i64 cnt], .agg #[.int .i64 a, bv, wv]] w fun e w' => e = .returned (.bool true) ∧ Go.RowKit.Below w.heap.size w w' := StubChecks_any x y cnt a bv wv bl wl w hb hw

end Go.Proofs.Ytjdafnaopemigaa
