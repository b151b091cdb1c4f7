/- A page's frame out of an array by value. -/
import Derived.Test.YtlcdefpdahjjeafPg
namespace Go.Proofs.Ytlcdefpdahjjeaf
open Go.RowKit

set_option maxRecDepth 20000 in
theorem index_pg (s : List Int) (hs : s.length = 16) (k : Nat) (hk : k < 16) (w : World) : (Instr.index 48 (.agg (pgc s)) (.int .i64 (k : Int))).run Try.prog w = .ok (.int .i64 (s.getD k 0)) w := by
  have h2 : (pgc s)[k]? = some (.int .i64 (s.getD k 0)) := by simp [pgc, List.getD, hs, hk]
  simp [Instr.index, go_sem, h2]
  intro h
  omega

end Go.Proofs.Ytlcdefpdahjjeaf
