/- New memory of zeros. -/
import Derived.Test.YtlcdefpdahjjeagDoorInfo
import Derived.Deep.OwnRows
namespace Go.Proofs.YtlcdefpdahjjeagDoor
open Go.RowKit

theorem OwnI.madeZ {w : World} {lo g n : Nat} (hlo : lo ≤ g) (hn : n ≤ maxLen) (h : w.heap[g]? = some (.cells (madeCells #[.int .i64 0] n) 3 (0, 0))) : OwnI w lo (.slice (some ⟨g, 0, none⟩) n n) (List.replicate n 0) := by
  refine ⟨by simp, Or.inr ⟨g, n, _, by simp, hlo, h, by simp, hn, by simp [size_madeCells], ?_⟩⟩
  rw [toList_madeCells_one]; simp

end Go.Proofs.YtlcdefpdahjjeagDoor
