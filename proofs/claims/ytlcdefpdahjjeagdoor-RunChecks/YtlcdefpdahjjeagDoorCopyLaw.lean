/- Laws on copying numbers into new memory. -/
import Derived.Test.YtlcdefpdahjjeagDoorInfo
import Derived.Laws.CopyOwn
import Derived.Deep.OwnRows
namespace Go.Proofs.YtlcdefpdahjjeagDoor
open Go.RowKit

theorem infoInts : (Tryd.prog.info? 22).map (fun i => (i.zero, i.size, i.bytes)) = some (some (.slice none 0 0), 1, 24) := by kernel_rfl

theorem splice_all (l : List Int) (n : Nat) (h : n = l.length) : splice (madeCells #[Value.int .i64 0] n).toList 0 (l.map (Value.int .i64)) = l.map (Value.int .i64) := by
  subst h
  simp [splice, size_madeCells]

theorem OwnI.made {w : World} {l : List Int} {lo g : Nat} (hlo : lo ≤ g) (hl : l.length * 8 ≤ 140737488351232) (h : w.heap[g]? = some (.cells (l.map (Value.int .i64)).toArray 3 (0, 0))) : OwnI w lo (.slice (some ⟨g, 0, none⟩) l.length l.length) l :=
  ⟨by simp, Or.inr ⟨g, l.length, _, rfl, hlo, h, Nat.le_refl _, by unfold maxLen; omega, by simp, by simp [List.take_of_length_le]⟩⟩

theorem copy_src {w : World} {l : List Int} {A : Option Addr} {g : Nat} (o : Obj)
    (hc : 0 < l.length → ∃ b off, A = some ⟨b, off, none⟩ ∧ b < w.heap.size ∧ ∀ j, j < l.length → w.cell? ⟨b, off + j, none⟩ = some (.int .i64 (l.getD j 0))) :
    0 < (l.map (Value.int .i64)).length → (some ⟨g, 0, none⟩ : Option Addr) = some ⟨g, 0, none⟩ ∧ ∃ ad, A = some ad ∧ ∀ j v, (l.map (Value.int .i64))[j]? = some v → (w.alloc o).cell? (ad.add j) = some v := by
  intro h0
  obtain ⟨b, off, rfl, hb, hj⟩ := hc (by simpa using h0)
  refine ⟨rfl, _, rfl, fun j v hv => ?_⟩
  have hjl : j < l.length := by
    by_cases h : j < l.length
    · exact h
    · simp [List.getElem?_eq_none (show l.length ≤ j by omega)] at hv
  rw [Go.WideShapes.add_plain]
  rw [(below_alloc w o).cell (p := ⟨b, off + j, none⟩) hb, hj j hjl]
  simp [hjl] at hv
  simp [List.getD, hjl, hv]

theorem made_at (w : World) (n : Nat) : (w.alloc (.cells (madeCells #[Value.int .i64 0] n) 3)).heap[w.heap.size]? = some (.cells (madeCells #[Value.int .i64 0] n).toList.toArray 3 (0, 0)) := by
  rw [Go.Deep.blk_alloc_new]

end Go.Proofs.YtlcdefpdahjjeagDoor
