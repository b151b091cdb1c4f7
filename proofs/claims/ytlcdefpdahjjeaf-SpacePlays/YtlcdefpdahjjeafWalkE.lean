/- Contract of frames.copyWords: new memory that holds the same numbers. -/
import Derived.Test.YtlcdefpdahjjeafCopyLaw
import Derived.Test.YtlcdefpdahjjeafWalkA
import Derived.Laws.CopyOwn
import Derived.Deep.OwnRows
namespace Go.Proofs.Ytlcdefpdahjjeaf
open Go.RowKit

set_option maxHeartbeats 1000000 in
theorem copyWords_some (v : Value) (l : List Int) (w : World) (h : IntsAt w v l) :
    Calls Try.prog 37 #[v] w fun e w' => ∃ v', e = .returned v' ∧ OwnI w' w.heap.size v' l ∧ Below w.heap.size w w' := by
  obtain ⟨A, c, rfl, hl, hc⟩ := h
  have hmk := run_make_row' (P := Try.prog) 24 3 (.int .i64 0) 8 Try.underlying24 infoInt rfl .i64 .i64 l.length (by omega) (by omega)
  have hsi : (Try.prog.info? 3).map (·.size) = some 1 := by kernel_rfl
  have H1 := made_at w l.length
  have H3 := copy_src (g := w.heap.size) (.cells (madeCells #[Value.int .i64 0] l.length) 3) hc
  have H6 := below_alloc w (.cells (madeCells #[Value.int .i64 0] l.length) 3)
  have HC : Hid (_ ∧ _ ∧ _) := ⟨H1, H3, H6⟩
  clear H1 H3 H6 hc
  go_enter Try.func37, Try.ntmps37
  go_wp2_with (refine wpList_copy_splice rfl (.tmp 7) (.tmp 8) 24 24 rfl 3 Try.underlying24 hsi (some ⟨w.heap.size, 0, none⟩) A l.length l.length l.length c rfl rfl w.heap.size 0 (madeCells #[Value.int .i64 0] l.length).toList 3 HC.out.1 (l.map (Value.int .i64)) (by simp) HC.out.2.1 (by simp [size_madeCells]) (ints_oneCell _ _) w.heap.size w HC.out.2.2 (Nat.le_refl _) ?_)
  intro w2 hg2 hb2
  go_wp2
  go_ret
  refine ⟨_, rfl, OwnI.made (Nat.le_refl _) hl ?_, hb2⟩
  rw [hg2.out, splice_all l _ rfl]

theorem copyWords_any (v : Value) (l : List Int) (w : World) (h : IntsAt w v l) :
    Calls Try.prog 37 #[v] w fun e w' => ∃ A c, e = .returned (.slice A l.length c) ∧ OwnI w' w.heap.size (.slice A l.length c) l ∧ Below w.heap.size w w' :=
  (copyWords_some v l w h).mono fun e w' ⟨v', he, ho, hb⟩ => by
    obtain ⟨A, c, rfl⟩ := ho.shape
    exact ⟨A, c, he, ho, hb⟩

end Go.Proofs.Ytlcdefpdahjjeaf
