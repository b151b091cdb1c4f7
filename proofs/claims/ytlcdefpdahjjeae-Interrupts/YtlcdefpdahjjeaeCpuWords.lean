/- Contract of cpu.copyWords: new memory that holds the same numbers. -/
import Derived.Test.YtlcdefpdahjjeaeCopyLaw
namespace Go.Proofs.Ytlcdefpdahjjeae
open Go.RowKit

set_option maxHeartbeats 1000000 in
theorem cpuWords_some (v : Value) (l : List Int) (w : World) (h : IntsAt w v l) :
    Calls Try.prog 24 #[v] w fun e w' => ∃ v', e = .returned v' ∧ OwnI w' w.heap.size v' l ∧ Below w.heap.size w w' := by
  obtain ⟨A, c, rfl, hl, hc⟩ := h
  have hmk := run_make_row' (P := Try.prog) 25 3 (.int .i64 0) 8 Try.underlying25 infoInt rfl .i64 .i64 l.length (by omega) (by omega)
  have hsi : (Try.prog.info? 3).map (·.size) = some 1 := by kernel_rfl
  have H1 := made_at w l.length
  have H3 := copy_src (g := w.heap.size) (.cells (madeCells #[Value.int .i64 0] l.length) 3) hc
  have H6 := below_alloc w (.cells (madeCells #[Value.int .i64 0] l.length) 3)
  have HC : Hid (_ ∧ _ ∧ _) := ⟨H1, H3, H6⟩
  clear H1 H3 H6 hc
  go_enter Try.func24, Try.ntmps24
  go_wp2_with (refine wpList_copy_splice rfl (.tmp 7) (.tmp 8) 25 25 rfl 3 Try.underlying25 hsi (some ⟨w.heap.size, 0, none⟩) A l.length l.length l.length c rfl rfl w.heap.size 0 (madeCells #[Value.int .i64 0] l.length).toList 3 HC.out.1 (l.map (Value.int .i64)) (by simp) HC.out.2.1 (by simp [size_madeCells]) (ints_oneCell _ _) w.heap.size w HC.out.2.2 (Nat.le_refl _) ?_)
  intro w2 hg2 hb2
  go_wp2
  go_ret
  refine ⟨_, rfl, OwnI.made (Nat.le_refl _) hl ?_, hb2⟩
  rw [hg2.out, splice_all l _ rfl]

theorem cpuWords_any (v : Value) (l : List Int) (w : World) (h : IntsAt w v l) :
    Calls Try.prog 24 #[v] w fun e w' => ∃ A c, e = .returned (.slice A l.length c) ∧ OwnI w' w.heap.size (.slice A l.length c) l ∧ Below w.heap.size w w' :=
  (cpuWords_some v l w h).mono fun e w' ⟨v', he, ho, hb⟩ => by
    obtain ⟨A, c, rfl⟩ := ho.shape
    exact ⟨A, c, he, ho, hb⟩

end Go.Proofs.Ytlcdefpdahjjeae
