/- Contracts of frames.New and hourglassref.FramesNew: so many free frames, or ErrRange. -/
import Derived.Test.YtlcdefpdahjjeafWalkF
import Derived.Test.YtlcdefpdahjjeafMadeZ
import Derived.RegionTactic
namespace Go.Proofs.Ytlcdefpdahjjeaf
open Go.RowKit

def newD (n : Int) : List (List Int) := if 0 ≤ n ∧ n ≤ 200 then List.replicate n.toNat [] else []
def newR (n : Int) : List Int := if 0 ≤ n ∧ n ≤ 200 then List.replicate n.toNat 0 else []
def newE (n : Int) : Int := if 0 ≤ n ∧ n ≤ 200 then 0 else 2

theorem RowsLo.nil (lo : Nat) (w : World) : RowsLo lo w nilv [] := ⟨none, 0, rfl, by simp, fun h => by simp at h⟩
theorem IntsLo.nil (lo : Nat) (w : World) : IntsLo lo w nilv [] := ⟨none, 0, rfl, by simp, fun h => by simp at h⟩

theorem rowsAt_made {w : World} {lo g n : Nat} (hlo : lo ≤ g) (hn : n ≤ 200) (h : w.heap[g]? = some (.cells (madeCells #[nilv] n) 24 (0, 0))) : RowsLo lo w (.slice (some ⟨g, 0, none⟩) n n) (List.replicate n []) :=
  (OwnD.made hlo (by unfold maxLen; omega) h).rows_lo (by simp; omega) (fun i hi => by simp at hi; simp [List.getD, hi])
theorem intsAt_made {w : World} {lo g n : Nat} (hlo : lo ≤ g) (hn : n ≤ 200) (h : w.heap[g]? = some (.cells (madeCells #[.int .i64 0] n) 3 (0, 0))) : IntsLo lo w (.slice (some ⟨g, 0, none⟩) n n) (List.replicate n 0) :=
  (OwnI.madeZ hlo (by unfold maxLen; omega) h).low (by simp; omega)

theorem three_blocks (w : World) (o1 o2 o3 : Obj) : (((w.alloc o1).alloc o2).alloc o3).heap[w.heap.size + 1]? = some o2 ∧ (((w.alloc o1).alloc o2).alloc o3).heap[w.heap.size + 1 + 1]? = some o3 ∧ Below w.heap.size w (((w.alloc o1).alloc o2).alloc o3) := by
  refine ⟨?_, ?_, ((below_alloc _ _).alloc (by simp) _).alloc (by simp; omega) _⟩
  · rw [Go.Deep.blk_alloc_lt _ _ _ (by simp)]
    have := Go.Deep.blk_alloc_new (w.alloc o1) o2
    simpa using this
  · have := Go.Deep.blk_alloc_new ((w.alloc o1).alloc o2) o3
    simpa using this

/-- What New leaves. -/
def NewPost (n : Int) (w : World) (e : Ending) (w' : World) : Prop :=
  ∃ A c B c', e = .returned (.tuple #[.agg #[.slice A (newD n).length c, .slice B (newR n).length c'], .int .i64 (newE n)]) ∧ RowsLo w.heap.size w' (.slice A (newD n).length c) (newD n) ∧ IntsLo w.heap.size w' (.slice B (newR n).length c') (newR n) ∧ Below w.heap.size w w'

theorem newPost_good {k g g' : Nat} {w w' : World} (hk : k ≤ 200) (hlo : w.heap.size ≤ g ∧ w.heap.size ≤ g') (h1 : w'.heap[g]? = some (.cells (madeCells #[nilv] k) 24 (0, 0))) (h2 : w'.heap[g']? = some (.cells (madeCells #[.int .i64 0] k) 3 (0, 0))) (hb : Below w.heap.size w w') :
    NewPost k w (.returned (.tuple #[.agg #[.slice (some ⟨g, 0, none⟩) k k, .slice (some ⟨g', 0, none⟩) k k], .int .i64 0])) w' := by
  have hr : 0 ≤ (k : Int) ∧ (k : Int) ≤ 200 := by omega
  have e1 : newD k = List.replicate k [] := by simp [newD, hr]
  have e2 : newR k = List.replicate k 0 := by simp [newR, hr]
  have e3 : newE k = 0 := by simp [newE, hr]
  unfold NewPost
  rw [e1, e2, e3, List.length_replicate, List.length_replicate]
  exact ⟨_, _, _, _, rfl, rowsAt_made hlo.1 hk h1, intsAt_made hlo.2 hk h2, hb⟩

theorem newPost_bad {n : Int} {w w' : World} (hr : ¬ (0 ≤ n ∧ n ≤ 200)) (hb : Below w.heap.size w w') : NewPost n w (.returned (.tuple #[.agg #[nilv, nilv], .int .i64 2])) w' := by
  have e1 : newD n = [] := by simp [newD, hr]
  have e2 : newR n = [] := by simp [newR, hr]
  have e3 : newE n = 2 := by simp [newE, hr]
  unfold NewPost
  rw [e1, e2, e3]
  exact ⟨none, 0, none, 0, rfl, RowsLo.nil _ _, IntsLo.nil _ _, hb⟩

set_option maxHeartbeats 400000 in
theorem New_any (n : Int) (w : World) : Calls Try.prog 14 #[.int .i64 n] w fun e w' => NewPost n w e w' := by
  by_cases hr : 0 ≤ n ∧ n ≤ 200
  · obtain ⟨k, rfl⟩ := Int.eq_ofNat_of_zero_le hr.1
    have hk : k ≤ 200 := by omega
    clear hr
    have hmk := run_make_row' (P := Try.prog) 38 24 (.slice none 0 0) 24 Try.underlying38 infoInts rfl .i64 .i64 k (by omega) (by omega)
    have hmk2 := run_make_row' (P := Try.prog) 24 3 (.int .i64 0) 8 Try.underlying24 infoInt rfl .i64 .i64 k (by omega) (by omega)
    go_enter Try.func14, Try.ntmps14
    go_wp2
    go_region
    all_goals go_wp2
    · refine bodyPost_ret (v := .tuple #[.agg #[.slice (some ⟨w.heap.size + 1, 0, none⟩) k k, .slice (some ⟨w.heap.size + 1 + 1, 0, none⟩) k k], .int .i64 0]) (by simp [results, Try.results14, go_sem]) rfl ?_
      obtain ⟨h1, h2, h3⟩ := three_blocks w (.cells #[.slice (some ⟨w.heap.size + 1, 0, none⟩) k k, .slice (some ⟨w.heap.size + 1 + 1, 0, none⟩) k k] 44) (.cells (madeCells #[nilv] k) 24) (.cells (madeCells #[.int .i64 0] k) 3)
      exact newPost_good hk (by omega) h1 h2 h3.drew
    · refine bodyPost_ret (v := .tuple #[.agg #[.slice (some ⟨w.heap.size + 1 + 1, 0, none⟩) k k, .slice (some ⟨w.heap.size + 1, 0, none⟩) k k], .int .i64 0]) (by simp [results, Try.results14, go_sem]) rfl ?_
      obtain ⟨h1, h2, h3⟩ := three_blocks w (.cells #[.slice (some ⟨w.heap.size + 1 + 1, 0, none⟩) k k, .slice (some ⟨w.heap.size + 1, 0, none⟩) k k] 44) (.cells (madeCells #[.int .i64 0] k) 3) (.cells (madeCells #[nilv] k) 24)
      exact newPost_good hk (by omega) h2 h1 h3.drew
  · by_cases c1 : n < 0
    · go_enter Try.func14, Try.ntmps14
      go_wp2
      exact bodyPost_ret (v := .tuple #[.agg #[nilv, nilv], .int .i64 2]) (by simp [results, Try.results14, go_sem]) rfl (newPost_bad hr (below_alloc _ _))
    · have c2 : 200 < n := by omega
      go_enter Try.func14, Try.ntmps14
      go_wp2
      exact bodyPost_ret (v := .tuple #[.agg #[nilv, nilv], .int .i64 2]) (by simp [results, Try.results14, go_sem]) rfl (newPost_bad hr (below_alloc _ _))

end Go.Proofs.Ytlcdefpdahjjeaf
