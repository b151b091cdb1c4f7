/- The walk of the law CpuFolds. -/
import Derived.Test.YtbdpnaklincgfabCpuFold
import Derived.Test.YtbdpnaklincgfabFold
namespace Go.Proofs.Ytbdpnaklincgfab
open Go.RowKit

set_option maxHeartbeats 400000 in
theorem CpuFolds_any (n : Int) (w : World) (hn : (Lit.int .i64 n).wf = true) :
    Calls Try.prog 8 #[.int .i64 n] w fun e w' => e = .returned (.bool true) ∧ Below w.heap.size w w' := by
  obtain ⟨h1, h2⟩ := i64_bd hn
  clear hn
  by_cases c1 : 4398046511104 < n
  · have d1 : decide (4398046511104 < n) = true := by simpa using c1
    go_enter Try.func8, Try.ntmps8
    go_wp2_with fail
    go_ret
    exact ⟨rfl, Below.refl _ _⟩
  have d1 : decide (4398046511104 < n) = false := by simpa using c1
  by_cases c2 : n < -4398046511104
  · have d2 : decide (n < -4398046511104) = true := by simpa using c2
    go_enter Try.func8, Try.ntmps8
    go_wp2_with fail
    go_ret
    exact ⟨rfl, Below.refl _ _⟩
  have d2 : decide (n < -4398046511104) = false := by simpa using c2
  have HF : Hid (∀ W, Calls Try.prog 23 #[.int .i64 n] W fun e w' => e = .returned (.int .i64 (foldF n)) ∧ Below W.heap.size W w') := fun W => Fold_any n W h1 h2
  have HG : Hid (∀ W, Calls Try.prog 24 #[.int .i64 n] W fun e w' => e = .returned (.int .i64 (foldF n)) ∧ w' = W) := fun W => FoldOf_any n W ⟨h1, h2⟩
  revert HF; revert HG
  generalize foldF n = x
  intro HG HF
  go_enter Try.func8, Try.ntmps8
  go_wp2_with fail
  refine (HF.out _).mono ?_
  rintro e w1 ⟨rfl, hb1⟩
  go_wp2_with fail
  refine (HG.out _).mono ?_
  rintro e w2 ⟨rfl, rfl⟩
  go_wp2_with fail
  go_ret
  exact ⟨rfl, hb1⟩

end Go.Proofs.Ytbdpnaklincgfab
