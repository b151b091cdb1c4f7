/- Contract of the document's SetupFault. -/
import Derived.Test.YtgjlomccdgpnnaaDkC
namespace Go.Proofs.Ytgjlomccdgpnnaa
open Go.RowKit
set_option maxRecDepth 100000

set_option maxHeartbeats 2000000 in
theorem SetupFault_any (f e k : Int) (w : World) : Calls Try.prog 13 #[.agg #[.int .i64 f, .int .i64 e, .int .i64 k]] w fun r w' => r = .returned (.int .i64 (setupNo f e k)) ∧ Below w.heap.size w w' := by
  obtain ⟨W, hW⟩ : ∃ W, W = w.alloc (.cells #[.int .i64 f, .int .i64 e, .int .i64 k] 39) := ⟨_, rfl⟩
  have HX : Hid (W.heap[w.heap.size]? = some (.cells #[.int .i64 f, .int .i64 e, .int .i64 k] 39 (0, 0)) ∧ Below w.heap.size w W) := by
    rw [hW]; exact ⟨Go.Deep.blk_alloc_new _ _, below_alloc _ _⟩
  have HW : Hid (W = w.alloc (.cells #[.int .i64 f, .int .i64 e, .int .i64 k] 39)) := hW
  clear hW
  obtain ⟨N, hN⟩ : ∃ N, N = setupNo f e k := ⟨_, rfl⟩
  have HN : Hid (N = setupNo f e k) := hN
  rw [← hN]
  clear hN
  obtain ⟨z0, z1, z2, zf, zl⟩ := box3 HX.out.1
  have H1 : Hid (∀ w', Calls Try.prog 21 #[.int .i64 f, .int .i64 0, .int .i64 200] w' fun e w'' => e = .returned (.bool (inB f 0 200)) ∧ w'' = w') := fun w' => In_B _ _ _ _
  have H2 : Hid (∀ w', Calls Try.prog 21 #[.int .i64 e, .int .i64 1, .int .i64 3000] w' fun e' w'' => e' = .returned (.bool (inB e 1 3000)) ∧ w'' = w') := fun w' => In_B _ _ _ _
  have H3 : Hid (∀ w', Calls Try.prog 21 #[.int .i64 k, .int .i64 1, .int .i64 8] w' fun e w'' => e = .returned (.bool (inB k 1 8)) ∧ w'' = w') := fun w' => In_B _ _ _ _
  have HE : Hid (N = if inB f 0 200 && inB e 1 3000 && inB k 1 8 then 0 else 2) := HN.out
  clear HN
  revert H1 H2 H3 HE
  generalize inB f 0 200 = t1
  generalize inB e 1 3000 = t2
  generalize inB k 1 8 = t3
  cases t1 <;> cases t2 <;> cases t3
  all_goals
    intro H1 H2 H3 HE
    go_enter Try.func13, Try.ntmps13
    go_wp2_with (first
      | (go_at_call_of 21 (Value.int IntKind.i64 f); refine (H1.out _).mono ?_; rintro e' w' ⟨rfl, hw'⟩; rw [hw']; clear hw' w')
      | (go_at_call_of 21 (Value.int IntKind.i64 e); refine (H2.out _).mono ?_; rintro e' w' ⟨rfl, hw'⟩; rw [hw']; clear hw' w')
      | (go_at_call_of 21 (Value.int IntKind.i64 k); refine (H3.out _).mono ?_; rintro e' w' ⟨rfl, hw'⟩; rw [hw']; clear hw' w'))
    go_ret
    exact ⟨ret_int HE.out.symm, below_alloc _ _⟩

end Go.Proofs.Ytgjlomccdgpnnaa
