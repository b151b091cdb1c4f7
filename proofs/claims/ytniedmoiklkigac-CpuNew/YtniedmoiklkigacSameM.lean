/- Contract of sameMachine: two guests that are the same. -/
import Derived.Test.YtniedmoiklkigacWalkB
import Derived.Test.YtniedmoiklkigacGuest
namespace Go.Proofs.Ytniedmoiklkigac
open Go.RowKit

theorem sameInts_same (va vb : Value) (l : List Int) (w : World) (ha : IntsAt w va l) (hb : IntsAt w vb l) :
    Calls Try.prog 29 #[va, vb] w fun e w' => e = .returned (.bool true) ∧ ∃ n, w' = w.drewN n := by
  have := sameInts_any va vb l l w ha hb
  simpa using this

set_option maxHeartbeats 4000000 in
theorem sameMachine_same (m : Mach) (rv mv ov rv' mv' ov' : Value) (w : World) (ha : MachAt w rv mv ov m) (hb : MachAt w rv' mv' ov' m) :
    Calls Try.prog 19 #[.agg (m.cells rv mv ov), .agg (m.cells rv' mv' ov')] w fun e w' => e = .returned (.bool true) ∧ Below w.heap.size w w' := by
  obtain ⟨r, p, k, i, t, a, n, f, m, o, y, q⟩ := m
  have H1 : Hid (IntsAt w rv r) := ha.regs
  have H2 : Hid (IntsAt w mv m) := ha.mem
  have H3 : Hid (IntsAt w ov o) := ha.out
  have K1 : Hid (IntsAt w rv' r) := hb.regs
  have K2 : Hid (IntsAt w mv' m) := hb.mem
  have K3 : Hid (IntsAt w ov' o) := hb.out
  clear ha hb
  simp only [Mach.cells]
  go_enter Try.func19, Try.ntmps19
  go_wp2_with fail
  refine (sameInts_same rv rv' r _ (H1.out.below (below_alloc2 _ _ _)) (K1.out.below (below_alloc2 _ _ _))).mono ?_
  rintro e w' ⟨rfl, j1, rfl⟩
  clear H1 K1
  go_wp2_with fail
  refine (sameInts_same mv mv' m _ ((H2.out.below (below_alloc2 _ _ _)).drewN _) ((K2.out.below (below_alloc2 _ _ _)).drewN _)).mono ?_
  rintro e w' ⟨rfl, j2, rfl⟩
  clear H2 K2
  go_wp2_with fail
  refine (sameInts_same ov ov' o _ ((H3.out.below (below_alloc2 _ _ _)).drewN _) ((K3.out.below (below_alloc2 _ _ _)).drewN _)).mono ?_
  rintro e w' ⟨rfl, j3, rfl⟩
  clear H3 K3
  go_wp2_with fail
  go_ret
  exact ⟨rfl, below_drewN (below_alloc2 _ _ _) _⟩

end Go.Proofs.Ytniedmoiklkigac
