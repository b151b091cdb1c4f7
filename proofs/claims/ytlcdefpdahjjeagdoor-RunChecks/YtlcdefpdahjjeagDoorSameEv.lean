/- Contract of sameEvents: events that are the same. -/
import Derived.Test.YtlcdefpdahjjeagDoorEv
import Derived.Test.YtlcdefpdahjjeagDoorWalkB
import Derived.Deep.QuietTactic
namespace Go.Proofs.YtlcdefpdahjjeagDoor
open Go.RowKit
set_option maxRecDepth 100000

theorem sameInts_same (va vb : Value) (l : List Int) (w : World) (ha : IntsAt w va l) (hb : IntsAt w vb l) :
    Calls Tryd.prog 40 #[va, vb] w fun e w' => e = .returned (.bool true) ∧ ∃ n, w' = w.drewN n := by
  have := sameInts_any va vb l l w ha hb
  simpa using this

set_option maxRecDepth 20000 in
set_option maxHeartbeats 2000000 in
theorem sameEvents_same (v u : Value) (L : List Ev) (w : World) (h1 : EvsAt w v L) (h2 : EvsAt w u L) :
    Calls Tryd.prog 15 #[v, u] w fun e w' => e = .returned (.bool true) ∧ Below w.heap.size w w' := by
  obtain ⟨A, c, rfl, hl, hc⟩ := h1
  obtain ⟨A', c', rfl, -, hc'⟩ := h2
  go_enter Tryd.func15, Tryd.ntmps15
  go_wp2_with fail
  go_loopw [5] (fun i wr => ∃ k n : Nat, k ≤ L.length ∧ i = .int .i64 k ∧ wr = w.drewN n) (fun i _ => L.length - (intOf i).toNat)
  case atStart => exact ⟨0, 0, Nat.zero_le _, rfl, rfl⟩
  case round =>
    obtain ⟨k, n, hk, rfl, hw⟩ := hrel
    subst wr
    by_cases hlt : k < L.length
    · obtain ⟨b, off, rfl, hbs, hcell⟩ := hc (by omega)
      obtain ⟨b', off', rfl, hbs', hcell'⟩ := hc' (by omega)
      obtain ⟨x0, x1, vx, x2, xi⟩ := hcell k hlt
      obtain ⟨y0, y1, vy, y2, yi⟩ := hcell' k hlt
      clear hcell hcell' hc hc'
      revert x0 x1 y0 y1 xi yi
      generalize L.getD k noEv = x
      intro x0 x1 xi y0 y1 yi
      obtain ⟨xa, xk, xd⟩ := x
      simp only at xi yi x0 x1 y0 y1
      have HF : Hid (∀ m : Nat, Calls Tryd.prog 40 #[vx, vy] (w.drewN (n + m)) fun e w' => e = .returned (.bool true) ∧ ∃ n', w' = (w.drewN (n + m)).drewN n') := fun m => sameInts_same vx vy xd _ (xi.drewN _) (yi.drewN _)
      obtain ⟨A1, c1, rfl, -, -⟩ := xi
      obtain ⟨A2, c2, rfl, -, -⟩ := yi
      have hki : (k : Int) < (L.length : Int) := by omega
      go_wp2_with fail
      go_quiet ((go_at_call 40; exact quiet_of2 (HF.out _)))
      go_wp2_with fail
      refine ⟨⟨k + 1, _, by omega, by go_num, rfl⟩, ?_⟩
      simp [intOf]; omega
    · have hki : ¬ (k : Int) < (L.length : Int) := by omega
      clear hc hc'
      go_wp2_with fail
      go_ret
      exact ⟨rfl, below_drewN (Below.refl _ _) _⟩

end Go.Proofs.YtlcdefpdahjjeagDoor
