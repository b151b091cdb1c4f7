/- The walk of the law EvlogChecks. -/
import Derived.Test.YtniedmoiklkigaeDoorEvRef
namespace Go.Proofs.YtniedmoiklkigaeDoor
open Go.RowKit

set_option maxHeartbeats 1000000 in
theorem EvlogChecks_any (v : Value) (L : List Ev) (w : World) (h : EvsAt w v L) (hL : Laid w) :
    Calls Tryd.prog 3 #[v] w fun e w' => e = .returned (.bool true) ∧ Below w.heap.size w w' := by
  have HF : Hid (∀ W, Below w.heap.size w W → Calls Tryd.prog 6 #[v] W fun e w' => e = .returned (.int .i64 (chkNo L)) ∧ Below W.heap.size W w') := fun W hb => Check_any v L W (h.below hb) (hL.below hb)
  have HG : Hid (∀ W, Below w.heap.size w W → Calls Tryd.prog 7 #[v] W fun e w' => e = .returned (.int .i64 (chkNo L)) ∧ Below W.heap.size W w') := fun W hb => EventsFault_any v L W (h.below hb)
  clear h hL
  revert HF HG
  generalize chkNo L = en
  intro HF HG
  go_enter Tryd.func3, Tryd.ntmps3
  go_wp2_with fail
  refine (HF.out _ (Below.refl _ _)).mono ?_
  rintro e w1 ⟨rfl, hb1⟩
  have HB : Hid (Below w.heap.size w w1) := hb1
  clear hb1
  go_wp2_with fail
  refine (HG.out _ HB.out).mono ?_
  rintro e w2 ⟨rfl, hb2⟩
  have HB2 : Hid (Below w.heap.size w w2) := HB.out.trans (hb2.mono HB.out.size)
  clear hb2
  go_wp2_with fail
  go_ret
  exact ⟨rfl, HB2.out⟩

end Go.Proofs.YtniedmoiklkigaeDoor
