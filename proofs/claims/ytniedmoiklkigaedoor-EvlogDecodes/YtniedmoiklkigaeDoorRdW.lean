/- Contract of reader.word. -/
import Derived.Test.YtniedmoiklkigaeDoorRd
import Derived.Test.YtniedmoiklkigaeDoorInfo
import Derived.Deep.RegionLaw
namespace Go.Proofs.YtniedmoiklkigaeDoor
open Go.RowKit

theorem OwnI.one {w : World} {lo : Nat} (h : lo ≤ w.heap.size) (x : Int) : OwnI (w.alloc (.cells #[.int .i64 x] 3)) lo (.slice (some ⟨w.heap.size, 0, none⟩) 1 1) [x] :=
  ⟨by simp, Or.inr ⟨w.heap.size, 1, _, rfl, h, Go.Deep.blk_alloc_new _ _, by simp, by unfold maxLen; omega, by simp, by simp⟩⟩

set_option maxHeartbeats 1000000 in
theorem word_no (b lo : Nat) (v : Value) (l : List Int) (w : World) (h : RdAt w lo b v l) (hn : (numD l).no ≠ 0) :
    Calls Tryd.prog 41 #[.pointer (some ⟨b, 0, none⟩)] w fun e w' => e = .returned (.tuple #[.slice none 0 0, .int .i64 (numD l).no]) ∧ Sans b lo w w' := by
  have HN : Hid (Calls Tryd.prog 35 #[.pointer (some ⟨b, 0, none⟩)] w fun e w' => e = .returned (.tuple #[.int .i64 (numD l).val, .int .i64 (numD l).no]) ∧ Sans b lo w w') := (number_any b lo v l w h).mono fun e w' ⟨h1, h2⟩ => ⟨h1, h2.sans⟩
  clear h
  revert hn HN
  generalize (numD l).no = en
  generalize (numD l).val = x
  intro hn HN
  have hn' : (en == 0) = false := by simpa using hn
  go_enter Tryd.func41, Tryd.ntmps41
  go_wp2_with fail
  refine HN.out.mono ?_
  rintro e w' ⟨rfl, hb⟩
  have HB : Hid (Sans b lo w w') := hb
  clear hb
  go_wp2_with fail
  go_ret2
  exact ⟨rfl, HB.out⟩

set_option maxHeartbeats 1000000 in
theorem word_ok (b lo : Nat) (v : Value) (l : List Int) (w : World) (h : RdAt w lo b v l) (hn : (numD l).no = 0) :
    Calls Tryd.prog 41 #[.pointer (some ⟨b, 0, none⟩)] w fun e w' => ∃ g v', e = .returned (.tuple #[.slice (some ⟨g, 0, none⟩) 1 1, .int .i64 0]) ∧ OwnI w' w.heap.size (.slice (some ⟨g, 0, none⟩) 1 1) [anyK (numD l).val] ∧ RdAt w' lo b v' (numD l).rest ∧ Sans b lo w w' := by
  have HN : Hid (Calls Tryd.prog 35 #[.pointer (some ⟨b, 0, none⟩)] w fun e w' => e = .returned (.tuple #[.int .i64 (numD l).val, .int .i64 0]) ∧ (∃ v', RdAt w' lo b v' (numD l).rest) ∧ Sans b lo w w' ∧ 0 ≤ (numD l).val ∧ (numD l).val < 562949953421312) := (number_any b lo v l w h).mono fun e w' ⟨h1, h2⟩ => ⟨by rw [h1, hn], h2.rd hn, h2.sans, h2.val⟩
  clear h hn
  revert HN
  generalize (numD l).rest = r
  generalize (numD l).val = x
  intro HN
  have HK : Hid (∀ W, 0 ≤ x → x < 562949953421312 → Calls Tryd.prog 42 #[.int .i64 x] W fun e w' => e = .returned (.int .i64 (anyK x)) ∧ w' = W) := fun W h0 h1 => anyKind_any x W h0 (by omega)
  go_enter Tryd.func41, Tryd.ntmps41
  go_wp2_with fail
  refine HN.out.mono ?_
  rintro e w1 ⟨rfl, ⟨v', hr⟩, hb, hx0, hx1⟩
  have HB : Hid (RdAt w1 lo b v' r ∧ Sans b lo w w1) := ⟨hr, hb⟩
  clear hr hb HN
  go_wp2_with fail
  refine (HK.out _ hx0 hx1).mono ?_
  rintro e w2 ⟨rfl, rfl⟩
  go_wp2_with fail
  go_ret2
  have hsz := HB.out.2.size
  have hlw : lo ≤ w2.heap.size := by have := HB.out.1.own; have := HB.out.1.lt; omega
  exact ⟨_, v', rfl, OwnI.one hsz _, HB.out.1.below (below_alloc _ _), HB.out.2.trans (Sans.of_below (below_alloc _ _) hlw)⟩

end Go.Proofs.YtniedmoiklkigaeDoor
