/- The walk of hourglasskeep.EventsOnce: what is read is written so. -/
import Derived.Test.YtniedmoiklkigafDoorRdV
import Derived.Test.YtniedmoiklkigafDoorByEncode
import Derived.Test.YtniedmoiklkigafDoorOpenBy
namespace Go.Proofs.YtniedmoiklkigafDoor
open Go.RowKit

theorem ownB_text {w : World} {lo : Nat} {v : Value} {l : List Int} (h : OwnB w lo v l) (hl : l.length ≤ 140737488351232) (hy : ∀ x ∈ l, 0 ≤ x ∧ x ≤ 255) (h0 : 0 < l.length) : (convert 26 9 v).run Tryd.prog w = .ok (.string (strOfNums l)) w := (h.read hl hy).text h0

set_option maxHeartbeats 2000000 in
theorem EventsOnce_any (v : Value) (l : List Int) (w : World) (h : BytesIn w v l) (hL : Laid w) :
    Calls Tryd.prog 5 #[v] w fun e w' => e = .returned (.bool true) ∧ Below w.heap.size w w' := by
  have HD : Hid (Calls Tryd.prog 9 #[v] w fun e w' => ∃ u, e = .returned (.tuple #[u, .int .i64 (decD l).1]) ∧ DecQ w w' u (decD l)) := Decode_any v l w h.1 h.2 hL
  by_cases h0 : (decD l).1 = 0
  · obtain ⟨_, _, _, _, hy, _⟩ := h.1
    obtain ⟨hf, hc, h6⟩ := decD_back hy h0
    have HL : Hid (Laid w) := hL
    have HT : Hid (∀ W, Below w.heap.size w W → (convert 26 9 v).run Tryd.prog W = .ok (.string (strOfNums l)) W) := fun W hB => (h.1.below hB).text (by rw [hf]; have := encB_pos (decD l).2; unfold fullB; simp; omega)
    have HF : Hid (l = fullB (decD l).2 ∧ chkNo (decD l).2 = 0) := ⟨hf, hc⟩
    rw [h0] at HD
    have H0 : Hid ((decD l).1 = 0) := h0
    have HBL : Hid (0 < l.length ∧ l.length ≤ 60000 ∧ ∀ x ∈ l, 0 ≤ x ∧ x ≤ 255) := ⟨by rw [hf]; have := encB_pos (decD l).2; unfold fullB; simp; omega, h6, hy⟩
    obtain ⟨⟨A, c, rfl, _⟩, _⟩ := h
    clear hL hf hc h6 h0 hy
    go_enter Tryd.func5, Tryd.ntmps5
    go_wp2_with fail
    refine HD.out.mono ?_
    rintro e w1 ⟨u, rfl, hq⟩
    obtain ⟨R, hR, ho, hR1, hR2⟩ := hq.ok H0.out
    have HB1 : Hid (Below w.heap.size w w1) := hq.old
    have hev := ho.evs hR1 hR2
    rw [hR] at hev
    have HE : Hid (Calls Tryd.prog 8 #[u] w1 fun e w' => ∃ v', e = .returned (.tuple #[v', .int .i64 0]) ∧ OwnB w' w1.heap.size v' l ∧ Below w1.heap.size w1 w') := by
      rw [HF.out.1]
      rw [← HF.out.1]
      have := Encode_ok u (decD l).2 w1 hev (HL.out.below HB1.out) HF.out.2
      rwa [← HF.out.1] at this
    clear hq hR ho hR1 hR2 hev HD
    go_wp2_with fail
    refine HE.out.mono ?_
    rintro e w2 ⟨v2, rfl, ho2, hb2⟩
    have HB2 : Hid (Below w.heap.size w w2) := HB1.out.trans (hb2.mono HB1.out.size)
    have t1 := ownB_text ho2 (by have := HBL.out; omega) HBL.out.2.2 HBL.out.1
    have t2 := HT.out w2 HB2.out
    clear ho2 hb2 HT HE HF H0 HBL HL
    revert t1 t2
    generalize strOfNums l = sl
    intro t1 t2
    go_wp2_with fail
    go_ret
    exact ⟨rfl, HB2.out⟩
  · obtain ⟨⟨A, c, rfl, _⟩, _⟩ := h
    have HZ : Hid ((decD l).1 ≠ 0) := h0
    have h1 : ((decD l).1 == 0) = false := by simpa using h0
    clear hL h0
    go_enter Tryd.func5, Tryd.ntmps5
    go_wp2_with fail
    refine HD.out.mono ?_
    rintro e w1 ⟨u, rfl, hq⟩
    obtain rfl := hq.no HZ.out
    have HB1 : Hid (Below w.heap.size w w1) := hq.old
    clear hq HD HZ
    revert h1
    generalize (decD l).1 = en
    intro h1
    go_wp2_with fail
    go_ret
    exact ⟨rfl, HB1.out⟩

end Go.Proofs.YtniedmoiklkigafDoor
