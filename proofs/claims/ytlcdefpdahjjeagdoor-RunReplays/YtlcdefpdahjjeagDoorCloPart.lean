/- Contracts of cpu.outside, of the closure that it makes, and of what is no word. -/
import Derived.Test.YtlcdefpdahjjeagDoorBasePart
import Derived.Deep.RegionHeld3
import Derived.Deep.RegionLaw
import Derived.Deep.RegionWith
import Derived.Deep.DeepCutAuto
namespace Go.Proofs.YtlcdefpdahjjeagDoor
open Go.RowKit

/-- A closure that finds what is not from lo to hi. -/
abbrev clo (p q : Nat) : Value := .func (.func 82) #[] #[.pointer (some ⟨p, 0, none⟩), .pointer (some ⟨q, 0, none⟩)]
/-- What such a closure holds. -/
structure CloAt (w : World) (p q : Nat) (lo hi : Int) : Prop where
  c1 : w.cell? ⟨p, 0, none⟩ = some (.int .i64 lo)
  c2 : w.cell? ⟨q, 0, none⟩ = some (.int .i64 hi)
  l1 : p < w.heap.size
  l2 : q < w.heap.size
theorem CloAt.below {w w' : World} {p q : Nat} {lo hi : Int} (h : CloAt w p q lo hi) (hb : Below w.heap.size w w') : CloAt w' p q lo hi :=
  ⟨(hb.cell (p := ⟨p, 0, none⟩) h.l1).trans h.c1, (hb.cell (p := ⟨q, 0, none⟩) h.l2).trans h.c2, Nat.lt_of_lt_of_le h.l1 hb.size, Nat.lt_of_lt_of_le h.l2 hb.size⟩
theorem CloAt.drew {w : World} {p q : Nat} {lo hi : Int} (h : CloAt w p q lo hi) : CloAt w.drew p q lo hi := h.below ((Below.refl _ w).drew)

theorem one_cell {w : World} {b : Nat} {x : Value} {t : TypeId} (h : w.heap[b]? = some (.cells #[x] t (0, 0))) : w.cell? ⟨b, 0, none⟩ = some x := by simp [World.cell?, h]

theorem outside_any (lo hi : Int) (w : World) : Calls Tryd.prog 47 #[.int .i64 lo, .int .i64 hi] w fun e w' => ∃ p q, e = .returned (clo p q) ∧ CloAt w' p q lo hi ∧ Below w.heap.size w w' := by
  go_enter Tryd.func47, Tryd.ntmps47
  go_wp2
  go_ret
  obtain ⟨b0, b1, b2⟩ := two_boxes (Below.refl ((w.alloc (.cells #[.int .i64 lo] 3)).alloc (.cells #[.int .i64 hi] 3)).heap.size ((w.alloc (.cells #[.int .i64 lo] 3)).alloc (.cells #[.int .i64 hi] 3)))
  exact ⟨_, _, rfl, ⟨one_cell b0, one_cell b1, by simp; omega, by simp⟩, b2⟩

theorem clo_any (x lo hi : Int) (p q : Nat) (w : World) (h : CloAt w p q lo hi) :
    Calls Tryd.prog 82 #[.int .i64 x, .pointer (some ⟨p, 0, none⟩), .pointer (some ⟨q, 0, none⟩)] w fun e w' => e = .returned (.bool (!inB x lo hi)) ∧ w' = w := by
  obtain ⟨c1, c2, -, -⟩ := h
  by_cases h1 : x < lo
  · have hI : (!inB x lo hi) = true := by simp [inB]; omega
    rw [hI]
    go_enter Tryd.func82, Tryd.ntmps82
    go_wp2
    go_ret
    exact ⟨rfl, rfl⟩
  · by_cases h2 : hi < x
    · have hI : (!inB x lo hi) = true := by simp [inB]; omega
      rw [hI]
      go_enter Tryd.func82, Tryd.ntmps82
      go_wp2
      go_ret
      exact ⟨rfl, rfl⟩
    · have hI : (!inB x lo hi) = false := by simp [inB]; omega
      rw [hI]
      go_enter Tryd.func82, Tryd.ntmps82
      go_wp2
      go_ret
      exact ⟨rfl, rfl⟩

end Go.Proofs.YtlcdefpdahjjeagDoor

/- Contracts of cpu.isNoWord, haveNoWord and of what they call: is one of these no word? -/

namespace Go.Proofs.YtlcdefpdahjjeagDoor
open Go.RowKit

theorem isNoWord_any (w : World) : Calls Tryd.prog 83 #[] w fun e w' => ∃ p q, e = .returned (clo p q) ∧ CloAt w' p q (-1099511627776) 1099511627776 ∧ Below w.heap.size w w' := by
  go_enter Tryd.func83, Tryd.ntmps83
  go_wp2_with (go_at_call 47; refine (outside_any _ _ _).mono ?_; rintro e w' ⟨p, q, rfl, hc, hb⟩)
  go_ret
  exact ⟨p, q, rfl, hc, hb⟩

theorem word_clo (x : Int) (p q : Nat) (w : World) (h : CloAt w p q (-1099511627776) 1099511627776) :
    Calls Tryd.prog 82 #[.int .i64 x, .pointer (some ⟨p, 0, none⟩), .pointer (some ⟨q, 0, none⟩)] w fun e w' => e = .returned (.bool (!wordB x)) ∧ w' = w := clo_any x _ _ p q w h

set_option maxHeartbeats 400000 in
theorem IndexFunc_word (v : Value) (l : List Int) (p q : Nat) (w : World) (h : IntsAt w v l) (hq : CloAt w p q (-1099511627776) 1099511627776) :
    Calls Tryd.prog 96 #[v, clo p q] w fun e w' => ∃ r : Int, e = .returned (.int .i64 r) ∧ decide (0 ≤ r) = !allB l ∧ w' = w := by
  obtain ⟨A, c, rfl, hl, hc⟩ := h
  have HQ : Hid (CloAt w p q (-1099511627776) 1099511627776) := hq
  clear hq
  go_enter Tryd.func96, Tryd.ntmps96
  go_wp2
  go_loopw [8] (fun i wr => ∃ k : Nat, k ≤ l.length ∧ i = .int .i64 k ∧ Hid (∀ i, i < k → wordB (l.getD i 0) = true) ∧ wr = w) (fun i _ => l.length - (intOf i).toNat)
  case atStart => exact ⟨0, Nat.zero_le _, rfl, fun i hi => absurd hi (Nat.not_lt_zero _), rfl⟩
  case round =>
    obtain ⟨k, hk, rfl, ht, hw⟩ := hrel
    subst wr
    by_cases hlt : k < l.length
    · obtain ⟨b, off, rfl, hbs, hcell⟩ := hc (by omega)
      have h1 := hcell k hlt
      cases hw : wordB (l.getD k 0) with
      | false =>
        have HN : Hid (true = !allB l) := by show _ = _; rw [allB_no hlt hw]; rfl
        clear hcell hc
        revert h1 hw
        generalize l.getD k 0 = x
        intro h1 hw
        go_wp2_with (go_at_call 82; refine (word_clo _ p q _ HQ.out).mono ?_; rintro e w' ⟨rfl, rfl⟩)
        go_ret
        exact ⟨k, rfl, by rw [← HN.out]; simp, rfl⟩
      | true =>
        have HN : Hid (∀ i, i < k + 1 → wordB (l.getD i 0) = true) := allB_step ht.out hw
        clear hcell hc
        revert h1 hw
        generalize l.getD k 0 = x
        intro h1 hw
        go_wp2_with (go_at_call 82; refine (word_clo _ p q _ HQ.out).mono ?_; rintro e w' ⟨rfl, rfl⟩)
        refine ⟨⟨k + 1, by omega, by go_num, HN, trivial⟩, ?_⟩
        simp [intOf]; omega
    · have HN : Hid (false = !allB l) := by show _ = _; rw [allB_iff.2 fun i hi => ht.out i (by omega)]; rfl
      clear hc
      go_wp2
      go_ret
      exact ⟨-1, rfl, by rw [← HN.out]; rfl, rfl⟩

theorem ContainsFunc_word (v : Value) (l : List Int) (p q : Nat) (w : World) (h : IntsAt w v l) (hq : CloAt w p q (-1099511627776) 1099511627776) :
    Calls Tryd.prog 56 #[v, clo p q] w fun e w' => e = .returned (.bool (!allB l)) ∧ w' = w := by
  go_enter Tryd.func56, Tryd.ntmps56
  go_wp2_with (go_at_call 96; refine (IndexFunc_word v l p q _ h hq).mono ?_; rintro e w' ⟨r, rfl, hr, rfl⟩)
  go_ret
  exact ⟨rfl, rfl⟩

theorem haveNoWord_any (v : Value) (l : List Int) (w : World) (h : IntsAt w v l) :
    Calls Tryd.prog 48 #[v] w fun e w' => e = .returned (.bool (!allB l)) ∧ Below w.heap.size w w' := by
  have H : Hid (IntsAt w v l) := h
  clear h
  go_enter Tryd.func48, Tryd.ntmps48
  go_wp2_with fail
  refine (isNoWord_any _).mono ?_
  rintro e w1 ⟨p, q, rfl, hc, hb⟩
  have HC : Hid (CloAt w1 p q (-1099511627776) 1099511627776) := hc
  have HB : Hid (Below w.heap.size w w1) := hb
  clear hc hb
  go_wp2_with fail
  refine (ContainsFunc_word v l p q _ (H.out.below HB.out) HC.out).mono ?_
  rintro e w2 ⟨rfl, rfl⟩
  go_wp2_with fail
  go_ret
  exact ⟨rfl, HB.out⟩

end Go.Proofs.YtlcdefpdahjjeagDoor
