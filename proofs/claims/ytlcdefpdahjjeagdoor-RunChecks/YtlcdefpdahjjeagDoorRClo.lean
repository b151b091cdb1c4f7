/- Contracts of run.outside, of the closure that it makes, and of what is no word. -/
import Derived.Test.YtlcdefpdahjjeagDoorRunP
import Derived.Deep.RegionHeld3
import Derived.Deep.RegionLaw
import Derived.Deep.RegionWith
import Derived.Deep.DeepCutAuto
namespace Go.Proofs.YtlcdefpdahjjeagDoor
open Go.RowKit

/-- A closure that finds what is not from lo to hi. -/
abbrev cloR (p q : Nat) : Value := .func (.func 78) #[] #[.pointer (some ⟨p, 0, none⟩), .pointer (some ⟨q, 0, none⟩)]
/-- What such a closure holds. -/
structure CloAtR (w : World) (p q : Nat) (lo hi : Int) : Prop where
  c1 : w.cell? ⟨p, 0, none⟩ = some (.int .i64 lo)
  c2 : w.cell? ⟨q, 0, none⟩ = some (.int .i64 hi)
  l1 : p < w.heap.size
  l2 : q < w.heap.size
theorem CloAtR.below {w w' : World} {p q : Nat} {lo hi : Int} (h : CloAtR w p q lo hi) (hb : Below w.heap.size w w') : CloAtR w' p q lo hi :=
  ⟨(hb.cell (p := ⟨p, 0, none⟩) h.l1).trans h.c1, (hb.cell (p := ⟨q, 0, none⟩) h.l2).trans h.c2, Nat.lt_of_lt_of_le h.l1 hb.size, Nat.lt_of_lt_of_le h.l2 hb.size⟩
theorem CloAtR.drew {w : World} {p q : Nat} {lo hi : Int} (h : CloAtR w p q lo hi) : CloAtR w.drew p q lo hi := h.below ((Below.refl _ w).drew)

theorem one_cellR {w : World} {b : Nat} {x : Value} {t : TypeId} (h : w.heap[b]? = some (.cells #[x] t (0, 0))) : w.cell? ⟨b, 0, none⟩ = some x := by simp [World.cell?, h]

theorem outsideR_any (lo hi : Int) (w : World) : Calls Tryd.prog 43 #[.int .i64 lo, .int .i64 hi] w fun e w' => ∃ p q, e = .returned (cloR p q) ∧ CloAtR w' p q lo hi ∧ Below w.heap.size w w' := by
  go_enter Tryd.func43, Tryd.ntmps43
  go_wp2
  go_ret
  obtain ⟨b0, b1, b2⟩ := two_boxes (Below.refl ((w.alloc (.cells #[.int .i64 lo] 3)).alloc (.cells #[.int .i64 hi] 3)).heap.size ((w.alloc (.cells #[.int .i64 lo] 3)).alloc (.cells #[.int .i64 hi] 3)))
  exact ⟨_, _, rfl, ⟨one_cellR b0, one_cellR b1, by simp; omega, by simp⟩, b2⟩

theorem cloR_any (x lo hi : Int) (p q : Nat) (w : World) (h : CloAtR w p q lo hi) :
    Calls Tryd.prog 78 #[.int .i64 x, .pointer (some ⟨p, 0, none⟩), .pointer (some ⟨q, 0, none⟩)] w fun e w' => e = .returned (.bool (!inB x lo hi)) ∧ w' = w := by
  obtain ⟨c1, c2, -, -⟩ := h
  by_cases h1 : x < lo
  · have hI : (!inB x lo hi) = true := by simp [inB]; omega
    rw [hI]
    go_enter Tryd.func78, Tryd.ntmps78
    go_wp2
    go_ret
    exact ⟨rfl, rfl⟩
  · by_cases h2 : hi < x
    · have hI : (!inB x lo hi) = true := by simp [inB]; omega
      rw [hI]
      go_enter Tryd.func78, Tryd.ntmps78
      go_wp2
      go_ret
      exact ⟨rfl, rfl⟩
    · have hI : (!inB x lo hi) = false := by simp [inB]; omega
      rw [hI]
      go_enter Tryd.func78, Tryd.ntmps78
      go_wp2
      go_ret
      exact ⟨rfl, rfl⟩

set_option maxHeartbeats 400000 in
theorem IndexFuncR (v : Value) (l : List Int) (p q : Nat) (lo hi : Int) (w : World) (h : IntsAt w v l) (hq : CloAtR w p q lo hi) :
    Calls Tryd.prog 96 #[v, cloR p q] w fun e w' => ∃ r : Int, e = .returned (.int .i64 r) ∧ decide (0 ≤ r) = !allIn lo hi l ∧ w' = w := by
  obtain ⟨A, c, rfl, hl, hc⟩ := h
  have HQ : Hid (CloAtR w p q lo hi) := hq
  clear hq
  go_enter Tryd.func96, Tryd.ntmps96
  go_wp2
  go_loopw [8] (fun i wr => ∃ k : Nat, k ≤ l.length ∧ i = .int .i64 k ∧ Hid (∀ i, i < k → inB (l.getD i 0) lo hi = true) ∧ wr = w) (fun i _ => l.length - (intOf i).toNat)
  case atStart => exact ⟨0, Nat.zero_le _, rfl, fun i hi => absurd hi (Nat.not_lt_zero _), rfl⟩
  case round =>
    obtain ⟨k, hk, rfl, ht, hw⟩ := hrel
    subst wr
    by_cases hlt : k < l.length
    · obtain ⟨b, off, rfl, hbs, hcell⟩ := hc (by omega)
      have h1 := hcell k hlt
      cases hw : inB (l.getD k 0) lo hi with
      | false =>
        have HN : Hid (true = !allIn lo hi l) := by show _ = _; rw [allIn_no hlt hw]; rfl
        clear hcell hc
        revert h1 hw
        generalize l.getD k 0 = x
        intro h1 hw
        go_wp2_with (go_at_call 78; refine (cloR_any _ lo hi p q _ HQ.out).mono ?_; rintro e w' ⟨rfl, rfl⟩)
        go_ret
        exact ⟨k, rfl, by rw [← HN.out]; simp, rfl⟩
      | true =>
        have HN : Hid (∀ i, i < k + 1 → inB (l.getD i 0) lo hi = true) := allIn_step ht.out hw
        clear hcell hc
        revert h1 hw
        generalize l.getD k 0 = x
        intro h1 hw
        go_wp2_with (go_at_call 78; refine (cloR_any _ lo hi p q _ HQ.out).mono ?_; rintro e w' ⟨rfl, rfl⟩)
        refine ⟨⟨k + 1, by omega, by go_num, HN, trivial⟩, ?_⟩
        simp [intOf]; omega
    · have HN : Hid (false = !allIn lo hi l) := by show _ = _; rw [allIn_iff.2 fun i hi => ht.out i (by omega)]; rfl
      clear hc
      go_wp2
      go_ret
      exact ⟨-1, rfl, by rw [← HN.out]; rfl, rfl⟩

theorem ContainsFuncR (v : Value) (l : List Int) (p q : Nat) (lo hi : Int) (w : World) (h : IntsAt w v l) (hq : CloAtR w p q lo hi) :
    Calls Tryd.prog 56 #[v, cloR p q] w fun e w' => e = .returned (.bool (!allIn lo hi l)) ∧ w' = w := by
  go_enter Tryd.func56, Tryd.ntmps56
  go_wp2_with (go_at_call 96; refine (IndexFuncR v l p q lo hi _ h hq).mono ?_; rintro e w' ⟨r, rfl, hr, rfl⟩)
  go_ret
  exact ⟨rfl, rfl⟩

theorem isNoWordR_any (w : World) : Calls Tryd.prog 55 #[] w fun e w' => ∃ p q, e = .returned (cloR p q) ∧ CloAtR w' p q (-1099511627776) 1099511627776 ∧ Below w.heap.size w w' := by
  go_enter Tryd.func55, Tryd.ntmps55
  go_wp2_with (go_at_call 43; refine (outsideR_any _ _ _).mono ?_; rintro e w' ⟨p, q, rfl, hc, hb⟩)
  go_ret
  exact ⟨p, q, rfl, hc, hb⟩

theorem isNoCount_any (w : World) : Calls Tryd.prog 28 #[] w fun e w' => ∃ p q, e = .returned (cloR p q) ∧ CloAtR w' p q 0 3000 ∧ Below w.heap.size w w' := by
  go_enter Tryd.func28, Tryd.ntmps28
  go_wp2_with (go_at_call 43; refine (outsideR_any _ _ _).mono ?_; rintro e w' ⟨p, q, rfl, hc, hb⟩)
  go_ret
  exact ⟨p, q, rfl, hc, hb⟩

end Go.Proofs.YtlcdefpdahjjeagDoor
