/- Contracts of evlog.outside, of the closure that it makes, and of what is no word. -/
import Derived.Test.YtlcdefpdahjjeagDoorBasePart
import Derived.Deep.RegionHeld3
import Derived.Deep.RegionLaw
import Derived.Deep.RegionWith
import Derived.Deep.DeepCutAuto
import Derived.Test.YtlcdefpdahjjeagDoorEvPart
namespace Go.Proofs.YtlcdefpdahjjeagDoor
open Go.RowKit
set_option maxRecDepth 100000

/-- A closure that finds what is not from lo to hi. -/
abbrev cloE (p q : Nat) : Value := .func (.func 124) #[] #[.pointer (some ⟨p, 0, none⟩), .pointer (some ⟨q, 0, none⟩)]
/-- What such a closure holds. -/
structure CloAtE (w : World) (p q : Nat) (lo hi : Int) : Prop where
  c1 : w.cell? ⟨p, 0, none⟩ = some (.int .i64 lo)
  c2 : w.cell? ⟨q, 0, none⟩ = some (.int .i64 hi)
  l1 : p < w.heap.size
  l2 : q < w.heap.size
theorem CloAtE.below {w w' : World} {p q : Nat} {lo hi : Int} (h : CloAtE w p q lo hi) (hb : Below w.heap.size w w') : CloAtE w' p q lo hi :=
  ⟨(hb.cell (p := ⟨p, 0, none⟩) h.l1).trans h.c1, (hb.cell (p := ⟨q, 0, none⟩) h.l2).trans h.c2, Nat.lt_of_lt_of_le h.l1 hb.size, Nat.lt_of_lt_of_le h.l2 hb.size⟩
theorem CloAtE.drew {w : World} {p q : Nat} {lo hi : Int} (h : CloAtE w p q lo hi) : CloAtE w.drew p q lo hi := h.below ((Below.refl _ w).drew)

theorem one_cellE {w : World} {b : Nat} {x : Value} {t : TypeId} (h : w.heap[b]? = some (.cells #[x] t (0, 0))) : w.cell? ⟨b, 0, none⟩ = some x := by simp [World.cell?, h]

theorem outsideE_any (lo hi : Int) (w : World) : Calls Tryd.prog 117 #[.int .i64 lo, .int .i64 hi] w fun e w' => ∃ p q, e = .returned (cloE p q) ∧ CloAtE w' p q lo hi ∧ Below w.heap.size w w' := by
  go_enter Tryd.func117, Tryd.ntmps117
  go_wp2
  go_ret
  obtain ⟨b0, b1, b2⟩ := two_boxes (Below.refl ((w.alloc (.cells #[.int .i64 lo] 3)).alloc (.cells #[.int .i64 hi] 3)).heap.size ((w.alloc (.cells #[.int .i64 lo] 3)).alloc (.cells #[.int .i64 hi] 3)))
  exact ⟨_, _, rfl, ⟨one_cellE b0, one_cellE b1, by simp; omega, by simp⟩, b2⟩

theorem cloE_any (x lo hi : Int) (p q : Nat) (w : World) (h : CloAtE w p q lo hi) :
    Calls Tryd.prog 124 #[.int .i64 x, .pointer (some ⟨p, 0, none⟩), .pointer (some ⟨q, 0, none⟩)] w fun e w' => e = .returned (.bool (!inB x lo hi)) ∧ w' = w := by
  obtain ⟨c1, c2, -, -⟩ := h
  by_cases h1 : x < lo
  · have hI : (!inB x lo hi) = true := by simp [inB]; omega
    rw [hI]
    go_enter Tryd.func124, Tryd.ntmps124
    go_wp2
    go_ret
    exact ⟨rfl, rfl⟩
  · by_cases h2 : hi < x
    · have hI : (!inB x lo hi) = true := by simp [inB]; omega
      rw [hI]
      go_enter Tryd.func124, Tryd.ntmps124
      go_wp2
      go_ret
      exact ⟨rfl, rfl⟩
    · have hI : (!inB x lo hi) = false := by simp [inB]; omega
      rw [hI]
      go_enter Tryd.func124, Tryd.ntmps124
      go_wp2
      go_ret
      exact ⟨rfl, rfl⟩

theorem word_cloE (x : Int) (p q : Nat) (w : World) (h : CloAtE w p q (-1099511627776) 1099511627776) :
    Calls Tryd.prog 124 #[.int .i64 x, .pointer (some ⟨p, 0, none⟩), .pointer (some ⟨q, 0, none⟩)] w fun e w' => e = .returned (.bool (!wordB x)) ∧ w' = w := cloE_any x _ _ p q w h

set_option maxHeartbeats 400000 in
theorem IndexFuncE_word (v : Value) (l : List Int) (p q : Nat) (w : World) (h : IntsAt w v l) (hq : CloAtE w p q (-1099511627776) 1099511627776) :
    Calls Tryd.prog 96 #[v, cloE p q] w fun e w' => ∃ r : Int, e = .returned (.int .i64 r) ∧ decide (0 ≤ r) = !allB l ∧ w' = w := by
  obtain ⟨A, c, rfl, hl, hc⟩ := h
  have HQ : Hid (CloAtE w p q (-1099511627776) 1099511627776) := hq
  clear hq
  go_enter Tryd.func96, Tryd.ntmps96
  go_wp2
  go_loopw [8] (fun i wr => ∃ k : Nat, k ≤ l.length ∧ i = .int .i64 k ∧ Hid (∀ i, i < k → wordB (l.getD i 0) = true) ∧ wr = w) (fun i _ => l.length - (intOf i).toNat)
  case atStart => exact ⟨0, Nat.zero_le _, rfl, fun i hi => absurd hi (Nat.not_lt_zero _), rfl⟩
  case round =>
    obtain ⟨k, hk, rfl, ht, hw⟩ := hrel
    subst wr
    by_cases hlt : k < l.length
    · obtain ⟨b, off, rfl, hbs, hcell⟩ := hc (by omega)
      have h1 := hcell k hlt
      cases hw : wordB (l.getD k 0) with
      | false =>
        have HN : Hid (true = !allB l) := by show _ = _; rw [allB_no hlt hw]; rfl
        clear hcell hc
        revert h1 hw
        generalize l.getD k 0 = x
        intro h1 hw
        go_wp2_with (go_at_call 124; refine (word_cloE _ p q _ HQ.out).mono ?_; rintro e w' ⟨rfl, rfl⟩)
        go_ret
        exact ⟨k, rfl, by rw [← HN.out]; simp, rfl⟩
      | true =>
        have HN : Hid (∀ i, i < k + 1 → wordB (l.getD i 0) = true) := allB_step ht.out hw
        clear hcell hc
        revert h1 hw
        generalize l.getD k 0 = x
        intro h1 hw
        go_wp2_with (go_at_call 124; refine (word_cloE _ p q _ HQ.out).mono ?_; rintro e w' ⟨rfl, rfl⟩)
        refine ⟨⟨k + 1, by omega, by go_num, HN, trivial⟩, ?_⟩
        simp [intOf]; omega
    · have HN : Hid (false = !allB l) := by show _ = _; rw [allB_iff.2 fun i hi => ht.out i (by omega)]; rfl
      clear hc
      go_wp2
      go_ret
      exact ⟨-1, rfl, by rw [← HN.out]; rfl, rfl⟩

theorem ContainsFuncE_word (v : Value) (l : List Int) (p q : Nat) (w : World) (h : IntsAt w v l) (hq : CloAtE w p q (-1099511627776) 1099511627776) :
    Calls Tryd.prog 56 #[v, cloE p q] w fun e w' => e = .returned (.bool (!allB l)) ∧ w' = w := by
  go_enter Tryd.func56, Tryd.ntmps56
  go_wp2_with (go_at_call 96; refine (IndexFuncE_word v l p q _ h hq).mono ?_; rintro e w' ⟨r, rfl, hr, rfl⟩)
  go_ret
  exact ⟨rfl, rfl⟩

end Go.Proofs.YtlcdefpdahjjeagDoor

/- Contract of evlog.checkEvent. -/

namespace Go.Proofs.YtlcdefpdahjjeagDoor
open Go.RowKit
set_option maxRecDepth 100000

set_option maxHeartbeats 2000000 in
theorem checkEvent_any (a k : Int) (v : Value) (l : List Int) (w : World) (h : IntsAt w v l) (hL : Laid w) :
    Calls Tryd.prog 101 #[.agg #[.int .i64 a, .int .i64 k, v]] w fun e w' => e = .returned (.int .i64 (evNo ⟨a, k, l⟩)) ∧ Below w.heap.size w w' := by
  have H : Hid (IntsAt w v l) := h
  obtain ⟨A, c, rfl, hl, hc⟩ := h
  have HL : Hid (Laid w) := hL
  clear hc hL
  go_enter Tryd.func101, Tryd.ntmps101
  go_wp2_with fail
  refine (outsideE_any _ _ _).mono ?_
  rintro e w1 ⟨p, q, rfl, hc, hb⟩
  obtain ⟨z0, z1, z2, zf, zl⟩ := three_cells (box_kept hb)
  have hB : Below w.heap.size w w1 := (below_alloc _ _).trans (hb.mono (by simp))
  have HB : Hid (Below w.heap.size w w1) := hB
  have HC : Hid (CloAtE w1 p q (-1099511627776) 1099511627776) := hc
  have HI : Hid (IntsAt w1 (.slice A l.length c) l) := H.out.below hB
  obtain ⟨g0, g1, g2, g3, g4⟩ := HL.out.below hB
  clear hc hb hB H HL
  by_cases k1 : k < 1
  · have HE : Hid (evNo ⟨a, k, l⟩ = 3) := by show _ = _; simp [evNo, inB_no (n := k) (lo := 1) (hi := 3) (by omega)]
    go_wp2_with fail
    go_ret
    exact ⟨ret_int HE.out.symm, HB.out⟩
  by_cases k2 : 3 < k
  · have HE : Hid (evNo ⟨a, k, l⟩ = 3) := by show _ = _; simp [evNo, inB_no (n := k) (lo := 1) (hi := 3) (by omega)]
    go_wp2_with fail
    go_ret
    exact ⟨ret_int HE.out.symm, HB.out⟩
  have hk : inB k 1 3 = true := inB_yes (by omega) (by omega)
  by_cases a1 : a < 0
  · have HE : Hid (evNo ⟨a, k, l⟩ = 2) := by show _ = _; simp [evNo, hk, inB_no (n := a) (lo := 0) (hi := 2999) (by omega)]
    clear hk
    go_wp2_with fail
    go_ret
    exact ⟨ret_int HE.out.symm, HB.out⟩
  by_cases a2 : 3000 ≤ a
  · have HE : Hid (evNo ⟨a, k, l⟩ = 2) := by show _ = _; simp [evNo, hk, inB_no (n := a) (lo := 0) (hi := 2999) (by omega)]
    clear hk
    go_wp2_with fail
    go_ret
    exact ⟨ret_int HE.out.symm, HB.out⟩
  have ha : inB a 0 2999 = true := inB_yes (by omega) (by omega)
  cases hw : allB l with
  | false =>
    have HE : Hid (evNo ⟨a, k, l⟩ = 2) := by show _ = _; simp [evNo, hk, ha, hw]
    clear hk ha
    go_wp2_with fail
    refine (ContainsFuncE_word _ l p q _ HI.out HC.out).mono ?_
    rw [hw]
    rintro e w' ⟨rfl, rfl⟩
    go_wp2_with fail
    go_ret
    exact ⟨ret_int HE.out.symm, HB.out⟩
  | true =>
    by_cases hn : (l.length : Int) = wordsN k
    · have HE : Hid (evNo ⟨a, k, l⟩ = 0) := by show _ = _; simp [evNo, hk, ha, hw, hn]
      have HK : Hid (k = 1 ∧ (l.length : Int) = 0 ∨ k = 2 ∧ (l.length : Int) = 16 ∨ k = 3 ∧ (l.length : Int) = 1) := by
        have : k = 1 ∨ k = 2 ∨ k = 3 := by omega
        show _ ∨ _
        rcases this with rfl | rfl | rfl
        · exact Or.inl ⟨rfl, hn⟩
        · exact Or.inr (Or.inl ⟨rfl, hn⟩)
        · exact Or.inr (Or.inr ⟨rfl, hn⟩)
      clear hk ha hn
      go_wp2_with fail
      refine (ContainsFuncE_word _ l p q _ HI.out HC.out).mono ?_
      rw [hw]
      rintro e w' ⟨rfl, rfl⟩
      clear HI HC hw a1 a2
      rcases HK.out with ⟨rfl, hn⟩ | ⟨rfl, hn⟩ | ⟨rfl, hn⟩
      all_goals
        go_wp2_with fail
        go_quiet (fail)
        go_wp2_with fail
        go_ret
        exact ⟨ret_int HE.out.symm, below_drewN HB.out _⟩
    · have HE : Hid (evNo ⟨a, k, l⟩ = 1) := by show _ = _; simp [evNo, hk, ha, hw, hn]
      have HK : Hid (k = 1 ∧ ¬ (l.length : Int) = 0 ∨ k = 2 ∧ ¬ (l.length : Int) = 16 ∨ k = 3 ∧ ¬ (l.length : Int) = 1) := by
        have : k = 1 ∨ k = 2 ∨ k = 3 := by omega
        show _ ∨ _
        rcases this with rfl | rfl | rfl
        · exact Or.inl ⟨rfl, hn⟩
        · exact Or.inr (Or.inl ⟨rfl, hn⟩)
        · exact Or.inr (Or.inr ⟨rfl, hn⟩)
      clear hk ha hn
      go_wp2_with fail
      refine (ContainsFuncE_word _ l p q _ HI.out HC.out).mono ?_
      rw [hw]
      rintro e w' ⟨rfl, rfl⟩
      clear HI HC hw a1 a2
      rcases HK.out with ⟨rfl, hn⟩ | ⟨rfl, hn⟩ | ⟨rfl, hn⟩
      all_goals
        go_wp2_with fail
        go_quiet (fail)
        go_wp2_with fail
        go_ret
        exact ⟨ret_int HE.out.symm, below_drewN HB.out _⟩

end Go.Proofs.YtlcdefpdahjjeagDoor
