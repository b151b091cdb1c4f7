/- Contracts of evlog.outside, of the closure that it makes, and of what is no word. -/
import Derived.Test.YtecpblabaelopaaGreatDoorBasePart
import Derived.Deep.RegionHeld3
import Derived.Deep.RegionLaw
import Derived.Deep.RegionWith
import Derived.Deep.DeepCutAuto
import Derived.Shelf.SlSortCmp.QuietGrown
import Derived.Test.YtecpblabaelopaaGreatDoorByPart
import Derived.Test.YtecpblabaelopaaGreatDoorOwnPart
namespace Go.Proofs.YtecpblabaelopaaGreatDoor
open Go.RowKit
set_option maxRecDepth 100000

abbrev cloE (p q : Nat) : Value := .func (.func 153) #[] #[.pointer (some ⟨p, 0, none⟩), .pointer (some ⟨q, 0, none⟩)]
structure CloAtE (w : World) (p q : Nat) (lo hi : Int) : Prop where
  c1 : w.cell? ⟨p, 0, none⟩ = some (.int .i64 lo)
  c2 : w.cell? ⟨q, 0, none⟩ = some (.int .i64 hi)
  l1 : p < w.heap.size
  l2 : q < w.heap.size
theorem CloAtE.below {w w' : World} {p q : Nat} {lo hi : Int} (h : CloAtE w p q lo hi) (hb : Below w.heap.size w w') : CloAtE w' p q lo hi :=
  ⟨(hb.cell (p := ⟨p, 0, none⟩) h.l1).trans h.c1, (hb.cell (p := ⟨q, 0, none⟩) h.l2).trans h.c2, Nat.lt_of_lt_of_le h.l1 hb.size, Nat.lt_of_lt_of_le h.l2 hb.size⟩
theorem CloAtE.drew {w : World} {p q : Nat} {lo hi : Int} (h : CloAtE w p q lo hi) : CloAtE w.drew p q lo hi := h.below ((Below.refl _ w).drew)

theorem one_cellE {w : World} {b : Nat} {x : Value} {t : TypeId} (h : w.heap[b]? = some (.cells #[x] t (0, 0))) : w.cell? ⟨b, 0, none⟩ = some x := by simp [World.cell?, h]

theorem outsideE_any (lo hi : Int) (w : World) : Calls Tryz.prog 130 #[.int .i64 lo, .int .i64 hi] w fun e w' => ∃ p q, e = .returned (cloE p q) ∧ CloAtE w' p q lo hi ∧ Below w.heap.size w w' := by
  go_enter Tryz.func130, Tryz.ntmps130
  go_wp2
  go_ret
  obtain ⟨b0, b1, b2⟩ := two_boxes (Below.refl ((w.alloc (.cells #[.int .i64 lo] 3)).alloc (.cells #[.int .i64 hi] 3)).heap.size ((w.alloc (.cells #[.int .i64 lo] 3)).alloc (.cells #[.int .i64 hi] 3)))
  exact ⟨_, _, rfl, ⟨one_cellE b0, one_cellE b1, by simp; omega, by simp⟩, b2⟩

theorem cloE_any (x lo hi : Int) (p q : Nat) (w : World) (h : CloAtE w p q lo hi) :
    Calls Tryz.prog 153 #[.int .i64 x, .pointer (some ⟨p, 0, none⟩), .pointer (some ⟨q, 0, none⟩)] w fun e w' => e = .returned (.bool (!inB x lo hi)) ∧ w' = w := by
  obtain ⟨c1, c2, -, -⟩ := h
  by_cases h1 : x < lo
  · have hI : (!inB x lo hi) = true := by simp [inB]; omega
    rw [hI]
    go_enter Tryz.func153, Tryz.ntmps153
    go_wp2
    go_ret
    exact ⟨rfl, rfl⟩
  · by_cases h2 : hi < x
    · have hI : (!inB x lo hi) = true := by simp [inB]; omega
      rw [hI]
      go_enter Tryz.func153, Tryz.ntmps153
      go_wp2
      go_ret
      exact ⟨rfl, rfl⟩
    · have hI : (!inB x lo hi) = false := by simp [inB]; omega
      rw [hI]
      go_enter Tryz.func153, Tryz.ntmps153
      go_wp2
      go_ret
      exact ⟨rfl, rfl⟩

theorem word_cloE (x : Int) (p q : Nat) (w : World) (h : CloAtE w p q (-1099511627776) 1099511627776) :
    Calls Tryz.prog 153 #[.int .i64 x, .pointer (some ⟨p, 0, none⟩), .pointer (some ⟨q, 0, none⟩)] w fun e w' => e = .returned (.bool (!wordB x)) ∧ w' = w := cloE_any x _ _ p q w h

set_option maxHeartbeats 400000 in
theorem IndexFuncE_word (v : Value) (l : List Int) (p q : Nat) (w : World) (h : IntsAt w v l) (hq : CloAtE w p q (-1099511627776) 1099511627776) :
    Calls Tryz.prog 63 #[v, cloE p q] w fun e w' => ∃ r : Int, e = .returned (.int .i64 r) ∧ decide (0 ≤ r) = !allB l ∧ w' = w := by
  obtain ⟨A, c, rfl, hl, hc⟩ := h
  have HQ : Hid (CloAtE w p q (-1099511627776) 1099511627776) := hq
  clear hq
  go_enter Tryz.func63, Tryz.ntmps63
  go_wp2
  go_loopw [8] (fun i wr => ∃ k : Nat, k ≤ l.length ∧ i = .int .i64 k ∧ Hid (∀ i, i < k → wordB (l.getD i 0) = true) ∧ wr = w) (fun i _ => l.length - (intOf i).toNat)
  case atStart => exact ⟨0, Nat.zero_le _, rfl, fun i hi => absurd hi (Nat.not_lt_zero _), rfl⟩
  case round =>
    obtain ⟨k, hk, rfl, ht, hw⟩ := hrel
    subst wr
    by_cases hlt : k < l.length
    · obtain ⟨b, off, rfl, hbs, hcell⟩ := hc (by omega)
      have h1 := hcell k hlt
      cases hw : wordB (l.getD k 0) with
      | false =>
        have HN : Hid (true = !allB l) := by show _ = _; rw [allB_no hlt hw]; rfl
        clear hcell hc
        revert h1 hw
        generalize l.getD k 0 = x
        intro h1 hw
        go_wp2_with (go_at_call 153; refine (word_cloE _ p q _ HQ.out).mono ?_; rintro e w' ⟨rfl, rfl⟩)
        go_ret
        exact ⟨k, rfl, by rw [← HN.out]; simp, rfl⟩
      | true =>
        have HN : Hid (∀ i, i < k + 1 → wordB (l.getD i 0) = true) := allB_step ht.out hw
        clear hcell hc
        revert h1 hw
        generalize l.getD k 0 = x
        intro h1 hw
        go_wp2_with (go_at_call 153; refine (word_cloE _ p q _ HQ.out).mono ?_; rintro e w' ⟨rfl, rfl⟩)
        refine ⟨⟨k + 1, by omega, by go_num, HN, trivial⟩, ?_⟩
        simp [intOf]; omega
    · have HN : Hid (false = !allB l) := by show _ = _; rw [allB_iff.2 fun i hi => ht.out i (by omega)]; rfl
      clear hc
      go_wp2
      go_ret
      exact ⟨-1, rfl, by rw [← HN.out]; rfl, rfl⟩

theorem ContainsFuncE_word (v : Value) (l : List Int) (p q : Nat) (w : World) (h : IntsAt w v l) (hq : CloAtE w p q (-1099511627776) 1099511627776) :
    Calls Tryz.prog 36 #[v, cloE p q] w fun e w' => e = .returned (.bool (!allB l)) ∧ w' = w := by
  go_enter Tryz.func36, Tryz.ntmps36
  go_wp2_with (go_at_call 63; refine (IndexFuncE_word v l p q _ h hq).mono ?_; rintro e w' ⟨r, rfl, hr, rfl⟩)
  go_ret
  exact ⟨rfl, rfl⟩

end Go.Proofs.YtecpblabaelopaaGreatDoor

/- Contract of evlog.checkEvent. -/

namespace Go.Proofs.YtecpblabaelopaaGreatDoor
open Go.RowKit
set_option maxRecDepth 100000

set_option maxHeartbeats 2000000 in
theorem checkEvent_any (a k : Int) (v : Value) (l : List Int) (w : World) (h : IntsAt w v l) (hL : Laid w) :
    Calls Tryz.prog 92 #[.agg #[.int .i64 a, .int .i64 k, v]] w fun e w' => e = .returned (.int .i64 (evNo ⟨a, k, l⟩)) ∧ Below w.heap.size w w' := by
  have H : Hid (IntsAt w v l) := h
  obtain ⟨A, c, rfl, hl, hc⟩ := h
  have HL : Hid (Laid w) := hL
  clear hc hL
  go_enter Tryz.func92, Tryz.ntmps92
  go_wp2_with fail
  refine (outsideE_any _ _ _).mono ?_
  rintro e w1 ⟨p, q, rfl, hc, hb⟩
  obtain ⟨z0, z1, z2, zf, zl⟩ := three_cells (box_kept hb)
  have hB : Below w.heap.size w w1 := (below_alloc _ _).trans (hb.mono (by simp))
  have HB : Hid (Below w.heap.size w w1) := hB
  have HC : Hid (CloAtE w1 p q (-1099511627776) 1099511627776) := hc
  have HI : Hid (IntsAt w1 (.slice A l.length c) l) := H.out.below hB
  obtain ⟨g0, g1, g2, g3, g4⟩ := HL.out.below hB
  clear hc hb hB H HL
  by_cases k1 : k < 1
  · have HE : Hid (evNo ⟨a, k, l⟩ = 3) := by show _ = _; simp [evNo, inB_no (n := k) (lo := 1) (hi := 3) (by omega)]
    go_wp2_with fail
    go_ret
    exact ⟨ret_int HE.out.symm, HB.out⟩
  by_cases k2 : 3 < k
  · have HE : Hid (evNo ⟨a, k, l⟩ = 3) := by show _ = _; simp [evNo, inB_no (n := k) (lo := 1) (hi := 3) (by omega)]
    go_wp2_with fail
    go_ret
    exact ⟨ret_int HE.out.symm, HB.out⟩
  have hk : inB k 1 3 = true := inB_yes (by omega) (by omega)
  by_cases a1 : a < 0
  · have HE : Hid (evNo ⟨a, k, l⟩ = 2) := by show _ = _; simp [evNo, hk, inB_no (n := a) (lo := 0) (hi := 2999) (by omega)]
    clear hk
    go_wp2_with fail
    go_ret
    exact ⟨ret_int HE.out.symm, HB.out⟩
  by_cases a2 : 3000 ≤ a
  · have HE : Hid (evNo ⟨a, k, l⟩ = 2) := by show _ = _; simp [evNo, hk, inB_no (n := a) (lo := 0) (hi := 2999) (by omega)]
    clear hk
    go_wp2_with fail
    go_ret
    exact ⟨ret_int HE.out.symm, HB.out⟩
  have ha : inB a 0 2999 = true := inB_yes (by omega) (by omega)
  cases hw : allB l with
  | false =>
    have HE : Hid (evNo ⟨a, k, l⟩ = 2) := by show _ = _; simp [evNo, hk, ha, hw]
    clear hk ha
    go_wp2_with fail
    refine (ContainsFuncE_word _ l p q _ HI.out HC.out).mono ?_
    rw [hw]
    rintro e w' ⟨rfl, rfl⟩
    go_wp2_with fail
    go_ret
    exact ⟨ret_int HE.out.symm, HB.out⟩
  | true =>
    by_cases hn : (l.length : Int) = wordsN k
    · have HE : Hid (evNo ⟨a, k, l⟩ = 0) := by show _ = _; simp [evNo, hk, ha, hw, hn]
      have HK : Hid (k = 1 ∧ (l.length : Int) = 0 ∨ k = 2 ∧ (l.length : Int) = 16 ∨ k = 3 ∧ (l.length : Int) = 1) := by
        have : k = 1 ∨ k = 2 ∨ k = 3 := by omega
        show _ ∨ _
        rcases this with rfl | rfl | rfl
        · exact Or.inl ⟨rfl, hn⟩
        · exact Or.inr (Or.inl ⟨rfl, hn⟩)
        · exact Or.inr (Or.inr ⟨rfl, hn⟩)
      clear hk ha hn
      go_wp2_with fail
      refine (ContainsFuncE_word _ l p q _ HI.out HC.out).mono ?_
      rw [hw]
      rintro e w' ⟨rfl, rfl⟩
      clear HI HC hw a1 a2
      rcases HK.out with ⟨rfl, hn⟩ | ⟨rfl, hn⟩ | ⟨rfl, hn⟩
      all_goals
        go_wp2_with fail
        go_quiet (fail)
        go_wp2_with fail
        go_ret
        exact ⟨ret_int HE.out.symm, below_drewN HB.out _⟩
    · have HE : Hid (evNo ⟨a, k, l⟩ = 1) := by show _ = _; simp [evNo, hk, ha, hw, hn]
      have HK : Hid (k = 1 ∧ ¬ (l.length : Int) = 0 ∨ k = 2 ∧ ¬ (l.length : Int) = 16 ∨ k = 3 ∧ ¬ (l.length : Int) = 1) := by
        have : k = 1 ∨ k = 2 ∨ k = 3 := by omega
        show _ ∨ _
        rcases this with rfl | rfl | rfl
        · exact Or.inl ⟨rfl, hn⟩
        · exact Or.inr (Or.inl ⟨rfl, hn⟩)
        · exact Or.inr (Or.inr ⟨rfl, hn⟩)
      clear hk ha hn
      go_wp2_with fail
      refine (ContainsFuncE_word _ l p q _ HI.out HC.out).mono ?_
      rw [hw]
      rintro e w' ⟨rfl, rfl⟩
      clear HI HC hw a1 a2
      rcases HK.out with ⟨rfl, hn⟩ | ⟨rfl, hn⟩ | ⟨rfl, hn⟩
      all_goals
        go_wp2_with fail
        go_quiet (fail)
        go_wp2_with fail
        go_ret
        exact ⟨ret_int HE.out.symm, below_drewN HB.out _⟩

end Go.Proofs.YtecpblabaelopaaGreatDoor

/- Contracts of evlog.isBehind and evlog.Check. -/

namespace Go.Proofs.YtecpblabaelopaaGreatDoor
open Go.RowKit Go.Sort
set_option maxRecDepth 100000

theorem behind_lt {x y : Ev} (hx : 1 ≤ x.kind ∧ x.kind ≤ 3) (hy : 1 ≤ y.kind ∧ y.kind ≤ 3) : behind x y = decide (y.at_ < x.at_ ∨ (x.at_ = y.at_ ∧ y.kind < x.kind)) := by
  unfold behind
  apply decide_eq_decide.2
  omega

theorem two_grown (w : World) (o o' : Obj) : ∃ (q : Nat) (os : Array Obj), (w.alloc o).alloc o' = grow (w.drewN q) os := ⟨0, #[o, o'], by
  rw [alloc_eq_grow, alloc_eq_grow, grow_grow]; rfl⟩

set_option maxHeartbeats 1000000 in
theorem isBehind_any (xa xk ya yk : Int) (xd yd : List Int) (A A' : Option Addr) (n n' c c' : Nat) (w : World) (hx : 1 ≤ xk ∧ xk ≤ 3) (hy : 1 ≤ yk ∧ yk ≤ 3) :
    Calls Tryz.prog 93 #[.agg #[.int .i64 xa, .int .i64 xk, .slice A n c], .agg #[.int .i64 ya, .int .i64 yk, .slice A' n' c']] w fun e w' => e = .returned (.bool (behind ⟨xa, xk, xd⟩ ⟨ya, yk, yd⟩)) ∧ ∃ (q : Nat) (os : Array Obj), w' = grow (w.drewN q) os := by
  have HB := behind_lt (x := ⟨xa, xk, xd⟩) (y := ⟨ya, yk, yd⟩) hx hy
  by_cases h1 : ya < xa
  · have HR : Hid (true = behind ⟨xa, xk, xd⟩ ⟨ya, yk, yd⟩) := by show _ = _; rw [HB]; simp; omega
    clear HB hx hy
    go_enter Tryz.func93, Tryz.ntmps93
    go_wp2
    go_ret
    exact ⟨ret_bool HR.out, two_grown _ _ _⟩
  · by_cases h2 : xa = ya
    · subst h2
      by_cases h3 : yk < xk
      · have HR : Hid (true = behind ⟨xa, xk, xd⟩ ⟨xa, yk, yd⟩) := by show _ = _; rw [HB]; simp; omega
        clear HB hx hy
        go_enter Tryz.func93, Tryz.ntmps93
        go_wp2
        go_ret
        exact ⟨ret_bool HR.out, two_grown _ _ _⟩
      · have HR : Hid (false = behind ⟨xa, xk, xd⟩ ⟨xa, yk, yd⟩) := by show _ = _; rw [HB]; simp; omega
        clear HB hx hy
        go_enter Tryz.func93, Tryz.ntmps93
        go_wp2
        go_ret
        exact ⟨ret_bool HR.out, two_grown _ _ _⟩
    · have HR : Hid (false = behind ⟨xa, xk, xd⟩ ⟨ya, yk, yd⟩) := by show _ = _; rw [HB]; simp; omega
      clear HB hx hy
      go_enter Tryz.func93, Tryz.ntmps93
      go_wp2
      go_ret
      exact ⟨ret_bool HR.out, two_grown _ _ _⟩

theorem below_grow (w : World) (os : Array Obj) (q : Nat) : Below w.heap.size w (grow (w.drewN q) os) := by
  obtain ⟨l⟩ := os
  induction l generalizing w with
  | nil => rw [grow_empty]; exact below_drewN (Below.refl _ _) _
  | cons o l ih =>
    have e : grow (w.drewN q) ⟨o :: l⟩ = grow ((w.alloc o).drewN q) ⟨l⟩ := by
      show _ = grow (World.alloc (w.drewN q) o) ⟨l⟩
      rw [alloc_eq_grow, grow_grow]
      congr 1
      apply Array.ext'
      simp
    rw [e]
    exact (below_alloc w o).trans ((ih (w.alloc o)).mono (by simp))

theorem verdict_first {L : List Ev} {x : Ev} (hx : L.getD 0 noEv = x) (h : evNo x = 0) : verdict L 0 = 0 := by unfold verdict; rw [hx, if_pos h, if_pos rfl]
theorem verdict_yes {L : List Ev} {x y : Ev} {j : Nat} (hx : L.getD (j + 1) noEv = x) (hy : L.getD j noEv = y) (h : evNo x = 0) (hb : behind x y = true) : verdict L (j + 1) = 0 := by unfold verdict; rw [hx, if_pos h, if_neg (by omega), Nat.add_sub_cancel, hy, if_pos hb]
theorem verdict_not {L : List Ev} {x y : Ev} {j : Nat} (hx : L.getD (j + 1) noEv = x) (hy : L.getD j noEv = y) (h : evNo x = 0) (hb : behind x y = false) : verdict L (j + 1) = 9 := by unfold verdict; rw [hx, if_pos h, if_neg (by omega), Nat.add_sub_cancel, hy, if_neg (by rw [hb]; decide)]
theorem verdict_no {L : List Ev} {x : Ev} {k : Nat} (hx : L.getD k noEv = x) (h : evNo x ≠ 0) : verdict L k = evNo x := by unfold verdict; rw [hx, if_neg h]

set_option maxRecDepth 20000 in
set_option maxHeartbeats 4000000 in
theorem Check_any (v : Value) (L : List Ev) (w : World) (h : EvsAt w v L) (hL : Laid w) :
    Calls Tryz.prog 57 #[v] w fun e w' => e = .returned (.int .i64 (chkNo L)) ∧ Below w.heap.size w w' := by
  obtain ⟨A, c, rfl, hl, hc⟩ := h
  by_cases h1 : 1000 < L.length
  · have HR : Hid (chkNo L = 1) := by show _ = _; simp [chkNo, h1]
    have d0 : decide (1000 < (L.length : Int)) = true := by simp; omega
    clear hc hL
    go_enter Tryz.func57, Tryz.ntmps57
    go_wp2
    go_ret
    exact ⟨ret_int HR.out.symm, Below.refl _ _⟩
  · have d0 : decide (1000 < (L.length : Int)) = false := by simp; omega
    have H0 : Hid (chkNo L = chk L 0) := by show _ = _; simp [chkNo, h1]
    have HL : Hid (Laid w) := hL
    have HLn : Hid (L.length ≤ 1000) := by show _ ≤ _; omega
    clear hL h1
    go_enter Tryz.func57, Tryz.ntmps57
    go_wp2
    clear d0
    go_loopw [11] (fun i wr => ∃ k : Nat, k ≤ L.length ∧ i = .int .i64 k ∧ Hid (chkNo L = chk L k ∧ ∀ j, k = j + 1 → verdict L j = 0) ∧ Hid (Below w.heap.size w wr)) (fun i _ => L.length - (intOf i).toNat)
    case atStart => exact ⟨0, Nat.zero_le _, rfl, ⟨H0.out, fun j e => by omega⟩, Below.refl _ _⟩
    case round =>
      obtain ⟨k, hk, rfl, hR, hB⟩ := hrel
      by_cases hlt : k < L.length
      · obtain ⟨b, off, rfl, hbs, hcell⟩ := hc (by omega)
        obtain ⟨x, hx⟩ : ∃ x, L.getD k noEv = x := ⟨_, rfl⟩
        obtain ⟨x0, x1, vx, x2, xi⟩ := hcell k hlt
        rw [hx] at x0 x1 xi
        have HXI : Hid (IntsAt w vx x.data) := xi
        have HX : Hid (L.getD k noEv = x) := hx
        obtain ⟨A1, c1, rfl, hl1, -⟩ := xi
        have y0 := (hB.out.cell (p := ⟨b, off + k * 3, none⟩) hbs).trans x0
        have y1 := (hB.out.cell (p := ⟨b, off + k * 3 + 1, none⟩) hbs).trans x1
        have y2 := (hB.out.cell (p := ⟨b, off + k * 3 + 2, none⟩) hbs).trans x2
        have HC : Hid (∀ j, j < L.length → EvAt w b (off + j * 3) (L.getD j noEv)) := hcell
        clear hc hx x0 x1 x2 hcell
        obtain ⟨xa, xk, xd⟩ := x
        simp only at y0 y1 y2 hl1 HXI
        have hsz := hB.out.size
        go_wp2_with fail
        refine (checkEvent_any xa xk _ xd _ (HXI.out.below (hB.out.alloc hB.out.size _)) (HL.out.below (hB.out.alloc hB.out.size _))).mono ?_
        rintro e w2 ⟨rfl, hb2⟩
        have HB2 : Hid (Below w.heap.size w w2) := (hB.out.alloc hB.out.size _).trans (hb2.mono (by simp; omega))
        obtain ⟨z0, z1, z2, zf, zl⟩ := three_cells (box_kept hb2)
        have hbs2 : b < w2.heap.size := by have := HB2.out.size; omega
        clear hb2 HXI y0 y1 y2 hB HL
        by_cases he : evNo ⟨xa, xk, xd⟩ = 0
        · rw [he]
          rcases k with _ | j
          · have HV : Hid (chkNo L = chk L (0 + 1) ∧ ∀ j, 0 + 1 = j + 1 → verdict L j = 0) := ⟨hR.out.1.trans (chk_ok hlt (verdict_first HX.out he)), fun j e => by rw [show j = 0 by omega]; exact verdict_first HX.out he⟩
            clear hR HX HC he
            go_wp2_with fail
            go_quiet (fail)
            go_wp2_with fail
            refine ⟨⟨0 + 1, by omega, by go_num, HV, below_drewN HB2.out _⟩, ?_⟩
            simp [intOf]; omega
          · obtain ⟨y, hy⟩ : ∃ y, L.getD j noEv = y := ⟨_, rfl⟩
            obtain ⟨t0, t1, vy, t2, yi⟩ := HC.out j (by omega)
            rw [hy] at t0 t1 yi
            have HY : Hid (L.getD j noEv = y) := hy
            have hy0 : evNo y = 0 := by rw [← hy]; exact verdict_ev (hR.out.2 j rfl)
            obtain ⟨A2, c2, rfl, -, -⟩ := yi
            obtain ⟨ya, yk, yd⟩ := y
            have hyk := (evNo_bd hy0).1
            have hxk := (evNo_bd he).1
            have s0 := fun n os => cell_grown (a := ⟨b, off + j * 3, none⟩) hbs2 ((HB2.out.cell (p := ⟨b, off + j * 3, none⟩) hbs).trans t0) n os
            have s1 := fun n os => cell_grown (a := ⟨b, off + j * 3 + 1, none⟩) hbs2 ((HB2.out.cell (p := ⟨b, off + j * 3 + 1, none⟩) hbs).trans t1) n os
            have s2 := fun n os => cell_grown (a := ⟨b, off + j * 3 + 2, none⟩) hbs2 ((HB2.out.cell (p := ⟨b, off + j * 3 + 2, none⟩) hbs).trans t2) n os
            have q0 := fun n os => cell_grown (a := ⟨wr.heap.size, 0, none⟩) zl z0 n os
            have q1 := fun n os => cell_grown (a := ⟨wr.heap.size, 1, none⟩) zl z1 n os
            have q2 := fun n os => cell_grown (a := ⟨wr.heap.size, 2, none⟩) zl z2 n os
            simp only at s0 s1 s2
            cases hbv : behind ⟨xa, xk, xd⟩ ⟨ya, yk, yd⟩ with
            | true =>
              have HV : Hid (chkNo L = chk L (j + 1 + 1) ∧ ∀ i, j + 1 + 1 = i + 1 → verdict L i = 0) := ⟨hR.out.1.trans (chk_ok hlt (verdict_yes HX.out HY.out he hbv)), fun i e => by rw [show i = j + 1 by omega]; exact verdict_yes HX.out HY.out he hbv⟩
              have HIB : Hid (∀ W, Calls Tryz.prog 93 #[.agg #[.int .i64 xa, .int .i64 xk, .slice A1 xd.length c1], .agg #[.int .i64 ya, .int .i64 yk, .slice A2 yd.length c2]] W fun e w' => e = .returned (.bool true) ∧ ∃ (q : Nat) (os : Array Obj), w' = grow (W.drewN q) os) := fun W => by
                have := isBehind_any xa xk ya yk xd yd A1 A2 xd.length yd.length c1 c2 W hxk hyk
                rwa [hbv] at this
              clear hR HX HC he hy hy0 hyk hxk hbv t0 t1 t2 z0 z1 z2 HY
              go_wp2_with fail
              have hwr : IntKind.i64.wrap (j : Int) = j := IntWalk.i64_in _ (by omega)
              have hj : j < L.length := by omega
              have hji : (j : Int) < (L.length : Int) := by omega
              have hj0 : (0 : Int) ≤ (j : Int) := by omega
              have hmo : Tryz.prog.follows .mixedOrders = true := by kernel_rfl
              go_quiet_grown ((go_at_call 93; refine Calls.grown_of (HIB.out _)))
              have HB3 : Hid (Below w.heap.size w (grow (w2.drewN nq) osq)) := HB2.out.trans ((below_grow w2 osq nq).mono HB2.out.size)
              go_wp2_with fail
              refine ⟨⟨j + 1 + 1, by omega, by go_num, HV, HB3⟩, ?_⟩
              simp [intOf]; omega
            | false =>
              have HV : Hid (chkNo L = 9) := hR.out.1.trans ((chk_no hlt (by rw [verdict_not HX.out HY.out he hbv]; decide)).trans (verdict_not HX.out HY.out he hbv))
              have HIB : Hid (∀ W, Calls Tryz.prog 93 #[.agg #[.int .i64 xa, .int .i64 xk, .slice A1 xd.length c1], .agg #[.int .i64 ya, .int .i64 yk, .slice A2 yd.length c2]] W fun e w' => e = .returned (.bool false) ∧ ∃ (q : Nat) (os : Array Obj), w' = grow (W.drewN q) os) := fun W => by
                have := isBehind_any xa xk ya yk xd yd A1 A2 xd.length yd.length c1 c2 W hxk hyk
                rwa [hbv] at this
              clear hR HX HC he hy hy0 hyk hxk hbv t0 t1 t2 z0 z1 z2 HY
              go_wp2_with fail
              have hwr : IntKind.i64.wrap (j : Int) = j := IntWalk.i64_in _ (by omega)
              have hj : j < L.length := by omega
              have hji : (j : Int) < (L.length : Int) := by omega
              have hj0 : (0 : Int) ≤ (j : Int) := by omega
              have hmo : Tryz.prog.follows .mixedOrders = true := by kernel_rfl
              go_quiet_grown ((go_at_call 93; refine Calls.grown_of (HIB.out _)))
              have HB3 : Hid (Below w.heap.size w (grow (w2.drewN nq) osq)) := HB2.out.trans ((below_grow w2 osq nq).mono HB2.out.size)
              go_wp2_with fail
              go_ret
              exact ⟨ret_int HV.out.symm, HB3.out⟩
        · have HV : Hid (chkNo L = evNo ⟨xa, xk, xd⟩) := hR.out.1.trans ((chk_no hlt (by rw [verdict_no HX.out he]; exact he)).trans (verdict_no HX.out he))
          clear hR HX HC
          revert HV he
          generalize evNo ⟨xa, xk, xd⟩ = en
          intro he HV
          go_wp2_with fail
          go_ret
          exact ⟨ret_int HV.out.symm, HB2.out⟩
      · have HV : Hid (chkNo L = 0) := hR.out.1.trans (chk_end hlt)
        clear hc hR
        go_wp2_with fail
        go_ret
        exact ⟨ret_int HV.out.symm, hB.out⟩

end Go.Proofs.YtecpblabaelopaaGreatDoor

/- Contracts of evlog.appendData and evlog.Encode. -/

namespace Go.Proofs.YtecpblabaelopaaGreatDoor
open Go.RowKit
set_option maxRecDepth 100000

theorem bytes_oneCell (l : List Int) : ∀ u ∈ l.map (Value.int .u8), u.oneCell' = true := by
  intro u hu
  obtain ⟨x, _, rfl⟩ := List.mem_map.1 hu
  rfl

def Fits (u : Value) : Prop := ∃ A n c, u = .slice A n c ∧ n ≤ c
structure EvsF (w : World) (v : Value) (L : List Ev) : Prop where
  at_ : EvsAt w v L
  fit : ∀ b off c, v = .slice (some ⟨b, off, none⟩) L.length c → ∀ j, j < L.length → ∀ u, w.cell? ⟨b, off + j * 3 + 2, none⟩ = some u → Fits u
theorem EvsF.below {w w' : World} {v : Value} {L : List Ev} (h : EvsF w v L) (hB : Below w.heap.size w w') : EvsF w' v L := by
  refine ⟨h.at_.below hB, fun b off c e j hj u hu => h.fit b off c e j hj u ?_⟩
  obtain ⟨A, c', e', _, hc⟩ := h.at_
  obtain ⟨b', off', e2, hlt, _⟩ := hc (by omega)
  rw [e] at e'
  simp only [Value.slice.injEq] at e'
  have e3 := e'.1.trans e2
  simp only [Option.some.injEq, Addr.mk.injEq] at e3
  obtain ⟨rfl, rfl, -⟩ := e3
  rw [← hu]
  exact (hB.cell (p := ⟨b, off + j * 3 + 2, none⟩) hlt).symm

def prevAt (L : List Ev) (k : Nat) : Int := if k = 0 then 0 else (L.getD (k - 1) noEv).at_
theorem chk_zero {L : List Ev} (h : chkNo L = 0) : L.length ≤ 1000 ∧ ∀ k, k < L.length → verdict L k = 0 := by
  by_cases h1 : 1000 < L.length
  · simp [chkNo, h1] at h
  · refine ⟨by omega, ?_⟩
    have h0 : chk L 0 = 0 := by simpa [chkNo, h1] using h
    have hall : ∀ k, k ≤ L.length → chk L k = 0 := by
      intro k
      induction k with
      | zero => intro _; exact h0
      | succ k ih =>
        intro hk
        have := ih (by omega)
        by_cases hv : verdict L k = 0
        · rw [← chk_ok (by omega) hv]; exact this
        · rw [chk_no (by omega) hv] at this; exact absurd this hv
    intro k hk
    by_cases hv : verdict L k = 0
    · exact hv
    · have := hall k (by omega)
      rw [chk_no hk hv] at this
      exact absurd this hv
theorem ok_at {L : List Ev} (h : chkNo L = 0) (k : Nat) (hk : k < L.length) : evNo (L.getD k noEv) = 0 ∧ 0 ≤ prevAt L k ∧ prevAt L k ≤ (L.getD k noEv).at_ := by
  obtain ⟨_, hv⟩ := chk_zero h
  have he := verdict_ev (hv k hk)
  refine ⟨he, ?_⟩
  rcases k with _ | j
  · simp only [prevAt, if_pos]
    exact ⟨Int.le_refl 0, (evNo_bd he).2.1.1⟩
  · have hj := verdict_ev (hv j (by omega))
    have hb := hv (j + 1) hk
    unfold verdict at hb
    rw [if_pos he, if_neg (by omega), Nat.add_sub_cancel] at hb
    have hbb : behind (L.getD (j + 1) noEv) (L.getD j noEv) = true := by
      cases e : behind (L.getD (j + 1) noEv) (L.getD j noEv) with
      | true => rfl
      | false => rw [e] at hb; simp at hb
    have h1 := evNo_bd he
    have h2 := evNo_bd hj
    simp only [prevAt, if_neg (show ¬ j + 1 = 0 by omega), Nat.add_sub_cancel]
    unfold behind at hbb
    have hbb := of_decide_eq_true hbb
    exact ⟨h2.2.1.1, by omega⟩
theorem prevAt_succ (L : List Ev) (k : Nat) : prevAt L (k + 1) = (L.getD k noEv).at_ := by simp [prevAt]

theorem zigs_byte {z : Int} : ∀ x ∈ zigs z, 0 ≤ x ∧ x ≤ 255 := by
  unfold zigs
  split <;> exact sevens_byte
theorem runsB_byte : ∀ (l : List Int) (last : Int) (run : Nat), ∀ x ∈ runsB last run l, 0 ≤ x ∧ x ≤ 255
  | [], _, _, x, hx => by simp [runsB] at hx
  | [y], last, run, x, hx => by
    simp only [runsB, List.mem_append] at hx
    rcases hx with hx | hx
    · exact sevens_byte x hx
    · exact zigs_byte x hx
  | y :: z :: t, last, run, x, hx => by
    by_cases h : z = y
    · simp only [runsB, if_pos h] at hx
      exact runsB_byte (z :: t) _ _ x hx
    · simp only [runsB, if_neg h, List.mem_append] at hx
      rcases hx with (hx | hx) | hx
      · exact sevens_byte x hx
      · exact zigs_byte x hx
      · exact runsB_byte (z :: t) _ _ x hx
theorem dataB_byte (y : Ev) : ∀ x ∈ dataB y, 0 ≤ x ∧ x ≤ 255 := by
  unfold dataB
  split
  · exact runsB_byte _ _ _
  · split
    · exact zigs_byte
    · simp
theorem encFrom_byte : ∀ (L : List Ev) (last : Int), ∀ x ∈ encFrom last L, 0 ≤ x ∧ x ≤ 255
  | [], _, x, hx => by simp [encFrom] at hx
  | y :: L, last, x, hx => by
    simp only [encFrom, evB, List.mem_append] at hx
    rcases hx with (hx | hx) | hx
    · exact sevens_byte x hx
    · exact dataB_byte y x hx
    · exact encFrom_byte L _ x hx
theorem encB_byte (L : List Ev) : ∀ x ∈ encB L, 0 ≤ x ∧ x ≤ 255 := by
  intro x hx
  simp only [encB, List.mem_append] at hx
  rcases hx with hx | hx
  · exact sevens_byte x hx
  · exact encFrom_byte L _ x hx
theorem encFrom_len : ∀ (L : List Ev) (last : Int), 0 ≤ last → (∀ x ∈ L, evNo x = 0) → (encFrom last L).length ≤ 231 * L.length
  | [], _, _, _ => by simp [encFrom]
  | y :: L, last, hl, he => by
    have hy := he y (by simp)
    have h1 := evNo_bd hy
    have h2 := sevens_len7 (n := (4 * (y.at_ - last) + y.kind).toNat) (by omega)
    have h3 := dataB_len hy
    have h4 := encFrom_len L y.at_ h1.2.1.1 (fun x hx => he x (List.mem_cons_of_mem _ hx))
    simp [encFrom, evB]
    omega
theorem ok_mem {L : List Ev} (h : chkNo L = 0) : ∀ x ∈ L, evNo x = 0 := fun x hx => by
  obtain ⟨i, hi, rfl⟩ := List.getElem_of_mem hx
  have := (ok_at h i hi).1
  simpa [List.getD, hi] using this
theorem encB_len {L : List Ev} (h : chkNo L = 0) : (encB L).length ≤ 231007 := by
  have h1 := encFrom_len L 0 (by simp) (ok_mem h)
  have h2 := (chk_zero h).1
  have h3 := sevens_len7 (n := L.length) (by omega)
  simp [encB]
  omega
theorem enc_step {L : List Ev} {k : Nat} (hk : k < L.length) (last : Int) : encFrom last (L.drop k) = sevens (4 * ((L.getD k noEv).at_ - last) + (L.getD k noEv).kind).toNat ++ dataB (L.getD k noEv) ++ encFrom (L.getD k noEv).at_ (L.drop (k + 1)) := by
  rw [List.drop_eq_getElem_cons hk]
  have : L[k] = L.getD k noEv := by simp [List.getD, hk]
  rw [this]
  rfl

set_option maxHeartbeats 1000000 in
theorem appendData_any (v u : Value) (bs : List Int) (a k : Int) (d : List Int) (lo : Nat) (w : World) (h : OwnB w lo v bs) (hlo : lo ≤ w.heap.size) (he : evNo ⟨a, k, d⟩ = 0) (hi : IntsAt w u d) (hu : Fits u) (hub : ∀ b off n c, 0 < d.length → u = .slice (some ⟨b, off, none⟩) n c → b < lo) (hlen : bs.length ≤ 1000000) :
    Calls Tryz.prog 59 #[v, .agg #[.int .i64 a, .int .i64 k, u]] w fun e w' => ∃ v', e = .returned v' ∧ Appd lo w w' v v' (bs ++ dataB ⟨a, k, d⟩) := by
  obtain ⟨hk, ha, hw, hl⟩ := evNo_bd he
  simp only at hk ha hw hl
  have HI : Hid (IntsAt w u d) := hi
  obtain ⟨A, c, rfl, h8, hc⟩ := hi
  obtain ⟨A', n', c', e', hcap⟩ := hu
  simp only [Value.slice.injEq] at e'
  obtain ⟨rfl, rfl, rfl⟩ := e'
  have hb0 := below_alloc w (.cells #[.int .i64 a, .int .i64 k, .slice A d.length c] 62)
  have HO : Hid (OwnB (w.alloc (.cells #[.int .i64 a, .int .i64 k, .slice A d.length c] 62)) lo v bs) := h.below hb0
  by_cases k2 : k = 2
  · subst k2
    have h16 : d.length = 16 := by simp [wordsN] at hl; omega
    obtain ⟨b, off, rfl, hbs, hcell⟩ := hc (by omega)
    have HF : Hid (∀ W, W = w.alloc (.cells #[.int .i64 a, .int .i64 2, .slice (some ⟨b, off, none⟩) d.length c] 62) → Calls Tryz.prog 94 #[v, .slice (some ⟨b, off, none⟩) d.length c] W fun e w' => ∃ v', e = .returned v' ∧ Appd lo w w' v v' (bs ++ dataB ⟨a, 2, d⟩)) := fun W e => by
      subst e
      refine (appendRuns_any v _ bs d lo _ HO.out (by simp; omega) ⟨b, off, c, rfl, hcap, hub b off _ c (by omega) rfl⟩ (HI.out.below hb0) (by omega) (allB_mem hw) (by omega)).mono ?_
      rintro e w' ⟨v', rfl, ha'⟩
      refine ⟨v', rfl, ?_⟩
      have : dataB ⟨a, 2, d⟩ = runsB 0 0 d := by simp [dataB]
      rw [this]
      exact ha'.pre hb0 hlo
    clear hc hcell hw hl HI hub HO hb0 he h hk ha h16
    go_enter Tryz.func59, Tryz.ntmps59
    go_wp2_with fail
    refine (HF.out _ rfl).mono ?_
    rintro e w' ⟨v', rfl, ha'⟩
    have HA : Hid (Appd lo w w' v v' (bs ++ dataB ⟨a, 2, d⟩)) := ha'
    clear ha' HF
    go_wp2_with fail
    go_ret
    exact ⟨v', rfl, HA.out⟩
  · by_cases k3 : k = 3
    · subst k3
      have h1 : d.length = 1 := by simp [wordsN] at hl; omega
      obtain ⟨x, rfl⟩ : ∃ x, d = [x] := by
        match d, h1 with
        | [x], _ => exact ⟨x, rfl⟩
      obtain ⟨b, off, rfl, hbs, hcell⟩ := hc (by simp)
      have hx := allB_mem hw x (by simp)
      have c0 : w.cell? ⟨b, off, none⟩ = some (.int .i64 x) := by simpa using hcell 0 (by simp)
      have hbn : ¬ b = w.heap.size := by omega
      have HF : Hid (∀ W, W = w.alloc (.cells #[.int .i64 a, .int .i64 3, .slice (some ⟨b, off, none⟩) 1 c] 62) → Calls Tryz.prog 95 #[v, .int .i64 x] W fun e w' => ∃ v', e = .returned v' ∧ Appd lo w w' v v' (bs ++ dataB ⟨a, 3, [x]⟩)) := fun W e => by
        subst e
        refine (appendAnyKind_any v bs x lo _ HO.out (by simp; omega) (by omega) (by omega)).mono ?_
        rintro e w' ⟨v', rfl, ha'⟩
        refine ⟨v', rfl, ?_⟩
        have : dataB ⟨a, 3, [x]⟩ = zigs x := by simp [dataB]
        rw [this]
        exact ha'.pre hb0 hlo
      clear hc hcell hw hl HI hub HO hb0 he h hk ha
      simp only [List.length_singleton]
      go_enter Tryz.func59, Tryz.ntmps59
      go_wp2_with fail
      refine (HF.out _ rfl).mono ?_
      rintro e w' ⟨v', rfl, ha'⟩
      have HA : Hid (Appd lo w w' v v' (bs ++ dataB ⟨a, 3, [x]⟩)) := ha'
      clear ha' HF
      go_wp2_with fail
      go_ret
      exact ⟨v', rfl, HA.out⟩
    · have HD : Hid (bs ++ dataB ⟨a, k, d⟩ = bs) := by show _ = _; simp [dataB, k2, k3]
      have HA : Hid (Appd lo w (w.alloc (.cells #[.int .i64 a, .int .i64 k, .slice A d.length c] 62)) v v bs) := ⟨HO.out, hb0.mono hlo, (Grown.refl _ _).post hb0⟩
      clear hc hw hl HI hub HO hb0 he h hk ha
      go_enter Tryz.func59, Tryz.ntmps59
      go_wp2_with fail
      go_ret
      exact ⟨v, rfl, by rw [HD.out]; exact HA.out⟩

end Go.Proofs.YtecpblabaelopaaGreatDoor

/- One byte that is another one is told by the sum. -/

namespace Go.Proofs.YtecpblabaelopaaGreatDoor
open Go.RowKit
set_option maxRecDepth 100000

theorem fullB_byte (L : List Ev) : ∀ x ∈ fullB L, 0 ≤ x ∧ x ≤ 255 := fun x hx => by
  rcases List.mem_append.1 hx with h | h
  · exact encB_byte L x h
  · exact sumB_byte _ x h

end Go.Proofs.YtecpblabaelopaaGreatDoor

/- Bytes read as events: plain notions, and that reading is the other way round of writing. -/

namespace Go.Proofs.YtecpblabaelopaaGreatDoor
open Go.RowKit
set_option maxRecDepth 100000

structure Got (α : Type) where
  no : Int
  val : α
  rest : List Int
def numG : Nat → Int → Int → List Int → Got Int
  | _, _, _, [] => ⟨5, 0, []⟩
  | i, n, u, b :: t => if i = 7 then ⟨4, 0, []⟩ else if 128 ≤ b then numG (i + 1) (n + b % 128 * u) (u * 128) t else if b = 0 ∧ 0 < i then ⟨4, 0, []⟩ else ⟨0, n + b % 128 * u, t⟩
def numD (l : List Int) : Got Int := numG 0 0 1 l
def anyK (n : Int) : Int := if n % 2 = 1 then -((n + 1) / 2) else n / 2
def runsD : Nat → List Int → Int → List Int → Got (List Int)
  | 0, got, _, l => ⟨0, got, l⟩
  | f + 1, got, last, l =>
    if got.length < 16 then
      if (numD l).no ≠ 0 then ⟨(numD l).no, [], []⟩ else
      if (numD (numD l).rest).no ≠ 0 then ⟨(numD (numD l).rest).no, [], []⟩ else
      if (numD l).val < 1 ∨ 16 - (got.length : Int) < (numD l).val ∨ ((numD (numD l).rest).val = 0 ∧ 0 < got.length) then ⟨4, [], []⟩ else
      runsD f (got ++ List.replicate (numD l).val.toNat (last + anyK (numD (numD l).rest).val)) (last + anyK (numD (numD l).rest).val) (numD (numD l).rest).rest
    else ⟨0, got, l⟩
def eventD (last : Int) (l : List Int) : Got Ev :=
  if (numD l).no ≠ 0 then ⟨(numD l).no, noEv, []⟩ else
  if (numD l).val % 4 = 1 then ⟨0, ⟨last + (numD l).val / 4, 1, []⟩, (numD l).rest⟩ else
  if (numD l).val % 4 = 2 then
    if (runsD 16 [] 0 (numD l).rest).no ≠ 0 then ⟨(runsD 16 [] 0 (numD l).rest).no, noEv, []⟩ else ⟨0, ⟨last + (numD l).val / 4, 2, (runsD 16 [] 0 (numD l).rest).val⟩, (runsD 16 [] 0 (numD l).rest).rest⟩ else
  if (numD l).val % 4 = 3 then
    if (numD (numD l).rest).no ≠ 0 then ⟨(numD (numD l).rest).no, noEv, []⟩ else ⟨0, ⟨last + (numD l).val / 4, 3, [anyK (numD (numD l).rest).val]⟩, (numD (numD l).rest).rest⟩ else
  ⟨3, noEv, []⟩
def eventsD : Nat → Int → List Ev → List Int → Got (List Ev)
  | 0, _, got, l => ⟨0, got, l⟩
  | n + 1, last, got, l => if (eventD last l).no ≠ 0 then ⟨(eventD last l).no, [], []⟩ else eventsD n (eventD last l).val.at_ (got ++ [(eventD last l).val]) (eventD last l).rest
def allD (l : List Int) : Got (List Ev) :=
  if (numD l).no ≠ 0 then ⟨(numD l).no, [], []⟩ else
  if 1000 < (numD l).val then ⟨1, [], []⟩ else
  if (eventsD (numD l).val.toNat 0 [] (numD l).rest).no ≠ 0 then ⟨(eventsD (numD l).val.toNat 0 [] (numD l).rest).no, [], []⟩ else
  if 0 < (eventsD (numD l).val.toNat 0 [] (numD l).rest).rest.length then ⟨4, [], []⟩ else eventsD (numD l).val.toNat 0 [] (numD l).rest
def decD (l : List Int) : Int × List Ev :=
  if 60000 < l.length then (1, []) else
  if l.length ≤ 4 then (5, []) else
  if l.drop (l.length - 4) ≠ sumB (l.take (l.length - 4)) then (10, []) else
  if (allD (l.take (l.length - 4))).no ≠ 0 then ((allD (l.take (l.length - 4))).no, []) else
  if chkNo (allD (l.take (l.length - 4))).val ≠ 0 then (chkNo (allD (l.take (l.length - 4))).val, []) else (0, (allD (l.take (l.length - 4))).val)

theorem numG_sevens : ∀ (k i n : Nat) (m u : Int) (t : List Int), i + k = 7 → n < 128 ^ k → (n = 0 → i = 0) → numG i m u (sevens n ++ t) = ⟨0, m + n * u, t⟩
  | 0, i, n, m, u, t, hk, hn, h0 => by
    simp at hn
    have := h0 hn
    omega
  | k + 1, i, n, m, u, t, hk, hn, h0 => by
    have h7 : ¬ i = 7 := by omega
    by_cases h1 : n < 128
    · rw [sevens_small h1, List.singleton_append, numG, if_neg h7, if_neg (by omega), if_neg (by omega)]
      rw [show (n : Int) % 128 = n by omega]
    · rw [sevens_more h1, List.cons_append, numG, if_neg h7, if_pos (by omega)]
      have hd : n / 128 < 128 ^ k := Nat.div_lt_of_lt_mul (by rw [Nat.pow_succ] at hn; omega)
      rw [numG_sevens k (i + 1) (n / 128) _ _ t (by omega) hd (by omega)]
      have e : (((128 + n % 128 : Nat) : Int) % 128) * u + ((n / 128 : Nat) : Int) * (u * 128) = (n : Int) * u := by
        rw [Int.mul_comm u 128, ← Int.mul_assoc, ← Int.add_mul]
        congr 1
        omega
      rw [Int.add_assoc, e]
theorem numD_sevens {n : Nat} (t : List Int) (hn : n < 562949953421312) : numD (sevens n ++ t) = ⟨0, n, t⟩ := by
  rw [numD, numG_sevens 7 0 n 0 1 t rfl (by simpa using hn) (fun _ => rfl)]
  simp
theorem numG_back : ∀ (l : List Int) (i : Nat) (m u : Int), (∀ x ∈ l, 0 ≤ x ∧ x ≤ 255) → i ≤ 7 → (numG i m u l).no = 0 → ∃ n : Nat, l = sevens n ++ (numG i m u l).rest ∧ (numG i m u l).val = m + n * u ∧ n < 128 ^ (7 - i) ∧ (n = 0 → i = 0)
  | [], i, m, u, hb, hi, h => by simp [numG] at h
  | b :: l, i, m, u, hb, hi, h => by
    have hb0 := hb b (by simp)
    rw [numG] at h ⊢
    split at h
    · simp at h
    · rename_i h7
      rw [if_neg h7]
      split at h
      · rename_i h1
        rw [if_pos h1]
        obtain ⟨n, e1, e2, e3, e4⟩ := numG_back l (i + 1) (m + b % 128 * u) (u * 128) (fun x hx => hb x (List.mem_cons_of_mem _ hx)) (by omega) h
        have hn : n ≠ 0 := fun e => by have := e4 e; omega
        refine ⟨b.toNat % 128 + 128 * n, ?_, ?_, ?_, by omega⟩
        · rw [sevens_more (by omega), List.cons_append]
          rw [show (b.toNat % 128 + 128 * n) / 128 = n by omega, ← e1]
          congr 1
          omega
        · rw [e2]
          have e : b % 128 * u + (n : Int) * (u * 128) = ((b.toNat % 128 + 128 * n : Nat) : Int) * u := by
            rw [Int.mul_comm u 128, ← Int.mul_assoc, ← Int.add_mul]
            congr 1
            omega
          rw [Int.add_assoc, e]
        · rw [show 7 - i = (7 - (i + 1)) + 1 by omega, Nat.pow_succ]
          omega
      · rename_i h1
        rw [if_neg h1]
        split at h
        · simp at h
        · rename_i h2
          rw [if_neg h2]
          refine ⟨b.toNat, ?_, ?_, ?_, fun e => ?_⟩
          · rw [sevens_small (by omega), List.singleton_append]
            congr 1
            omega
          · show m + b % 128 * u = _
            rw [show b % 128 = (b.toNat : Int) by omega]
          · rw [show 7 - i = (6 - i) + 1 by omega, Nat.pow_succ]
            have : 0 < 128 ^ (6 - i) := Nat.pow_pos (by omega)
            omega
          · by_cases hi0 : i = 0
            · exact hi0
            · exact absurd ⟨by omega, by omega⟩ h2
theorem numD_back {l : List Int} (hb : ∀ x ∈ l, 0 ≤ x ∧ x ≤ 255) (h : (numD l).no = 0) : ∃ n : Nat, l = sevens n ++ (numD l).rest ∧ (numD l).val = n ∧ n < 562949953421312 := by
  obtain ⟨n, h1, h2, h3, _⟩ := numG_back l 0 0 1 hb (by omega) h
  exact ⟨n, h1, by rw [numD, h2]; omega, by simpa using h3⟩
theorem rest_byte {l a r : List Int} (hb : ∀ x ∈ l, 0 ≤ x ∧ x ≤ 255) (h : l = a ++ r) : ∀ x ∈ r, 0 ≤ x ∧ x ≤ 255 := fun x hx => hb x (by rw [h]; exact List.mem_append_right _ hx)

theorem zigs_of {z : Int} : ∃ n : Nat, zigs z = sevens n ∧ anyK n = z ∧ (-281474976710656 < z → z < 281474976710656 → n < 562949953421312) ∧ (n = 0 → z = 0) := by
  unfold zigs
  split
  · exact ⟨_, rfl, by unfold anyK; split <;> omega, by omega, by omega⟩
  · exact ⟨_, rfl, by unfold anyK; split <;> omega, by omega, by omega⟩
theorem zigs_anyK (n : Nat) : zigs (anyK n) = sevens n := by
  unfold zigs anyK
  split <;> split <;> congr 1 <;> omega
theorem anyK_zero {n : Nat} : anyK n = 0 ↔ n = 0 := by
  unfold anyK
  split <;> omega

theorem runsB_rep (x : Int) (e : List Int) (he : e.head? ≠ some x) : ∀ (a : Nat) (last : Int) (run : Nat), runsB last run (List.replicate (a + 1) x ++ e) = sevens (run + a + 1) ++ zigs (x - last) ++ runsB x 0 e
  | 0, last, run => by
    cases e with
    | nil => simp [runsB]
    | cons y t =>
      have : ¬ y = x := fun h => he (by simp [h])
      simp [runsB, this]
  | a + 1, last, run => by
    rw [List.replicate_succ, List.replicate_succ, List.cons_append, List.cons_append]
    rw [show runsB last run (x :: x :: (List.replicate a x ++ e)) = runsB last (run + 1) (x :: (List.replicate a x ++ e)) by simp [runsB]]
    rw [← List.cons_append, ← List.replicate_succ, runsB_rep x e he a last (run + 1)]
    rw [show run + 1 + a + 1 = run + (a + 1) + 1 by omega]
theorem split_rep (x : Int) : ∀ t : List Int, ∃ a e, x :: t = List.replicate (a + 1) x ++ e ∧ e.head? ≠ some x
  | [] => ⟨0, [], by simp, by simp⟩
  | y :: t => by
    by_cases h : y = x
    · subst h
      obtain ⟨a, e, h1, h2⟩ := split_rep y t
      exact ⟨a + 1, e, by rw [List.replicate_succ, List.cons_append, ← h1], h2⟩
    · exact ⟨0, y :: t, by simp, by simp [h]⟩
theorem runsD_runsB : ∀ (f : Nat) (got : List Int) (last : Int) (d t : List Int), got.length + d.length = 16 → d.length ≤ f → (-1099511627776 ≤ last ∧ last ≤ 1099511627776) → (∀ x ∈ d, -1099511627776 ≤ x ∧ x ≤ 1099511627776) → (0 < got.length → d.head? ≠ some last) → runsD f got last (runsB last 0 d ++ t) = ⟨0, got ++ d, t⟩
  | 0, got, last, d, t, h1, h2, _, _, _ => by
    obtain rfl : d = [] := List.length_eq_zero_iff.1 (by omega)
    simp [runsD, runsB]
  | f + 1, got, last, [], t, h1, h2, _, _, _ => by
    simp at h1
    simp [runsD, runsB, h1]
  | f + 1, got, last, x :: d, t, h1, h2, hl, hw, hh => by
    obtain ⟨a, e, h3, h4⟩ := split_rep x d
    rw [h3] at h1 h2 hw
    have hx := hw x (by simp)
    rw [h3, runsB_rep x e h4]
    simp at h1 h2
    obtain ⟨n, z1, z2, z3, z4⟩ := zigs_of (z := x - last)
    have z3' := z3 (by omega) (by omega)
    have n1 : numD (sevens (0 + a + 1) ++ zigs (x - last) ++ runsB x 0 e ++ t) = ⟨0, ((0 + a + 1 : Nat) : Int), zigs (x - last) ++ runsB x 0 e ++ t⟩ := by
      rw [List.append_assoc, List.append_assoc, numD_sevens _ (by omega), List.append_assoc]
    have n2 : numD (zigs (x - last) ++ runsB x 0 e ++ t) = ⟨0, (n : Int), runsB x 0 e ++ t⟩ := by
      rw [z1, List.append_assoc, numD_sevens _ z3']
    rw [runsD, if_pos (by omega), n1]
    simp only [n2]
    rw [if_neg (by simp), if_neg (by simp), if_neg, z2]
    · rw [show last + (x - last) = x by omega, show ((0 + a + 1 : Nat) : Int).toNat = a + 1 by omega]
      rw [runsD_runsB f _ x e t (by simp; omega) (by omega) hx (fun y hy => hw y (by simp [hy])) (fun _ => h4), List.append_assoc]
    · rintro (h | h | h)
      · omega
      · omega
      · have := z4 (by omega)
        exact hh h.2 (by simp; omega)
theorem runsD_back : ∀ (f : Nat) (got : List Int) (last : Int) (l : List Int), (∀ x ∈ l, 0 ≤ x ∧ x ≤ 255) → got.length ≤ 16 → 16 - got.length ≤ f → (runsD f got last l).no = 0 → ∃ e, (runsD f got last l).val = got ++ e ∧ got.length + e.length = 16 ∧ l = runsB last 0 e ++ (runsD f got last l).rest ∧ (0 < got.length → e.head? ≠ some last)
  | 0, got, last, l, hb, h1, h2, h => ⟨[], by simp [runsD], by simp; omega, by simp [runsD, runsB], by simp⟩
  | f + 1, got, last, l, hb, h1, h2, h => by
    rw [runsD] at h ⊢
    split at h
    · rename_i hlt
      rw [if_pos hlt]
      split at h
      · rename_i h3
        exact absurd h h3
      · rename_i h3
        rw [if_neg h3]
        simp only [ne_eq, Decidable.not_not] at h3
        obtain ⟨n, a1, a2, a3⟩ := numD_back hb h3
        split at h
        · rename_i h4
          exact absurd h h4
        · rename_i h4
          rw [if_neg h4]
          simp only [ne_eq, Decidable.not_not] at h4
          obtain ⟨m, b1, b2, b3⟩ := numD_back (rest_byte hb a1) h4
          split at h
          · simp at h
          · rename_i h5
            rw [if_neg h5]
            rw [a2, b2] at h5 h ⊢
            have hn1 : 1 ≤ n ∧ n ≤ 16 - got.length ∧ (m = 0 → ¬ 0 < got.length) := ⟨by omega, by omega, fun hm h0 => h5 (Or.inr (Or.inr ⟨by omega, h0⟩))⟩
            clear h5
            obtain ⟨e, c1, c2, c3, c4⟩ := runsD_back f (got ++ List.replicate (n : Int).toNat (last + anyK m)) (last + anyK m) _ (rest_byte (rest_byte hb a1) b1) (by simp; omega) (by simp; omega) h
            simp at c2 c4
            obtain ⟨k, rfl⟩ : ∃ k, n = k + 1 := ⟨n - 1, by omega⟩
            refine ⟨List.replicate (k + 1) (last + anyK m) ++ e, ?_, ?_, ?_, fun h0 => ?_⟩
            · rw [c1, List.append_assoc]
              simp
            · simp
              omega
            · rw [runsB_rep _ e (c4 (by omega)), show last + anyK m - last = anyK m by omega, zigs_anyK, show 0 + k + 1 = k + 1 by omega]
              rw [List.append_assoc, List.append_assoc, ← c3, ← b1, ← a1]
            · rw [List.replicate_succ]
              simp
              intro e0
              exact hn1.2.2 (anyK_zero.1 (by omega)) h0
    · rename_i hlt
      rw [if_neg hlt]
      exact ⟨[], by simp, by simp; omega, by simp [runsB], by simp⟩

end Go.Proofs.YtecpblabaelopaaGreatDoor
