/- Contracts of hourglassref's wordMay, wordsMay: numbers that are words. -/
import Derived.Test.YtlcdefpdahjjeagDoorRepPPart
import Derived.Test.YtlcdefpdahjjeagDoorEvChkPart
namespace Go.Proofs.YtlcdefpdahjjeagDoor
open Go.RowKit
set_option maxRecDepth 100000

theorem wordMay_any (n : Int) (w : World) : Calls Tryd.prog 105 #[.int .i64 n] w fun e w' => e = .returned (.bool (wordB n)) ∧ w' = w := by
  go_enter Tryd.func105, Tryd.ntmps105
  go_wp2_with (go_at_call 35; refine (In_B _ _ _ _).mono ?_; rintro e w' ⟨rfl, rfl⟩)
  go_ret
  exact ⟨rfl, rfl⟩

set_option maxHeartbeats 400000 in
theorem wordsMay_any (v : Value) (l : List Int) (w : World) (h : IntsAt w v l) :
    Calls Tryd.prog 66 #[v] w fun e w' => e = .returned (.bool (allB l)) ∧ w' = w := by
  obtain ⟨A, c, rfl, hl, hc⟩ := h
  go_enter Tryd.func66, Tryd.ntmps66
  go_wp2
  go_loopw [3] (fun i wr => ∃ k : Nat, k ≤ l.length ∧ i = .int .i64 k ∧ Hid (∀ i, i < k → wordB (l.getD i 0) = true) ∧ wr = w) (fun i _ => l.length - (intOf i).toNat)
  case atStart => exact ⟨0, Nat.zero_le _, rfl, fun i hi => absurd hi (Nat.not_lt_zero _), rfl⟩
  case round =>
    obtain ⟨k, hk, rfl, ht, hw⟩ := hrel
    subst wr
    by_cases hlt : k < l.length
    · obtain ⟨b, off, rfl, hbs, hcell⟩ := hc (by omega)
      have h1 := hcell k hlt
      cases hw : wordB (l.getD k 0) with
      | false =>
        have HN : Hid (false = allB l) := (allB_no hlt hw).symm
        clear hcell hc
        revert h1 hw
        generalize l.getD k 0 = x
        intro h1 hw
        go_wp2_with (go_at_call 105; refine (wordMay_any _ _).mono ?_; rintro e w' ⟨rfl, rfl⟩)
        go_ret
        exact ⟨ret_bool HN.out, rfl⟩
      | true =>
        have HN : Hid (∀ i, i < k + 1 → wordB (l.getD i 0) = true) := allB_step ht.out hw
        clear hcell hc
        revert h1 hw
        generalize l.getD k 0 = x
        intro h1 hw
        go_wp2_with (go_at_call 105; refine (wordMay_any _ _).mono ?_; rintro e w' ⟨rfl, rfl⟩)
        refine ⟨⟨k + 1, by omega, by go_num, HN, trivial⟩, ?_⟩
        simp [intOf]; omega
    · have HN : Hid (true = allB l) := (allB_iff.2 fun i hi => ht.out i (by omega)).symm
      clear hc
      go_wp2
      go_ret
      exact ⟨ret_bool HN.out, rfl⟩

end Go.Proofs.YtlcdefpdahjjeagDoor

/- Contracts of hourglassref.wordsIn and hourglassref.EventsFault. -/

namespace Go.Proofs.YtlcdefpdahjjeagDoor
open Go.RowKit Go.Sort
set_option maxRecDepth 100000

theorem wordsIn_any (k : Int) (w : World) : Calls Tryd.prog 107 #[.int .i64 k] w fun e w' => e = .returned (.int .i64 (wordsN k)) ∧ w' = w := by
  by_cases h2 : k = 2
  · subst h2
    go_enter Tryd.func107, Tryd.ntmps107
    go_wp2
    go_ret
    exact ⟨rfl, rfl⟩
  · by_cases h3 : k = 3
    · subst h3
      go_enter Tryd.func107, Tryd.ntmps107
      go_wp2
      go_ret
      exact ⟨rfl, rfl⟩
    · have HR : Hid (0 = wordsN k) := by show _ = _; simp [wordsN, h2, h3]
      go_enter Tryd.func107, Tryd.ntmps107
      go_wp2
      go_ret
      exact ⟨ret_int HR.out, rfl⟩

theorem evNo_kind {a k : Int} {l : List Int} (h : inB k 1 3 = false) : evNo ⟨a, k, l⟩ = 3 := by simp [evNo, h]
theorem evNo_at {a k : Int} {l : List Int} (h : inB k 1 3 = true) (h1 : inB a 0 2999 = false) : evNo ⟨a, k, l⟩ = 2 := by simp [evNo, h, h1]
theorem evNo_words {a k : Int} {l : List Int} (h : inB k 1 3 = true) (h1 : inB a 0 2999 = true) (h2 : allB l = false) : evNo ⟨a, k, l⟩ = 2 := by simp [evNo, h, h1, h2]
theorem evNo_size {a k : Int} {l : List Int} (h : inB k 1 3 = true) (h1 : inB a 0 2999 = true) (h2 : allB l = true) (h3 : ¬ (l.length : Int) = wordsN k) : evNo ⟨a, k, l⟩ = 1 := by simp [evNo, h, h1, h2, h3]
theorem evNo_ok {a k : Int} {l : List Int} (h : inB k 1 3 = true) (h1 : inB a 0 2999 = true) (h2 : allB l = true) (h3 : (l.length : Int) = wordsN k) : evNo ⟨a, k, l⟩ = 0 := by simp [evNo, h, h1, h2, h3]

set_option maxRecDepth 20000 in
set_option maxHeartbeats 4000000 in
theorem EventsFault_any (v : Value) (L : List Ev) (w : World) (h : EvsAt w v L) :
    Calls Tryd.prog 70 #[v] w fun e w' => e = .returned (.int .i64 (chkNo L)) ∧ Below w.heap.size w w' := by
  obtain ⟨A, c, rfl, hl, hc⟩ := h
  by_cases h1 : 1000 < L.length
  · have HR : Hid (chkNo L = 1) := by show _ = _; simp [chkNo, h1]
    have d0 : decide (1000 < (L.length : Int)) = true := by simp; omega
    clear hc
    go_enter Tryd.func70, Tryd.ntmps70
    go_wp2
    go_ret
    exact ⟨ret_int HR.out.symm, Below.refl _ _⟩
  · have d0 : decide (1000 < (L.length : Int)) = false := by simp; omega
    have H0 : Hid (chkNo L = chk L 0) := by show _ = _; simp [chkNo, h1]
    clear h1
    go_enter Tryd.func70, Tryd.ntmps70
    go_wp2
    clear d0
    go_loopw [3] (fun i wr => ∃ k : Nat, k ≤ L.length ∧ i = .int .i64 k ∧ Hid (chkNo L = chk L k ∧ ∀ j, k = j + 1 → verdict L j = 0) ∧ Hid (Below w.heap.size w wr)) (fun i _ => L.length - (intOf i).toNat)
    case atStart => exact ⟨0, Nat.zero_le _, rfl, ⟨H0.out, fun j e => by omega⟩, Below.refl _ _⟩
    case round =>
      obtain ⟨k, hk, rfl, hR, hB⟩ := hrel
      by_cases hlt : k < L.length
      · obtain ⟨b, off, rfl, hbs, hcell⟩ := hc (by omega)
        obtain ⟨x, hx⟩ : ∃ x, L.getD k noEv = x := ⟨_, rfl⟩
        obtain ⟨x0, x1, vx, x2, xi⟩ := hcell k hlt
        rw [hx] at x0 x1 xi
        have HX : Hid (L.getD k noEv = x) := hx
        have hsz := hB.out.size
        have HC : Hid (∀ j, j < L.length → EvAt w b (off + j * 3) (L.getD j noEv)) := hcell
        have y0 := (hB.out.cell (p := ⟨b, off + k * 3, none⟩) hbs).trans x0
        have y1 := (hB.out.cell (p := ⟨b, off + k * 3 + 1, none⟩) hbs).trans x1
        have y2 := (hB.out.cell (p := ⟨b, off + k * 3 + 2, none⟩) hbs).trans x2
        obtain ⟨xa, xk, xd⟩ := x
        have HXI : Hid (IntsAt w vx xd) := xi
        obtain ⟨A1, c1, rfl, hl1, -⟩ := xi
        simp only at y0 y1 y2 hl1
        have HB2 : Hid (∀ o, Below w.heap.size w (wr.alloc o)) := fun o => hB.out.alloc hB.out.size o
        have zl : wr.heap.size < (wr.alloc (.cells #[.int .i64 xa, .int .i64 xk, .slice A1 xd.length c1] 56)).heap.size := by simp
        clear hc hx x0 x1 x2 hcell
        cases c0 : inB xk 1 3 with
        | false =>
          have HV : Hid (chkNo L = 3) := by
            have he := evNo_kind (a := xa) (l := xd) c0
            exact hR.out.1.trans ((chk_no hlt (by rw [verdict_no HX.out (by rw [he]; decide), he]; decide)).trans ((verdict_no HX.out (by rw [he]; decide)).trans he))
          clear hR HX HC
          go_wp2_with fail
          refine (In_B _ _ _ _).mono ?_
          rw [c0]
          rintro e w' ⟨rfl, rfl⟩
          go_wp2_with fail
          go_ret
          exact ⟨ret_int HV.out.symm, HB2.out _⟩
        | true =>
        cases c1' : inB xa 0 2999 with
        | false =>
          have HV : Hid (chkNo L = 2) := by
            have he := evNo_at (l := xd) c0 c1'
            exact hR.out.1.trans ((chk_no hlt (by rw [verdict_no HX.out (by rw [he]; decide), he]; decide)).trans ((verdict_no HX.out (by rw [he]; decide)).trans he))
          clear hR HX HC
          go_wp2_with fail
          refine (In_B _ _ _ _).mono ?_
          rw [c0]
          rintro e w' ⟨rfl, rfl⟩
          go_wp2_with fail
          refine (In_B _ _ _ _).mono ?_
          rw [c1']
          rintro e w' ⟨rfl, rfl⟩
          go_wp2_with fail
          go_ret
          exact ⟨ret_int HV.out.symm, HB2.out _⟩
        | true =>
        cases c2 : allB xd with
        | false =>
          have HV : Hid (chkNo L = 2) := by
            have he := evNo_words c0 c1' c2
            exact hR.out.1.trans ((chk_no hlt (by rw [verdict_no HX.out (by rw [he]; decide), he]; decide)).trans ((verdict_no HX.out (by rw [he]; decide)).trans he))
          clear hR HX HC
          go_wp2_with fail
          refine (In_B _ _ _ _).mono ?_
          rw [c0]
          rintro e w' ⟨rfl, rfl⟩
          go_wp2_with fail
          refine (In_B _ _ _ _).mono ?_
          rw [c1']
          rintro e w' ⟨rfl, rfl⟩
          go_wp2_with fail
          refine (wordsMay_any _ xd _ (HXI.out.below (HB2.out _))).mono ?_
          rw [c2]
          rintro e w' ⟨rfl, rfl⟩
          go_wp2_with fail
          go_ret
          exact ⟨ret_int HV.out.symm, HB2.out _⟩
        | true =>
          have hxk := inB_iff.1 c0
          have hxa := inB_iff.1 c1'
          have HW : Hid (∀ W : World, Calls Tryd.prog 107 #[.int .i64 xk] W fun e w' => e = .returned (.int .i64 (wordsN xk)) ∧ w' = W) := fun W => wordsIn_any xk W
          by_cases c3 : (xd.length : Int) = wordsN xk
          · have HE : Hid (evNo ⟨xa, xk, xd⟩ = 0) := evNo_ok c0 c1' c2 c3
            have HK : Hid (1 ≤ xk ∧ xk ≤ 3) := hxk
            clear hxk
            revert HW c3
            generalize wordsN xk = nx
            intro HW c3
            go_wp2_with fail
            refine (In_B _ _ _ _).mono ?_
            rw [c0]
            rintro e w' ⟨rfl, rfl⟩
            go_wp2_with fail
            refine (In_B _ _ _ _).mono ?_
            rw [c1']
            rintro e w' ⟨rfl, rfl⟩
            go_wp2_with fail
            refine (wordsMay_any _ xd _ (HXI.out.below (HB2.out _))).mono ?_
            rw [c2]
            rintro e w' ⟨rfl, rfl⟩
            clear c0 c1' c2 HXI y0 y1 y2
            go_wp2_with fail
            go_quiet ((go_at_call 107; exact Calls.quiet_of_same (HW.out _)))
            clear HW c3
            rcases k with _ | j
            · have HV : Hid (chkNo L = chk L (0 + 1) ∧ ∀ j, 0 + 1 = j + 1 → verdict L j = 0) := ⟨hR.out.1.trans (chk_ok hlt (verdict_first HX.out HE.out)), fun j e => by rw [show j = 0 by omega]; exact verdict_first HX.out HE.out⟩
              clear hR HX HC HE HK
              go_wp2_with fail
              go_quiet (fail)
              go_wp2_with fail
              refine ⟨⟨0 + 1, by omega, by go_num, HV, below_drewN (HB2.out _) _⟩, ?_⟩
              simp [intOf]; omega
            · obtain ⟨y, hy⟩ : ∃ y, L.getD j noEv = y := ⟨_, rfl⟩
              obtain ⟨t0, t1, -, -, -⟩ := HC.out j (by omega)
              rw [hy] at t0 t1
              have HY : Hid (L.getD j noEv = y) := hy
              have hy0 : evNo y = 0 := by rw [← hy]; exact verdict_ev (hR.out.2 j rfl)
              obtain ⟨ya, yk, yd⟩ := y
              obtain ⟨hyk, hya, -, -⟩ := evNo_bd hy0
              simp only at hyk hya
              have hxk := HK.out
              have s0 := (hB.out.cell (p := ⟨b, off + j * 3, none⟩) hbs).trans t0
              have s1 := (hB.out.cell (p := ⟨b, off + j * 3 + 1, none⟩) hbs).trans t1
              simp only at s0 s1
              have hbw : b < wr.heap.size := by omega
              have hbn : ¬ b = wr.heap.size := by omega
              have hwr : IntKind.i64.wrap (j : Int) = j := IntWalk.i64_in _ (by omega)
              have hj : j < L.length := by omega
              have hji : (j : Int) < (L.length : Int) := by omega
              have hj0 : (0 : Int) ≤ (j : Int) := by omega
              have w1 : IntKind.i64.wrap (4 * ya) = 4 * ya := IntWalk.i64_in _ (by omega)
              have w2 : IntKind.i64.wrap (4 * ya + yk) = 4 * ya + yk := IntWalk.i64_in _ (by omega)
              have w3 : IntKind.i64.wrap (4 * xa) = 4 * xa := IntWalk.i64_in _ (by omega)
              have w4 : IntKind.i64.wrap (4 * xa + xk) = 4 * xa + xk := IntWalk.i64_in _ (by omega)
              by_cases hbv : 4 * ya + yk < 4 * xa + xk
              · have hb' : behind ⟨xa, xk, xd⟩ ⟨ya, yk, yd⟩ = true := by simp [behind, hbv]
                have HV : Hid (chkNo L = chk L (j + 1 + 1) ∧ ∀ i, j + 1 + 1 = i + 1 → verdict L i = 0) := ⟨hR.out.1.trans (chk_ok hlt (verdict_yes HX.out HY.out HE.out hb')), fun i e => by rw [show i = j + 1 by omega]; exact verdict_yes HX.out HY.out HE.out hb'⟩
                have hg : decide (4 * xa + xk ≤ 4 * ya + yk) = false := by simp; omega
                clear hR HX HC HE HK hy hy0 t0 t1 HY hb' hxk hyk hya hxa
                go_wp2_with fail
                go_quiet (fail)
                go_wp2_with fail
                refine ⟨⟨j + 1 + 1, by omega, by go_num, HV, below_drewN (HB2.out _) _⟩, ?_⟩
                simp [intOf]; omega
              · have hb' : behind ⟨xa, xk, xd⟩ ⟨ya, yk, yd⟩ = false := by simp [behind, hbv]
                have HV : Hid (chkNo L = 9) := hR.out.1.trans ((chk_no hlt (by rw [verdict_not HX.out HY.out HE.out hb']; decide)).trans (verdict_not HX.out HY.out HE.out hb'))
                have hg : decide (4 * xa + xk ≤ 4 * ya + yk) = true := by simp; omega
                clear hR HX HC HE HK hy hy0 t0 t1 HY hb' hxk hyk hya hxa
                go_wp2_with fail
                go_quiet (fail)
                go_wp2_with fail
                go_ret
                exact ⟨ret_int HV.out.symm, below_drewN (below_drewN (HB2.out _) _) _⟩
          · have HV : Hid (chkNo L = 1) := by
              have he := evNo_size c0 c1' c2 c3
              exact hR.out.1.trans ((chk_no hlt (by rw [verdict_no HX.out (by rw [he]; decide), he]; decide)).trans ((verdict_no HX.out (by rw [he]; decide)).trans he))
            clear hxk hR HX HC
            revert HW c3
            generalize wordsN xk = nx
            intro HW c3
            go_wp2_with fail
            refine (In_B _ _ _ _).mono ?_
            rw [c0]
            rintro e w' ⟨rfl, rfl⟩
            go_wp2_with fail
            refine (In_B _ _ _ _).mono ?_
            rw [c1']
            rintro e w' ⟨rfl, rfl⟩
            go_wp2_with fail
            refine (wordsMay_any _ xd _ (HXI.out.below (HB2.out _))).mono ?_
            rw [c2]
            rintro e w' ⟨rfl, rfl⟩
            clear c0 c1' c2 HXI y0 y1 y2
            go_wp2_with fail
            go_quiet ((go_at_call 107; exact Calls.quiet_of_same (HW.out _)))
            go_wp2_with fail
            go_ret
            exact ⟨ret_int HV.out.symm, below_drewN (HB2.out _) _⟩
      · have HV : Hid (chkNo L = 0) := hR.out.1.trans (chk_end hlt)
        clear hc hR
        go_wp2_with fail
        go_ret
        exact ⟨ret_int HV.out.symm, hB.out⟩

end Go.Proofs.YtlcdefpdahjjeagDoor
