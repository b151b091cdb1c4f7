/- Contracts of hourglassref.wordsIn and hourglassref.EventsFault. -/
import Derived.Test.YtbjlfhpiebokkaaDoorBySevPart
import Derived.Test.YtbjlfhpiebokkaaDoorMayPart
import Derived.Test.YtbjlfhpiebokkaaDoorByEncPart
import Derived.Deep.AppendLies
import Derived.Deep.RegionLaw
namespace Go.Proofs.YtbjlfhpiebokkaaDoor
open Go.RowKit Go.Sort
set_option maxRecDepth 100000

theorem wordsIn_any (k : Int) (w : World) : Calls Tryd.prog 103 #[.int .i64 k] w fun e w' => e = .returned (.int .i64 (wordsN k)) ∧ w' = w := by
  by_cases h2 : k = 2
  · subst h2
    go_enter Tryd.func103, Tryd.ntmps103
    go_wp2
    go_ret
    exact ⟨rfl, rfl⟩
  · by_cases h3 : k = 3
    · subst h3
      go_enter Tryd.func103, Tryd.ntmps103
      go_wp2
      go_ret
      exact ⟨rfl, rfl⟩
    · have HR : Hid (0 = wordsN k) := by show _ = _; simp [wordsN, h2, h3]
      go_enter Tryd.func103, Tryd.ntmps103
      go_wp2
      go_ret
      exact ⟨ret_int HR.out, rfl⟩

theorem evNo_kind {a k : Int} {l : List Int} (h : inB k 1 3 = false) : evNo ⟨a, k, l⟩ = 3 := by simp [evNo, h]
theorem evNo_at {a k : Int} {l : List Int} (h : inB k 1 3 = true) (h1 : inB a 0 2999 = false) : evNo ⟨a, k, l⟩ = 2 := by simp [evNo, h, h1]
theorem evNo_words {a k : Int} {l : List Int} (h : inB k 1 3 = true) (h1 : inB a 0 2999 = true) (h2 : allB l = false) : evNo ⟨a, k, l⟩ = 2 := by simp [evNo, h, h1, h2]
theorem evNo_size {a k : Int} {l : List Int} (h : inB k 1 3 = true) (h1 : inB a 0 2999 = true) (h2 : allB l = true) (h3 : ¬ (l.length : Int) = wordsN k) : evNo ⟨a, k, l⟩ = 1 := by simp [evNo, h, h1, h2, h3]
theorem evNo_ok {a k : Int} {l : List Int} (h : inB k 1 3 = true) (h1 : inB a 0 2999 = true) (h2 : allB l = true) (h3 : (l.length : Int) = wordsN k) : evNo ⟨a, k, l⟩ = 0 := by simp [evNo, h, h1, h2, h3]

set_option maxRecDepth 20000 in
set_option maxHeartbeats 4000000 in
theorem EventsFault_any (v : Value) (L : List Ev) (w : World) (h : EvsAt w v L) :
    Calls Tryd.prog 67 #[v] w fun e w' => e = .returned (.int .i64 (chkNo L)) ∧ Below w.heap.size w w' := by
  obtain ⟨A, c, rfl, hl, hc⟩ := h
  by_cases h1 : 1000 < L.length
  · have HR : Hid (chkNo L = 1) := by show _ = _; simp [chkNo, h1]
    have d0 : decide (1000 < (L.length : Int)) = true := by simp; omega
    clear hc
    go_enter Tryd.func67, Tryd.ntmps67
    go_wp2
    go_ret
    exact ⟨ret_int HR.out.symm, Below.refl _ _⟩
  · have d0 : decide (1000 < (L.length : Int)) = false := by simp; omega
    have H0 : Hid (chkNo L = chk L 0) := by show _ = _; simp [chkNo, h1]
    clear h1
    go_enter Tryd.func67, Tryd.ntmps67
    go_wp2
    clear d0
    go_loopw [3] (fun i wr => ∃ k : Nat, k ≤ L.length ∧ i = .int .i64 k ∧ Hid (chkNo L = chk L k ∧ ∀ j, k = j + 1 → verdict L j = 0) ∧ Hid (Below w.heap.size w wr)) (fun i _ => L.length - (intOf i).toNat)
    case atStart => exact ⟨0, Nat.zero_le _, rfl, ⟨H0.out, fun j e => by omega⟩, Below.refl _ _⟩
    case round =>
      obtain ⟨k, hk, rfl, hR, hB⟩ := hrel
      by_cases hlt : k < L.length
      · obtain ⟨b, off, rfl, hbs, hcell⟩ := hc (by omega)
        obtain ⟨x, hx⟩ : ∃ x, L.getD k noEv = x := ⟨_, rfl⟩
        obtain ⟨x0, x1, vx, x2, xi⟩ := hcell k hlt
        rw [hx] at x0 x1 xi
        have HX : Hid (L.getD k noEv = x) := hx
        have hsz := hB.out.size
        have HC : Hid (∀ j, j < L.length → EvAt w b (off + j * 3) (L.getD j noEv)) := hcell
        have y0 := (hB.out.cell (p := ⟨b, off + k * 3, none⟩) hbs).trans x0
        have y1 := (hB.out.cell (p := ⟨b, off + k * 3 + 1, none⟩) hbs).trans x1
        have y2 := (hB.out.cell (p := ⟨b, off + k * 3 + 2, none⟩) hbs).trans x2
        obtain ⟨xa, xk, xd⟩ := x
        have HXI : Hid (IntsAt w vx xd) := xi
        obtain ⟨A1, c1, rfl, hl1, -⟩ := xi
        simp only at y0 y1 y2 hl1
        have HB2 : Hid (∀ o, Below w.heap.size w (wr.alloc o)) := fun o => hB.out.alloc hB.out.size o
        have zl : wr.heap.size < (wr.alloc (.cells #[.int .i64 xa, .int .i64 xk, .slice A1 xd.length c1] 54)).heap.size := by simp
        clear hc hx x0 x1 x2 hcell
        cases c0 : inB xk 1 3 with
        | false =>
          have HV : Hid (chkNo L = 3) := by
            have he := evNo_kind (a := xa) (l := xd) c0
            exact hR.out.1.trans ((chk_no hlt (by rw [verdict_no HX.out (by rw [he]; decide), he]; decide)).trans ((verdict_no HX.out (by rw [he]; decide)).trans he))
          clear hR HX HC
          go_wp2_with fail
          refine (In_B _ _ _ _).mono ?_
          rw [c0]
          rintro e w' ⟨rfl, rfl⟩
          go_wp2_with fail
          go_ret
          exact ⟨ret_int HV.out.symm, HB2.out _⟩
        | true =>
        cases c1' : inB xa 0 2999 with
        | false =>
          have HV : Hid (chkNo L = 2) := by
            have he := evNo_at (l := xd) c0 c1'
            exact hR.out.1.trans ((chk_no hlt (by rw [verdict_no HX.out (by rw [he]; decide), he]; decide)).trans ((verdict_no HX.out (by rw [he]; decide)).trans he))
          clear hR HX HC
          go_wp2_with fail
          refine (In_B _ _ _ _).mono ?_
          rw [c0]
          rintro e w' ⟨rfl, rfl⟩
          go_wp2_with fail
          refine (In_B _ _ _ _).mono ?_
          rw [c1']
          rintro e w' ⟨rfl, rfl⟩
          go_wp2_with fail
          go_ret
          exact ⟨ret_int HV.out.symm, HB2.out _⟩
        | true =>
        cases c2 : allB xd with
        | false =>
          have HV : Hid (chkNo L = 2) := by
            have he := evNo_words c0 c1' c2
            exact hR.out.1.trans ((chk_no hlt (by rw [verdict_no HX.out (by rw [he]; decide), he]; decide)).trans ((verdict_no HX.out (by rw [he]; decide)).trans he))
          clear hR HX HC
          go_wp2_with fail
          refine (In_B _ _ _ _).mono ?_
          rw [c0]
          rintro e w' ⟨rfl, rfl⟩
          go_wp2_with fail
          refine (In_B _ _ _ _).mono ?_
          rw [c1']
          rintro e w' ⟨rfl, rfl⟩
          go_wp2_with fail
          refine (wordsMay_any _ xd _ (HXI.out.below (HB2.out _))).mono ?_
          rw [c2]
          rintro e w' ⟨rfl, rfl⟩
          go_wp2_with fail
          go_ret
          exact ⟨ret_int HV.out.symm, HB2.out _⟩
        | true =>
          have hxk := inB_iff.1 c0
          have hxa := inB_iff.1 c1'
          have HW : Hid (∀ W : World, Calls Tryd.prog 103 #[.int .i64 xk] W fun e w' => e = .returned (.int .i64 (wordsN xk)) ∧ w' = W) := fun W => wordsIn_any xk W
          by_cases c3 : (xd.length : Int) = wordsN xk
          · have HE : Hid (evNo ⟨xa, xk, xd⟩ = 0) := evNo_ok c0 c1' c2 c3
            have HK : Hid (1 ≤ xk ∧ xk ≤ 3) := hxk
            clear hxk
            revert HW c3
            generalize wordsN xk = nx
            intro HW c3
            go_wp2_with fail
            refine (In_B _ _ _ _).mono ?_
            rw [c0]
            rintro e w' ⟨rfl, rfl⟩
            go_wp2_with fail
            refine (In_B _ _ _ _).mono ?_
            rw [c1']
            rintro e w' ⟨rfl, rfl⟩
            go_wp2_with fail
            refine (wordsMay_any _ xd _ (HXI.out.below (HB2.out _))).mono ?_
            rw [c2]
            rintro e w' ⟨rfl, rfl⟩
            clear c0 c1' c2 HXI y0 y1 y2
            go_wp2_with fail
            go_quiet ((go_at_call 103; exact Calls.quiet_of_same (HW.out _)))
            clear HW c3
            rcases k with _ | j
            · have HV : Hid (chkNo L = chk L (0 + 1) ∧ ∀ j, 0 + 1 = j + 1 → verdict L j = 0) := ⟨hR.out.1.trans (chk_ok hlt (verdict_first HX.out HE.out)), fun j e => by rw [show j = 0 by omega]; exact verdict_first HX.out HE.out⟩
              clear hR HX HC HE HK
              go_wp2_with fail
              go_quiet (fail)
              go_wp2_with fail
              refine ⟨⟨0 + 1, by omega, by go_num, HV, below_drewN (HB2.out _) _⟩, ?_⟩
              simp [intOf]; omega
            · obtain ⟨y, hy⟩ : ∃ y, L.getD j noEv = y := ⟨_, rfl⟩
              obtain ⟨t0, t1, -, -, -⟩ := HC.out j (by omega)
              rw [hy] at t0 t1
              have HY : Hid (L.getD j noEv = y) := hy
              have hy0 : evNo y = 0 := by rw [← hy]; exact verdict_ev (hR.out.2 j rfl)
              obtain ⟨ya, yk, yd⟩ := y
              obtain ⟨hyk, hya, -, -⟩ := evNo_bd hy0
              simp only at hyk hya
              have hxk := HK.out
              have s0 := (hB.out.cell (p := ⟨b, off + j * 3, none⟩) hbs).trans t0
              have s1 := (hB.out.cell (p := ⟨b, off + j * 3 + 1, none⟩) hbs).trans t1
              simp only at s0 s1
              have hbw : b < wr.heap.size := by omega
              have hbn : ¬ b = wr.heap.size := by omega
              have hwr : IntKind.i64.wrap (j : Int) = j := IntWalk.i64_in _ (by omega)
              have hj : j < L.length := by omega
              have hji : (j : Int) < (L.length : Int) := by omega
              have hj0 : (0 : Int) ≤ (j : Int) := by omega
              have w1 : IntKind.i64.wrap (4 * ya) = 4 * ya := IntWalk.i64_in _ (by omega)
              have w2 : IntKind.i64.wrap (4 * ya + yk) = 4 * ya + yk := IntWalk.i64_in _ (by omega)
              have w3 : IntKind.i64.wrap (4 * xa) = 4 * xa := IntWalk.i64_in _ (by omega)
              have w4 : IntKind.i64.wrap (4 * xa + xk) = 4 * xa + xk := IntWalk.i64_in _ (by omega)
              by_cases hbv : 4 * ya + yk < 4 * xa + xk
              · have hb' : behind ⟨xa, xk, xd⟩ ⟨ya, yk, yd⟩ = true := by simp [behind, hbv]
                have HV : Hid (chkNo L = chk L (j + 1 + 1) ∧ ∀ i, j + 1 + 1 = i + 1 → verdict L i = 0) := ⟨hR.out.1.trans (chk_ok hlt (verdict_yes HX.out HY.out HE.out hb')), fun i e => by rw [show i = j + 1 by omega]; exact verdict_yes HX.out HY.out HE.out hb'⟩
                have hg : decide (4 * xa + xk ≤ 4 * ya + yk) = false := by simp; omega
                clear hR HX HC HE HK hy hy0 t0 t1 HY hb' hxk hyk hya hxa
                go_wp2_with fail
                go_quiet (fail)
                go_wp2_with fail
                refine ⟨⟨j + 1 + 1, by omega, by go_num, HV, below_drewN (HB2.out _) _⟩, ?_⟩
                simp [intOf]; omega
              · have hb' : behind ⟨xa, xk, xd⟩ ⟨ya, yk, yd⟩ = false := by simp [behind, hbv]
                have HV : Hid (chkNo L = 9) := hR.out.1.trans ((chk_no hlt (by rw [verdict_not HX.out HY.out HE.out hb']; decide)).trans (verdict_not HX.out HY.out HE.out hb'))
                have hg : decide (4 * xa + xk ≤ 4 * ya + yk) = true := by simp; omega
                clear hR HX HC HE HK hy hy0 t0 t1 HY hb' hxk hyk hya hxa
                go_wp2_with fail
                go_quiet (fail)
                go_wp2_with fail
                go_ret
                exact ⟨ret_int HV.out.symm, below_drewN (below_drewN (HB2.out _) _) _⟩
          · have HV : Hid (chkNo L = 1) := by
              have he := evNo_size c0 c1' c2 c3
              exact hR.out.1.trans ((chk_no hlt (by rw [verdict_no HX.out (by rw [he]; decide), he]; decide)).trans ((verdict_no HX.out (by rw [he]; decide)).trans he))
            clear hxk hR HX HC
            revert HW c3
            generalize wordsN xk = nx
            intro HW c3
            go_wp2_with fail
            refine (In_B _ _ _ _).mono ?_
            rw [c0]
            rintro e w' ⟨rfl, rfl⟩
            go_wp2_with fail
            refine (In_B _ _ _ _).mono ?_
            rw [c1']
            rintro e w' ⟨rfl, rfl⟩
            go_wp2_with fail
            refine (wordsMay_any _ xd _ (HXI.out.below (HB2.out _))).mono ?_
            rw [c2]
            rintro e w' ⟨rfl, rfl⟩
            clear c0 c1' c2 HXI y0 y1 y2
            go_wp2_with fail
            go_quiet ((go_at_call 103; exact Calls.quiet_of_same (HW.out _)))
            go_wp2_with fail
            go_ret
            exact ⟨ret_int HV.out.symm, below_drewN (HB2.out _) _⟩
      · have HV : Hid (chkNo L = 0) := hR.out.1.trans (chk_end hlt)
        clear hc hR
        go_wp2_with fail
        go_ret
        exact ⟨ret_int HV.out.symm, hB.out⟩

end Go.Proofs.YtbjlfhpiebokkaaDoor

/- Contract of hourglassref.EventBytes. -/

namespace Go.Proofs.YtbjlfhpiebokkaaDoor
open Go.RowKit
set_option maxRecDepth 100000

theorem EventBytes_no (v : Value) (L : List Ev) (w : World) (h : EvsAt w v L) (hn : chkNo L ≠ 0) :
    Calls Tryd.prog 36 #[v] w fun e w' => e = .returned (.tuple #[.slice none 0 0, .int .i64 (chkNo L)]) ∧ Below w.heap.size w w' := by
  have HF : Hid (Calls Tryd.prog 67 #[v] w fun e w' => e = .returned (.int .i64 (chkNo L)) ∧ Below w.heap.size w w') := EventsFault_any v L w h
  clear h
  revert HF hn
  generalize chkNo L = en
  intro hn HF
  go_enter Tryd.func36, Tryd.ntmps36
  go_wp2_with fail
  refine HF.out.mono ?_
  rintro e w1 ⟨rfl, hb⟩
  have HB : Hid (Below w.heap.size w w1) := hb
  clear hb HF
  go_wp2_with fail
  go_ret2
  exact ⟨rfl, HB.out⟩

theorem zigs_ne (z : Int) : 0 < (zigs z).length := by
  unfold zigs
  split <;> exact sevens_ne _
theorem runs_go {last : Int} {run : Nat} {x : Int} {t : List Int} : runsB last run (x :: x :: t) = runsB last (run + 1) (x :: t) := by simp [runsB]
theorem runs_stop {last : Int} {run : Nat} {x : Int} {t : List Int} (h : ∀ y t', t = y :: t' → y ≠ x) : runsB last run (x :: t) = sevens (run + 1) ++ zigs (x - last) ++ runsB x 0 t := by
  cases t with
  | nil => simp [runsB]
  | cons y t' => simp [runsB, h y t' rfl]

theorem ownB_cells {w : World} {lo g c n : Nat} {l : List Int} (h : OwnB w lo (.slice (some ⟨g, 0, none⟩) n c) l) (h0 : 0 < l.length) : ∀ j u, (l.map (Value.int .u8))[j]? = some u → w.cell? ((⟨g, 0, none⟩ : Addr).add j) = some u := by
  obtain ⟨g', cap', hv', _, _, hcc⟩ := h.at h0
  simp only [Value.slice.injEq, Option.some.injEq, Addr.mk.injEq] at hv'
  obtain ⟨⟨rfl, -, -⟩, -, rfl⟩ := hv'
  exact hcc

structure HasB (lo : Nat) (w w' : World) (v : Value) (l : List Int) : Prop where
  own : OwnB w' lo v l
  old : Below lo w w'

set_option maxRecDepth 20000 in
set_option maxHeartbeats 4000000 in
theorem EventBytes_ok (v : Value) (L : List Ev) (w : World) (h : EvsF w v L) (hn : chkNo L = 0) :
    Calls Tryd.prog 36 #[v] w fun e w' => ∃ v', e = .returned (.tuple #[v', .int .i64 0]) ∧ OwnB w' w.heap.size v' (fullB L) ∧ Below w.heap.size w w' := by
  have HF : Hid (Calls Tryd.prog 67 #[v] w fun e w' => e = .returned (.int .i64 (chkNo L)) ∧ Below w.heap.size w w') := EventsFault_any v L w h.at_
  rw [hn] at HF
  have HL : Hid ((encB L).length ≤ 231007 ∧ L.length ≤ 1000) := ⟨encB_len hn, (chk_zero hn).1⟩
  have HK : Hid (∀ k, k < L.length → evNo (L.getD k noEv) = 0 ∧ 0 ≤ prevAt L k ∧ prevAt L k ≤ (L.getD k noEv).at_) := ok_at hn
  obtain ⟨A, c, rfl, hl, hc⟩ := h.at_
  have hln := HL.out.2
  have HN : Hid (∀ (W : World) (n : Nat), n < 100000 → Calls Tryd.prog 68 #[.int .i64 n] W fun e w' => ∃ g c, e = .returned (.slice (some ⟨g, 0, none⟩) (sevens n).length c) ∧ OwnB w' W.heap.size (.slice (some ⟨g, 0, none⟩) (sevens n).length c) (sevens n) ∧ Below W.heap.size W w') := fun W n hn => (sevens_any n (by omega) W).mono fun e w' ⟨A, c, he, ho, hb⟩ => by
    obtain ⟨g, cap, hv, _⟩ := ho.at (sevens_ne n)
    simp only [Value.slice.injEq] at hv
    obtain ⟨rfl, -, rfl⟩ := hv
    exact ⟨g, c, he, ho, hb⟩
  have HZ : Hid (∀ (W : World) (z : Int), (-281474976710656 < z ∧ z < 281474976710656) → Calls Tryd.prog 69 #[.int .i64 z] W fun e w' => ∃ g c, e = .returned (.slice (some ⟨g, 0, none⟩) (zigs z).length c) ∧ OwnB w' W.heap.size (.slice (some ⟨g, 0, none⟩) (zigs z).length c) (zigs z) ∧ Below W.heap.size W w') := fun W z hz => (zigs_any z W hz).mono fun e w' ⟨A, c, he, ho, hb⟩ => by
    obtain ⟨g, cap, hv, _⟩ := ho.at (zigs_ne z)
    simp only [Value.slice.injEq] at hv
    obtain ⟨rfl, -, rfl⟩ := hv
    exact ⟨g, c, he, ho, hb⟩
  clear h hn
  obtain ⟨i0, hi, hz0, hz1, hz2⟩ := info_parts infoByte
  go_enter Tryd.func36, Tryd.ntmps36
  go_wp2_with fail
  refine HF.out.mono ?_
  rintro e w1 ⟨rfl, hb⟩
  have HB1 : Hid (Below w.heap.size w w1) := hb
  have hs1 := hb.size
  clear hb HF
  go_wp2_with fail
  refine (HN.out _ L.length (by omega)).mono ?_
  rintro e w2 ⟨g2, c2, rfl, ho2, hb2⟩
  have HA0 : Hid (HasB w1.heap.size w1 w2 (.slice (some ⟨g2, 0, none⟩) (sevens L.length).length c2) (sevens L.length)) := ⟨ho2, hb2⟩
  clear ho2 hb2
  revert HA0
  generalize hv2 : Value.slice (some ⟨g2, 0, none⟩) (sevens L.length).length c2 = v2
  intro HA0
  clear hv2
  go_wp2_with fail
  go_loopw [5, 6, 7] (fun o t i wr => ∃ (k : Nat) (bs' : List Int), k ≤ L.length ∧ i = .int .i64 k ∧ t = .int .i64 (prevAt L k) ∧ Hid (encB L = bs' ++ encFrom (prevAt L k) (L.drop k)) ∧ Hid (HasB w1.heap.size w1 wr o bs')) (fun _ _ i _ => L.length - (intOf i).toNat)
  case atStart => exact ⟨0, sevens L.length, Nat.zero_le _, rfl, rfl, rfl, HA0⟩
  case round =>
    obtain ⟨k, bs', hk, rfl, rfl, hE, hA⟩ := hrel
    have hsz := hA.out.old.size
    have hbl : bs'.length ≤ 231007 := by
      have h1 := congrArg List.length hE.out
      have h2 := HL.out.1
      simp at h1
      omega
    by_cases hlt : k < L.length
    · obtain ⟨b, off, rfl, hbs, hcell⟩ := hc (by omega)
      obtain ⟨x0, x1, vx, x2, xi⟩ := hcell k hlt
      obtain ⟨he, hp0, hp1⟩ := HK.out k hlt
      have HE : Hid (encB L = (bs' ++ sevens (4 * ((L.getD k noEv).at_ - prevAt L k) + (L.getD k noEv).kind).toNat ++ dataB (L.getD k noEv)) ++ encFrom (prevAt L (k + 1)) (L.drop (k + 1))) := by
        show _ = _
        rw [hE.out, enc_step hlt, prevAt_succ]
        simp [List.append_assoc]
      have HP : Hid (prevAt L (k + 1) = (L.getD k noEv).at_) := prevAt_succ L k
      clear hE hc hcell HK
      revert x0 x1 xi he hp0 hp1 HE HP
      generalize L.getD k noEv = x
      generalize prevAt L k = last
      intro x0 x1 xi he hp0 hp1 HE HP
      obtain ⟨xa, xk, xd⟩ := x
      simp only at x0 x1 xi hp1 HE HP
      obtain ⟨hkk, haa, hww, hll⟩ := evNo_bd he
      simp only at hkk haa hww hll
      have HXI : Hid (IntsAt w vx xd) := xi
      obtain ⟨A1, c1, rfl, hl1, hxc⟩ := xi
      have HCELL : Hid (∀ W, Below w1.heap.size w1 W → W.cell? ⟨b, off + k * 3, none⟩ = some (.int .i64 xa) ∧ W.cell? ⟨b, off + k * 3 + 1, none⟩ = some (.int .i64 xk) ∧ W.cell? ⟨b, off + k * 3 + 2, none⟩ = some (.slice A1 xd.length c1) ∧ b < W.heap.size) := fun W hW => by
        have hB : Below w.heap.size w W := HB1.out.trans (hW.mono hs1)
        exact ⟨(hB.cell (p := ⟨b, off + k * 3, none⟩) hbs).trans x0, (hB.cell (p := ⟨b, off + k * 3 + 1, none⟩) hbs).trans x1, (hB.cell (p := ⟨b, off + k * 3 + 2, none⟩) hbs).trans x2, Nat.lt_of_lt_of_le hbs hB.size⟩
      obtain ⟨y0, y1, y2, hbr⟩ := HCELL.out _ hA.out.old
      have hw1 : IntKind.i64.wrap (xa - last) = xa - last := IntWalk.i64_in _ (by omega)
      have hw2 : IntKind.i64.wrap (4 * (xa - last)) = 4 * (xa - last) := IntWalk.i64_in _ (by omega)
      have hw3 : IntKind.i64.wrap (4 * (xa - last) + xk) = 4 * (xa - last) + xk := IntWalk.i64_in _ (by omega)
      obtain ⟨n, hnn⟩ : ∃ n : Nat, (n : Int) = 4 * (xa - last) + xk := ⟨(4 * (xa - last) + xk).toNat, by omega⟩
      have hn100 : n < 100000 := by omega
      rw [show (4 * (xa - last) + xk).toNat = n by omega] at HE
      have HS : Hid (∀ W : World, Calls Tryd.prog 68 #[.int .i64 (4 * (xa - last) + xk)] W fun e w' => ∃ g c, e = .returned (.slice (some ⟨g, 0, none⟩) (sevens n).length c) ∧ OwnB w' W.heap.size (.slice (some ⟨g, 0, none⟩) (sevens n).length c) (sevens n) ∧ Below W.heap.size W w') := fun W => by rw [← hnn]; exact HN.out W n hn100
      have HSL : Hid (0 < (sevens n).length ∧ (sevens n).length ≤ 7) := ⟨sevens_ne n, sevens_len7 (by omega)⟩
      clear x0 x1 x2 he hnn hp0 hp1
      revert HS HSL HE
      generalize sevens n = l1
      intro HE HS HSL
      have hl1p := HSL.out.1
      have hl17 := HSL.out.2
      go_upto_region 9 with fail
      go_cut [5] from 19 to 130 (fun o wx => Hid (HasB w1.heap.size w1 wx o (bs' ++ l1)))
      case first =>
       go_region_law
        (first
          | (refine step_append_lies _ (by rfl) _ _ _ (by rfl) w1.heap.size 5 i0 (.int .u8 0) 1 1 Tryd.underlying26 hi hz0 hz1 hz2 rfl (by decide) u5 bs'.length (bs'.map (Value.int .u8)) (by rfl) HO3.out ⟨g3, 0, none⟩ l1.length c3 (l1.map (Value.int .u8)) (by rfl) (by simp) HC3.out (bytes_oneCell _) hl1p (by unfold maxLen; omega) (by omega) (by have := HB3.out.size; omega) w3.heap.size (by rfl) ?_; intro g4 cap4 w4 hown4 hgrow4 hat4 hlt4; have HA4 : Hid (HasB w1.heap.size w1 w4 (.slice (some ⟨g4, 0, none⟩) (bs'.length + l1.length) cap4) (bs' ++ l1)) := ⟨OwnB.of hown4 rfl rfl rfl, HB3.out.grown hgrow4 HB3.out.size (fun k hk => (World.ownsRow.lt HO3.out k hk).1)⟩; clear hown4 hgrow4 hat4)
          | (go_simp; go_at_call 68; refine (HS.out _).mono ?_; rintro e w3 ⟨g3, c3, rfl, ho3, hb3⟩; have HO3 : Hid (OwnB w3 w1.heap.size u5 bs') := OwnB.below hA.out.own (((Below.refl _ wr).drew).trans hb3); have HB3 : Hid (Below w1.heap.size w1 w3) := hA.out.old.trans ((((Below.refl _ wr).drew).trans hb3).mono hsz); have HC3 : Hid (∀ j u, (l1.map (Value.int .u8))[j]? = some u → w3.cell? ((⟨g3, 0, none⟩ : Addr).add j) = some u) := ownB_cells ho3 hl1p; clear ho3 hb3))
       all_goals
        go_wp2_with fail
        go_meet
        exact HA4
      case rest =>
        have HA3 : Hid (HasB w1.heap.size w1 wc u5 (bs' ++ l1)) := hcut
        obtain ⟨y0, y1, y2, hbr⟩ := HCELL.out _ HA3.out.old
        have hsz3 := HA3.out.old.size
        have hbl3 : (bs' ++ l1).length ≤ 231014 := by simp; omega
        clear hcut hA HS hw1 hw2 hw3
        by_cases k2 : xk = 2
        · subst k2
          have h16 : xd.length = 16 := by simp [wordsN] at hll; omega
          obtain ⟨bd, offd, rfl, hbds, hdat⟩ := hxc (by omega)
          have HDB : Hid (dataB ⟨xa, 2, xd⟩ = runsB 0 0 xd) := by show _ = _; simp [dataB]
          have HDAT : Hid (∀ W, Below w1.heap.size w1 W → (∀ q, q < 16 → W.cell? ⟨bd, offd + q, none⟩ = some (.int .i64 (xd.getD q 0))) ∧ bd < W.heap.size) := fun W hW => by
            have hB : Below w.heap.size w W := HB1.out.trans (hW.mono hs1)
            exact ⟨fun q hq => (hB.cell (p := ⟨bd, offd + q, none⟩) hbds).trans (hdat q (by omega)), Nat.lt_of_lt_of_le hbds hB.size⟩
          have HRL : Hid ((runsB 0 0 xd).length ≤ 224) := by
            have := runsB_len xd 0 0 (by omega) (by simp) (allB_mem hww)
            show _ ≤ _
            omega
          have HWD : Hid (∀ q, q < 16 → -1099511627776 ≤ xd.getD q 0 ∧ xd.getD q 0 ≤ 1099511627776) := fun q hq => allB_mem hww _ (by simp [List.getD, show q < xd.length by omega])
          have H16 : Hid (xd.length = 16) := h16
          rw [h16] at y2 HCELL
          clear hdat hxc hww hll HXI h16 hkk hl1
          go_wp2_with fail
          go_loopw [5, 8, 9, 10] (fun o lv rv qv wr => ∃ (q run : Nat) (la : Int) (bs2 : List Int), q ≤ 16 ∧ run ≤ q ∧ lv = .int .i64 la ∧ rv = .int .i64 run ∧ qv = .int .i64 q ∧ Hid ((bs' ++ l1) ++ runsB 0 0 xd = bs2 ++ runsB la run (xd.drop q)) ∧ (-1099511627776 ≤ la ∧ la ≤ 1099511627776) ∧ Hid (HasB w1.heap.size w1 wr o bs2)) (fun _ _ _ qv _ => 16 - (intOf qv).toNat)
          case atStart => exact ⟨0, 0, 0, bs' ++ l1, Nat.zero_le _, Nat.le_refl _, rfl, rfl, rfl, rfl, by omega, HA3⟩
          case round =>
            clear HA3 y0 y1 y2 hbr hsz3
            obtain ⟨q, run, la, bs2, hq, hrq, rfl, rfl, rfl, hE2, hla, hA2⟩ := hrel
            have hsz2 := hA2.out.old.size
            obtain ⟨y0, y1, y2, hbr⟩ := HCELL.out _ hA2.out.old
            have hbl2 : bs2.length ≤ 231238 := by
              have h1 := congrArg List.length hE2.out
              have h2 := HRL.out
              simp only [List.length_append] at h1 hbl3
              omega
            by_cases hq16 : q < 16
            · obtain ⟨hdc, hbdr⟩ := HDAT.out _ hA2.out.old
              have dq := hdc q hq16
              obtain ⟨xq, hXQ⟩ : ∃ xq, xd.getD q 0 = xq := ⟨_, rfl⟩
              have HXQ : Hid (xd.getD q 0 = xq) := hXQ
              have hxq := HWD.out q hq16
              rw [hXQ] at dq hxq
              have hdq : xd.drop q = xq :: xd.drop (q + 1) := by
                rw [List.drop_eq_getElem_cons (by rw [H16.out]; exact hq16)]
                congr 1
                rw [← hXQ]
                simp [List.getD, show q < xd.length by rw [H16.out]; exact hq16]
              by_cases hq1 : q + 1 < 16
              · have d1 := hdc (q + 1) hq1
                obtain ⟨xr, hXR⟩ : ∃ xr, xd.getD (q + 1) 0 = xr := ⟨_, rfl⟩
                rw [hXR] at d1
                have hdr : xd.drop (q + 1) = xr :: xd.drop (q + 1 + 1) := by
                  rw [List.drop_eq_getElem_cons (by rw [H16.out]; exact hq1)]
                  congr 1
                  rw [← hXR]
                  simp [List.getD, show q + 1 < xd.length by rw [H16.out]; exact hq1]
                have hqi : (q : Int) + 1 < 16 := by omega
                clear hdc
                by_cases heq : xr = xq
                · have HE3 : Hid ((bs' ++ l1) ++ runsB 0 0 xd = bs2 ++ runsB la (run + 1) (xd.drop (q + 1))) := by
                    show _ = _
                    rw [hE2.out, hdq, hdr, heq, runs_go]
                  subst heq
                  clear hE2 hdq hdr hXQ hXR
                  go_wp2_with fail
                  go_quiet (fail)
                  go_wp2_with fail
                  refine ⟨⟨q + 1, run + 1, la, bs2, by omega, by omega, rfl, by go_num, by go_num, HE3, hla, ⟨OwnB.below hA2.out.own (below_drewN (Below.refl _ _) _), below_drewN hA2.out.old _⟩⟩, ?_⟩
                  simp [intOf]; omega
                · have hstop : ∀ y t', xd.drop (q + 1) = y :: t' → y ≠ xq := fun y t' e => by
                    rw [hdr] at e
                    simp only [List.cons.injEq] at e
                    rw [← e.1]
                    exact heq
                  clear hdr hXQ hXR
                  have HE3 : Hid ((bs' ++ l1) ++ runsB 0 0 xd = (bs2 ++ sevens (run + 1) ++ zigs (xq - la)) ++ runsB xq 0 (xd.drop (q + 1))) := by
                    show _ = _
                    rw [hE2.out, hdq, runs_stop hstop]
                    simp [List.append_assoc]
                  have hzb : -281474976710656 < xq - la ∧ xq - la < 281474976710656 := by omega
                  have HS9 : Hid (∀ W : World, Calls Tryd.prog 68 #[.int .i64 ((run : Int) + 1)] W fun e w' => ∃ g c, e = .returned (.slice (some ⟨g, 0, none⟩) (sevens (run + 1)).length c) ∧ OwnB w' W.heap.size (.slice (some ⟨g, 0, none⟩) (sevens (run + 1)).length c) (sevens (run + 1)) ∧ Below W.heap.size W w') := fun W => by have := HN.out W (run + 1) (by omega); rwa [show (((run + 1 : Nat)) : Int) = (run : Int) + 1 by omega] at this
                  have HZ9 : Hid (∀ W : World, Calls Tryd.prog 69 #[.int .i64 (xq - la)] W fun e w' => ∃ g c, e = .returned (.slice (some ⟨g, 0, none⟩) (zigs (xq - la)).length c) ∧ OwnB w' W.heap.size (.slice (some ⟨g, 0, none⟩) (zigs (xq - la)).length c) (zigs (xq - la)) ∧ Below W.heap.size W w') := fun W => HZ.out W (xq - la) hzb
                  have HSL9 : Hid ((0 < (sevens (run + 1)).length ∧ (sevens (run + 1)).length ≤ 7) ∧ (0 < (zigs (xq - la)).length ∧ (zigs (xq - la)).length ≤ 7)) := ⟨⟨sevens_ne _, sevens_len7 (by omega)⟩, zigs_ne _, zigs_len7 hzb⟩
                  have hwz : IntKind.i64.wrap (xq - la) = xq - la := IntWalk.i64_in _ (by omega)
                  clear hE2 hdq hstop
                  revert HE3 HS9 HZ9 HSL9
                  generalize sevens (run + 1) = ls
                  generalize zigs (xq - la) = lz
                  intro HE3 HS9 HZ9 HSL9
                  have p1 := HSL9.out
                  go_wp2_with fail
                  go_quiet (fail)
                  go_wp2_with fail
                  refine (HS9.out _).mono ?_
                  rintro e w3 ⟨g3, c3, rfl, ho3, hb3⟩
                  have hb3' : Below wr.heap.size wr w3 := (below_drewN (Below.refl _ wr) _).trans hb3
                  have HO3 : Hid (OwnB w3 w1.heap.size u5 bs2) := OwnB.below hA2.out.own hb3'
                  have HB3 : Hid (Below w1.heap.size w1 w3) := hA2.out.old.trans (hb3'.mono hsz2)
                  have HC3 : Hid (∀ j u, (ls.map (Value.int .u8))[j]? = some u → w3.cell? ((⟨g3, 0, none⟩ : Addr).add j) = some u) := ownB_cells ho3 p1.1.1
                  clear ho3 hb3 hb3' HS9 hA2
                  go_wp2_with (first
                              | (at_builtin; refine wpList_append_own_at _ rfl _ _ 26 rfl w1.heap.size 5 i0 (.int .u8 0) 1 1 Tryd.underlying26 hi hz0 hz1 hz2 rfl (by decide) u5 bs2.length (bs2.map (Value.int .u8)) rfl HO3.out ⟨g3, 0, none⟩ ls.length c3 (ls.map (Value.int .u8)) rfl (by simp) HC3.out (bytes_oneCell _) ?c3 ?c4 ?c5 ?_))
                  case c3 => unfold maxLen; omega
                  case c4 => omega
                  case c5 => exact HB3.out.size
                  intro v4 w4 hown4 hgrow4 _ _
                  have HA4 : Hid (HasB w1.heap.size w1 w4 v4 (bs2 ++ ls)) := ⟨OwnB.of hown4 rfl rfl rfl, HB3.out.grown hgrow4 HB3.out.size (fun k hk => (World.ownsRow.lt HO3.out k hk).1)⟩
                  have hsz4 := HA4.out.old.size
                  obtain ⟨y0, y1, y2, hbr⟩ := HCELL.out _ HA4.out.old
                  have dq := (HDAT.out _ HA4.out.old).1 q hq16
                  rw [HXQ.out] at dq
                  have hbd4 := (HDAT.out _ HA4.out.old).2
                  clear hown4 hgrow4 HO3 HB3 HC3
                  go_wp2_with fail
                  refine (HZ9.out _).mono ?_
                  rintro e w5 ⟨g5, c5, rfl, ho5, hb5⟩
                  have HO5 : Hid (OwnB w5 w1.heap.size v4 (bs2 ++ ls)) := OwnB.below HA4.out.own hb5
                  have HB5 : Hid (Below w1.heap.size w1 w5) := HA4.out.old.trans (hb5.mono hsz4)
                  have HC5 : Hid (∀ j u, (lz.map (Value.int .u8))[j]? = some u → w5.cell? ((⟨g5, 0, none⟩ : Addr).add j) = some u) := ownB_cells ho5 p1.2.1
                  have hbl5 : (bs2 ++ ls).length ≤ 240000 := by simp; omega
                  clear ho5 hb5 HZ9 HA4 y0 y1 y2 hbr dq hbd4
                  revert HO5 HE3 hbl5
                  generalize bs2 ++ ls = bs3
                  intro HE3 HO5 hbl5
                  go_wp2_with (first
                              | (at_builtin; refine wpList_append_own_at _ rfl _ _ 26 rfl w1.heap.size 5 i0 (.int .u8 0) 1 1 Tryd.underlying26 hi hz0 hz1 hz2 rfl (by decide) v4 bs3.length (bs3.map (Value.int .u8)) rfl HO5.out ⟨g5, 0, none⟩ lz.length c5 (lz.map (Value.int .u8)) rfl (by simp) HC5.out (bytes_oneCell _) ?c3 ?c4 ?c5 ?_))
                  case c3 => unfold maxLen; omega
                  case c4 => omega
                  case c5 => exact HB5.out.size
                  intro v6 w6 hown6 hgrow6 _ _
                  have HA6 : Hid (HasB w1.heap.size w1 w6 v6 (bs3 ++ lz)) := ⟨OwnB.of hown6 rfl rfl rfl, HB5.out.grown hgrow6 HB5.out.size (fun k hk => (World.ownsRow.lt HO5.out k hk).1)⟩
                  obtain ⟨y0, y1, y2, hbr⟩ := HCELL.out _ HA6.out.old
                  have dq := (HDAT.out _ HA6.out.old).1 q hq16
                  rw [HXQ.out] at dq
                  have hbd6 := (HDAT.out _ HA6.out.old).2
                  clear hown6 hgrow6 HO5 HB5 HC5
                  go_wp2_with fail
                  refine ⟨⟨q + 1, 0, xq, _, by omega, by omega, rfl, rfl, by go_num, HE3, hxq, HA6⟩, ?_⟩
                  simp [intOf]; omega
              · have hqi : ¬ (q : Int) + 1 < 16 := by omega
                have hqd : decide ((q : Int) + 1 < 16) = false := by simp; omega
                have hqw : IntKind.i64.wrap ((q : Int) + 1) = (q : Int) + 1 := IntWalk.i64_in _ (by omega)
                have hstop : ∀ y t', xd.drop (q + 1) = y :: t' → y ≠ xq := fun y t' e => by
                  rw [List.drop_eq_nil_of_le (by rw [H16.out]; omega)] at e
                  simp at e
                clear hdc hXQ
                have HE3 : Hid ((bs' ++ l1) ++ runsB 0 0 xd = (bs2 ++ sevens (run + 1) ++ zigs (xq - la)) ++ runsB xq 0 (xd.drop (q + 1))) := by
                  show _ = _
                  rw [hE2.out, hdq, runs_stop hstop]
                  simp [List.append_assoc]
                have hzb : -281474976710656 < xq - la ∧ xq - la < 281474976710656 := by omega
                have HS9 : Hid (∀ W : World, Calls Tryd.prog 68 #[.int .i64 ((run : Int) + 1)] W fun e w' => ∃ g c, e = .returned (.slice (some ⟨g, 0, none⟩) (sevens (run + 1)).length c) ∧ OwnB w' W.heap.size (.slice (some ⟨g, 0, none⟩) (sevens (run + 1)).length c) (sevens (run + 1)) ∧ Below W.heap.size W w') := fun W => by have := HN.out W (run + 1) (by omega); rwa [show (((run + 1 : Nat)) : Int) = (run : Int) + 1 by omega] at this
                have HZ9 : Hid (∀ W : World, Calls Tryd.prog 69 #[.int .i64 (xq - la)] W fun e w' => ∃ g c, e = .returned (.slice (some ⟨g, 0, none⟩) (zigs (xq - la)).length c) ∧ OwnB w' W.heap.size (.slice (some ⟨g, 0, none⟩) (zigs (xq - la)).length c) (zigs (xq - la)) ∧ Below W.heap.size W w') := fun W => HZ.out W (xq - la) hzb
                have HSL9 : Hid ((0 < (sevens (run + 1)).length ∧ (sevens (run + 1)).length ≤ 7) ∧ (0 < (zigs (xq - la)).length ∧ (zigs (xq - la)).length ≤ 7)) := ⟨⟨sevens_ne _, sevens_len7 (by omega)⟩, zigs_ne _, zigs_len7 hzb⟩
                have hwz : IntKind.i64.wrap (xq - la) = xq - la := IntWalk.i64_in _ (by omega)
                clear hE2 hdq hstop
                revert HE3 HS9 HZ9 HSL9
                generalize sevens (run + 1) = ls
                generalize zigs (xq - la) = lz
                intro HE3 HS9 HZ9 HSL9
                have p1 := HSL9.out
                go_wp2_with fail
                go_quiet (fail)
                go_wp2_with fail
                refine (HS9.out _).mono ?_
                rintro e w3 ⟨g3, c3, rfl, ho3, hb3⟩
                have hb3' : Below wr.heap.size wr w3 := (below_drewN (Below.refl _ wr) _).trans hb3
                have HO3 : Hid (OwnB w3 w1.heap.size u5 bs2) := OwnB.below hA2.out.own hb3'
                have HB3 : Hid (Below w1.heap.size w1 w3) := hA2.out.old.trans (hb3'.mono hsz2)
                have HC3 : Hid (∀ j u, (ls.map (Value.int .u8))[j]? = some u → w3.cell? ((⟨g3, 0, none⟩ : Addr).add j) = some u) := ownB_cells ho3 p1.1.1
                clear ho3 hb3 hb3' HS9 hA2
                go_wp2_with (first
                            | (at_builtin; refine wpList_append_own_at _ rfl _ _ 26 rfl w1.heap.size 5 i0 (.int .u8 0) 1 1 Tryd.underlying26 hi hz0 hz1 hz2 rfl (by decide) u5 bs2.length (bs2.map (Value.int .u8)) rfl HO3.out ⟨g3, 0, none⟩ ls.length c3 (ls.map (Value.int .u8)) rfl (by simp) HC3.out (bytes_oneCell _) ?c3 ?c4 ?c5 ?_))
                case c3 => unfold maxLen; omega
                case c4 => omega
                case c5 => exact HB3.out.size
                intro v4 w4 hown4 hgrow4 _ _
                have HA4 : Hid (HasB w1.heap.size w1 w4 v4 (bs2 ++ ls)) := ⟨OwnB.of hown4 rfl rfl rfl, HB3.out.grown hgrow4 HB3.out.size (fun k hk => (World.ownsRow.lt HO3.out k hk).1)⟩
                have hsz4 := HA4.out.old.size
                obtain ⟨y0, y1, y2, hbr⟩ := HCELL.out _ HA4.out.old
                have dq := (HDAT.out _ HA4.out.old).1 q hq16
                rw [HXQ.out] at dq
                have hbd4 := (HDAT.out _ HA4.out.old).2
                clear hown4 hgrow4 HO3 HB3 HC3
                go_wp2_with fail
                refine (HZ9.out _).mono ?_
                rintro e w5 ⟨g5, c5, rfl, ho5, hb5⟩
                have HO5 : Hid (OwnB w5 w1.heap.size v4 (bs2 ++ ls)) := OwnB.below HA4.out.own hb5
                have HB5 : Hid (Below w1.heap.size w1 w5) := HA4.out.old.trans (hb5.mono hsz4)
                have HC5 : Hid (∀ j u, (lz.map (Value.int .u8))[j]? = some u → w5.cell? ((⟨g5, 0, none⟩ : Addr).add j) = some u) := ownB_cells ho5 p1.2.1
                have hbl5 : (bs2 ++ ls).length ≤ 240000 := by simp; omega
                clear ho5 hb5 HZ9 HA4 y0 y1 y2 hbr dq hbd4
                revert HO5 HE3 hbl5
                generalize bs2 ++ ls = bs3
                intro HE3 HO5 hbl5
                go_wp2_with (first
                            | (at_builtin; refine wpList_append_own_at _ rfl _ _ 26 rfl w1.heap.size 5 i0 (.int .u8 0) 1 1 Tryd.underlying26 hi hz0 hz1 hz2 rfl (by decide) v4 bs3.length (bs3.map (Value.int .u8)) rfl HO5.out ⟨g5, 0, none⟩ lz.length c5 (lz.map (Value.int .u8)) rfl (by simp) HC5.out (bytes_oneCell _) ?c3 ?c4 ?c5 ?_))
                case c3 => unfold maxLen; omega
                case c4 => omega
                case c5 => exact HB5.out.size
                intro v6 w6 hown6 hgrow6 _ _
                have HA6 : Hid (HasB w1.heap.size w1 w6 v6 (bs3 ++ lz)) := ⟨OwnB.of hown6 rfl rfl rfl, HB5.out.grown hgrow6 HB5.out.size (fun k hk => (World.ownsRow.lt HO5.out k hk).1)⟩
                obtain ⟨y0, y1, y2, hbr⟩ := HCELL.out _ HA6.out.old
                have dq := (HDAT.out _ HA6.out.old).1 q hq16
                rw [HXQ.out] at dq
                have hbd6 := (HDAT.out _ HA6.out.old).2
                clear hown6 hgrow6 HO5 HB5 HC5
                go_wp2_with fail
                refine ⟨⟨q + 1, 0, xq, _, by omega, by omega, rfl, rfl, by go_num, HE3, hxq, HA6⟩, ?_⟩
                simp [intOf]; omega
            · have HE3 : Hid (bs2 = bs' ++ l1 ++ dataB ⟨xa, 2, xd⟩) := by
                show _ = _
                rw [HDB.out, hE2.out, List.drop_eq_nil_of_le (by rw [H16.out]; omega)]
                simp [runsB]
              rw [← HE3.out] at HE
              have hqi : ¬ (q : Int) < 16 := by omega
              clear hE2 HDAT HRL HWD HCELL
              go_wp2_with fail
              refine ⟨⟨k + 1, bs2, by omega, by go_num, by rw [HP.out], HE, hA2⟩, ?_⟩
              simp [intOf]; omega
        · by_cases k3 : xk = 3
          · subst k3
            have h1 : xd.length = 1 := by simp [wordsN] at hll; omega
            obtain ⟨x, rfl⟩ : ∃ x, xd = [x] := by
              match xd, h1 with
              | [x], _ => exact ⟨x, rfl⟩
            obtain ⟨bd, offd, rfl, hbds, hdat⟩ := hxc (by simp)
            have hx := allB_mem hww x (by simp)
            have d0 : wc.cell? ⟨bd, offd, none⟩ = some (.int .i64 x) := by
              have hB : Below w.heap.size w wc := HB1.out.trans (HA3.out.old.mono hs1)
              have := (hB.cell (p := ⟨bd, offd + 0, none⟩) hbds).trans (hdat 0 (by simp))
              simpa using this
            have hzb : -281474976710656 < x ∧ x < 281474976710656 := by omega
            have HZ9 : Hid (∀ W : World, Calls Tryd.prog 69 #[.int .i64 x] W fun e w' => ∃ g c, e = .returned (.slice (some ⟨g, 0, none⟩) (zigs x).length c) ∧ OwnB w' W.heap.size (.slice (some ⟨g, 0, none⟩) (zigs x).length c) (zigs x) ∧ Below W.heap.size W w') := fun W => HZ.out W x hzb
            have HSL9 : Hid (0 < (zigs x).length ∧ (zigs x).length ≤ 7) := ⟨zigs_ne _, zigs_len7 hzb⟩
            have HDB : Hid (dataB ⟨xa, 3, [x]⟩ = zigs x) := by show _ = _; simp [dataB]
            rw [HDB.out] at HE
            simp only [List.length_singleton] at y2 HCELL
            clear hdat hxc hww hll HXI hkk hl1 HDB
            revert HE HZ9 HSL9
            generalize zigs x = lz
            intro HE HZ9 HSL9
            have p1 := HSL9.out
            revert HE HA3 hbl3
            generalize bs' ++ l1 = bs3
            intro HA3 hbl3 HE
            go_wp2_with fail
            refine (HZ9.out _).mono ?_
            rintro e w5 ⟨g5, c5, rfl, ho5, hb5⟩
            have HO5 : Hid (OwnB w5 w1.heap.size u5 bs3) := OwnB.below HA3.out.own hb5
            have HB5 : Hid (Below w1.heap.size w1 w5) := HA3.out.old.trans (hb5.mono hsz3)
            have HC5 : Hid (∀ j u, (lz.map (Value.int .u8))[j]? = some u → w5.cell? ((⟨g5, 0, none⟩ : Addr).add j) = some u) := ownB_cells ho5 p1.1
            clear ho5 hb5 HZ9 HA3 y0 y1 y2 hbr d0
            go_wp2_with (first
            | (at_builtin; refine wpList_append_own_at _ rfl _ _ 26 rfl w1.heap.size 5 i0 (.int .u8 0) 1 1 Tryd.underlying26 hi hz0 hz1 hz2 rfl (by decide) u5 bs3.length (bs3.map (Value.int .u8)) rfl HO5.out ⟨g5, 0, none⟩ lz.length c5 (lz.map (Value.int .u8)) rfl (by simp) HC5.out (bytes_oneCell _) ?c3 ?c4 ?c5 ?_))
            case c3 => unfold maxLen; omega
            case c4 => omega
            case c5 => exact HB5.out.size
            intro v6 w6 hown6 hgrow6 _ _
            have HA6 : Hid (HasB w1.heap.size w1 w6 v6 (bs3 ++ lz)) := ⟨OwnB.of hown6 rfl rfl rfl, HB5.out.grown hgrow6 HB5.out.size (fun k hk => (World.ownsRow.lt HO5.out k hk).1)⟩
            obtain ⟨y0, y1, y2, hbr⟩ := HCELL.out _ HA6.out.old
            clear hown6 hgrow6 HO5 HB5 HC5
            go_wp2_with fail
            go_loopw [5, 8, 9, 10] (fun o _ _ qv wr => o = v6 ∧ qv = .int .i64 0 ∧ wr = w6) (fun _ _ _ _ _ => 0)
            case atStart => exact ⟨rfl, rfl, rfl⟩
            case round =>
              obtain ⟨rfl, rfl, hw⟩ := hrel
              subst hw
              go_wp2_with fail
              refine ⟨⟨k + 1, _, by omega, by go_num, by rw [HP.out], HE, HA6⟩, ?_⟩
              simp [intOf]; omega
          · have h1 : xd.length = 0 := by rw [show wordsN xk = 0 by simp [wordsN, k2, k3]] at hll; omega
            have HDB : Hid (dataB ⟨xa, xk, xd⟩ = []) := by show _ = _; simp [dataB, k2, k3]
            rw [HDB.out, List.append_nil] at HE
            rw [h1] at y2
            clear hxc hww hll HXI hkk hl1 HDB HCELL h1
            obtain ⟨bs3, hbs3⟩ : ∃ bs3, bs3 = bs' ++ l1 := ⟨_, rfl⟩
            rw [← hbs3] at HE HA3 hbl3
            clear hbs3
            go_wp2_with fail
            go_loopw [5, 8, 9, 10] (fun o _ _ qv wr => o = u5 ∧ qv = .int .i64 0 ∧ wr = wc) (fun _ _ _ _ _ => 0)
            case atStart => exact ⟨rfl, rfl, rfl⟩
            case round =>
              obtain ⟨rfl, rfl, hw⟩ := hrel
              subst hw
              go_wp2_with fail
              refine ⟨⟨k + 1, _, by omega, by go_num, by rw [HP.out], HE, HA3⟩, ?_⟩
              simp [intOf]; omega
    · have HS : Hid (bs' = encB L) := by
        show _ = _
        rw [hE.out, List.drop_eq_nil_of_le (by omega)]
        simp [encFrom]
      have HA : Hid (HasB w1.heap.size w1 wr u5 (encB L)) := HS.out ▸ hA.out
      have HFB : Hid (fullB L = encB L ++ sumB (encB L)) := rfl
      have HLL : Hid ((encB L).length ≤ 231007) := HL.out.1
      have HBY : Hid (∀ x ∈ encB L, 0 ≤ x ∧ x ≤ 255) := encB_byte L
      clear hE hA HS hc HK HN HL HZ
      revert HA HFB HLL HBY
      generalize hfl : fullB L = fl
      generalize encB L = el
      intro HA HFB HLL HBY
      have HQ : Hid (fullB L = fl) := hfl
      clear hfl
      have hsz' := HA.out.old.size
      go_wp2_with fail
      refine (SumOf_any _ el _ (HA.out.own.read (by have := HLL.out; omega) HBY.out)).mono ?_
      rintro e w3 ⟨g, rfl, ho3, hb3⟩
      have HC : Hid (∀ j u, ((sumB el).map (Value.int .u8))[j]? = some u → w3.cell? ((⟨g, 0, none⟩ : Addr).add j) = some u) := ownB_cells ho3 (by simp [sumB])
      have HO : Hid (OwnB w3 w1.heap.size u5 el) := HA.out.own.below hb3
      have HB3 : Hid (Below w1.heap.size w1 w3) := HA.out.old.trans (hb3.mono hsz')
      have HS4 : Hid ((sumB el).length = 4) := rfl
      clear ho3 hb3
      revert HC HS4 HFB
      generalize sumB el = sl
      intro HFB HC HS4
      go_wp2_with (first
        | (at_builtin; refine wpList_append_own_at _ rfl _ _ 26 rfl w1.heap.size 5 i0 (.int .u8 0) 1 1 Tryd.underlying26 hi hz0 hz1 hz2 rfl (by decide) u5 el.length (el.map (Value.int .u8)) rfl HO.out ⟨g, 0, none⟩ 4 4 (sl.map (Value.int .u8)) rfl (by simp [HS4.out]) HC.out (bytes_oneCell _) ?c3 ?c4 ?c5 ?_))
      case c3 => have := HLL.out; unfold maxLen; omega
      case c4 => have := HLL.out; omega
      case c5 => exact HB3.out.size
      intro v' w4 hown' hgrow _ _
      have HR : Hid (OwnB w4 w.heap.size v' fl ∧ Below w.heap.size w w4) := ⟨OwnB.mono (OwnB.of (l := el) (m := sl) hown' rfl HS4.out.symm HFB.out) hs1, HB1.out.trans ((HB3.out.grown hgrow HB3.out.size (fun k hk => (World.ownsRow.lt HO.out k hk).1)).mono hs1)⟩
      clear hown' hgrow
      go_wp2_with fail
      go_ret2
      exact ⟨v', rfl, by rw [HQ.out]; exact HR.out.1, HR.out.2⟩

end Go.Proofs.YtbjlfhpiebokkaaDoor
