/- The walk of hourglasskeep.EventsBack: events are read as they were written; cut short they are not read. -/
import Derived.Test.YtniedmoiklkigafDoorRdV
import Derived.Test.YtniedmoiklkigafDoorByEncode
import Derived.Test.YtniedmoiklkigafDoorKEvTells
import Derived.Test.YtniedmoiklkigafDoorKEvents
import Derived.Test.YtniedmoiklkigafDoorSlEq
namespace Go.Proofs.YtniedmoiklkigafDoor
open Go.RowKit

set_option maxHeartbeats 1000000 in
theorem back1_same (a k : Int) (u1 u2 : Value) (d : List Int) (w : World) (h1 : IntsAt w u1 d) (h2 : IntsAt w u2 d) :
    Calls Tryd.prog 12 #[.agg #[.int .i64 a, .int .i64 k, u1], .agg #[.int .i64 a, .int .i64 k, u2]] w fun e w' => e = .returned (.bool true) ∧ Below w.heap.size w w' := by
  have HE : Hid (∀ W, Below w.heap.size w W → Calls Tryd.prog 13 #[u1, u2] W fun e w' => e = .returned (.bool true) ∧ Below w.heap.size w w') := fun W hB => (slicesEqual_same u1 u2 d W (h1.below hB) (h2.below hB)).mono fun e w' ⟨he, hb⟩ => ⟨he, hB.trans (hb.mono hB.size)⟩
  obtain ⟨A, c, rfl, -, -⟩ := h1
  obtain ⟨A', c', rfl, -, -⟩ := h2
  go_enter Tryd.func12, Tryd.ntmps12
  go_wp2_with fail
  refine (HE.out _ ((below_alloc _ _).alloc (by simp) _)).mono ?_
  rintro e w' ⟨rfl, hb⟩
  have HB : Hid (Below w.heap.size w w') := hb
  clear hb HE
  go_wp2_with fail
  go_ret
  exact ⟨rfl, HB.out⟩

set_option maxHeartbeats 2000000 in
theorem equalEvs_same (v u : Value) (L : List Ev) (w : World) (h1 : EvsAt w v L) (h2 : EvsAt w u L) :
    Calls Tryd.prog 11 #[v, u, .func (.func 12) #[] #[]] w fun e w' => e = .returned (.bool true) ∧ Below w.heap.size w w' := by
  obtain ⟨A, c, rfl, hl, hc⟩ := h1
  obtain ⟨A', c', rfl, -, hc'⟩ := h2
  go_enter Tryd.func11, Tryd.ntmps11
  go_wp2_with fail
  go_loopw [17] (fun i wr => ∃ k : Nat, k ≤ L.length ∧ i = .int .i64 k ∧ Hid (Below w.heap.size w wr)) (fun i _ => L.length - (intOf i).toNat)
  case atStart => exact ⟨0, Nat.zero_le _, rfl, Below.refl _ _⟩
  case round =>
    obtain ⟨k, hk, rfl, HB⟩ := hrel
    by_cases hlt : k < L.length
    · obtain ⟨b, off, rfl, hbs, hcell⟩ := hc (by omega)
      obtain ⟨b', off', rfl, hbs', hcell'⟩ := hc' (by omega)
      obtain ⟨x0, x1, vx, x2, xi⟩ := hcell k hlt
      obtain ⟨y0, y1, vy, y2, yi⟩ := hcell' k hlt
      have X0 := (HB.out.cell (p := ⟨b, off + k * 3, none⟩) hbs).trans x0
      have X1 := (HB.out.cell (p := ⟨b, off + k * 3 + 1, none⟩) hbs).trans x1
      have X2 := (HB.out.cell (p := ⟨b, off + k * 3 + 2, none⟩) hbs).trans x2
      have Y0 := (HB.out.cell (p := ⟨b', off' + k * 3, none⟩) hbs').trans y0
      have Y1 := (HB.out.cell (p := ⟨b', off' + k * 3 + 1, none⟩) hbs').trans y1
      have Y2 := (HB.out.cell (p := ⟨b', off' + k * 3 + 2, none⟩) hbs').trans y2
      have hsz := HB.out.size
      clear hcell hcell' hc hc' x0 x1 x2 y0 y1 y2
      revert X0 X1 Y0 Y1 xi yi
      generalize L.getD k noEv = x
      intro xi yi X0 X1 Y0 Y1
      obtain ⟨xa, xk, xd⟩ := x
      simp only at xi yi X0 X1 Y0 Y1
      have HF : Hid (∀ W, Below w.heap.size w W → Calls Tryd.prog 12 #[.agg #[.int .i64 xa, .int .i64 xk, vx], .agg #[.int .i64 xa, .int .i64 xk, vy]] W fun e w' => e = .returned (.bool true) ∧ Below w.heap.size w w') := fun W hB => (back1_same xa xk vx vy xd W (xi.below hB) (yi.below hB)).mono fun e w' ⟨he, hb⟩ => ⟨he, hB.trans (hb.mono hB.size)⟩
      obtain ⟨A1, c1, rfl, -, -⟩ := xi
      obtain ⟨A2, c2, rfl, -, -⟩ := yi
      have l1 : b < wr.heap.size := by omega
      have l2 : b' < wr.heap.size := by omega
      have n1 : ¬ b = wr.heap.size := by omega
      have n2 : ¬ b' = wr.heap.size := by omega
      go_wp2_with fail
      refine (HF.out _ (HB.out.trans (((below_alloc _ _).alloc (by simp) _).mono hsz))).mono ?_
      rintro e w2 ⟨rfl, hb2⟩
      have HB2 : Hid (Below w.heap.size w w2) := hb2
      clear hb2 HF
      go_wp2_with fail
      refine ⟨⟨k + 1, by omega, by go_num, HB2⟩, ?_⟩
      simp [intOf]; omega
    · have hki : ¬ (k : Int) < (L.length : Int) := by omega
      clear hc hc'
      go_wp2_with fail
      go_ret
      exact ⟨rfl, HB.out⟩

theorem OwnB.room {w : World} {lo g cap n : Nat} {l : List Int} (h : OwnB w lo (.slice (some ⟨g, 0, none⟩) n cap) l) : n ≤ cap := by
  rcases h.2 with ⟨e, _⟩ | ⟨g', cap', cur, e, _, _, hn, _⟩
  · simp at e
  · simp only [Value.slice.injEq] at e
    omega

set_option maxRecDepth 20000 in
set_option maxHeartbeats 2000000 in
theorem EventsBack_any (v : Value) (n : Nat) (cut : Int) (w : World) (h : RawsIn w v n) (ha : (Lit.int .i64 cut).wf = true) (hL : Laid w) :
    Calls Tryd.prog 3 #[v, .int .i64 cut] w fun e w' => e = .returned (.bool true) ∧ Below w.heap.size w w' := by
  have HT : Hid (Calls Tryd.prog 6 #[] w fun e w' => e = .returned (.bool true) ∧ Below w.heap.size w w') := evlogTells_any w hL
  have HV : Hid (∀ W, Below w.heap.size w W → Calls Tryd.prog 7 #[v] W fun e w' => ∃ v' L, e = .returned v' ∧ EvsF w' v' L ∧ chkNo L = 0 ∧ L.length ≤ 30 ∧ Below W.heap.size W w') := fun W hB => Events_any v n W (h.below hB)
  have HE : Hid (∀ W v' L, Below w.heap.size w W → EvsF W v' L → chkNo L = 0 → Calls Tryd.prog 8 #[v'] W fun e w' => ∃ v', e = .returned (.tuple #[v', .int .i64 0]) ∧ OwnB w' W.heap.size v' (fullB L) ∧ Below W.heap.size W w') := fun W v' L hB hv hc => Encode_ok v' L W hv (hL.below hB) hc
  have HP : Hid (∀ W (m : Int), 0 < m → m ≤ 1000000 → Calls Tryd.prog 10 #[.int .i64 cut, .int .i64 m] W fun e w' => e = .returned (.int .i64 (pickF cut m)) ∧ w' = W) := fun W m h1 h2 => picked_any cut m W ha h1 h2
  have HL : Hid (∀ W, Below w.heap.size w W → Laid W) := fun W hB => hL.below hB
  clear h ha hL
  go_enter Tryd.func3, Tryd.ntmps3
  go_wp2_with fail
  refine HT.out.mono ?_
  rintro e w1 ⟨rfl, hb1⟩
  have HB1 : Hid (Below w.heap.size w w1) := hb1
  clear hb1 HT
  go_wp2_with fail
  refine (HV.out _ HB1.out).mono ?_
  rintro e w2 ⟨v2, L, rfl, hv2, hc, h30, hb2⟩
  have HB2 : Hid (Below w.heap.size w w2) := HB1.out.trans (hb2.mono HB1.out.size)
  have HV2 : Hid (EvsF w2 v2 L ∧ chkNo L = 0 ∧ L.length ≤ 30) := ⟨hv2, hc, h30⟩
  clear hv2 hc h30 hb2 HB1 HV
  go_wp2_with fail
  refine (HE.out _ _ L HB2.out HV2.out.1 HV2.out.2.1).mono ?_
  rintro e w3 ⟨v3, rfl, ho3, hb3⟩
  have hlen : 0 < (encB L).length ∧ (encB L).length ≤ 6937 := ⟨encB_pos L, encB_len30 HV2.out.2.1 HV2.out.2.2⟩
  have HB3 : Hid (Below w.heap.size w w3) := HB2.out.trans (hb3.mono HB2.out.size)
  have HV3 : Hid (EvsAt w3 v2 L) := HV2.out.1.at_.below hb3
  obtain ⟨N, hN⟩ : ∃ N, N = (fullB L).length := ⟨_, rfl⟩
  have hN4 : N = (encB L).length + 4 := by rw [hN]; unfold fullB; rw [List.length_append]; rfl
  obtain ⟨g, c, rfl, hlo, hlt, hcell⟩ := ho3.at (by omega)
  have hroom := ho3.room
  have HBY : Hid (BytesAt w3 (.slice (some ⟨g, 0, none⟩) (fullB L).length c) (fullB L)) := ho3.read (by omega) (fullB_byte L)
  have HCH : Hid (chkNo L = 0) := HV2.out.2.1
  have HD1 : Hid (Calls Tryd.prog 9 #[.slice (some ⟨g, 0, none⟩) N c] w3 fun e w' => ∃ u, e = .returned (.tuple #[u, .int .i64 0]) ∧ EvsAt w' u L ∧ Below w3.heap.size w3 w') := by
    have hd := decD_full HCH.out (by omega)
    have := Decode_any _ (fullB L) w3 HBY.out ⟨_, _, rfl, hroom⟩ (HL.out _ HB3.out)
    rw [hd, ← hN] at this
    refine this.mono fun e w' ⟨u, he, hq⟩ => ⟨u, he, ?_, hq.old⟩
    obtain ⟨R, hR, ho, hR1, hR2⟩ := hq.ok rfl
    have := (ho.evs hR1 hR2).at_
    rwa [hR] at this
  rw [← hN] at hroom ⊢
  obtain ⟨hp0, hp1⟩ := pickF_bd cut (m := (N : Int)) (by omega)
  obtain ⟨k, hk⟩ : ∃ k : Nat, (k : Int) = pickF cut N := ⟨(pickF cut N).toNat, by omega⟩
  have HPK : Hid (∀ W, Calls Tryd.prog 10 #[.int .i64 cut, .int .i64 N] W fun e w' => e = .returned (.int .i64 k) ∧ w' = W) := fun W => by rw [hk]; exact HP.out W N (by omega) (by omega)
  have hkN : k < N := by omega
  have HD2 : Hid (∀ W, Below w3.heap.size w3 W → Calls Tryd.prog 9 #[.slice (some ⟨g, 0, none⟩) k c] W fun e w' => ∃ en : Int, e = .returned (.tuple #[.slice none 0 0, .int .i64 en]) ∧ ¬ en = 0 ∧ Below W.heap.size W w') := fun W hB => by
    have hl : ((fullB L).take k).length = k := by simp; omega
    have hb' := (HBY.out.below hB).take k (by omega) c
    have h0 := decD_cut HCH.out (k := k) (by omega)
    have := Decode_any _ ((fullB L).take k) W hb' ⟨_, _, by rw [hl], by omega⟩ (HL.out _ (HB3.out.trans (hB.mono HB3.out.size)))
    refine this.mono fun e w' ⟨u, he, hq⟩ => ⟨_, by rw [← hq.no h0]; exact he, h0, hq.old⟩
  have hk1 : (k : Int) ≤ c := by omega
  have hk2 : (k : Int) ≤ N := by omega
  have hk3 : (0 : Int) ≤ k := by omega
  have hN0 : (0 : Int) ≤ N := by omega
  clear ho3 hb3 HB2 HV2 HE hcell hN hN4 hlen HBY HCH hp0 hp1 hk HP HL hlo
  obtain ⟨Aa, ca, rfl⟩ : ∃ Aa ca, v2 = .slice Aa L.length ca := by obtain ⟨Aa, ca, e, -, -⟩ := HV3.out; exact ⟨Aa, ca, e⟩
  go_wp2_with fail
  refine HD1.out.mono ?_
  rintro e w4 ⟨u4, rfl, hv4, hb4⟩
  have HB4 : Hid (Below w3.heap.size w3 w4) := hb4
  have HV4 : Hid (EvsAt w4 u4 L) := hv4
  obtain ⟨A4, c4, rfl⟩ : ∃ A4 c4, u4 = .slice A4 L.length c4 := by obtain ⟨Aa, ca, e, -, -⟩ := hv4; exact ⟨Aa, ca, e⟩
  clear hv4 hb4 HD1
  go_wp2_with fail
  refine (HPK.out _).mono ?_
  rintro e w5 ⟨rfl, rfl⟩
  go_wp2_with fail
  refine (HD2.out _ HB4.out).mono ?_
  rintro e w6 ⟨en, rfl, hen, hb6⟩
  have hen3 : (en != 0) = true := by simpa using hen
  have HB6 : Hid (Below w3.heap.size w3 w6 ∧ EvsAt w6 (.slice A4 L.length c4) L) := ⟨HB4.out.trans (hb6.mono HB4.out.size), HV4.out.below hb6⟩
  clear hb6 HD2 HPK HB4 HV4
  go_wp2_with fail
  refine (equalEvs_same _ _ L w6 (HV3.out.below HB6.out.1) HB6.out.2).mono ?_
  rintro e w7 ⟨rfl, hb7⟩
  have HB7 : Hid (Below w.heap.size w w7) := HB3.out.trans ((HB6.out.1.trans (hb7.mono HB6.out.1.size)).mono HB3.out.size)
  clear hb7 HB6 HV3
  go_wp2_with fail
  go_ret
  exact ⟨rfl, HB7.out⟩

end Go.Proofs.YtniedmoiklkigafDoor
