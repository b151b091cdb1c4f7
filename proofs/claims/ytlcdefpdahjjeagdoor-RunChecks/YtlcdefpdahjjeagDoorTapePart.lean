/- A tape, plainly: may it be, and which events does it have? -/
import Derived.Test.YtlcdefpdahjjeagDoorRdV
import Derived.Test.YtlcdefpdahjjeagDoorCpuNew
import Derived.Test.YtlcdefpdahjjeagDoorRClo
import Derived.Deep.DeepCutAuto
import Derived.Test.YtlcdefpdahjjeagDoorTpW
import Derived.Test.YtlcdefpdahjjeagDoorGuestNewPart
namespace Go.Proofs.YtlcdefpdahjjeagDoor
open Go.RowKit
set_option maxRecDepth 100000

/-- Is an event not below a count? -/
def lateB (cnt : Int) (L : List Ev) : Bool := L.any fun x => decide (cnt ≤ x.at_)
/-- What a tape tells: what is wrong, and its events. -/
def tapeG (im bs : List Int) (cnt : Int) : Int × List Ev :=
  if newNo im ≠ 0 then (newNo im, []) else if inB cnt 0 3000 = false then (2, []) else if (decD bs).1 ≠ 0 then ((decD bs).1, []) else if lateB cnt (decD bs).2 = true then (9, []) else (0, (decD bs).2)
theorem tapeG_no {im bs : List Int} {cnt : Int} (h : (tapeG im bs cnt).1 ≠ 0) : (tapeG im bs cnt).2 = [] := by
  unfold tapeG at h ⊢
  split
  · rfl
  · split
    · rfl
    · split
      · rfl
      · split
        · rfl
        · simp_all

theorem lateB_iff {cnt : Int} {L : List Ev} : lateB cnt L = true ↔ ∃ j, j < L.length ∧ cnt ≤ (L.getD j noEv).at_ := by
  unfold lateB
  rw [List.any_eq_true]
  constructor
  · rintro ⟨x, hx, hd⟩
    obtain ⟨i, hi, rfl⟩ := List.mem_iff_getElem.1 hx
    exact ⟨i, hi, by simpa [List.getD, hi] using hd⟩
  · rintro ⟨j, hj, hd⟩
    exact ⟨L[j], List.getElem_mem hj, by simpa [List.getD, hj] using hd⟩
theorem chk_verdict {L : List Ev} (h : chkNo L = 0) : ∀ k, k < L.length → verdict L k = 0 := by
  have h0 : chk L 0 = 0 := by
    unfold chkNo at h
    split at h
    · cases h
    · exact h
  have : ∀ k, k ≤ L.length → chk L k = 0 := by
    intro k
    induction k with
    | zero => exact fun _ => h0
    | succ k ih =>
      intro hk
      have h1 := ih (by omega)
      by_cases hv : verdict L k = 0
      · rw [chk_ok (by omega) hv] at h1; exact h1
      · rw [chk_no (by omega) hv] at h1; exact absurd h1 hv
  intro k hk
  have h1 := this k (by omega)
  by_cases hv : verdict L k = 0
  · exact hv
  · rw [chk_no hk hv] at h1; exact absurd h1 hv
/-- They stand in the order of their counts. -/
theorem chk_step {L : List Ev} (h : chkNo L = 0) {k : Nat} (hk : k + 1 < L.length) : (L.getD k noEv).at_ ≤ (L.getD (k + 1) noEv).at_ := by
  have h1 := chk_verdict h (k + 1) hk
  have h2 := chk_verdict h k (by omega)
  have e1 := (evNo_bd (verdict_ev h1)).1
  have e2 := (evNo_bd (verdict_ev h2)).1
  unfold verdict at h1
  rw [if_pos (verdict_ev (chk_verdict h (k + 1) hk)), if_neg (by omega)] at h1
  split at h1
  · rename_i hb
    simp only [behind, decide_eq_true_eq, Nat.add_sub_cancel] at hb
    omega
  · cases h1
theorem chk_mono {L : List Ev} (h : chkNo L = 0) : ∀ (d k : Nat), k + d < L.length → (L.getD k noEv).at_ ≤ (L.getD (k + d) noEv).at_
  | 0, _, _ => Int.le_refl _
  | d + 1, k, hk => Int.le_trans (chk_mono h d k (by omega)) (by have := chk_step h (k := k + d) (by omega); exact this)
theorem late_last {L : List Ev} (h : chkNo L = 0) {m : Nat} (hm : L.length = m + 1) (cnt : Int) : lateB cnt L = decide (cnt ≤ (L.getD m noEv).at_) := by
  by_cases hc : cnt ≤ (L.getD m noEv).at_
  · rw [decide_eq_true hc]
    exact lateB_iff.2 ⟨m, by omega, hc⟩
  · rw [decide_eq_false hc]
    cases e : lateB cnt L with
    | false => rfl
    | true =>
      obtain ⟨j, hj, hd⟩ := lateB_iff.1 e
      have := chk_mono h (m - j) j (by omega)
      rw [show j + (m - j) = m by omega] at this
      omega
theorem late_nil (cnt : Int) : lateB cnt [] = false := rfl
theorem late_all {cnt : Int} {L : List Ev} (h : ∀ j, j < L.length → ¬ cnt ≤ (L.getD j noEv).at_) : lateB cnt L = false := by
  cases e : lateB cnt L with
  | false => rfl
  | true =>
    obtain ⟨j, hj, hd⟩ := lateB_iff.1 e
    exact absurd hd (h j hj)

/-- A new guest, or what is wrong: in twelve cells. -/
def Twelve (e : Ending) (no : Int) : Prop :=
  ∃ A1 n1 c1 p b i wt tb ct fn A2 n2 c2 A3 n3 c3 rd wn, e = .returned (.tuple #[.agg #[.slice A1 n1 c1, .int .i64 p, .int .i64 b, .bool i, .bool wt, .int .i64 tb, .int .i64 ct, .int .i64 fn, .slice A2 n2 c2, .slice A3 n3 c3, .int .i64 rd, .int .i64 wn], .int .i64 no])
theorem twelve_of {w' : World} {lo : Nat} {rv mv ov : Value} {m : Mach} {no : Int} (h : OwnM w' lo rv mv ov m) : Twelve (.returned (.tuple #[.agg (m.cells rv mv ov), .int .i64 no])) no := by
  obtain ⟨A, c, B, c', C, c'', rfl, rfl, rfl⟩ := h.shape
  exact ⟨_, _, _, _, _, _, _, _, _, _, _, _, _, _, _, _, _, _, rfl⟩
theorem New_12 (v : Value) (l : List Int) (w : World) (h : IntsAt w v l) : Calls Tryd.prog 26 #[v] w fun e w' => Twelve e (newNo l) ∧ Below w.heap.size w w' := by
  by_cases hn : newNo l = 0
  · rw [hn]
    exact (New_ok v l w h hn).mono fun e w' ⟨rv, mv, ov, he, ho, hb⟩ => ⟨he ▸ twelve_of ho, hb⟩
  · exact (New_no v l w h hn).mono fun e w' ⟨he, hb⟩ => ⟨⟨_, _, _, _, _, _, _, _, _, _, _, _, _, _, _, _, _, _, he⟩, hb⟩

end Go.Proofs.YtlcdefpdahjjeagDoor

/- Contract of run.Check. -/

namespace Go.Proofs.YtlcdefpdahjjeagDoor
open Go.RowKit
set_option maxRecDepth 100000

/-- A tape in memory. -/
structure TapeAt (w : World) (iv ev : Value) (im bs : List Int) : Prop where
  ims : IntsAt w iv im
  evs : BytesAt w ev bs
  fit : ∃ A c, ev = .slice A bs.length c ∧ bs.length ≤ c
theorem TapeAt.below {w w' : World} {iv ev : Value} {im bs : List Int} (h : TapeAt w iv ev im bs) (hb : Below w.heap.size w w') : TapeAt w' iv ev im bs := ⟨h.ims.below hb, h.evs.below hb, h.fit⟩
theorem DecQ.nil {w w' : World} {no : Int} {L : List Ev} (hb : Below w.heap.size w w') (h : no ≠ 0) : DecQ w w' (.slice none 0 0) (no, L) := ⟨hb, fun e => absurd e h, fun _ => rfl⟩
theorem DecQ.look {w w' : World} {u : Value} {L : List Ev} (h : DecQ w w' u (0, L)) : EvsAt w' u L := by
  obtain ⟨R, hR, ho, hR1, hR2⟩ := h.ok rfl
  have := (ho.evs hR1 hR2).at_
  rwa [hR] at this
theorem DecQ.from {w w1 w' : World} {u : Value} {g : Int × List Ev} (h : DecQ w1 w' u g) (hb : Below w.heap.size w w1) : DecQ w w' u g :=
  ⟨hb.trans (h.old.mono hb.size), fun e => by
    obtain ⟨R, hR, ho, r⟩ := h.ok e
    exact ⟨R, hR, ⟨ownsRow_mono ho.row hb.size, fun p hp => ownsRow_mono (ho.data p hp) hb.size⟩, r⟩, h.no⟩
theorem DecQ.below {w w' w2 : World} {u : Value} {g : Int × List Ev} (h : DecQ w w' u g) (hb : Below w'.heap.size w' w2) : DecQ w w2 u g :=
  ⟨h.old.trans (hb.mono h.old.size), fun e => by
    obtain ⟨R, hR, ho, r⟩ := h.ok e
    exact ⟨R, hR, ho.below hb, r⟩, h.no⟩

theorem ret2 {x y : Value} {e : Ending} (h : e = .returned (.tuple #[x, y])) : e = .returned (.tuple #[x, y]) := h

set_option maxHeartbeats 4000000 in
theorem RunCheck_any (iv ev : Value) (im bs : List Int) (cnt : Int) (w : World) (h : TapeAt w iv ev im bs) (hL : Laid w) :
    Calls Tryd.prog 13 #[.agg #[iv, ev, .int .i64 cnt]] w fun e w' => ∃ u, e = .returned (.tuple #[u, .int .i64 (tapeG im bs cnt).1]) ∧ DecQ w w' u (tapeG im bs cnt) := by
  obtain ⟨Ai, ci, rfl, -, -⟩ := h.ims
  obtain ⟨Ae, ce, rfl, hfit⟩ := h.fit
  obtain ⟨W, hW⟩ : ∃ W, W = w.alloc (.cells #[.slice Ai im.length ci, .slice Ae bs.length ce, .int .i64 cnt] 28) := ⟨_, rfl⟩
  have hx : W.heap[w.heap.size]? = some (.cells #[.slice Ai im.length ci, .slice Ae bs.length ce, .int .i64 cnt] 28 (0, 0)) := by rw [hW]; exact Go.Deep.blk_alloc_new _ _
  have hb0 : Below w.heap.size w W := by rw [hW]; exact below_alloc _ _
  have HW : Hid (W = w.alloc (.cells #[.slice Ai im.length ci, .slice Ae bs.length ce, .int .i64 cnt] 28)) := hW
  have HX : Hid (W.heap[w.heap.size]? = some (.cells #[.slice Ai im.length ci, .slice Ae bs.length ce, .int .i64 cnt] 28 (0, 0)) ∧ Below w.heap.size w W) := ⟨hx, hb0⟩
  have HN : Hid (Calls Tryd.prog 26 #[.slice Ai im.length ci] W fun e w' => Twelve e (newNo im) ∧ Below W.heap.size W w') := New_12 _ im W (h.ims.below hb0)
  have HD : Hid (∀ X, Below w.heap.size w X → Calls Tryd.prog 41 #[.slice Ae bs.length ce] X fun e w' => ∃ u, e = .returned (.tuple #[u, .int .i64 (decD bs).1]) ∧ DecQ X w' u (decD bs)) := fun X hX => Decode_any _ bs X (h.evs.below hX) h.fit (hL.below hX)
  have HBY : Hid (∀ x ∈ bs, 0 ≤ x ∧ x ≤ 255) := by
    obtain ⟨_, _, _, _, hy, _⟩ := h.evs
    exact hy
  obtain ⟨G, hG⟩ : ∃ G, G = tapeG im bs cnt := ⟨_, rfl⟩
  rw [← hG]
  have HG : Hid (G = tapeG im bs cnt) := hG
  obtain ⟨q0, hq0⟩ : ∃ q, q = newNo im := ⟨_, rfl⟩
  have HQ0 : Hid (q0 = newNo im) := hq0
  rw [← hq0] at HN
  obtain ⟨⟨dn, DL⟩, hD0⟩ : ∃ D, D = decD bs := ⟨_, rfl⟩
  have HD0 : Hid ((dn, DL) = decD bs) := hD0
  rw [← hD0] at HD
  clear h hL hW hx hb0 hG hq0 hD0
  go_enter Tryd.func13, Tryd.ntmps13
  go_wp2_with fail
  rw [← HW.out]
  refine HN.out.mono ?_
  rintro e w1 ⟨⟨A1, n1, c1, p, b, i, wt, tb, ct, fn, A2, n2, c2, A3, n3, c3, rd, wn, rfl⟩, hb1⟩
  have hb01 : Below w.heap.size w w1 := HX.out.2.trans (hb1.mono HX.out.2.size)
  have hx1 : w1.heap[w.heap.size]? = some (.cells #[.slice Ai im.length ci, .slice Ae bs.length ce, .int .i64 cnt] 28 (0, 0)) := (hb1.block _ (lt_of_block HX.out.1)).trans HX.out.1
  have H1 : Hid (Below w.heap.size w w1 ∧ w1.heap[w.heap.size]? = some (.cells #[.slice Ai im.length ci, .slice Ae bs.length ce, .int .i64 cnt] 28 (0, 0))) := ⟨hb01, hx1⟩
  clear hb1 HN HX HW hb01 hx1
  by_cases hn : q0 = 0
  case neg =>
    have HE : Hid (G = (q0, [])) := by show _ = _; rw [HG.out, tapeG, if_pos (by rw [← HQ0.out]; exact hn), ← HQ0.out]
    have d0 : (q0 != 0) = true := by simpa using hn
    have HNE : Hid (q0 ≠ 0) := hn
    clear hn
    go_wp2_with fail
    refine bodyPost_ret (v := .tuple #[.slice none 0 0, .int .i64 q0]) (by simp [results, Tryd.results13, go_sem]) rfl ?_
    rw [HE.out]
    exact ⟨_, rfl, DecQ.nil (H1.out.1.alloc H1.out.1.size _) HNE.out⟩
  case pos =>
    have d0 : (q0 != 0) = false := by simp [hn]
    have HQ : Hid (newNo im = 0) := by show _ = _; rw [← HQ0.out]; exact hn
    go_upto_region 4 with fail
    obtain ⟨W2, hW2⟩ : ∃ W2, W2 = w1.alloc (.cells #[.slice A1 n1 c1, .int .i64 p, .int .i64 b, .bool i, .bool wt, .int .i64 tb, .int .i64 ct, .int .i64 fn, .slice A2 n2 c2, .slice A3 n3 c3, .int .i64 rd, .int .i64 wn] 30) := ⟨_, rfl⟩
    have hb2 := below_alloc w1 (.cells #[.slice A1 n1 c1, .int .i64 p, .int .i64 b, .bool i, .bool wt, .int .i64 tb, .int .i64 ct, .int .i64 fn, .slice A2 n2 c2, .slice A3 n3 c3, .int .i64 rd, .int .i64 wn] 30)
    rw [← hW2] at hb2 ⊢
    have H2 : Hid (Below w.heap.size w W2 ∧ W2.heap[w.heap.size]? = some (.cells #[.slice Ai im.length ci, .slice Ae bs.length ce, .int .i64 cnt] 28 (0, 0))) := ⟨H1.out.1.trans (hb2.mono H1.out.1.size), (hb2.block _ (lt_of_block H1.out.2)).trans H1.out.2⟩
    obtain ⟨z0, z1, z2, zf, zl⟩ := three_cells H2.out.2
    clear hW2 hb2 H1 hn
    cases hc : inB cnt 0 3000 with
    | false =>
      have HE : Hid (G = (2, [])) := by show _ = _; rw [HG.out, tapeG, if_neg (by rw [HQ.out]; simp), if_pos hc]
      go_region_held3 (fun w' => w'.cell? ⟨w.heap.size, 2, none⟩ = some (.int .i64 cnt)) (go_keep)
        (first
          | (go_at_call 28; refine (isNoCount_any _).mono ?_; rintro e w3 ⟨p3, q3, rfl, hc3, hb3⟩; have hB3 : Below W2.heap.size W2 w3 := ((Below.refl _ W2).drew).trans hb3; have HC3 : Hid (CloAtR w3 p3 q3 0 3000 ∧ Below w.heap.size w w3) := ⟨hc3, H2.out.1.trans (hB3.mono H2.out.1.size)⟩; have m2 := (hB3.cell (p := ⟨w.heap.size, 2, none⟩) zl).trans z2; clear hc3 hb3 hB3)
          | (go_at_call 78; refine (cloR_any cnt 0 3000 _ _ _ HC3.out.1).mono ?_; rw [hc]; rintro e w' ⟨rfl, hw'⟩; rw [hw']; clear hw' w'))
      all_goals
        go_wp2_with fail
        refine bodyPost_ret (v := .tuple #[.slice none 0 0, .int .i64 2]) (by simp [results, Tryd.results13, go_sem]) rfl ?_
        rw [HE.out]
        exact ⟨_, rfl, DecQ.nil HC3.out.2 (by decide)⟩
    | true =>
      go_region_held3 (fun w' => w'.cell? ⟨w.heap.size, 2, none⟩ = some (.int .i64 cnt)) (go_keep)
        (first
          | (go_at_call 28; refine (isNoCount_any _).mono ?_; rintro e w3 ⟨p3, q3, rfl, hc3, hb3⟩; have hB3 : Below W2.heap.size W2 w3 := ((Below.refl _ W2).drew).trans hb3; have HC3 : Hid (CloAtR w3 p3 q3 0 3000 ∧ Below w.heap.size w w3 ∧ w3.heap[w.heap.size]? = some (.cells #[.slice Ai im.length ci, .slice Ae bs.length ce, .int .i64 cnt] 28 (0, 0))) := ⟨hc3, H2.out.1.trans (hB3.mono H2.out.1.size), (hB3.block _ zl).trans H2.out.2⟩; have m2 := (hB3.cell (p := ⟨w.heap.size, 2, none⟩) zl).trans z2; clear hc3 hb3 hB3)
          | (go_at_call 78; refine (cloR_any cnt 0 3000 _ _ _ HC3.out.1).mono ?_; rw [hc]; rintro e w' ⟨rfl, hw'⟩; rw [hw']; clear hw' w'))
      all_goals
        have HG2 : Hid (G = if dn ≠ 0 then (dn, []) else if lateB cnt DL = true then (9, []) else (0, DL)) := by show _ = _; rw [HG.out, tapeG, if_neg (by rw [HQ.out]; simp), if_neg (by rw [hc]; simp), ← HD0.out]
        obtain ⟨y0, y1, y2, yf, yl⟩ := three_cells HC3.out.2.2
        clear z0 z1 z2 zf zl HQ0 HQ hc m2
        go_wp2_with fail
        refine (HD.out _ HC3.out.2.1).mono ?_
        rintro e w4 ⟨u, rfl, hq⟩
        have HQD : Hid (DecQ w w4 u (dn, DL)) := hq.from HC3.out.2.1
        have m2 := (hq.old.cell (p := ⟨w.heap.size, 2, none⟩) yl).trans y2
        have ml : w.heap.size < w4.heap.size := Nat.lt_of_lt_of_le yl hq.old.size
        clear hq y0 y1 y2 yf yl HD
        by_cases hd : dn = 0
        case neg =>
          have HE : Hid (G = (dn, []) ∧ dn ≠ 0) := ⟨by rw [HG2.out, if_pos hd], hd⟩
          have HU : Hid (u = .slice none 0 0) := HQD.out.no hd
          have d1 : (dn != 0) = true := by simpa using hd
          clear hd
          go_wp2_with fail
          refine bodyPost_ret (v := .tuple #[.slice none 0 0, .int .i64 dn]) (by simp [results, Tryd.results13, go_sem]) rfl ?_
          rw [HE.out.1]
          exact ⟨_, rfl, DecQ.nil HQD.out.old HE.out.2⟩
        case pos =>
          subst hd
          have HCK : Hid (chkNo DL = 0) := by
            show _ = _
            have := (decD_back HBY.out (by rw [← HD0.out])).2.1
            rwa [← HD0.out] at this
          obtain ⟨Au, cu, hu, hbd, hev⟩ := HQD.out.look
          subst hu
          by_cases h0 : 0 < DL.length
          · obtain ⟨k, hk⟩ : ∃ k, DL.length = k + 1 := ⟨DL.length - 1, by omega⟩
            obtain ⟨be, oe, rfl, hbe, hce⟩ := hev h0
            have hat := (hce k (by omega)).1
            obtain ⟨x, hx⟩ : ∃ x, x = (DL.getD k noEv).at_ := ⟨_, rfl⟩
            rw [← hx] at hat
            have HLT : Hid (lateB cnt DL = decide (cnt ≤ x)) := by show _ = _; rw [late_last HCK.out hk, ← hx]
            have g0 : (0 : Int) < (DL.length : Int) := by omega
            have gd : decide ((0 : Int) < (DL.length : Int)) = true := decide_eq_true g0
            have ge : decide (0 < DL.length) = true := decide_eq_true (by omega)
            have gg : 0 < DL.length := by omega
            have hw2 : IntKind.i64.wrap ((DL.length : Int) - 1) = (k : Int) := by rw [IntWalk.i64_in _ (by omega)]; omega
            have g1 : (k : Int) < (DL.length : Int) := by omega
            clear hce hev hk hx hbd h0
            by_cases hl : cnt ≤ x
            · have HE : Hid (G = (9, [])) := by show _ = _; rw [HG2.out, if_neg (by simp), HLT.out, decide_eq_true hl, if_pos rfl]
              go_wp2_with fail
              go_quiet (fail)
              go_wp2_with fail
              refine bodyPost_ret (v := .tuple #[.slice none 0 0, .int .i64 9]) (by simp [results, Tryd.results13, go_sem]) rfl ?_
              rw [HE.out]
              exact ⟨_, rfl, DecQ.nil (below_drewN HQD.out.old _) (by decide)⟩
            · have HE : Hid (G = (0, DL)) := by show _ = _; rw [HG2.out, if_neg (by simp), HLT.out, decide_eq_false hl, if_neg (by decide)]
              go_wp2_with fail
              go_quiet (fail)
              go_wp2_with fail
              refine bodyPost_ret (v := .tuple #[.slice (some ⟨be, oe, none⟩) DL.length cu, .int .i64 0]) (by simp [results, Tryd.results13, go_sem]) rfl ?_
              rw [HE.out]
              exact ⟨_, rfl, HQD.out.below (below_drewN (Below.refl _ _) _)⟩
          · have HE : Hid (G = (0, DL)) := by
              show _ = _
              have : DL = [] := List.eq_nil_of_length_eq_zero (by omega)
              rw [HG2.out, if_neg (by simp), this, late_nil, if_neg (by decide)]
            have g0 : ¬ (0 : Int) < (DL.length : Int) := by omega
            have gd : decide ((0 : Int) < (DL.length : Int)) = false := decide_eq_false g0
            have ge : decide (0 < DL.length) = false := decide_eq_false (by omega)
            have gg : ¬ 0 < DL.length := by omega
            clear hev hbd h0
            go_wp2_with fail
            go_quiet (fail)
            go_wp2_with fail
            refine bodyPost_ret (v := .tuple #[.slice Au DL.length cu, .int .i64 0]) (by simp [results, Tryd.results13, go_sem]) rfl ?_
            rw [HE.out]
            exact ⟨_, rfl, HQD.out.below (below_drewN (Below.refl _ _) _)⟩

end Go.Proofs.YtlcdefpdahjjeagDoor

/- Contract of the document's TapeFault. -/

namespace Go.Proofs.YtlcdefpdahjjeagDoor
open Go.RowKit
set_option maxRecDepth 100000

theorem GuestNew_12 (v : Value) (l : List Int) (w : World) (h : IntsAt w v l) : Calls Tryd.prog 33 #[v] w fun e w' => Twelve e (newNo l) ∧ Below w.heap.size w w' := by
  by_cases hn : newNo l = 0
  · rw [hn]
    exact (GuestNew_ok v l w h hn).mono fun e w' ⟨rv, mv, ov, he, ho, hb⟩ => ⟨he ▸ twelve_of ho, hb⟩
  · exact (GuestNew_no v l w h hn).mono fun e w' ⟨he, hb⟩ => ⟨⟨_, _, _, _, _, _, _, _, _, _, _, _, _, _, _, _, _, _, he⟩, hb⟩

set_option maxHeartbeats 4000000 in
theorem TapeFault_any (iv ev : Value) (im bs : List Int) (cnt : Int) (w : World) (h : TapeAt w iv ev im bs) :
    Calls Tryd.prog 14 #[.agg #[iv, ev, .int .i64 cnt]] w fun e w' => ∃ u, e = .returned (.tuple #[u, .int .i64 (tapeG im bs cnt).1]) ∧ DecQ w w' u (tapeG im bs cnt) := by
  obtain ⟨Ai, ci, rfl, -, -⟩ := h.ims
  obtain ⟨Ae, ce, rfl, hfit⟩ := h.fit
  obtain ⟨W, hW⟩ : ∃ W, W = w.alloc (.cells #[.slice Ai im.length ci, .slice Ae bs.length ce, .int .i64 cnt] 28) := ⟨_, rfl⟩
  have hx : W.heap[w.heap.size]? = some (.cells #[.slice Ai im.length ci, .slice Ae bs.length ce, .int .i64 cnt] 28 (0, 0)) := by rw [hW]; exact Go.Deep.blk_alloc_new _ _
  have hb0 : Below w.heap.size w W := by rw [hW]; exact below_alloc _ _
  have HW : Hid (W = w.alloc (.cells #[.slice Ai im.length ci, .slice Ae bs.length ce, .int .i64 cnt] 28)) := hW
  have HX : Hid (W.heap[w.heap.size]? = some (.cells #[.slice Ai im.length ci, .slice Ae bs.length ce, .int .i64 cnt] 28 (0, 0)) ∧ Below w.heap.size w W) := ⟨hx, hb0⟩
  have HN : Hid (Calls Tryd.prog 33 #[.slice Ai im.length ci] W fun e w' => Twelve e (newNo im) ∧ Below W.heap.size W w') := GuestNew_12 _ im W (h.ims.below hb0)
  have HD : Hid (∀ X, Below w.heap.size w X → Calls Tryd.prog 42 #[.slice Ae bs.length ce] X fun e w' => ∃ u, e = .returned (.tuple #[u, .int .i64 (decD bs).1]) ∧ DecQ X w' u (decD bs)) := fun X hX => EventsOf_any _ bs X (h.evs.below hX) h.fit
  obtain ⟨G, hG⟩ : ∃ G, G = tapeG im bs cnt := ⟨_, rfl⟩
  rw [← hG]
  have HG : Hid (G = tapeG im bs cnt) := hG
  obtain ⟨q0, hq0⟩ : ∃ q, q = newNo im := ⟨_, rfl⟩
  have HQ0 : Hid (q0 = newNo im) := hq0
  rw [← hq0] at HN
  obtain ⟨⟨dn, DL⟩, hD0⟩ : ∃ D, D = decD bs := ⟨_, rfl⟩
  have HD0 : Hid ((dn, DL) = decD bs) := hD0
  rw [← hD0] at HD
  clear h hW hx hb0 hG hq0 hD0
  go_enter Tryd.func14, Tryd.ntmps14
  go_wp2_with fail
  rw [← HW.out]
  refine HN.out.mono ?_
  rintro e w1 ⟨⟨A1, n1, c1, p, b, i, wt, tb, ct, fn, A2, n2, c2, A3, n3, c3, rd, wn, rfl⟩, hb1⟩
  have hb01 : Below w.heap.size w w1 := HX.out.2.trans (hb1.mono HX.out.2.size)
  have hx1 : w1.heap[w.heap.size]? = some (.cells #[.slice Ai im.length ci, .slice Ae bs.length ce, .int .i64 cnt] 28 (0, 0)) := (hb1.block _ (lt_of_block HX.out.1)).trans HX.out.1
  have H1 : Hid (Below w.heap.size w w1 ∧ w1.heap[w.heap.size]? = some (.cells #[.slice Ai im.length ci, .slice Ae bs.length ce, .int .i64 cnt] 28 (0, 0))) := ⟨hb01, hx1⟩
  clear hb1 HN HX HW hb01 hx1
  by_cases hn : q0 = 0
  case neg =>
    have HE : Hid (G = (q0, [])) := by show _ = _; rw [HG.out, tapeG, if_pos (by rw [← HQ0.out]; exact hn), ← HQ0.out]
    have d0 : (q0 != 0) = true := by simpa using hn
    have d1 : (q0 == 0) = false := by simpa using hn
    have HNE : Hid (q0 ≠ 0) := hn
    clear hn
    go_wp2_with fail
    refine bodyPost_ret (v := .tuple #[.slice none 0 0, .int .i64 q0]) (by simp [results, Tryd.results14, go_sem]) rfl ?_
    rw [HE.out]
    exact ⟨_, rfl, DecQ.nil (H1.out.1.alloc H1.out.1.size _) HNE.out⟩
  case pos =>
    have HQ : Hid (newNo im = 0) := by show _ = _; rw [← HQ0.out]; exact hn
    subst hn
    obtain ⟨W2, hW2⟩ : ∃ W2, W2 = w1.alloc (.cells #[.slice A1 n1 c1, .int .i64 p, .int .i64 b, .bool i, .bool wt, .int .i64 tb, .int .i64 ct, .int .i64 fn, .slice A2 n2 c2, .slice A3 n3 c3, .int .i64 rd, .int .i64 wn] 30) := ⟨_, rfl⟩
    have hb2 := below_alloc w1 (.cells #[.slice A1 n1 c1, .int .i64 p, .int .i64 b, .bool i, .bool wt, .int .i64 tb, .int .i64 ct, .int .i64 fn, .slice A2 n2 c2, .slice A3 n3 c3, .int .i64 rd, .int .i64 wn] 30)
    rw [← hW2] at hb2
    have HW2 : Hid (W2 = w1.alloc (.cells #[.slice A1 n1 c1, .int .i64 p, .int .i64 b, .bool i, .bool wt, .int .i64 tb, .int .i64 ct, .int .i64 fn, .slice A2 n2 c2, .slice A3 n3 c3, .int .i64 rd, .int .i64 wn] 30)) := hW2
    have H2 : Hid (Below w.heap.size w W2 ∧ W2.heap[w.heap.size]? = some (.cells #[.slice Ai im.length ci, .slice Ae bs.length ce, .int .i64 cnt] 28 (0, 0))) := ⟨H1.out.1.trans (hb2.mono H1.out.1.size), (hb2.block _ (lt_of_block H1.out.2)).trans H1.out.2⟩
    obtain ⟨x0, x1, x2, xf, xl⟩ := three_cells H1.out.2
    have xn : ¬ w.heap.size = w1.heap.size := by omega
    obtain ⟨z0, z1, z2, zf, zl⟩ := three_cells H2.out.2
    clear hW2 hb2 H1
    cases hc : inB cnt 0 3000 with
    | false =>
      have HE : Hid (G = (2, [])) := by show _ = _; rw [HG.out, tapeG, if_neg (by rw [HQ.out]; simp), if_pos hc]
      go_wp2_with fail
      rw [← HW2.out]
      refine (In_B _ _ _ _).mono ?_
      rw [hc]
      rintro e w' ⟨rfl, hw'⟩
      rw [hw']
      clear hw' w'
      go_wp2_with fail
      refine bodyPost_ret (v := .tuple #[.slice none 0 0, .int .i64 2]) (by simp [results, Tryd.results14, go_sem]) rfl ?_
      rw [HE.out]
      exact ⟨_, rfl, DecQ.nil H2.out.1 (by decide)⟩
    | true =>
      have HG2 : Hid (G = if dn ≠ 0 then (dn, []) else if lateB cnt DL = true then (9, []) else (0, DL)) := by show _ = _; rw [HG.out, tapeG, if_neg (by rw [HQ.out]; simp), if_neg (by rw [hc]; simp), ← HD0.out]
      go_wp2_with fail
      rw [← HW2.out]
      refine (In_B _ _ _ _).mono ?_
      rw [hc]
      rintro e w' ⟨rfl, hw'⟩
      rw [hw']
      clear hw' w' x0 x1 x2 xf xl xn HQ0 HQ hc HW2
      go_wp2_with fail
      refine (HD.out _ H2.out.1).mono ?_
      rintro e w4 ⟨u, rfl, hq⟩
      have HQD : Hid (DecQ w w4 u (dn, DL)) := hq.from H2.out.1
      have m2 := (hq.old.cell (p := ⟨w.heap.size, 2, none⟩) zl).trans z2
      have ml : w.heap.size < w4.heap.size := Nat.lt_of_lt_of_le zl hq.old.size
      clear hq z0 z1 z2 zf zl HD
      by_cases hd : dn = 0
      case neg =>
        have HE : Hid (G = (dn, []) ∧ dn ≠ 0) := ⟨by rw [HG2.out, if_pos hd], hd⟩
        have d1 : (dn != 0) = true := by simpa using hd
        clear hd
        go_wp2_with fail
        refine bodyPost_ret (v := .tuple #[.slice none 0 0, .int .i64 dn]) (by simp [results, Tryd.results14, go_sem]) rfl ?_
        rw [HE.out.1]
        exact ⟨_, rfl, DecQ.nil HQD.out.old HE.out.2⟩
      case pos =>
        subst hd
        obtain ⟨Au, cu, hu, hbd, hev⟩ := HQD.out.look
        subst hu
        have HEV : Hid (DL.length * 40 ≤ 140737488351232 ∧ (0 < DL.length → ∃ b off, Au = some ⟨b, off, none⟩ ∧ b < w4.heap.size ∧ ∀ j, j < DL.length → EvAt w4 b (off + j * 3) (DL.getD j noEv))) := ⟨hbd, hev⟩
        clear hev hbd
        go_wp2_with fail
        go_loopw [7] (fun i wr => ∃ k : Nat, k ≤ DL.length ∧ i = .int .i64 (k : Int) ∧ Hid (∀ j, j < k → (DL.getD j noEv).at_ < cnt) ∧ ∃ n, wr = w4.drewN n) (fun i _ => DL.length - (intOf i).toNat)
        case atStart => exact ⟨0, Nat.zero_le _, rfl, fun j hj => absurd hj (Nat.not_lt_zero _), 0, rfl⟩
        case round =>
          obtain ⟨k, hk, rfl, ht, n, hw⟩ := hrel
          subst hw
          have hbd := HEV.out.1
          by_cases hlt : k < DL.length
          · obtain ⟨be, oe, rfl, hbe, hce⟩ := HEV.out.2 (by omega)
            have hat := (hce k hlt).1
            obtain ⟨x, hx⟩ : ∃ x, x = (DL.getD k noEv).at_ := ⟨_, rfl⟩
            rw [← hx] at hat
            have HXX : Hid (x = (DL.getD k noEv).at_) := hx
            have g1 : (k : Int) < (DL.length : Int) := by omega
            have hw2 : IntKind.i64.wrap ((k : Int) + 1) = (k : Int) + 1 := IntWalk.i64_in _ (by omega)
            clear hce hx
            by_cases hl : cnt ≤ x
            · have HE : Hid (G = (9, [])) := by show _ = _; rw [HG2.out, if_neg (by simp), if_pos (lateB_iff.2 ⟨k, hlt, by rw [← HXX.out]; exact hl⟩)]
              go_wp2_with fail
              go_quiet (fail)
              go_wp2_with fail
              refine bodyPost_ret (v := .tuple #[.slice none 0 0, .int .i64 9]) (by simp [results, Tryd.results14, go_sem]) rfl ?_
              rw [HE.out]
              exact ⟨_, rfl, DecQ.nil (below_drewN (below_drewN HQD.out.old _) _) (by decide)⟩
            · have HN : Hid (∀ j, j < k + 1 → (DL.getD j noEv).at_ < cnt) := fun j hj => by
                by_cases e : j = k
                · subst e; rw [← HXX.out]; omega
                · exact ht.out j (by omega)
              go_wp2_with fail
              go_quiet (fail)
              go_wp2_with fail
              refine ⟨⟨k + 1, by omega, by go_num, HN, _, rfl⟩, ?_⟩
              simp [intOf]; omega
          · have HE : Hid (G = (0, DL)) := by show _ = _; rw [HG2.out, if_neg (by simp), late_all (fun j hj => by have := ht.out j (by omega); omega), if_neg (by decide)]
            have g1 : ¬ (k : Int) < (DL.length : Int) := by omega
            go_wp2_with fail
            refine bodyPost_ret (v := .tuple #[.slice Au DL.length cu, .int .i64 0]) (by simp [results, Tryd.results14, go_sem]) rfl ?_
            rw [HE.out]
            exact ⟨_, rfl, HQD.out.below (below_drewN (Below.refl _ _) _)⟩

end Go.Proofs.YtlcdefpdahjjeagDoor
