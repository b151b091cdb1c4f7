/- Contract of the document's TapeFault. -/
import Derived.Test.YtbjlfhpiebokkaaDoorTapePart
import Derived.Test.YtbjlfhpiebokkaaDoorTpWPart
import Derived.Test.YtbjlfhpiebokkaaDoorOnwPart
namespace Go.Proofs.YtbjlfhpiebokkaaDoor
open Go.RowKit
set_option maxRecDepth 100000

theorem GuestNew_12 (v : Value) (l : List Int) (w : World) (h : IntsAt w v l) : Calls Tryd.prog 30 #[v] w fun e w' => Twelve e (newNo l) ∧ Below w.heap.size w w' := by
  by_cases hn : newNo l = 0
  · rw [hn]
    exact (GuestNew_ok v l w h hn).mono fun e w' ⟨rv, mv, ov, he, ho, hb⟩ => ⟨he ▸ twelve_of ho, hb⟩
  · exact (GuestNew_no v l w h hn).mono fun e w' ⟨he, hb⟩ => ⟨⟨_, _, _, _, _, _, _, _, _, _, _, _, _, _, _, _, _, _, he⟩, hb⟩

set_option maxHeartbeats 4000000 in
theorem TapeFault_any (iv ev : Value) (im bs : List Int) (cnt : Int) (w : World) (h : TapeAt w iv ev im bs) :
    Calls Tryd.prog 40 #[.agg #[iv, ev, .int .i64 cnt]] w fun e w' => ∃ u, e = .returned (.tuple #[u, .int .i64 (tapeG im bs cnt).1]) ∧ DecQ w w' u (tapeG im bs cnt) := by
  obtain ⟨Ai, ci, rfl, -, -⟩ := h.ims
  obtain ⟨Ae, ce, rfl, hfit⟩ := h.fit
  obtain ⟨W, hW⟩ : ∃ W, W = w.alloc (.cells #[.slice Ai im.length ci, .slice Ae bs.length ce, .int .i64 cnt] 28) := ⟨_, rfl⟩
  have hx : W.heap[w.heap.size]? = some (.cells #[.slice Ai im.length ci, .slice Ae bs.length ce, .int .i64 cnt] 28 (0, 0)) := by rw [hW]; exact Go.Deep.blk_alloc_new _ _
  have hb0 : Below w.heap.size w W := by rw [hW]; exact below_alloc _ _
  have HW : Hid (W = w.alloc (.cells #[.slice Ai im.length ci, .slice Ae bs.length ce, .int .i64 cnt] 28)) := hW
  have HX : Hid (W.heap[w.heap.size]? = some (.cells #[.slice Ai im.length ci, .slice Ae bs.length ce, .int .i64 cnt] 28 (0, 0)) ∧ Below w.heap.size w W) := ⟨hx, hb0⟩
  have HN : Hid (Calls Tryd.prog 30 #[.slice Ai im.length ci] W fun e w' => Twelve e (newNo im) ∧ Below W.heap.size W w') := GuestNew_12 _ im W (h.ims.below hb0)
  have HD : Hid (∀ X, Below w.heap.size w X → Calls Tryd.prog 75 #[.slice Ae bs.length ce] X fun e w' => ∃ u, e = .returned (.tuple #[u, .int .i64 (decD bs).1]) ∧ DecQ X w' u (decD bs)) := fun X hX => EventsOf_any _ bs X (h.evs.below hX) h.fit
  obtain ⟨G, hG⟩ : ∃ G, G = tapeG im bs cnt := ⟨_, rfl⟩
  rw [← hG]
  have HG : Hid (G = tapeG im bs cnt) := hG
  obtain ⟨q0, hq0⟩ : ∃ q, q = newNo im := ⟨_, rfl⟩
  have HQ0 : Hid (q0 = newNo im) := hq0
  rw [← hq0] at HN
  obtain ⟨⟨dn, DL⟩, hD0⟩ : ∃ D, D = decD bs := ⟨_, rfl⟩
  have HD0 : Hid ((dn, DL) = decD bs) := hD0
  rw [← hD0] at HD
  clear h hW hx hb0 hG hq0 hD0
  go_enter Tryd.func40, Tryd.ntmps40
  go_wp2_with fail
  rw [← HW.out]
  refine HN.out.mono ?_
  rintro e w1 ⟨⟨A1, n1, c1, p, b, i, wt, tb, ct, fn, A2, n2, c2, A3, n3, c3, rd, wn, rfl⟩, hb1⟩
  have hb01 : Below w.heap.size w w1 := HX.out.2.trans (hb1.mono HX.out.2.size)
  have hx1 : w1.heap[w.heap.size]? = some (.cells #[.slice Ai im.length ci, .slice Ae bs.length ce, .int .i64 cnt] 28 (0, 0)) := (hb1.block _ (lt_of_block HX.out.1)).trans HX.out.1
  have H1 : Hid (Below w.heap.size w w1 ∧ w1.heap[w.heap.size]? = some (.cells #[.slice Ai im.length ci, .slice Ae bs.length ce, .int .i64 cnt] 28 (0, 0))) := ⟨hb01, hx1⟩
  clear hb1 HN HX HW hb01 hx1
  by_cases hn : q0 = 0
  case neg =>
    have HE : Hid (G = (q0, [])) := by show _ = _; rw [HG.out, tapeG, if_pos (by rw [← HQ0.out]; exact hn), ← HQ0.out]
    have d0 : (q0 != 0) = true := by simpa using hn
    have d1 : (q0 == 0) = false := by simpa using hn
    have HNE : Hid (q0 ≠ 0) := hn
    clear hn
    go_wp2_with fail
    refine bodyPost_ret (v := .tuple #[.slice none 0 0, .int .i64 q0]) (by simp [results, Tryd.results40, go_sem]) rfl ?_
    rw [HE.out]
    exact ⟨_, rfl, DecQ.nil (H1.out.1.alloc H1.out.1.size _) HNE.out⟩
  case pos =>
    have HQ : Hid (newNo im = 0) := by show _ = _; rw [← HQ0.out]; exact hn
    subst hn
    obtain ⟨W2, hW2⟩ : ∃ W2, W2 = w1.alloc (.cells #[.slice A1 n1 c1, .int .i64 p, .int .i64 b, .bool i, .bool wt, .int .i64 tb, .int .i64 ct, .int .i64 fn, .slice A2 n2 c2, .slice A3 n3 c3, .int .i64 rd, .int .i64 wn] 30) := ⟨_, rfl⟩
    have hb2 := below_alloc w1 (.cells #[.slice A1 n1 c1, .int .i64 p, .int .i64 b, .bool i, .bool wt, .int .i64 tb, .int .i64 ct, .int .i64 fn, .slice A2 n2 c2, .slice A3 n3 c3, .int .i64 rd, .int .i64 wn] 30)
    rw [← hW2] at hb2
    have HW2 : Hid (W2 = w1.alloc (.cells #[.slice A1 n1 c1, .int .i64 p, .int .i64 b, .bool i, .bool wt, .int .i64 tb, .int .i64 ct, .int .i64 fn, .slice A2 n2 c2, .slice A3 n3 c3, .int .i64 rd, .int .i64 wn] 30)) := hW2
    have H2 : Hid (Below w.heap.size w W2 ∧ W2.heap[w.heap.size]? = some (.cells #[.slice Ai im.length ci, .slice Ae bs.length ce, .int .i64 cnt] 28 (0, 0))) := ⟨H1.out.1.trans (hb2.mono H1.out.1.size), (hb2.block _ (lt_of_block H1.out.2)).trans H1.out.2⟩
    obtain ⟨x0, x1, x2, xf, xl⟩ := three_cells H1.out.2
    have xn : ¬ w.heap.size = w1.heap.size := by omega
    obtain ⟨z0, z1, z2, zf, zl⟩ := three_cells H2.out.2
    clear hW2 hb2 H1
    cases hc : inB cnt 0 3000 with
    | false =>
      have HE : Hid (G = (2, [])) := by show _ = _; rw [HG.out, tapeG, if_neg (by rw [HQ.out]; simp), if_pos hc]
      go_wp2_with fail
      rw [← HW2.out]
      refine (In_B _ _ _ _).mono ?_
      rw [hc]
      rintro e w' ⟨rfl, hw'⟩
      rw [hw']
      clear hw' w'
      go_wp2_with fail
      refine bodyPost_ret (v := .tuple #[.slice none 0 0, .int .i64 2]) (by simp [results, Tryd.results40, go_sem]) rfl ?_
      rw [HE.out]
      exact ⟨_, rfl, DecQ.nil H2.out.1 (by decide)⟩
    | true =>
      have HG2 : Hid (G = if dn ≠ 0 then (dn, []) else if lateB cnt DL = true then (9, []) else (0, DL)) := by show _ = _; rw [HG.out, tapeG, if_neg (by rw [HQ.out]; simp), if_neg (by rw [hc]; simp), ← HD0.out]
      go_wp2_with fail
      rw [← HW2.out]
      refine (In_B _ _ _ _).mono ?_
      rw [hc]
      rintro e w' ⟨rfl, hw'⟩
      rw [hw']
      clear hw' w' x0 x1 x2 xf xl xn HQ0 HQ hc HW2
      go_wp2_with fail
      refine (HD.out _ H2.out.1).mono ?_
      rintro e w4 ⟨u, rfl, hq⟩
      have HQD : Hid (DecQ w w4 u (dn, DL)) := hq.from H2.out.1
      have m2 := (hq.old.cell (p := ⟨w.heap.size, 2, none⟩) zl).trans z2
      have ml : w.heap.size < w4.heap.size := Nat.lt_of_lt_of_le zl hq.old.size
      clear hq z0 z1 z2 zf zl HD
      by_cases hd : dn = 0
      case neg =>
        have HE : Hid (G = (dn, []) ∧ dn ≠ 0) := ⟨by rw [HG2.out, if_pos hd], hd⟩
        have d1 : (dn != 0) = true := by simpa using hd
        clear hd
        go_wp2_with fail
        refine bodyPost_ret (v := .tuple #[.slice none 0 0, .int .i64 dn]) (by simp [results, Tryd.results40, go_sem]) rfl ?_
        rw [HE.out.1]
        exact ⟨_, rfl, DecQ.nil HQD.out.old HE.out.2⟩
      case pos =>
        subst hd
        obtain ⟨Au, cu, hu, hbd, hev⟩ := HQD.out.look
        subst hu
        have HEV : Hid (DL.length * 40 ≤ 140737488351232 ∧ (0 < DL.length → ∃ b off, Au = some ⟨b, off, none⟩ ∧ b < w4.heap.size ∧ ∀ j, j < DL.length → EvAt w4 b (off + j * 3) (DL.getD j noEv))) := ⟨hbd, hev⟩
        clear hev hbd
        go_wp2_with fail
        go_loopw [7] (fun i wr => ∃ k : Nat, k ≤ DL.length ∧ i = .int .i64 (k : Int) ∧ Hid (∀ j, j < k → (DL.getD j noEv).at_ < cnt) ∧ ∃ n, wr = w4.drewN n) (fun i _ => DL.length - (intOf i).toNat)
        case atStart => exact ⟨0, Nat.zero_le _, rfl, fun j hj => absurd hj (Nat.not_lt_zero _), 0, rfl⟩
        case round =>
          obtain ⟨k, hk, rfl, ht, n, hw⟩ := hrel
          subst hw
          have hbd := HEV.out.1
          by_cases hlt : k < DL.length
          · obtain ⟨be, oe, rfl, hbe, hce⟩ := HEV.out.2 (by omega)
            have hat := (hce k hlt).1
            obtain ⟨x, hx⟩ : ∃ x, x = (DL.getD k noEv).at_ := ⟨_, rfl⟩
            rw [← hx] at hat
            have HXX : Hid (x = (DL.getD k noEv).at_) := hx
            have g1 : (k : Int) < (DL.length : Int) := by omega
            have hw2 : IntKind.i64.wrap ((k : Int) + 1) = (k : Int) + 1 := IntWalk.i64_in _ (by omega)
            clear hce hx
            by_cases hl : cnt ≤ x
            · have HE : Hid (G = (9, [])) := by show _ = _; rw [HG2.out, if_neg (by simp), if_pos (lateB_iff.2 ⟨k, hlt, by rw [← HXX.out]; exact hl⟩)]
              go_wp2_with fail
              go_quiet (fail)
              go_wp2_with fail
              refine bodyPost_ret (v := .tuple #[.slice none 0 0, .int .i64 9]) (by simp [results, Tryd.results40, go_sem]) rfl ?_
              rw [HE.out]
              exact ⟨_, rfl, DecQ.nil (below_drewN (below_drewN HQD.out.old _) _) (by decide)⟩
            · have HN : Hid (∀ j, j < k + 1 → (DL.getD j noEv).at_ < cnt) := fun j hj => by
                by_cases e : j = k
                · subst e; rw [← HXX.out]; omega
                · exact ht.out j (by omega)
              go_wp2_with fail
              go_quiet (fail)
              go_wp2_with fail
              refine ⟨⟨k + 1, by omega, by go_num, HN, _, rfl⟩, ?_⟩
              simp [intOf]; omega
          · have HE : Hid (G = (0, DL)) := by show _ = _; rw [HG2.out, if_neg (by simp), late_all (fun j hj => by have := ht.out j (by omega); omega), if_neg (by decide)]
            have g1 : ¬ (k : Int) < (DL.length : Int) := by omega
            go_wp2_with fail
            refine bodyPost_ret (v := .tuple #[.slice Au DL.length cu, .int .i64 0]) (by simp [results, Tryd.results40, go_sem]) rfl ?_
            rw [HE.out]
            exact ⟨_, rfl, HQD.out.below (below_drewN (Below.refl _ _) _)⟩

end Go.Proofs.YtbjlfhpiebokkaaDoor

/- Contract of the document's ReplayedOf. -/

namespace Go.Proofs.YtbjlfhpiebokkaaDoor
open Go.RowKit
set_option maxRecDepth 100000

set_option maxHeartbeats 4000000 in
theorem ReplayedOf_any (iv ev : Value) (im bs : List Int) (cnt n : Int) (w : World) (h : TapeAt w iv ev im bs) :
    Calls Tryd.prog 13 #[.agg #[iv, ev, .int .i64 cnt], .int .i64 n] w fun e w' => RepQ w (replayG im bs cnt n) e w' := by
  have h' := h
  obtain ⟨Ai, ci, rfl, -, -⟩ := h'.ims
  obtain ⟨Ae, ce, rfl, hfit⟩ := h'.fit
  obtain ⟨b0, b1, b2⟩ := two_boxes (Below.refl (((w.alloc (.cells #[.slice Ai im.length ci, .slice Ae bs.length ce, .int .i64 cnt] 28)).alloc (.cells zeroM 30)).heap.size) ((w.alloc (.cells #[.slice Ai im.length ci, .slice Ae bs.length ce, .int .i64 cnt] 28)).alloc (.cells zeroM 30)))
  obtain ⟨W, hW⟩ : ∃ W, W = (w.alloc (.cells #[.slice Ai im.length ci, .slice Ae bs.length ce, .int .i64 cnt] 28)).alloc (.cells zeroM 30) := ⟨_, rfl⟩
  rw [← hW] at b0 b1 b2
  have HW : Hid (W = (w.alloc (.cells #[.slice Ai im.length ci, .slice Ae bs.length ce, .int .i64 cnt] 28)).alloc (.cells zeroM 30)) := hW
  have HX : Hid (W.heap[w.heap.size]? = some (.cells #[.slice Ai im.length ci, .slice Ae bs.length ce, .int .i64 cnt] 28 (0, 0)) ∧ W.heap[w.heap.size + 1]? = some (.cells zeroM 30 (0, 0)) ∧ Below w.heap.size w W) := ⟨b0, b1, b2⟩
  have HC : Hid (Calls Tryd.prog 40 #[.agg #[.slice Ai im.length ci, .slice Ae bs.length ce, .int .i64 cnt]] W fun e w' => ∃ u, e = .returned (.tuple #[u, .int .i64 (tapeG im bs cnt).1]) ∧ DecQ W w' u (tapeG im bs cnt)) := TapeFault_any _ _ im bs cnt W (h.below b2)
  have HI : Hid (IntsAt w (.slice Ai im.length ci) im ∧ ∀ x ∈ bs, 0 ≤ x ∧ x ≤ 255) := ⟨h.ims, by
    obtain ⟨_, _, _, _, hy, _⟩ := h.evs
    exact hy⟩
  obtain ⟨G, hG⟩ : ∃ G, G = replayG im bs cnt n := ⟨_, rfl⟩
  rw [← hG]
  have HG : Hid (G = replayG im bs cnt n) := hG
  have HTO : Hid ((tapeG im bs cnt).1 = 0 → newNo im = 0 ∧ inB cnt 0 3000 = true ∧ (decD bs).1 = 0 ∧ (tapeG im bs cnt).2 = (decD bs).2) := tapeG_ok
  obtain ⟨⟨gn, GL⟩, hT⟩ : ∃ T, T = tapeG im bs cnt := ⟨_, rfl⟩
  have HT : Hid ((gn, GL) = tapeG im bs cnt) := hT
  rw [← hT] at HC HTO
  obtain ⟨x0, x1, x2, xf, xl⟩ := three_cells b0
  clear h h' hW b0 b1 b2 hG hT
  go_enter Tryd.func13, Tryd.ntmps13
  go_wp2_with fail
  rw [← HW.out]
  refine HC.out.mono ?_
  rintro e w1 ⟨u, rfl, hq⟩
  have H1 : Hid (w1.heap[w.heap.size]? = some (.cells #[.slice Ai im.length ci, .slice Ae bs.length ce, .int .i64 cnt] 28 (0, 0)) ∧ w1.heap[w.heap.size + 1]? = some (.cells zeroM 30 (0, 0)) ∧ Below w.heap.size w w1 ∧ DecQ W w1 u (gn, GL)) := ⟨(hq.old.block _ (lt_of_block HX.out.1)).trans HX.out.1, (hq.old.block _ (lt_of_block HX.out.2.1)).trans HX.out.2.1, HX.out.2.2.trans (hq.old.mono HX.out.2.2.size), hq⟩
  clear hq HC x0 x1 x2 xf xl HW
  obtain ⟨z0, z1, z2, zf, zl⟩ := three_cells H1.out.1
  by_cases hn : gn = 0
  case neg =>
    have HE : Hid (G = (noMach12, gn)) := by show _ = _; rw [HG.out, replayG, if_pos (by rw [← HT.out]; exact hn), ← HT.out]
    have d0 : (gn != 0) = true := by simpa using hn
    have d1 : (gn == 0) = false := by simpa using hn
    obtain ⟨⟨y0, y1, y2, y3, y4, y5, y6, y7, y8, y9, y10, y11⟩, yf, yl⟩ := twelve_cells H1.out.2.1
    clear hn
    dsimp only
    go_wp2_with fail
    refine bodyPost_ret (v := .tuple #[.agg zeroM, .int .i64 gn]) (by simp [results, Tryd.results13, go_sem, y0, y1, y2, y3, y4, y5, y6, y7, y8, y9, y10, y11]) rfl ?_
    rw [HE.out]
    exact repQ_no (below_set12 H1.out.2.2.1 (by omega) _ _ _ _ _ _ _ _ _ _ _ _)
  case pos =>
    subst hn
    obtain ⟨hni, -, hdz, hGL⟩ := HTO.out rfl
    have HCK : Hid (chkNo GL = 0 ∧ newNo im = 0) := ⟨by rw [show GL = (decD bs).2 from hGL]; exact (decD_back HI.out.2 hdz).2.1, hni⟩
    have HCN : Hid (cnt ≤ 3000) := by
      have h3 := (HTO.out rfl).2.1
      exact (inB_iff.1 h3).2
    obtain ⟨Au, cu, rfl, hcap⟩ := H1.out.2.2.2.fits
    have HCAP : Hid (GL.length ≤ cu) := hcap
    have HEO : Hid (EvsOld w1.heap.size w1 (.slice Au GL.length cu) GL) := (H1.out.2.2.2.look).old
    clear hni hdz hGL hcap HTO
    cases hin : inB n 0 cnt with
    | false =>
      have HE : Hid (G = (noMach12, 2)) := by show _ = _; rw [HG.out, replayG, if_neg (by rw [← HT.out]; simp), if_pos hin]
      obtain ⟨⟨y0, y1, y2, y3, y4, y5, y6, y7, y8, y9, y10, y11⟩, yf, yl⟩ := twelve_cells H1.out.2.1
      dsimp only
      go_wp2_with (go_at_call 32; refine (In_B _ _ _ _).mono ?_; rw [hin]; rintro e w' ⟨rfl, hw'⟩; rw [hw']; clear hw' w')
      refine bodyPost_ret (v := .tuple #[.agg zeroM, .int .i64 2]) (by simp [results, Tryd.results13, go_sem, y0, y1, y2, y3, y4, y5, y6, y7, y8, y9, y10, y11]) rfl ?_
      rw [HE.out]
      exact repQ_no (below_set12 H1.out.2.2.1 (by omega) _ _ _ _ _ _ _ _ _ _ _ _)
    | true =>
      obtain ⟨N, hN⟩ : ∃ N : Nat, n = (N : Int) := ⟨n.toNat, by have := (inB_iff.1 hin).1; omega⟩
      subst hN
      have HN : Hid (N ≤ 3000) := by have := (inB_iff.1 hin).2; have := HCN.out; show N ≤ 3000; omega
      have HE : Hid (G = (replayM im GL N, 0)) := by show _ = _; rw [HG.out, replayG, if_neg (by rw [← HT.out]; simp), if_neg (by rw [hin]; simp), ← HT.out, Int.toNat_natCast]
      dsimp only
      go_wp2_with (first
        | (go_at_call 32; refine (In_B _ _ _ _).mono ?_; rw [hin]; rintro e w' ⟨rfl, hw'⟩; rw [hw']; clear hw' w'))
      refine (GuestNew_ok _ im w1 (HI.out.1.below H1.out.2.2.1) HCK.out.2).mono ?_
      rintro e w3 ⟨rv, mv, ov, rfl, ho3, hb3⟩
      obtain ⟨A1, d1, A2, d2, A3, d3, rfl, rfl, rfl⟩ := ho3.shape
      have H3 : Hid (OwnM w3 w1.heap.size (.slice A1 (newM im).regs.length d1) (.slice A2 (newM im).mem.length d2) (.slice A3 (newM im).out.length d3) (newM im) ∧ Below w.heap.size w w3 ∧ w3.heap[w.heap.size + 1]? = some (.cells zeroM 30 (0, 0)) ∧ EvsOld w1.heap.size w3 (.slice Au GL.length cu) GL ∧ w1.heap.size ≤ w3.heap.size ∧ w.heap.size ≤ w1.heap.size) := ⟨ho3, H1.out.2.2.1.trans (hb3.mono H1.out.2.2.1.size), (hb3.block _ (lt_of_block H1.out.2.1)).trans H1.out.2.1, HEO.out.below hb3, hb3.size, H1.out.2.2.1.size⟩
      obtain ⟨M0, hM0⟩ : ∃ M0, M0 = newM im := ⟨_, rfl⟩
      rw [← hM0] at H3 ⊢
      have HM0 : Hid (M0 = newM im) := hM0
      clear ho3 hb3 z0 z1 z2 zf zl H1 hin hM0 HEO HX
      simp only [Mach.cells]
      go_wp2_with fail
      go_loopw [10] (fun i wr => ∃ (k : Nat) (M : Mach) (B1 : Option Addr) (e1 : Nat) (B2 : Option Addr) (e2 : Nat) (B3 : Option Addr) (e3 : Nat), k ≤ N ∧ i = .int .i64 (k : Int) ∧ Hid (M = replayM im GL k ∧ wr.heap[w3.heap.size]? = some (.cells (M.cells (.slice B1 M.regs.length e1) (.slice B2 M.mem.length e2) (.slice B3 M.out.length e3)) 30 (0, 0)) ∧ OwnM wr w1.heap.size (.slice B1 M.regs.length e1) (.slice B2 M.mem.length e2) (.slice B3 M.out.length e3) M ∧ Below w1.heap.size w3 wr ∧ KeptM w3 wr)) (fun i _ => N - (intOf i).toNat)
      case atStart => exact ⟨0, M0, A1, d1, A2, d2, A3, d3, Nat.zero_le _, rfl, HM0.out, Go.Deep.blk_alloc_new _ _, H3.out.1.below (below_alloc _ _), (below_alloc _ _).mono H3.out.2.2.2.2.1, fun g cur hg => by rw [(below_alloc w3 _).block g (lt_of_block hg)]; exact hg⟩
      case round =>
        obtain ⟨k, M, B1, e1, B2, e2, B3, e3, hk, rfl, HR⟩ := hrel
        obtain ⟨⟨z0, z1, z2, z3, z4, z5, z6, z7, z8, z9, z10, z11⟩, zf, zl⟩ := twelve_cells HR.out.2.1
        by_cases hlt : k < N
        · have hl : (k : Int) < (N : Int) := by omega
          have hw2 : IntKind.i64.wrap ((k : Int) + 1) = (k : Int) + 1 := IntWalk.i64_in _ (by have := HN.out; omega)
          have HMM : Hid (MayP M ∧ M.count < 1099511627776) := by
            have := replay_may HCK.out.2 HCK.out.1 k (by have := HN.out; omega)
            rw [← HR.out.1] at this
            exact ⟨this.1, by have := this.2; have := HN.out; omega⟩
          have HKL : Hid (k < N) := hlt
          have hst := onward_any M (.slice B1 M.regs.length e1) (.slice B2 M.mem.length e2) (.slice B3 M.out.length e3) Au cu GL (k : Int) wr w1.heap.size HR.out.2.2.1 HMM.out.1 (by have := HR.out.2.2.2.1.size; have := H3.out.2.2.2.2.1; omega) (H3.out.2.2.2.1.below HR.out.2.2.2.1) HCK.out.1 HMM.out.2
          obtain ⟨R, hR⟩ : ∃ R, R = M.step (toldL (k : Int) GL).irq (toldL (k : Int) GL).blk (toldL (k : Int) GL).val := ⟨_, rfl⟩
          rw [← hR] at hst
          have HST : Hid (Calls Tryd.prog 41 #[.agg (M.cells (.slice B1 M.regs.length e1) (.slice B2 M.mem.length e2) (.slice B3 M.out.length e3)), .slice Au GL.length cu, .int .i64 (k : Int)] wr fun e w' => ∃ rv' mv' ov', e = .returned (.tuple #[.agg (R.1.cells rv' mv' ov'), .int .i64 R.2]) ∧ OwnM w' w1.heap.size rv' mv' ov' R.1 ∧ Below w1.heap.size wr w' ∧ KeptM wr w') := hst
          have HRR : Hid (R.1 = replayM im GL (k + 1)) := by show _ = _; rw [hR, HR.out.1]; rfl
          simp only [Mach.cells] at HST
          clear hst hR hlt
          go_wp2_with fail
          refine HST.out.mono ?_
          rintro e w6 ⟨rv', mv', ov', rfl, ho6, hb6, hk6⟩
          obtain ⟨D1, f1, D2, f2, D3, f3, rfl, rfl, rfl⟩ := ho6.shape
          have hx6 := hk6 _ _ HR.out.2.1
          clear z0 z1 z2 z3 z4 z5 z6 z7 z8 z9 z10 z11 zf zl HST
          obtain ⟨⟨z0, z1, z2, z3, z4, z5, z6, z7, z8, z9, z10, z11⟩, zf, zl⟩ := twelve_cells hx6
          have H6 : Hid (OwnM w6 w1.heap.size (.slice D1 R.1.regs.length f1) (.slice D2 R.1.mem.length f2) (.slice D3 R.1.out.length f3) R.1 ∧ w6.heap[w3.heap.size]? = some (.cells (M.cells (.slice B1 M.regs.length e1) (.slice B2 M.mem.length e2) (.slice B3 M.out.length e3)) 30 (0, 0)) ∧ Below w1.heap.size w3 w6 ∧ KeptM w3 w6 ∧ w1.heap.size ≤ w3.heap.size) := ⟨ho6, hx6, HR.out.2.2.2.1.trans hb6, fun g cur hg => hk6 g cur (HR.out.2.2.2.2 g cur hg), H3.out.2.2.2.2.1⟩
          clear ho6 hb6 hx6 hk6
          simp only
          go_wp2_with fail
          refine ⟨⟨k + 1, R.1, D1, f1, D2, f2, D3, f3, HKL.out, by go_num, HRR.out, box_set12 H6.out.2.1 rfl _ _ _ _ _ _ _ _ _ _ _ _, H6.out.1.set12 ⟨_, H6.out.2.1⟩ _ _ _ _ _ _ _ _ _ _ _ _, below_set12 H6.out.2.2.1 H6.out.2.2.2.2 _ _ _ _ _ _ _ _ _ _ _ _, keptM_set12 H6.out.2.2.2.1 (Nat.le_refl _) _ _ _ _ _ _ _ _ _ _ _ _⟩, ?_⟩
          have := HKL.out
          simp [intOf]; omega
        · have e : k = N := by omega
          subst e
          have hl : ¬ (k : Int) < (k : Int) := by omega
          have hr : wr.heap[w.heap.size + 1]? = some (.cells zeroM 30 (0, 0)) := HR.out.2.2.2.2 _ _ H3.out.2.2.1
          obtain ⟨⟨y0, y1, y2, y3, y4, y5, y6, y7, y8, y9, y10, y11⟩, yf, yl⟩ := twelve_cells hr
          have HEND : Hid (OwnM wr w1.heap.size (.slice B1 M.regs.length e1) (.slice B2 M.mem.length e2) (.slice B3 M.out.length e3) M ∧ IsBox wr (w.heap.size + 1) ∧ Below w.heap.size w wr ∧ MayP M ∧ M = replayM im GL k) := ⟨HR.out.2.2.1, ⟨_, hr⟩, H3.out.2.1.trans (HR.out.2.2.2.1.mono H3.out.2.2.2.2.2), by have := (replay_may HCK.out.2 HCK.out.1 k HN.out).1; rwa [← HR.out.1] at this, HR.out.1⟩
          clear hr hlt
          go_wp2_with fail
          refine bodyPost_ret (v := .tuple #[.agg #[.slice B1 M.regs.length e1, .int .i64 M.pc, .int .i64 M.back, .bool M.ints, .bool M.wait, .int .i64 M.table, .int .i64 M.count, .int .i64 M.fin, .slice B2 M.mem.length e2, .slice B3 M.out.length e3, .int .i64 M.ready, .int .i64 M.want], .int .i64 0]) (by simp [results, Tryd.results13, go_sem, y0, y1, y2, y3, y4, y5, y6, y7, y8, y9, y10, y11]) rfl ?_
          rw [HE.out, ← HEND.out.2.2.2.2]
          exact ⟨B1, e1, B2, e2, B3, e3, rfl, (HEND.out.1.set12 HEND.out.2.1 _ _ _ _ _ _ _ _ _ _ _ _).at HEND.out.2.2.2.1.fits, below_set12 HEND.out.2.2.1 (by omega) _ _ _ _ _ _ _ _ _ _ _ _⟩

end Go.Proofs.YtbjlfhpiebokkaaDoor
