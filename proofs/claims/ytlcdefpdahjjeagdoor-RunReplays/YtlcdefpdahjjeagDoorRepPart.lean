/- Contract of run.Replay. -/
import Derived.Test.YtlcdefpdahjjeagDoorSpWPart
import Derived.Test.YtlcdefpdahjjeagDoorStepDPart
import Derived.Test.YtlcdefpdahjjeagDoorByDPart
import Derived.Test.YtlcdefpdahjjeagDoorByPart
namespace Go.Proofs.YtlcdefpdahjjeagDoor
open Go.RowKit
set_option maxRecDepth 100000

theorem EvsOld.at {lo : Nat} {w : World} {v : Value} {L : List Ev} (h : EvsOld lo w v L) (hlo : lo ≤ w.heap.size) : EvsAt w v L := by
  obtain ⟨A, c, rfl⟩ := h.shape
  refine ⟨A, c, rfl, h.bound, fun h0 => ?_⟩
  obtain ⟨b, off, rfl, hb, hj⟩ := h.each A c rfl h0
  refine ⟨b, off, rfl, Nat.lt_of_lt_of_le hb hlo, fun j hjl => ?_⟩
  obtain ⟨h1, h2, u, h3, Au, cu, rfl, hl, hc⟩ := hj j hjl
  refine ⟨h1, h2, _, h3, Au, cu, rfl, hl, fun h0 => ?_⟩
  obtain ⟨b', off', rfl, hb', hj'⟩ := hc h0
  exact ⟨b', off', rfl, Nat.lt_of_lt_of_le hb' hlo, hj'⟩
theorem EvsOld.mono {lo lo' : Nat} {w : World} {v : Value} {L : List Ev} (h : EvsOld lo w v L) (hl : lo ≤ lo') : EvsOld lo' w v L := by
  refine ⟨h.shape, h.bound, fun A c e h0 => ?_⟩
  obtain ⟨b, off, rfl, hb, hj⟩ := h.each A c e h0
  refine ⟨b, off, rfl, by omega, fun j hjl => ?_⟩
  obtain ⟨h1, h2, u, h3, Au, cu, rfl, hl2, hc⟩ := hj j hjl
  refine ⟨h1, h2, _, h3, Au, cu, rfl, hl2, fun h0 => ?_⟩
  obtain ⟨b', off', rfl, hb', hj'⟩ := hc h0
  exact ⟨b', off', rfl, by omega, hj'⟩
/-- The events of a tape that may be, as a slice with room. -/
theorem DecQ.fits {w w' : World} {u : Value} {L : List Ev} (h : DecQ w w' u (0, L)) : ∃ A c, u = .slice A L.length c ∧ L.length ≤ c := by
  obtain ⟨R, hR, ho, hR1, hR2⟩ := h.ok rfl
  have hl : R.length = L.length := by
    have := congrArg List.length hR
    simpa using this
  rcases ho.row.2 with ⟨rfl, h0⟩ | ⟨g, cap, cur, rfl, _, hh, h1, _⟩
  · exact ⟨none, 0, by rw [← hl, h0], by omega⟩
  · exact ⟨_, cap, by rw [hl], by omega⟩
theorem stepNo_zero {m : Mach} (hm : MayP m) {t : Tl} (ht : TlMay t) (hc : m.count < 1099511627776) : stepNo m t.blk t.val = 0 := by
  have h1 : (m.count == 1099511627776) = false := by simp; omega
  unfold stepNo
  rw [mayP_iff.2 hm, ht.all, ht.val, h1]
  rcases ht.len with e | e <;> simp [e]

/-- What a replay answers. -/
def RepQ (w : World) (G : Mach × Int) (e : Ending) (w' : World) : Prop :=
  ∃ A1 d1 A2 d2 A3 d3, e = .returned (.tuple #[.agg (G.1.cells (.slice A1 G.1.regs.length d1) (.slice A2 G.1.mem.length d2) (.slice A3 G.1.out.length d3)), .int .i64 G.2]) ∧ MachAt w' (.slice A1 G.1.regs.length d1) (.slice A2 G.1.mem.length d2) (.slice A3 G.1.out.length d3) G.1 ∧ Below w.heap.size w w'
theorem repQ_no {w w' : World} {no : Int} (hb : Below w.heap.size w w') : RepQ w (noMach12, no) (.returned (.tuple #[.agg zeroM, .int .i64 no])) w' :=
  ⟨none, 0, none, 0, none, 0, rfl, ⟨⟨none, 0, rfl, by simp [noMach12], fun h => by simp [noMach12] at h⟩, ⟨none, 0, rfl, by simp [noMach12], fun h => by simp [noMach12] at h⟩, ⟨none, 0, rfl, by simp [noMach12], fun h => by simp [noMach12] at h⟩⟩, hb⟩

set_option maxHeartbeats 4000000 in
theorem Replay_any (iv ev : Value) (im bs : List Int) (cnt n : Int) (w : World) (h : TapeAt w iv ev im bs) (hL : Laid w) :
    Calls Tryd.prog 16 #[.agg #[iv, ev, .int .i64 cnt], .int .i64 n] w fun e w' => RepQ w (replayG im bs cnt n) e w' := by
  have h' := h
  obtain ⟨Ai, ci, rfl, -, -⟩ := h'.ims
  obtain ⟨Ae, ce, rfl, hfit⟩ := h'.fit
  obtain ⟨b0, b1, b2⟩ := two_boxes (Below.refl (((w.alloc (.cells #[.slice Ai im.length ci, .slice Ae bs.length ce, .int .i64 cnt] 28)).alloc (.cells zeroM 30)).heap.size) ((w.alloc (.cells #[.slice Ai im.length ci, .slice Ae bs.length ce, .int .i64 cnt] 28)).alloc (.cells zeroM 30)))
  obtain ⟨W, hW⟩ : ∃ W, W = (w.alloc (.cells #[.slice Ai im.length ci, .slice Ae bs.length ce, .int .i64 cnt] 28)).alloc (.cells zeroM 30) := ⟨_, rfl⟩
  rw [← hW] at b0 b1 b2
  have HW : Hid (W = (w.alloc (.cells #[.slice Ai im.length ci, .slice Ae bs.length ce, .int .i64 cnt] 28)).alloc (.cells zeroM 30)) := hW
  have HX : Hid (W.heap[w.heap.size]? = some (.cells #[.slice Ai im.length ci, .slice Ae bs.length ce, .int .i64 cnt] 28 (0, 0)) ∧ W.heap[w.heap.size + 1]? = some (.cells zeroM 30 (0, 0)) ∧ Below w.heap.size w W) := ⟨b0, b1, b2⟩
  have HC : Hid (Calls Tryd.prog 13 #[.agg #[.slice Ai im.length ci, .slice Ae bs.length ce, .int .i64 cnt]] W fun e w' => ∃ u, e = .returned (.tuple #[u, .int .i64 (tapeG im bs cnt).1]) ∧ DecQ W w' u (tapeG im bs cnt)) := RunCheck_any _ _ im bs cnt W (h.below b2) (hL.below b2)
  have HI : Hid (IntsAt w (.slice Ai im.length ci) im ∧ ∀ x ∈ bs, 0 ≤ x ∧ x ≤ 255) := ⟨h.ims, by
    obtain ⟨_, _, _, _, hy, _⟩ := h.evs
    exact hy⟩
  obtain ⟨G, hG⟩ : ∃ G, G = replayG im bs cnt n := ⟨_, rfl⟩
  rw [← hG]
  have HG : Hid (G = replayG im bs cnt n) := hG
  have HTO : Hid ((tapeG im bs cnt).1 = 0 → newNo im = 0 ∧ inB cnt 0 3000 = true ∧ (decD bs).1 = 0 ∧ (tapeG im bs cnt).2 = (decD bs).2) := tapeG_ok
  obtain ⟨⟨gn, GL⟩, hT⟩ : ∃ T, T = tapeG im bs cnt := ⟨_, rfl⟩
  have HT : Hid ((gn, GL) = tapeG im bs cnt) := hT
  rw [← hT] at HC HTO
  obtain ⟨x0, x1, x2, xf, xl⟩ := three_cells b0
  clear h h' hL hW b0 b1 b2 hG hT
  go_enter Tryd.func16, Tryd.ntmps16
  go_wp2_with fail
  rw [← HW.out]
  refine HC.out.mono ?_
  rintro e w1 ⟨u, rfl, hq⟩
  have H1 : Hid (w1.heap[w.heap.size]? = some (.cells #[.slice Ai im.length ci, .slice Ae bs.length ce, .int .i64 cnt] 28 (0, 0)) ∧ w1.heap[w.heap.size + 1]? = some (.cells zeroM 30 (0, 0)) ∧ Below w.heap.size w w1 ∧ DecQ W w1 u (gn, GL)) := ⟨(hq.old.block _ (lt_of_block HX.out.1)).trans HX.out.1, (hq.old.block _ (lt_of_block HX.out.2.1)).trans HX.out.2.1, HX.out.2.2.trans (hq.old.mono HX.out.2.2.size), hq⟩
  clear hq HC x0 x1 x2 xf xl HW
  obtain ⟨z0, z1, z2, zf, zl⟩ := three_cells H1.out.1
  by_cases hn : gn = 0
  case neg =>
    have HE : Hid (G = (noMach12, gn)) := by show _ = _; rw [HG.out, replayG, if_pos (by rw [← HT.out]; exact hn), ← HT.out]
    have d0 : (gn != 0) = true := by simpa using hn
    obtain ⟨⟨y0, y1, y2, y3, y4, y5, y6, y7, y8, y9, y10, y11⟩, yf, yl⟩ := twelve_cells H1.out.2.1
    clear hn
    dsimp only
    go_wp2_with fail
    refine bodyPost_ret (v := .tuple #[.agg zeroM, .int .i64 gn]) (by simp [results, Tryd.results16, go_sem, y0, y1, y2, y3, y4, y5, y6, y7, y8, y9, y10, y11]) rfl ?_
    rw [HE.out]
    exact repQ_no (below_set12 H1.out.2.2.1 (by omega) _ _ _ _ _ _ _ _ _ _ _ _)
  case pos =>
    subst hn
    obtain ⟨hni, -, hdz, hGL⟩ := HTO.out rfl
    have HCK : Hid (chkNo GL = 0 ∧ newNo im = 0) := ⟨by rw [show GL = (decD bs).2 from hGL]; exact (decD_back HI.out.2 hdz).2.1, hni⟩
    have HCN : Hid (cnt ≤ 3000) := by
      have h3 := (HTO.out rfl).2.1
      exact (inB_iff.1 h3).2
    obtain ⟨Au, cu, rfl, hcap⟩ := H1.out.2.2.2.fits
    have HCAP : Hid (GL.length ≤ cu) := hcap
    have HEO : Hid (EvsOld w1.heap.size w1 (.slice Au GL.length cu) GL) := (H1.out.2.2.2.look).old
    clear hni hdz hGL hcap HTO
    cases hin : inB n 0 cnt with
    | false =>
      have HE : Hid (G = (noMach12, 2)) := by show _ = _; rw [HG.out, replayG, if_neg (by rw [← HT.out]; simp), if_pos hin]
      dsimp only
      go_wp2_with fail
      refine (outsideR_any _ _ _).mono ?_
      rintro e w2 ⟨p, q, rfl, hc2, hb2⟩
      have HC2 : Hid (CloAtR w2 p q 0 cnt ∧ Below w.heap.size w w2) := ⟨hc2, H1.out.2.2.1.trans (hb2.mono H1.out.2.2.1.size)⟩
      obtain ⟨⟨y0, y1, y2, y3, y4, y5, y6, y7, y8, y9, y10, y11⟩, yf, yl⟩ := twelve_cells ((hb2.block _ (lt_of_block H1.out.2.1)).trans H1.out.2.1)
      clear hc2 hb2 z0 z1 z2 zf zl
      go_wp2_with (go_at_call 78; refine (cloR_any n 0 cnt p q _ HC2.out.1).mono ?_; rw [hin]; rintro e w' ⟨rfl, hw'⟩; rw [hw']; clear hw' w')
      refine bodyPost_ret (v := .tuple #[.agg zeroM, .int .i64 2]) (by simp [results, Tryd.results16, go_sem, y0, y1, y2, y3, y4, y5, y6, y7, y8, y9, y10, y11]) rfl ?_
      rw [HE.out]
      exact repQ_no (below_set12 HC2.out.2 (by omega) _ _ _ _ _ _ _ _ _ _ _ _)
    | true =>
      obtain ⟨N, hN⟩ : ∃ N : Nat, n = (N : Int) := ⟨n.toNat, by have := (inB_iff.1 hin).1; omega⟩
      subst hN
      have HN : Hid (N ≤ 3000) := by have := (inB_iff.1 hin).2; have := HCN.out; show N ≤ 3000; omega
      have HE : Hid (G = (replayM im GL N, 0)) := by show _ = _; rw [HG.out, replayG, if_neg (by rw [← HT.out]; simp), if_neg (by rw [hin]; simp), ← HT.out, Int.toNat_natCast]
      dsimp only
      go_wp2_with fail
      refine (outsideR_any _ _ _).mono ?_
      rintro e w2 ⟨p, q, rfl, hc2, hb2⟩
      have HC2 : Hid (CloAtR w2 p q 0 cnt ∧ Below w.heap.size w w2) := ⟨hc2, H1.out.2.2.1.trans (hb2.mono H1.out.2.2.1.size)⟩
      have H2 : Hid (w2.heap[w.heap.size]? = some (.cells #[.slice Ai im.length ci, .slice Ae bs.length ce, .int .i64 cnt] 28 (0, 0)) ∧ w2.heap[w.heap.size + 1]? = some (.cells zeroM 30 (0, 0)) ∧ EvsOld w2.heap.size w2 (.slice Au GL.length cu) GL) := ⟨(hb2.block _ (lt_of_block H1.out.1)).trans H1.out.1, (hb2.block _ (lt_of_block H1.out.2.1)).trans H1.out.2.1, (HEO.out.below hb2).mono hb2.size⟩
      clear hc2 hb2 z0 z1 z2 zf zl HEO H1 HX
      obtain ⟨z0, z1, z2, zf, zl⟩ := three_cells H2.out.1
      go_wp2_with (first
        | (go_at_call 78; refine (cloR_any (N : Int) 0 cnt p q _ HC2.out.1).mono ?_; rw [hin]; rintro e w' ⟨rfl, hw'⟩; rw [hw']; clear hw' w'))
      refine (New_ok _ im w2 (HI.out.1.below HC2.out.2) HCK.out.2).mono ?_
      rintro e w3 ⟨rv, mv, ov, rfl, ho3, hb3⟩
      obtain ⟨A1, d1, A2, d2, A3, d3, rfl, rfl, rfl⟩ := ho3.shape
      have H3 : Hid (OwnM w3 w2.heap.size (.slice A1 (newM im).regs.length d1) (.slice A2 (newM im).mem.length d2) (.slice A3 (newM im).out.length d3) (newM im) ∧ Below w.heap.size w w3 ∧ w3.heap[w.heap.size + 1]? = some (.cells zeroM 30 (0, 0)) ∧ EvsOld w3.heap.size w3 (.slice Au GL.length cu) GL ∧ w2.heap.size ≤ w3.heap.size) := ⟨ho3, HC2.out.2.trans (hb3.mono HC2.out.2.size), (hb3.block _ (lt_of_block H2.out.2.1)).trans H2.out.2.1, (H2.out.2.2.below hb3).mono hb3.size, hb3.size⟩
      have hml : (newM im).regs.length = (newM im).regs.length := rfl
      obtain ⟨M0, hM0⟩ : ∃ M0, M0 = newM im := ⟨_, rfl⟩
      rw [← hM0] at H3 ⊢
      have HM0 : Hid (M0 = newM im) := hM0
      clear ho3 hb3 z0 z1 z2 zf zl H2 HC2 hin hM0 hml
      simp only [Mach.cells]
      go_wp2_with fail
      go_loopw [7, 9] (fun ev i wr => ∃ (k : Nat) (M : Mach) (B1 : Option Addr) (e1 : Nat) (B2 : Option Addr) (e2 : Nat) (B3 : Option Addr) (e3 : Nat), k ≤ N ∧ ev = .int .i64 0 ∧ i = .int .i64 (k : Int) ∧ Hid (M = replayM im GL k ∧ wr.heap[w3.heap.size]? = some (.cells (M.cells (.slice B1 M.regs.length e1) (.slice B2 M.mem.length e2) (.slice B3 M.out.length e3)) 30 (0, 0)) ∧ OwnM wr w2.heap.size (.slice B1 M.regs.length e1) (.slice B2 M.mem.length e2) (.slice B3 M.out.length e3) M ∧ Below w3.heap.size w3 wr)) (fun _ i _ => N - (intOf i).toNat)
      case atStart => exact ⟨0, M0, A1, d1, A2, d2, A3, d3, Nat.zero_le _, rfl, rfl, HM0.out, Go.Deep.blk_alloc_new _ _, H3.out.1.below (below_alloc _ _), below_alloc _ _⟩
      case round =>
        obtain ⟨k, M, B1, e1, B2, e2, B3, e3, hk, rfl, rfl, HR⟩ := hrel
        obtain ⟨⟨z0, z1, z2, z3, z4, z5, z6, z7, z8, z9, z10, z11⟩, zf, zl⟩ := twelve_cells HR.out.2.1
        by_cases hlt : k < N
        · have hl : (k : Int) < (N : Int) := by omega
          have hw2 : IntKind.i64.wrap ((k : Int) + 1) = (k : Int) + 1 := IntWalk.i64_in _ (by have := HN.out; omega)
          have HMM : Hid (MayP M ∧ M.count < 1099511627776) := by
            have := replay_may HCK.out.2 HCK.out.1 k (by have := HN.out; omega)
            rw [← HR.out.1] at this
            exact ⟨this.1, by have := this.2; have := HN.out; omega⟩
          have HKL : Hid (k < N) := hlt
          clear z0 z1 z2 z3 z4 z5 z6 z7 z8 z9 z10 z11 zf zl hlt
          go_wp2_with fail
          refine (told_any Au cu GL (k : Int) wr ((H3.out.2.2.2.1.below HR.out.2.2.2).at HR.out.2.2.2.size) HCK.out.1 HCAP.out).mono ?_
          rintro e w5 ⟨B, cb, rfl, hi5, hb5⟩
          obtain ⟨T, hTT⟩ : ∃ T, T = toldL (k : Int) GL := ⟨_, rfl⟩
          rw [← hTT] at hi5 ⊢
          have HTL : Hid (T = toldL (k : Int) GL ∧ TlMay T) := ⟨hTT, by rw [hTT]; exact toldL_may HCK.out.1 _⟩
          have hx5 := (hb5.block _ (lt_of_block HR.out.2.1)).trans HR.out.2.1
          obtain ⟨⟨z0, z1, z2, z3, z4, z5, z6, z7, z8, z9, z10, z11⟩, zf, zl⟩ := twelve_cells hx5
          have hst := Step_ok M (.slice B1 M.regs.length e1) (.slice B2 M.mem.length e2) (.slice B3 M.out.length e3) T.irq B cb T.blk T.val w5 ((HR.out.2.2.1.below hb5).at HMM.out.1.fits) hi5 HMM.out.1 HTL.out.2.all HTL.out.2.len HMM.out.2 (stepNo_zero HMM.out.1 HTL.out.2 HMM.out.2)
          obtain ⟨R, hR⟩ : ∃ R, R = M.step T.irq T.blk T.val := ⟨_, rfl⟩
          rw [← hR] at hst
          have HST : Hid (Calls Tryd.prog 25 #[.agg (M.cells (.slice B1 M.regs.length e1) (.slice B2 M.mem.length e2) (.slice B3 M.out.length e3)), .bool T.irq, .slice B T.blk.length cb, .int .i64 T.val] w5 fun e w' => ∃ rv' mv' ov', e = .returned (.tuple #[.agg (R.1.cells rv' mv' ov'), .int .i64 R.2, .int .i64 0]) ∧ OwnM w' w5.heap.size rv' mv' ov' R.1 ∧ Below w5.heap.size w5 w') := hst
          have H5 : Hid (w5.heap[w3.heap.size]? = some (.cells (M.cells (.slice B1 M.regs.length e1) (.slice B2 M.mem.length e2) (.slice B3 M.out.length e3)) 30 (0, 0)) ∧ Below w3.heap.size w3 w5 ∧ w2.heap.size ≤ w5.heap.size ∧ R.1 = replayM im GL (k + 1)) := ⟨hx5, HR.out.2.2.2.trans (hb5.mono HR.out.2.2.2.size), by have := H3.out.2.2.2.2; have := HR.out.2.2.2.size; have := hb5.size; omega, by rw [hR, HTL.out.1, HR.out.1]; rfl⟩
          simp only [Mach.cells] at HST
          clear hst hR hi5 hb5 hx5 hTT
          dsimp only
          go_wp2_with fail
          refine HST.out.mono ?_
          rintro e w6 ⟨rv', mv', ov', rfl, ho6, hb6⟩
          obtain ⟨D1, f1, D2, f2, D3, f3, rfl, rfl, rfl⟩ := ho6.shape
          have hx6 := (hb6.block _ (lt_of_block H5.out.1)).trans H5.out.1
          clear z0 z1 z2 z3 z4 z5 z6 z7 z8 z9 z10 z11 zf zl HST
          obtain ⟨⟨z0, z1, z2, z3, z4, z5, z6, z7, z8, z9, z10, z11⟩, zf, zl⟩ := twelve_cells hx6
          have H6 : Hid (OwnM w6 w2.heap.size (.slice D1 R.1.regs.length f1) (.slice D2 R.1.mem.length f2) (.slice D3 R.1.out.length f3) R.1 ∧ w6.heap[w3.heap.size]? = some (.cells (M.cells (.slice B1 M.regs.length e1) (.slice B2 M.mem.length e2) (.slice B3 M.out.length e3)) 30 (0, 0)) ∧ Below w3.heap.size w3 w6) := ⟨ho6.mono H5.out.2.2.1, hx6, H5.out.2.1.trans (hb6.mono H5.out.2.1.size)⟩
          clear ho6 hb6 hx6
          simp only
          go_wp2_with fail
          refine ⟨⟨k + 1, R.1, D1, f1, D2, f2, D3, f3, HKL.out, rfl, by go_num, H5.out.2.2.2, box_set12 H6.out.2.1 rfl _ _ _ _ _ _ _ _ _ _ _ _, H6.out.1.set12 ⟨_, H6.out.2.1⟩ _ _ _ _ _ _ _ _ _ _ _ _, below_set12 H6.out.2.2 (Nat.le_refl _) _ _ _ _ _ _ _ _ _ _ _ _⟩, ?_⟩
          have := HKL.out
          simp [intOf]; omega
        · have e : k = N := by omega
          subst e
          have hl : ¬ (k : Int) < (k : Int) := by omega
          have hr : wr.heap[w.heap.size + 1]? = some (.cells zeroM 30 (0, 0)) := (HR.out.2.2.2.block _ (lt_of_block H3.out.2.2.1)).trans H3.out.2.2.1
          obtain ⟨⟨y0, y1, y2, y3, y4, y5, y6, y7, y8, y9, y10, y11⟩, yf, yl⟩ := twelve_cells hr
          have HEND : Hid (OwnM wr w2.heap.size (.slice B1 M.regs.length e1) (.slice B2 M.mem.length e2) (.slice B3 M.out.length e3) M ∧ IsBox wr (w.heap.size + 1) ∧ Below w.heap.size w wr ∧ MayP M ∧ M = replayM im GL k) := ⟨HR.out.2.2.1, ⟨_, hr⟩, H3.out.2.1.trans (HR.out.2.2.2.mono H3.out.2.1.size), by have := (replay_may HCK.out.2 HCK.out.1 k HN.out).1; rwa [← HR.out.1] at this, HR.out.1⟩
          clear hr hlt
          go_wp2_with fail
          refine bodyPost_ret (v := .tuple #[.agg #[.slice B1 M.regs.length e1, .int .i64 M.pc, .int .i64 M.back, .bool M.ints, .bool M.wait, .int .i64 M.table, .int .i64 M.count, .int .i64 M.fin, .slice B2 M.mem.length e2, .slice B3 M.out.length e3, .int .i64 M.ready, .int .i64 M.want], .int .i64 0]) (by simp [results, Tryd.results16, go_sem, y0, y1, y2, y3, y4, y5, y6, y7, y8, y9, y10, y11]) rfl ?_
          rw [HE.out, ← HEND.out.2.2.2.2]
          exact ⟨B1, e1, B2, e2, B3, e3, rfl, (HEND.out.1.set12 HEND.out.2.1 _ _ _ _ _ _ _ _ _ _ _ _).at HEND.out.2.2.2.1.fits, below_set12 HEND.out.2.2.1 (by omega) _ _ _ _ _ _ _ _ _ _ _ _⟩

end Go.Proofs.YtlcdefpdahjjeagDoor

/- The document's reader of bytes: what it is in memory; contracts of tape.next and tape.zig. -/

namespace Go.Proofs.YtlcdefpdahjjeagDoor
open Go.RowKit
set_option maxRecDepth 100000

/-- The tape that lies there is over these bytes, at this place, with this fault. -/
structure TpAt (w : World) (lo b : Nat) (v : Value) (l : List Int) (i : Nat) (e : Int) : Prop where
  box : w.heap[b]? = some (.cells #[v, .int .i64 i, .int .i64 e] 117 (0, 0))
  own : lo ≤ b
  bys : Bys w lo v l
  le : i ≤ l.length
theorem TpAt.lt {w : World} {lo b i : Nat} {v : Value} {l : List Int} {e : Int} (h : TpAt w lo b v l i e) : b < w.heap.size := lt_of_block h.box
theorem TpAt.below {w w' : World} {lo b i : Nat} {v : Value} {l : List Int} {e : Int} (h : TpAt w lo b v l i e) (hb : Below w.heap.size w w') : TpAt w' lo b v l i e :=
  ⟨by rw [hb.block b h.lt]; exact h.box, h.own, h.bys.below (hb.mono (by have := h.own; have := h.lt; omega)), h.le⟩
theorem Sans.setAny {b lo : Nat} (w : World) (h : lo ≤ b) (i : Nat) (u : Value) : Sans b lo w (w.setCell ⟨b, i, none⟩ u) :=
  ⟨(Below.refl _ w).setCell (p := ⟨b, i, none⟩) h u, by simp [World.setCell], fun g hg hn => Below.heap_setCell _ _ _ _ hn⟩
theorem TpAt.setI {w : World} {lo b i : Nat} {v : Value} {l : List Int} {e : Int} (h : TpAt w lo b v l i e) (j : Nat) (hj : j ≤ l.length) : TpAt (w.setCell ⟨b, 1, none⟩ (.int .i64 j)) lo b v l j e :=
  ⟨by rw [box1_set h.box]; rfl, h.own, h.bys.below ((Below.refl _ w).setCell (p := ⟨b, 1, none⟩) h.own _), hj⟩
theorem TpAt.setE {w : World} {lo b i : Nat} {v : Value} {l : List Int} {e : Int} (h : TpAt w lo b v l i e) (e' : Int) : TpAt (w.setCell ⟨b, 2, none⟩ (.int .i64 e')) lo b v l i e' :=
  ⟨by rw [box1_set h.box]; rfl, h.own, h.bys.below ((Below.refl _ w).setCell (p := ⟨b, 2, none⟩) h.own _), h.le⟩

theorem next_idle (b lo i : Nat) (v : Value) (l : List Int) (e : Int) (w : World) (h : TpAt w lo b v l i e) (he : e ≠ 0) :
    Calls Tryd.prog 76 #[.pointer (some ⟨b, 0, none⟩)] w fun e' w' => e' = .returned (.int .i64 0) ∧ w' = w := by
  obtain ⟨c0, c1, c2, cf, cl⟩ := three_cells h.box
  have he' : (e == 0) = false := by simpa using he
  clear h
  go_enter Tryd.func76, Tryd.ntmps76
  go_wp2_with fail
  go_loopw [3, 4, 5] (fun n u k wr => n = .int .i64 0 ∧ u = .int .i64 1 ∧ k = .int .i64 0 ∧ wr = w) (fun _ _ _ _ => 0)
  case atStart => exact ⟨rfl, rfl, rfl, rfl⟩
  case round =>
    obtain ⟨rfl, rfl, rfl, hw⟩ := hrel
    subst wr
    go_wp2_with fail
    go_ret
    exact ⟨rfl, rfl⟩

/-- What reading a number comes to. -/
structure NextQ (w w' : World) (lo b : Nat) (v : Value) (l : List Int) (g : Got Int) : Prop where
  sans : Sans b lo w w'
  tp : ∃ j, TpAt w' lo b v l j g.no ∧ (g.no = 0 → l.drop j = g.rest)
  val : 0 ≤ g.val ∧ g.val < 562949953421312
  zero : g.no ≠ 0 → g.val = 0

set_option maxRecDepth 20000 in
set_option maxHeartbeats 2000000 in
theorem next_any (b lo i : Nat) (v : Value) (l : List Int) (w : World) (h : TpAt w lo b v l i 0) :
    Calls Tryd.prog 76 #[.pointer (some ⟨b, 0, none⟩)] w fun e w' => e = .returned (.int .i64 (numD (l.drop i)).val) ∧ NextQ w w' lo b v l (numD (l.drop i)) := by
  have H0 : Hid (TpAt w lo b v l i 0) := h
  have hown := h.own
  obtain ⟨⟨A, c, rfl, hcap, hA⟩, hfew, hby⟩ := h.bys
  clear h
  go_enter Tryd.func76, Tryd.ntmps76
  go_wp2_with fail
  go_loopw [3, 4, 5] (fun n u kk wr => ∃ (k j : Nat) (a q : Int), k ≤ 7 ∧ kk = .int .i64 k ∧ n = .int .i64 a ∧ u = .int .i64 q ∧ Hid (numG k a q (l.drop j) = numD (l.drop i)) ∧ (0 ≤ a ∧ a < q ∧ q ≤ 562949953421312) ∧ Hid (q = pw k) ∧ Hid (TpAt wr lo b (.slice A l.length c) l j 0) ∧ Hid (Sans b lo w wr)) (fun _ _ kk _ => 8 - (intOf kk).toNat)
  case atStart => exact ⟨0, i, 0, 1, by omega, rfl, rfl, rfl, (by show _ = _; rw [numD]), by omega, (by show _ = _; rfl), H0, Sans.refl _ _ _⟩
  case round =>
    obtain ⟨k, j, a, q, hk7, rfl, rfl, rfl, HN, ⟨ha0, haq, hq⟩, HQ, HT, HS⟩ := hrel
    obtain ⟨c0, c1, c2, cf, cl⟩ := three_cells HT.out.box
    have hjl := HT.out.le
    have hk8 : (k : Int) < 8 := by omega
    by_cases hlt : j < l.length
    · have hji : ¬ (l.length : Int) ≤ (j : Int) := by omega
      have hji2 : (j : Int) < (l.length : Int) := by omega
      obtain ⟨⟨A2, c2', e2, -, hA2⟩, -, -⟩ := HT.out.bys
      simp only [Value.slice.injEq] at e2
      obtain ⟨rfl, -, rfl⟩ := e2
      obtain ⟨g, off, rfl, hg, hgs, hj⟩ := hA2 (by omega)
      have hx := hj j hlt
      obtain ⟨x, hxe⟩ : ∃ x, x = l.getD j 0 := ⟨_, rfl⟩
      rw [← hxe] at hx
      have hxb : 0 ≤ x ∧ x ≤ 255 := by rw [hxe]; exact hby _ (by simp [List.getD, hlt])
      have HST : Hid (numD (l.drop i) = numG k a q (x :: l.drop (j + 1))) := by show _ = _; rw [← HN.out, drop_step hlt, ← hxe]
      have hgb : ¬ g = b := by omega
      have hw0 : IntKind.i64.wrap x = x := IntWalk.i64_in _ (by omega)
      have hwj : IntKind.i64.wrap ((j : Int) + 1) = (j : Int) + 1 := IntWalk.i64_in _ (by omega)
      clear hA hj HN hxe hby hA2
      go_wp2_with fail
      go_quiet (fail)
      revert nq
      intro n1
      go_wp2_with fail
      go_quiet (fail)
      obtain ⟨W, hW⟩ : ∃ W, W = (wr.drewN n1).drewN nq := ⟨_, rfl⟩
      have hB : Below wr.heap.size wr W := by rw [hW]; exact below_drewN (below_drewN (Below.refl _ _) _) _
      have HTW : Hid (TpAt W lo b (.slice (some ⟨g, off, none⟩) l.length c) l j 0) := HT.out.below hB
      have HSW : Hid (Sans b lo w W) := HS.out.trans (Sans.of_below hB (by have := HT.out.lt; omega))
      rw [← hW]
      clear hW hB HT HS c0 c1 c2 cf cl hx
      obtain ⟨c0, c1, c2, cf, cl⟩ := three_cells HTW.out.box
      have HT1 : Hid (TpAt (W.setCell ⟨b, 1, none⟩ (.int .i64 ((j : Int) + 1))) lo b (.slice (some ⟨g, off, none⟩) l.length c) l (j + 1) 0 ∧ Sans b lo w (W.setCell ⟨b, 1, none⟩ (.int .i64 ((j : Int) + 1)))) := ⟨HTW.out.setI (j + 1) (by omega), HSW.out.trans (Sans.setAny W hown 1 _)⟩
      have HT2 : Hid (numD (l.drop i) = ⟨4, 0, []⟩ → NextQ w ((W.setCell ⟨b, 1, none⟩ (.int .i64 ((j : Int) + 1))).setCell ⟨b, 2, none⟩ (.int .i64 4)) lo b (.slice (some ⟨g, off, none⟩) l.length c) l (numD (l.drop i))) := fun e => by
        rw [e]
        exact ⟨HT1.out.2.trans (Sans.setAny _ hown 2 _), ⟨j + 1, HT1.out.1.setE 4, fun e => by simp at e⟩, by simp, fun _ => rfl⟩
      clear HTW HSW
      by_cases h7 : k = 7
      · subst h7
        have HD : Hid (numD (l.drop i) = ⟨4, 0, []⟩) := by show _ = _; rw [HST.out, numG, if_pos rfl]
        clear HST HQ
        go_wp2_with fail
        go_ret
        exact ⟨by rw [HD.out]; rfl, HT2.out HD.out⟩
      · have hk7' : ¬ (k : Int) = 7 := by omega
        by_cases h2 : x = 0 ∧ 0 < k
        · obtain ⟨rfl, h0⟩ := h2
          have h0i : (0 : Int) < (k : Int) := by omega
          have HD : Hid (numD (l.drop i) = ⟨4, 0, []⟩) := by show _ = _; rw [HST.out, numG, if_neg h7, if_neg (by omega), if_pos ⟨rfl, h0⟩]
          clear HST
          go_wp2_with fail
          go_ret
          exact ⟨by rw [HD.out]; rfl, HT2.out HD.out⟩
        · have hpb : 0 ≤ x % 128 ∧ x % 128 ≤ 127 := by omega
          have hpq : 0 ≤ x % 128 * q ∧ x % 128 * q ≤ 127 * q := ⟨Int.mul_nonneg hpb.1 (by omega), Int.mul_le_mul_of_nonneg_right hpb.2 (by omega)⟩
          have hqn : q * 128 ≤ 562949953421312 := by rw [HQ.out]; exact pw_next (by omega)
          have hmod : Int.tmod x 128 = x % 128 := Int.tmod_eq_emod_of_nonneg hxb.1
          have hw1 : IntKind.i64.wrap (x % 128 * q) = x % 128 * q := IntWalk.i64_in _ (by omega)
          have hw2 : IntKind.i64.wrap (a + x % 128 * q) = a + x % 128 * q := IntWalk.i64_in _ (by omega)
          have hw3 : IntKind.i64.wrap (128 * q) = 128 * q := IntWalk.i64_in _ (by omega)
          have HNX : Hid (0 ≤ a + x % 128 * q ∧ a + x % 128 * q < 128 * q ∧ 128 * q ≤ 562949953421312) := ⟨by omega, by omega, by omega⟩
          have HPW : Hid (128 * q = pw (k + 1)) := by show _ = _; rw [HQ.out, pw_succ, Int.mul_comm]
          have hyc : (x = 0 ∧ ¬ (0 : Int) < (k : Int)) ∨ ((x == 0) = false ∧ (0 : Int) < (k : Int)) ∨ ((x == 0) = false ∧ ¬ (0 : Int) < (k : Int)) := by
            by_cases e0 : x = 0
            · exact Or.inl ⟨e0, by omega⟩
            · have : (x == 0) = false := by simpa using e0
              by_cases e1 : (0 : Int) < (k : Int)
              · exact Or.inr (Or.inl ⟨this, e1⟩)
              · exact Or.inr (Or.inr ⟨this, e1⟩)
          clear HQ hqn hpq hpb HT2
          by_cases h1 : 128 ≤ x
          · have HD : Hid (numG (k + 1) (a + x % 128 * q) (128 * q) (l.drop (j + 1)) = numD (l.drop i)) := by show _ = _; rw [HST.out, numG, if_neg h7, if_pos h1, Int.mul_comm q 128]
            have h1' : ¬ x < 128 := by omega
            clear HST
            rcases hyc with ⟨rfl, hy⟩ | ⟨hx0, hy⟩ | ⟨hx0, hy⟩
            · omega
            all_goals
              go_wp2_with fail
              refine ⟨⟨k + 1, j + 1, _, _, by omega, by go_num, rfl, rfl, HD, HNX.out, HPW, HT1.out.1, HT1.out.2⟩, ?_⟩
              simp [intOf]; omega
          · have HD : Hid (numD (l.drop i) = ⟨0, a + x % 128 * q, l.drop (j + 1)⟩) := by show _ = _; rw [HST.out, numG, if_neg h7, if_neg h1, if_neg h2]
            have h1' : x < 128 := by omega
            have HNQ : Hid (NextQ w (W.setCell ⟨b, 1, none⟩ (.int .i64 ((j : Int) + 1))) lo b (.slice (some ⟨g, off, none⟩) l.length c) l (numD (l.drop i))) := by
              show NextQ _ _ _ _ _ _ _
              rw [HD.out]
              have := HNX.out
              exact ⟨HT1.out.2, ⟨j + 1, HT1.out.1, fun _ => rfl⟩, ⟨this.1, by show a + x % 128 * q < _; omega⟩, fun e => absurd rfl e⟩
            clear HST HT1
            rcases hyc with ⟨rfl, hy⟩ | ⟨hx0, hy⟩ | ⟨hx0, hy⟩
            all_goals
              go_wp2_with fail
              go_ret
              exact ⟨by rw [HD.out]; first | rfl | simp, HNQ.out⟩
    · have hji : (l.length : Int) ≤ (j : Int) := by omega
      have HD : Hid (numD (l.drop i) = ⟨5, 0, []⟩) := by show _ = _; rw [← HN.out, numG_end hlt]
      have hlo : lo ≤ wr.heap.size := by have := HT.out.lt; omega
      clear hA HN HQ
      go_wp2_with fail
      go_quiet (fail)
      go_wp2_with fail
      go_ret
      have hB : Below wr.heap.size wr (wr.drewN nq) := below_drewN (Below.refl _ _) _
      refine ⟨by rw [HD.out]; rfl, ?_⟩
      rw [HD.out]
      exact ⟨(HS.out.trans (Sans.of_below hB hlo)).trans (Sans.setAny _ hown 2 _), ⟨j, (HT.out.below hB).setE 5, fun e => by simp at e⟩, by simp, fun _ => rfl⟩

/-- The next number of any kind. -/
theorem zig_idle (b lo i : Nat) (v : Value) (l : List Int) (e : Int) (w : World) (h : TpAt w lo b v l i e) (he : e ≠ 0) :
    Calls Tryd.prog 77 #[.pointer (some ⟨b, 0, none⟩)] w fun e' w' => e' = .returned (.int .i64 0) ∧ w' = w := by
  have HN : Hid (Calls Tryd.prog 76 #[.pointer (some ⟨b, 0, none⟩)] w fun e' w' => e' = .returned (.int .i64 0) ∧ w' = w) := next_idle b lo i v l e w h he
  clear h
  go_enter Tryd.func77, Tryd.ntmps77
  go_wp2_with fail
  refine HN.out.mono ?_
  rintro e w1 ⟨rfl, rfl⟩
  go_wp2_with fail
  go_ret
  exact ⟨rfl, rfl⟩
theorem anyK_bd {n : Int} (h : 0 ≤ n ∧ n < 562949953421312) : -281474976710656 ≤ anyK n ∧ anyK n ≤ 281474976710656 := by unfold anyK; split <;> omega
theorem zig_any (b lo i : Nat) (v : Value) (l : List Int) (w : World) (h : TpAt w lo b v l i 0) :
    Calls Tryd.prog 77 #[.pointer (some ⟨b, 0, none⟩)] w fun e w' => e = .returned (.int .i64 (anyK (numD (l.drop i)).val)) ∧ NextQ w w' lo b v l (numD (l.drop i)) := by
  have HN : Hid (Calls Tryd.prog 76 #[.pointer (some ⟨b, 0, none⟩)] w fun e w' => e = .returned (.int .i64 (numD (l.drop i)).val) ∧ NextQ w w' lo b v l (numD (l.drop i))) := next_any b lo i v l w h
  clear h
  revert HN
  generalize numD (l.drop i) = g
  intro HN
  go_enter Tryd.func77, Tryd.ntmps77
  go_wp2_with fail
  refine HN.out.mono ?_
  rintro e w1 ⟨rfl, hq⟩
  have HQ : Hid (NextQ w w1 lo b v l g) := hq
  obtain ⟨hv0, hv1⟩ := hq.val
  clear hq HN
  obtain ⟨x, hx⟩ : ∃ x, x = g.val := ⟨_, rfl⟩
  have HX : Hid (x = g.val) := hx
  rw [← hx] at hv0 hv1 ⊢
  clear hx
  have hm : Int.tmod x 2 = x % 2 := Int.tmod_eq_emod_of_nonneg hv0
  have hd : Int.tdiv x 2 = x / 2 := Int.tdiv_eq_ediv_of_nonneg hv0
  by_cases h2 : x % 2 = 0
  · have HE : Hid (anyK x = x / 2) := by show _ = _; unfold anyK; rw [if_neg (by omega)]
    go_wp2_with fail
    go_ret
    exact ⟨by rw [← HX.out, HE.out]; rfl, HQ.out⟩
  · have HE : Hid (anyK x = -(x / 2) - 1) := by show _ = _; unfold anyK; rw [if_pos (by omega)]; omega
    have h2' : x % 2 = 1 := by omega
    have hw1 : IntKind.i64.wrap (-(x / 2)) = -(x / 2) := IntWalk.i64_in _ (by omega)
    have hw2 : IntKind.i64.wrap (-(x / 2) - 1) = -(x / 2) - 1 := IntWalk.i64_in _ (by omega)
    clear h2
    go_wp2_with fail
    go_ret
    exact ⟨by rw [← HX.out, HE.out]; rfl, HQ.out⟩

end Go.Proofs.YtlcdefpdahjjeagDoor
