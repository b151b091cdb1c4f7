/- Contract of DeckTells: what is sought is found. -/
import Derived.Test.YtecpblabaelopaaGreatDoorDkNPart
import Derived.Test.YtecpblabaelopaaGreatDoorRecPart
import Derived.Test.YtecpblabaelopaaGreatDoorRawsPart
import Derived.Test.YtecpblabaelopaaGreatDoorSpcFPart
import Derived.Test.YtecpblabaelopaaGreatDoorOwnPart
import Derived.Test.YtecpblabaelopaaGreatDoorBasePart
namespace Go.Proofs.YtecpblabaelopaaGreatDoor
open Go.ChangeShapes Go.WideShapes Go.ChangeAt Go.RowKit Go.Deep Go.Joins
set_option maxRecDepth 100000

theorem bytesInt : Tryz.prog.bytesOf 3 = 8 := by kernel_rfl
theorem intsAt_of {H : Type} {enc : TypeId × Value → H} {W : World} {fuel : Nat} {v : Value} {x : DataW H × List MemPlace}
    (h : DataW.trod enc Tryz.prog W 0 (fun _ => true) true fuel 24 [v] = some x) (hs : ∀ n ∈ x.1.weights Tryz.prog 24, n ≤ reachBytes) :
    ∃ l, IntsAt W v l ∧ ∀ n ∈ l, (Lit.int .i64 n).wf = true := by
  rcases open_ints Tryz.underlying24 Tryz.underlying3 cellsInt h with ⟨hcs, _⟩ | ⟨a, len, cap, zs, hcs, _, hl, hm, hz, hx, hcell, hwz⟩
  · simp at hcs
    exact ⟨[], ⟨none, 0, by simpa using hcs, by simp, fun h => by simp at h⟩, by simp⟩
  · simp at hcs
    subst hcs
    simp only [if_true] at hz
    have hlen : (zs.take len).length = len := by simp; omega
    refine ⟨zs.take len, ⟨some a, cap, by rw [hlen], ?_, fun h0 => ?_⟩, fun n hn => hwz n (List.mem_of_mem_take hn)⟩
    · have := hs ((zs.take len).length * 8 + (zs.drop len).length * 8) (by
        rw [hx]
        simp only [DataW.weights, Tryz.underlying24, bytesInt, List.mem_cons]
        left
        simp [lits]
        omega)
      rw [reach_is] at this
      omega
    · rw [hlen] at h0 ⊢
      obtain ⟨b, off, rfl, hc⟩ := ints_at hcell (by omega)
      refine ⟨b, off, rfl, World.block_lt_of_cell? _ _ (hc 0 (by omega)), fun j hj => ?_⟩
      rw [hc j (by omega)]
      simp [List.getD, hj]

end Go.Proofs.YtecpblabaelopaaGreatDoor

namespace Go.Proofs.YtecpblabaelopaaGreatDoor
open Go.RowKit
set_option maxRecDepth 100000

def RepQ (w : World) (G : Mach × Int) (e : Ending) (w' : World) : Prop :=
  ∃ A1 d1 A2 d2 A3 d3, e = .returned (.tuple #[.agg (G.1.cells (.slice A1 G.1.regs.length d1) (.slice A2 G.1.mem.length d2) (.slice A3 G.1.out.length d3)), .int .i64 G.2]) ∧ MachAt w' (.slice A1 G.1.regs.length d1) (.slice A2 G.1.mem.length d2) (.slice A3 G.1.out.length d3) G.1 ∧ Below w.heap.size w w'
theorem repQ_no {w w' : World} {no : Int} (hb : Below w.heap.size w w') : RepQ w (noMach12, no) (.returned (.tuple #[.agg zeroM, .int .i64 no])) w' :=
  ⟨none, 0, none, 0, none, 0, rfl, ⟨⟨none, 0, rfl, by simp [noMach12], fun h => by simp [noMach12] at h⟩, ⟨none, 0, rfl, by simp [noMach12], fun h => by simp [noMach12] at h⟩, ⟨none, 0, rfl, by simp [noMach12], fun h => by simp [noMach12] at h⟩⟩, hb⟩

set_option maxHeartbeats 4000000 in
theorem Replay_any (iv ev : Value) (im bs : List Int) (cnt n : Int) (w : World) (h : TapeAt w iv ev im bs) (hL : Laid w) :
    Calls Tryz.prog 17 #[.agg #[iv, ev, .int .i64 cnt], .int .i64 n] w fun e w' => RepQ w (replayG im bs cnt n) e w' := by
  have h' := h
  obtain ⟨Ai, ci, rfl, -, -⟩ := h'.ims
  obtain ⟨Ae, ce, rfl, hfit⟩ := h'.fit
  obtain ⟨b0, b1, b2⟩ := two_boxes (Below.refl (((w.alloc (.cells #[.slice Ai im.length ci, .slice Ae bs.length ce, .int .i64 cnt] 27)).alloc (.cells zeroM 37)).heap.size) ((w.alloc (.cells #[.slice Ai im.length ci, .slice Ae bs.length ce, .int .i64 cnt] 27)).alloc (.cells zeroM 37)))
  obtain ⟨W, hW⟩ : ∃ W, W = (w.alloc (.cells #[.slice Ai im.length ci, .slice Ae bs.length ce, .int .i64 cnt] 27)).alloc (.cells zeroM 37) := ⟨_, rfl⟩
  rw [← hW] at b0 b1 b2
  have HW : Hid (W = (w.alloc (.cells #[.slice Ai im.length ci, .slice Ae bs.length ce, .int .i64 cnt] 27)).alloc (.cells zeroM 37)) := hW
  have HX : Hid (W.heap[w.heap.size]? = some (.cells #[.slice Ai im.length ci, .slice Ae bs.length ce, .int .i64 cnt] 27 (0, 0)) ∧ W.heap[w.heap.size + 1]? = some (.cells zeroM 37 (0, 0)) ∧ Below w.heap.size w W) := ⟨b0, b1, b2⟩
  have HC : Hid (Calls Tryz.prog 29 #[.agg #[.slice Ai im.length ci, .slice Ae bs.length ce, .int .i64 cnt]] W fun e w' => ∃ u, e = .returned (.tuple #[u, .int .i64 (tapeG im bs cnt).1]) ∧ DecQ W w' u (tapeG im bs cnt)) := RunCheck_any _ _ im bs cnt W (h.below b2) (hL.below b2)
  have HI : Hid (IntsAt w (.slice Ai im.length ci) im ∧ ∀ x ∈ bs, 0 ≤ x ∧ x ≤ 255) := ⟨h.ims, by
    obtain ⟨_, _, _, _, hy, _⟩ := h.evs
    exact hy⟩
  obtain ⟨G, hG⟩ : ∃ G, G = replayG im bs cnt n := ⟨_, rfl⟩
  rw [← hG]
  have HG : Hid (G = replayG im bs cnt n) := hG
  have HTO : Hid ((tapeG im bs cnt).1 = 0 → newNo im = 0 ∧ inB cnt 0 3000 = true ∧ (decD bs).1 = 0 ∧ (tapeG im bs cnt).2 = (decD bs).2) := tapeG_ok
  obtain ⟨⟨gn, GL⟩, hT⟩ : ∃ T, T = tapeG im bs cnt := ⟨_, rfl⟩
  have HT : Hid ((gn, GL) = tapeG im bs cnt) := hT
  rw [← hT] at HC HTO
  obtain ⟨x0, x1, x2, xf, xl⟩ := three_cells b0
  clear h h' hL hW b0 b1 b2 hG hT
  go_enter Tryz.func17, Tryz.ntmps17
  go_wp2_with fail
  rw [← HW.out]
  refine HC.out.mono ?_
  rintro e w1 ⟨u, rfl, hq⟩
  have H1 : Hid (w1.heap[w.heap.size]? = some (.cells #[.slice Ai im.length ci, .slice Ae bs.length ce, .int .i64 cnt] 27 (0, 0)) ∧ w1.heap[w.heap.size + 1]? = some (.cells zeroM 37 (0, 0)) ∧ Below w.heap.size w w1 ∧ DecQ W w1 u (gn, GL)) := ⟨(hq.old.block _ (lt_of_block HX.out.1)).trans HX.out.1, (hq.old.block _ (lt_of_block HX.out.2.1)).trans HX.out.2.1, HX.out.2.2.trans (hq.old.mono HX.out.2.2.size), hq⟩
  clear hq HC x0 x1 x2 xf xl HW
  obtain ⟨z0, z1, z2, zf, zl⟩ := three_cells H1.out.1
  by_cases hn : gn = 0
  case neg =>
    have HE : Hid (G = (noMach12, gn)) := by show _ = _; rw [HG.out, replayG, if_pos (by rw [← HT.out]; exact hn), ← HT.out]
    have d0 : (gn != 0) = true := by simpa using hn
    obtain ⟨⟨y0, y1, y2, y3, y4, y5, y6, y7, y8, y9, y10, y11⟩, yf, yl⟩ := twelve_cells H1.out.2.1
    clear hn
    dsimp only
    go_wp2_with fail
    refine bodyPost_ret (v := .tuple #[.agg zeroM, .int .i64 gn]) (by simp [results, Tryz.results17, go_sem, y0, y1, y2, y3, y4, y5, y6, y7, y8, y9, y10, y11]) rfl ?_
    rw [HE.out]
    exact repQ_no (below_set12 H1.out.2.2.1 (by omega) _ _ _ _ _ _ _ _ _ _ _ _)
  case pos =>
    subst hn
    obtain ⟨hni, -, hdz, hGL⟩ := HTO.out rfl
    have HCK : Hid (chkNo GL = 0 ∧ newNo im = 0) := ⟨by rw [show GL = (decD bs).2 from hGL]; exact (decD_back HI.out.2 hdz).2.1, hni⟩
    have HCN : Hid (cnt ≤ 3000) := by
      have h3 := (HTO.out rfl).2.1
      exact (inB_iff.1 h3).2
    obtain ⟨Au, cu, rfl, hcap⟩ := H1.out.2.2.2.fits
    have HCAP : Hid (GL.length ≤ cu) := hcap
    have HEO : Hid (EvsOld w1.heap.size w1 (.slice Au GL.length cu) GL) := (H1.out.2.2.2.look).old
    clear hni hdz hGL hcap HTO
    cases hin : inB n 0 cnt with
    | false =>
      have HE : Hid (G = (noMach12, 2)) := by show _ = _; rw [HG.out, replayG, if_neg (by rw [← HT.out]; simp), if_pos hin]
      dsimp only
      go_wp2_with fail
      refine (outsideR_any _ _ _).mono ?_
      rintro e w2 ⟨p, q, rfl, hc2, hb2⟩
      have HC2 : Hid (CloAtR w2 p q 0 cnt ∧ Below w.heap.size w w2) := ⟨hc2, H1.out.2.2.1.trans (hb2.mono H1.out.2.2.1.size)⟩
      obtain ⟨⟨y0, y1, y2, y3, y4, y5, y6, y7, y8, y9, y10, y11⟩, yf, yl⟩ := twelve_cells ((hb2.block _ (lt_of_block H1.out.2.1)).trans H1.out.2.1)
      clear hc2 hb2 z0 z1 z2 zf zl
      go_wp2_with (go_at_call 72; refine (cloR_any n 0 cnt p q _ HC2.out.1).mono ?_; rw [hin]; rintro e w' ⟨rfl, hw'⟩; rw [hw']; clear hw' w')
      refine bodyPost_ret (v := .tuple #[.agg zeroM, .int .i64 2]) (by simp [results, Tryz.results17, go_sem, y0, y1, y2, y3, y4, y5, y6, y7, y8, y9, y10, y11]) rfl ?_
      rw [HE.out]
      exact repQ_no (below_set12 HC2.out.2 (by omega) _ _ _ _ _ _ _ _ _ _ _ _)
    | true =>
      obtain ⟨N, hN⟩ : ∃ N : Nat, n = (N : Int) := ⟨n.toNat, by have := (inB_iff.1 hin).1; omega⟩
      subst hN
      have HN : Hid (N ≤ 3000) := by have := (inB_iff.1 hin).2; have := HCN.out; show N ≤ 3000; omega
      have HE : Hid (G = (replayM im GL N, 0)) := by show _ = _; rw [HG.out, replayG, if_neg (by rw [← HT.out]; simp), if_neg (by rw [hin]; simp), ← HT.out, Int.toNat_natCast]
      dsimp only
      go_wp2_with fail
      refine (outsideR_any _ _ _).mono ?_
      rintro e w2 ⟨p, q, rfl, hc2, hb2⟩
      have HC2 : Hid (CloAtR w2 p q 0 cnt ∧ Below w.heap.size w w2) := ⟨hc2, H1.out.2.2.1.trans (hb2.mono H1.out.2.2.1.size)⟩
      have H2 : Hid (w2.heap[w.heap.size]? = some (.cells #[.slice Ai im.length ci, .slice Ae bs.length ce, .int .i64 cnt] 27 (0, 0)) ∧ w2.heap[w.heap.size + 1]? = some (.cells zeroM 37 (0, 0)) ∧ EvsOld w2.heap.size w2 (.slice Au GL.length cu) GL) := ⟨(hb2.block _ (lt_of_block H1.out.1)).trans H1.out.1, (hb2.block _ (lt_of_block H1.out.2.1)).trans H1.out.2.1, (HEO.out.below hb2).mono hb2.size⟩
      clear hc2 hb2 z0 z1 z2 zf zl HEO H1 HX
      obtain ⟨z0, z1, z2, zf, zl⟩ := three_cells H2.out.1
      go_wp2_with (first
        | (go_at_call 72; refine (cloR_any (N : Int) 0 cnt p q _ HC2.out.1).mono ?_; rw [hin]; rintro e w' ⟨rfl, hw'⟩; rw [hw']; clear hw' w'))
      refine (New_ok _ im w2 (HI.out.1.below HC2.out.2) HCK.out.2).mono ?_
      rintro e w3 ⟨rv, mv, ov, rfl, ho3, hb3⟩
      obtain ⟨A1, d1, A2, d2, A3, d3, rfl, rfl, rfl⟩ := ho3.shape
      have H3 : Hid (OwnM w3 w2.heap.size (.slice A1 (newM im).regs.length d1) (.slice A2 (newM im).mem.length d2) (.slice A3 (newM im).out.length d3) (newM im) ∧ Below w.heap.size w w3 ∧ w3.heap[w.heap.size + 1]? = some (.cells zeroM 37 (0, 0)) ∧ EvsOld w3.heap.size w3 (.slice Au GL.length cu) GL ∧ w2.heap.size ≤ w3.heap.size) := ⟨ho3, HC2.out.2.trans (hb3.mono HC2.out.2.size), (hb3.block _ (lt_of_block H2.out.2.1)).trans H2.out.2.1, (H2.out.2.2.below hb3).mono hb3.size, hb3.size⟩
      have hml : (newM im).regs.length = (newM im).regs.length := rfl
      obtain ⟨M0, hM0⟩ : ∃ M0, M0 = newM im := ⟨_, rfl⟩
      rw [← hM0] at H3 ⊢
      have HM0 : Hid (M0 = newM im) := hM0
      clear ho3 hb3 z0 z1 z2 zf zl H2 HC2 hin hM0 hml
      simp only [Mach.cells]
      go_wp2_with fail
      go_loopw [7, 9] (fun ev i wr => ∃ (k : Nat) (M : Mach) (B1 : Option Addr) (e1 : Nat) (B2 : Option Addr) (e2 : Nat) (B3 : Option Addr) (e3 : Nat), k ≤ N ∧ ev = .int .i64 0 ∧ i = .int .i64 (k : Int) ∧ Hid (M = replayM im GL k ∧ wr.heap[w3.heap.size]? = some (.cells (M.cells (.slice B1 M.regs.length e1) (.slice B2 M.mem.length e2) (.slice B3 M.out.length e3)) 37 (0, 0)) ∧ OwnM wr w2.heap.size (.slice B1 M.regs.length e1) (.slice B2 M.mem.length e2) (.slice B3 M.out.length e3) M ∧ Below w3.heap.size w3 wr)) (fun _ i _ => N - (intOf i).toNat)
      case atStart => exact ⟨0, M0, A1, d1, A2, d2, A3, d3, Nat.zero_le _, rfl, rfl, HM0.out, Go.Deep.blk_alloc_new _ _, H3.out.1.below (below_alloc _ _), below_alloc _ _⟩
      case round =>
        obtain ⟨k, M, B1, e1, B2, e2, B3, e3, hk, rfl, rfl, HR⟩ := hrel
        obtain ⟨⟨z0, z1, z2, z3, z4, z5, z6, z7, z8, z9, z10, z11⟩, zf, zl⟩ := twelve_cells HR.out.2.1
        by_cases hlt : k < N
        · have hl : (k : Int) < (N : Int) := by omega
          have hw2 : IntKind.i64.wrap ((k : Int) + 1) = (k : Int) + 1 := IntWalk.i64_in _ (by have := HN.out; omega)
          have HMM : Hid (MayP M ∧ M.count < 1099511627776) := by
            have := replay_may HCK.out.2 HCK.out.1 k (by have := HN.out; omega)
            rw [← HR.out.1] at this
            exact ⟨this.1, by have := this.2; have := HN.out; omega⟩
          have HKL : Hid (k < N) := hlt
          clear z0 z1 z2 z3 z4 z5 z6 z7 z8 z9 z10 z11 zf zl hlt
          go_wp2_with fail
          refine (told_any Au cu GL (k : Int) wr ((H3.out.2.2.2.1.below HR.out.2.2.2).at HR.out.2.2.2.size) HCK.out.1 HCAP.out).mono ?_
          rintro e w5 ⟨B, cb, rfl, hi5, hb5⟩
          obtain ⟨T, hTT⟩ : ∃ T, T = toldL (k : Int) GL := ⟨_, rfl⟩
          rw [← hTT] at hi5 ⊢
          have HTL : Hid (T = toldL (k : Int) GL ∧ TlMay T) := ⟨hTT, by rw [hTT]; exact toldL_may HCK.out.1 _⟩
          have hx5 := (hb5.block _ (lt_of_block HR.out.2.1)).trans HR.out.2.1
          obtain ⟨⟨z0, z1, z2, z3, z4, z5, z6, z7, z8, z9, z10, z11⟩, zf, zl⟩ := twelve_cells hx5
          have hst := Step_ok M (.slice B1 M.regs.length e1) (.slice B2 M.mem.length e2) (.slice B3 M.out.length e3) T.irq B cb T.blk T.val w5 ((HR.out.2.2.1.below hb5).at HMM.out.1.fits) hi5 HMM.out.1 HTL.out.2.all HTL.out.2.len HMM.out.2 (stepNo_zero HMM.out.1 HTL.out.2 HMM.out.2)
          obtain ⟨R, hR⟩ : ∃ R, R = M.step T.irq T.blk T.val := ⟨_, rfl⟩
          rw [← hR] at hst
          have HST : Hid (Calls Tryz.prog 48 #[.agg (M.cells (.slice B1 M.regs.length e1) (.slice B2 M.mem.length e2) (.slice B3 M.out.length e3)), .bool T.irq, .slice B T.blk.length cb, .int .i64 T.val] w5 fun e w' => ∃ rv' mv' ov', e = .returned (.tuple #[.agg (R.1.cells rv' mv' ov'), .int .i64 R.2, .int .i64 0]) ∧ OwnM w' w5.heap.size rv' mv' ov' R.1 ∧ Below w5.heap.size w5 w') := hst
          have H5 : Hid (w5.heap[w3.heap.size]? = some (.cells (M.cells (.slice B1 M.regs.length e1) (.slice B2 M.mem.length e2) (.slice B3 M.out.length e3)) 37 (0, 0)) ∧ Below w3.heap.size w3 w5 ∧ w2.heap.size ≤ w5.heap.size ∧ R.1 = replayM im GL (k + 1)) := ⟨hx5, HR.out.2.2.2.trans (hb5.mono HR.out.2.2.2.size), by have := H3.out.2.2.2.2; have := HR.out.2.2.2.size; have := hb5.size; omega, by rw [hR, HTL.out.1, HR.out.1]; rfl⟩
          simp only [Mach.cells] at HST
          clear hst hR hi5 hb5 hx5 hTT
          dsimp only
          go_wp2_with fail
          refine HST.out.mono ?_
          rintro e w6 ⟨rv', mv', ov', rfl, ho6, hb6⟩
          obtain ⟨D1, f1, D2, f2, D3, f3, rfl, rfl, rfl⟩ := ho6.shape
          have hx6 := (hb6.block _ (lt_of_block H5.out.1)).trans H5.out.1
          clear z0 z1 z2 z3 z4 z5 z6 z7 z8 z9 z10 z11 zf zl HST
          obtain ⟨⟨z0, z1, z2, z3, z4, z5, z6, z7, z8, z9, z10, z11⟩, zf, zl⟩ := twelve_cells hx6
          have H6 : Hid (OwnM w6 w2.heap.size (.slice D1 R.1.regs.length f1) (.slice D2 R.1.mem.length f2) (.slice D3 R.1.out.length f3) R.1 ∧ w6.heap[w3.heap.size]? = some (.cells (M.cells (.slice B1 M.regs.length e1) (.slice B2 M.mem.length e2) (.slice B3 M.out.length e3)) 37 (0, 0)) ∧ Below w3.heap.size w3 w6) := ⟨ho6.mono H5.out.2.2.1, hx6, H5.out.2.1.trans (hb6.mono H5.out.2.1.size)⟩
          clear ho6 hb6 hx6
          simp only
          go_wp2_with fail
          refine ⟨⟨k + 1, R.1, D1, f1, D2, f2, D3, f3, HKL.out, rfl, by go_num, H5.out.2.2.2, box_set12 H6.out.2.1 rfl _ _ _ _ _ _ _ _ _ _ _ _, H6.out.1.set12 ⟨_, H6.out.2.1⟩ _ _ _ _ _ _ _ _ _ _ _ _, below_set12 H6.out.2.2 (Nat.le_refl _) _ _ _ _ _ _ _ _ _ _ _ _⟩, ?_⟩
          have := HKL.out
          simp [intOf]; omega
        · have e : k = N := by omega
          subst e
          have hl : ¬ (k : Int) < (k : Int) := by omega
          have hr : wr.heap[w.heap.size + 1]? = some (.cells zeroM 37 (0, 0)) := (HR.out.2.2.2.block _ (lt_of_block H3.out.2.2.1)).trans H3.out.2.2.1
          obtain ⟨⟨y0, y1, y2, y3, y4, y5, y6, y7, y8, y9, y10, y11⟩, yf, yl⟩ := twelve_cells hr
          have HEND : Hid (OwnM wr w2.heap.size (.slice B1 M.regs.length e1) (.slice B2 M.mem.length e2) (.slice B3 M.out.length e3) M ∧ IsBox wr (w.heap.size + 1) ∧ Below w.heap.size w wr ∧ MayP M ∧ M = replayM im GL k) := ⟨HR.out.2.2.1, ⟨_, hr⟩, H3.out.2.1.trans (HR.out.2.2.2.mono H3.out.2.1.size), by have := (replay_may HCK.out.2 HCK.out.1 k HN.out).1; rwa [← HR.out.1] at this, HR.out.1⟩
          clear hr hlt
          go_wp2_with fail
          refine bodyPost_ret (v := .tuple #[.agg #[.slice B1 M.regs.length e1, .int .i64 M.pc, .int .i64 M.back, .bool M.ints, .bool M.wait, .int .i64 M.table, .int .i64 M.count, .int .i64 M.fin, .slice B2 M.mem.length e2, .slice B3 M.out.length e3, .int .i64 M.ready, .int .i64 M.want], .int .i64 0]) (by simp [results, Tryz.results17, go_sem, y0, y1, y2, y3, y4, y5, y6, y7, y8, y9, y10, y11]) rfl ?_
          rw [HE.out, ← HEND.out.2.2.2.2]
          exact ⟨B1, e1, B2, e2, B3, e3, rfl, (HEND.out.1.set12 HEND.out.2.1 _ _ _ _ _ _ _ _ _ _ _ _).at HEND.out.2.2.2.1.fits, below_set12 HEND.out.2.2.1 (by omega) _ _ _ _ _ _ _ _ _ _ _ _⟩


end Go.Proofs.YtecpblabaelopaaGreatDoor

namespace Go.Proofs.YtecpblabaelopaaGreatDoor
open Go.RowKit
set_option maxRecDepth 100000

def wd0 : Wd := ⟨[], [], [], []⟩
theorem wd0_no : worldNo wd0 = 0 := by decide
theorem wd0_small : WdSmall wd0 := ⟨worldNo_may wd0_no, fun b hb => by simp [wd0] at hb, by simp [wd0]⟩
theorem new0 : newNo [] = 0 := by decide
theorem fine0 {N : Nat} (hN : N ≤ 900) : RecFine wd0 [] N := ⟨wd0_small, new0, hN⟩
theorem wd0_at (w : World) : WdT w.heap.size w nilv nilv nilv nilv wd0 := by
  have hI : TailI w.heap.size w nilv [] := ⟨none, 0, rfl, by simp, by simp, fun h => by simp at h⟩
  exact ⟨hI, hI, ⟨none, 0, rfl, by simp [wd0], by simp [wd0], fun h => by simp [wd0] at h⟩, hI, Nat.le_refl _⟩
theorem ints_nil (w : World) : IntsAt w nilv [] := ⟨none, 0, rfl, by simp, fun h => by simp at h⟩
theorem setup_ok {E K : Int} (hE : 1 ≤ E ∧ E ≤ 3000) (hK : 1 ≤ K ∧ K ≤ 8) : setupNo 200 E K = 0 := by
  have h1 : inB 200 0 200 = true := by decide
  have h2 : inB E 1 3000 = true := inB_iff.2 hE
  have h3 : inB K 1 8 = true := inB_iff.2 hK
  unfold setupNo
  rw [h1, h2, h3]
  rfl
theorem sought_ok {w w' : World} {E K : Int} {x : Wd} {im l : List Int} {N : Nat} {e : Ending} (hE : 1 ≤ E ∧ E ≤ 3000) (hK : 1 ≤ K ∧ K ≤ 8) (hf : RecFine x im N) (hl : ∀ k ∈ l, 0 ≤ k ∧ k ≤ recC x im N) (h : SoughtPost w 200 E K im (fullB (recN x im N).evs) (recC x im N) l e w') :
    Below w.heap.size w w' ∧ ∃ v, e = .returned (.tuple #[v, .int .i64 0]) ∧ GsAt w' v (l.map fun k => replayM im (recN x im N).evs k.toNat) := by
  obtain ⟨hb, h⟩ := h
  have hno : deckNo 200 E K im (fullB (recN x im N).evs) (recC x im N) = 0 := by rw [deckNo_tape (setup_ok hE hK), hf.tape]
  have hall : allIn 0 (recC x im N) l = true := allIn_of hl
  rcases h with ⟨h1, _⟩ | ⟨_, h2, _⟩ | ⟨_, _, h3⟩
  · exact absurd hno h1
  · rw [hall] at h2; cases h2
  · rcases h3 with ⟨v, e1, h4⟩ | ⟨_, h4⟩
    · rw [hf.tape] at h4
      exact ⟨hb, v, e1, h4⟩
    · omega
theorem newM0_len : (newM []).mem.length = 256 := by decide
theorem ints_one_new (w : World) (x : Int) : IntsAt (w.alloc (.cells #[.int .i64 x] 3)) (.slice (some ⟨w.heap.size, 0, none⟩) 1 1) [x] := by
  refine ⟨_, 1, rfl, by simp, fun _ => ⟨w.heap.size, 0, rfl, by simp, fun j hj => ?_⟩⟩
  obtain rfl : j = 0 := by simpa using hj
  have h := Go.Deep.blk_alloc_new w (.cells #[.int .i64 x] 3)
  unfold World.cell?
  simp only [h]
  rfl

set_option maxHeartbeats 4000000 in
theorem DeckTells_any (w : World) (hL : Laid w) :
    Calls Tryz.prog 19 #[] w fun e w' => e = .returned (.bool true) ∧ Below w.heap.size w w' := by
  have HL : Hid (Laid w) := hL
  have hnil : ([] : List Int).length = 0 := rfl
  have HR : Hid (Calls Tryz.prog 27 #[.slice none 0 0, .agg #[nilv, nilv, nilv, nilv], .int .i64 1] w fun e w' => RecQ w ⟨0, [], fullB (recN wd0 [] 1).evs, (recC wd0 [] 1 : Int), (recN wd0 [] 1).m⟩ e w') := by
    have := Record_any none 0 [] nilv nilv nilv nilv wd0 ((1 : Nat) : Int) w (ints_nil w) (wd0_at w) hL
    rwa [(fine0 (N := 1) (by omega)).ans wd0_no] at this
  have HF : Hid (RecFine wd0 [] 1) := fine0 (by omega)
  clear hL
  go_enter Tryz.func19, Tryz.ntmps19
  go_wp2_with fail
  refine HR.out.mono ?_
  rintro e w1 ⟨ti, te, A1, d1, A2, d2, A3, d3, rfl, q1, q2, q3, hb1⟩
  simp only at q1 q2 q3 ⊢
  have hTA : TapeAt w1 ti te [] (fullB (recN wd0 [] 1).evs) := tape_own q1 q2 (by simp) HF.out.bytes
  obtain ⟨At, ct, rfl⟩ := q1.shape
  obtain ⟨Ae, ce, rfl⟩ := q2.shape
  have HTA : Hid (TapeAt w1 (.slice At ([] : List Int).length ct) (.slice Ae (fullB (recN wd0 [] 1).evs).length ce) [] (fullB (recN wd0 [] 1).evs) ∧ Below w.heap.size w w1) := ⟨hTA, hb1⟩
  clear q1 q2 q3 hb1 hTA HR
  have HDS : Hid (∀ W, Below w1.heap.size w1 W → Calls Tryz.prog 11 #[.agg #[.int .i64 200, .int .i64 7, .int .i64 3], .agg #[.slice At ([] : List Int).length ct, .slice Ae (fullB (recN wd0 [] 1).evs).length ce, .int .i64 (recC wd0 [] 1)], .slice (some ⟨W.heap.size, 0, none⟩) 1 1] (W.alloc (.cells #[.int .i64 0] 3)) fun e w' => Below W.heap.size W w' ∧ ∃ v, e = .returned (.tuple #[v, .int .i64 0]) ∧ GsAt w' v [newM []]) := fun W hW => by
    have hA := below_alloc W (.cells #[.int .i64 0] 3)
    have hWW := hW.trans (hA.mono hW.size)
    refine (DeckSeek_any 200 7 3 _ _ _ [] (fullB (recN wd0 [] 1).evs) [0] (recC wd0 [] 1) _ (HTA.out.1.below hWW) (ints_one_new W 0) (HL.out.below (HTA.out.2.trans (hWW.mono HTA.out.2.size))) (by simp)).mono fun e w' hp => ?_
    obtain ⟨h1, h2⟩ := sought_ok (by omega) (by omega) HF.out (fun k hk => by simp at hk; omega) hp
    exact ⟨hA.trans (h1.mono (by simp)), h2⟩
  obtain ⟨Ct, hCt⟩ : ∃ C, C = (recC wd0 [] 1 : Int) := ⟨_, rfl⟩
  obtain ⟨nE, hnE⟩ : ∃ n, n = (fullB (recN wd0 [] 1).evs).length := ⟨_, rfl⟩
  obtain ⟨M, hM⟩ : ∃ M, M = (recN wd0 [] 1).m := ⟨_, rfl⟩
  rw [← hCt, ← hnE] at HDS
  rw [hnil] at HDS
  rw [← hCt, ← hnE, ← hM]
  clear hCt hnE hM
  simp only [Mach.cells, List.length_nil]
  go_upto_region 2 with fail
  obtain ⟨W4, hW4⟩ : ∃ W4, W4 = (w1.alloc (.cells #[.slice At 0 ct, .slice Ae nE ce, .int .i64 Ct] 27)).alloc (.cells #[.slice A1 M.regs.length d1, .int .i64 M.pc, .int .i64 M.back, .bool M.ints, .bool M.wait, .int .i64 M.table, .int .i64 M.count, .int .i64 M.fin, .slice A2 M.mem.length d2, .slice A3 M.out.length d3, .int .i64 M.ready, .int .i64 M.want] 37) := ⟨_, rfl⟩
  rw [← hW4]
  have y1 : W4.heap[w1.heap.size]? = some (.cells #[.slice At 0 ct, .slice Ae nE ce, .int .i64 Ct] 27 (0, 0)) := by
    rw [hW4, Go.Deep.blk_alloc_lt _ _ _ (by simp)]; exact Go.Deep.blk_alloc_new _ _
  have HB4 : Hid (Below w1.heap.size w1 W4) := by rw [hW4]; exact (below_alloc _ _).alloc (by simp) _
  obtain ⟨t0, t1, t2, tf, tl⟩ := three_cells y1
  clear hW4 y1
  go_wp2_with fail
  refine (HDS.out W4 HB4.out).mono ?_
  rintro e w5 ⟨hb5, v, rfl, b, c, rfl, hbl, -, hj⟩
  have HB5 : Hid (Below w.heap.size w w5) := HTA.out.2.trans ((HB4.out.trans (hb5.mono HB4.out.size)).mono HTA.out.2.size)
  obtain ⟨rv, mv, ov, hr, hma⟩ := hj 0 (by simp)
  have hm : ∃ A c, mv = .slice A 256 c := by
    obtain ⟨A, c, h1, _⟩ := hma.mem
    exact ⟨A, c, by rw [h1]; show Value.slice A (newM []).mem.length c = _; rw [newM0_len]⟩
  obtain ⟨Am, cm, rfl⟩ := hm
  have c8 : w5.cell? ⟨b, 8, none⟩ = some (.slice Am 256 cm) := by
    have := hr 8 (.slice Am 256 cm) rfl
    simpa using this
  clear hr hma hj hb5 HDS t0 t1 t2 tf tl
  simp only [List.length_singleton]
  go_wp2_with fail
  go_ret
  exact ⟨rfl, HB5.out⟩

end Go.Proofs.YtecpblabaelopaaGreatDoor

/- Contract of hourglasskeep.recorded: raw things recorded. -/

namespace Go.Proofs.YtecpblabaelopaaGreatDoor
open Go.RowKit
set_option maxRecDepth 100000

set_option maxHeartbeats 4000000 in
theorem recordedK_any (lv mv : Value) (R S : List Raw4) (n : Int) (w : World) (hR : RawsL w lv R) (hS : RawsL w mv S) (hn : (Lit.int .i64 n).wf = true) (hL : Laid w) :
    Calls Tryz.prog 15 #[lv, mv, .int .i64 n] w fun e w' => RecdQ w R S (pickF n 300).toNat e w' := by
  obtain ⟨N, hN⟩ : ∃ N, N = (pickF n 300).toNat := ⟨_, rfl⟩
  have hpn : pickF n 300 = (N : Int) ∧ N ≤ 900 := by
    have := pick_nat (n := n) (m := 300) (by decide)
    rw [← hN] at this
    omega
  rw [← hN]
  obtain ⟨W0, hW0⟩ : ∃ W0, W0 = (w.alloc (.cells zeroT 27)).alloc (.cells zeroM 37) := ⟨_, rfl⟩
  have hb0 : Below w.heap.size w W0 := by rw [hW0]; exact (below_alloc _ _).alloc (by simp) _
  have hx1 : W0.heap[w.heap.size]? = some (.cells zeroT 27 (0, 0)) := by
    rw [hW0, Go.Deep.blk_alloc_lt _ _ _ (by simp)]; exact Go.Deep.blk_alloc_new _ _
  have hx2 : W0.heap[w.heap.size + 1]? = some (.cells zeroM 37 (0, 0)) := by
    have := Go.Deep.blk_alloc_new (w.alloc (.cells zeroT 27)) (.cells zeroM 37)
    rw [hW0]
    rwa [show (w.alloc (.cells zeroT 27)).heap.size = w.heap.size + 1 by simp] at this
  have HW0 : Hid (W0 = (w.alloc (.cells zeroT 27)).alloc (.cells zeroM 37)) := hW0
  have HX : Hid (Below w.heap.size w W0 ∧ (∀ X, Below W0.heap.size W0 X → X.heap[w.heap.size]? = some (.cells zeroT 27 (0, 0)) ∧ X.heap[w.heap.size + 1]? = some (.cells zeroM 37 (0, 0))) ∧ w.heap.size + 1 < W0.heap.size) := ⟨hb0, fun X hX => ⟨(hX.block _ (lt_of_block hx1)).trans hx1, (hX.block _ (lt_of_block hx2)).trans hx2⟩, lt_of_block hx2⟩
  have HI : Hid (Calls Tryz.prog 28 #[lv] W0 fun e w' => ∃ v', e = .returned v' ∧ OwnI w' W0.heap.size v' (imageF R) ∧ Below W0.heap.size W0 w') := ImageF_any lv R W0 (hR.below hb0)
  have HWD : Hid (∀ X, Below w.heap.size w X → Calls Tryz.prog 26 #[mv] X fun e w' => ∃ iv vv bv dv rows, e = .returned (.agg #[iv, vv, bv, dv]) ∧ WorldT X w' iv vv bv dv rows (worldF (S.take 20))) := fun X hX => World_any mv S X (hS.below hX)
  have HP : Hid (∀ X, Calls Tryz.prog 16 #[.int .i64 n, .int .i64 300] X fun e w' => e = .returned (.int .i64 (N : Int)) ∧ w' = X) := fun X => by
    rw [← hpn.1]
    exact picked_any n 300 X hn (by decide) (by decide)
  have HL : Hid (Laid w) := hL
  have HN : Hid (N ≤ 900) := hpn.2
  have HAN : Hid (recA (wdOf S) (imageF R) (N : Int) = ⟨0, imageF R, fullB (recN (wdOf S) (imageF R) N).evs, (recC (wdOf S) (imageF R) N : Int), (recN (wdOf S) (imageF R) N).m⟩) := (recFine R S hpn.2).ans (wdOf_no S)
  have HIL : Hid ((imageF R).length ≤ 64) := imageF_len R
  clear hR hS hn hL hN hpn hW0 hb0 hx1 hx2
  go_enter Tryz.func15, Tryz.ntmps15
  go_upto_region 1 with fail
  rw [← HW0.out]
  go_wp2_with fail
  refine HI.out.mono ?_
  rintro e w1 ⟨iv, rfl, ho1, hb1⟩
  have H1 : Hid (OwnI w1 W0.heap.size iv (imageF R) ∧ Below W0.heap.size W0 w1 ∧ Below w.heap.size w w1) := ⟨ho1, hb1, HX.out.1.trans (hb1.mono HX.out.1.size)⟩
  clear ho1 hb1 HI
  go_wp2_with fail
  refine (HWD.out w1 H1.out.2.2).mono ?_
  rintro e w2 ⟨a, b, c, d, rows, rfl, hT⟩
  have H2 : Hid (WdT w2.heap.size w2 a b c d (wdOf S) ∧ OwnI w2 W0.heap.size iv (imageF R) ∧ Below W0.heap.size W0 w2 ∧ Below w.heap.size w w2) := ⟨hT.wdt (by simp; omega), H1.out.1.below hT.old, H1.out.2.1.trans (hT.old.mono H1.out.2.1.size), H1.out.2.2.trans (hT.old.mono H1.out.2.2.size)⟩
  clear hT HWD H1
  go_wp2_with fail
  refine (HP.out _).mono ?_
  rintro e w' ⟨rfl, hw'⟩
  subst hw'
  obtain ⟨Ai, ci, rfl⟩ := H2.out.2.1.shape
  have HRC : Hid (Calls Tryz.prog 27 #[.slice Ai (imageF R).length ci, .agg #[a, b, c, d], .int .i64 (N : Int)] w' fun e w3 => RecQ w' (recA (wdOf S) (imageF R) N) e w3) := Record_any Ai ci (imageF R) a b c d (wdOf S) N w' (H2.out.2.1.at (by have := HIL.out; omega)) H2.out.1 (HL.out.below H2.out.2.2.2)
  rw [HAN.out] at HRC
  obtain ⟨nI, hnI⟩ : ∃ n, n = (imageF R).length := ⟨_, rfl⟩
  rw [← hnI] at HRC ⊢
  clear hnI
  go_wp2_with fail
  refine HRC.out.mono ?_
  rintro e w3 ⟨ti, te, A1, d1, A2, d2, A3, d3, rfl, q1, q2, q3, hb3⟩
  simp only at q1 q2 q3 ⊢
  obtain ⟨Ct, hCt⟩ : ∃ C, C = (recC (wdOf S) (imageF R) N : Int) := ⟨_, rfl⟩
  obtain ⟨At, ct, rfl⟩ := q1.shape
  obtain ⟨Ae, ce, rfl⟩ := q2.shape
  have hw2 := H2.out.2.2.1.size
  have HB3 : Hid (Below W0.heap.size W0 w3 ∧ Below w.heap.size w w3) := ⟨H2.out.2.2.1.trans (hb3.mono H2.out.2.2.1.size), H2.out.2.2.2.trans (hb3.mono H2.out.2.2.2.size)⟩
  have HFIN : Hid (∀ W', Chg (fun g => g = w.heap.size ∨ g = w.heap.size + 1) w3 W' → RecdQ w R S N (.returned (.tuple #[.agg #[.slice At (imageF R).length ct, .slice Ae (fullB (recN (wdOf S) (imageF R) N).evs).length ce, .int .i64 (recC (wdOf S) (imageF R) N)], .agg ((recN (wdOf S) (imageF R) N).m.cells (.slice A1 (recN (wdOf S) (imageF R) N).m.regs.length d1) (.slice A2 (recN (wdOf S) (imageF R) N).m.mem.length d2) (.slice A3 (recN (wdOf S) (imageF R) N).m.out.length d3)), .bool true])) W') := fun W' hc => by
    have hw0 := HX.out.2.2
    have hlo := H2.out.2.2.2.size
    have off : ∀ g, w'.heap.size ≤ g → ¬ (g = w.heap.size ∨ g = w.heap.size + 1) := fun g hg e => by omega
    have keep : ∀ {u : Value} {l : List Int}, OwnI w3 w'.heap.size u l → OwnI W' w.heap.size u l := fun hu => ownsRow_mono (hc.own hu (fun g hg e => off g (hu.lt g hg).1 e)) hlo
    exact ⟨_, _, A1, d1, A2, d2, A3, d3, rfl, keep q1, (hc.ownB q2 (fun g hg e => off g (q2.lt g hg).1 e)).mono hlo, ⟨keep q3.regs, keep q3.mem, keep q3.out, q3.rm, q3.ro, q3.mo⟩, HB3.out.2.trans (hc.below HB3.out.2.size (fun g e => by omega))⟩
  clear q1 q2 q3 hb3 HRC hw2
  rw [← hCt] at HFIN ⊢
  obtain ⟨nE, hnE⟩ : ∃ n, n = (fullB (recN (wdOf S) (imageF R) N).evs).length := ⟨_, rfl⟩
  obtain ⟨nT, hnT⟩ : ∃ n, n = (imageF R).length := ⟨_, rfl⟩
  obtain ⟨M, hM⟩ : ∃ M, M = (recN (wdOf S) (imageF R) N).m := ⟨_, rfl⟩
  rw [← hnE, ← hnT, ← hM] at HFIN ⊢
  clear hCt hnE hnT hM
  simp only [Mach.cells] at HFIN ⊢
  go_upto_region 2 with fail
  obtain ⟨W4, hW4⟩ : ∃ W4, W4 = (w3.alloc (.cells #[.slice At nT ct, .slice Ae nE ce, .int .i64 Ct] 27)).alloc (.cells #[.slice A1 M.regs.length d1, .int .i64 M.pc, .int .i64 M.back, .bool M.ints, .bool M.wait, .int .i64 M.table, .int .i64 M.count, .int .i64 M.fin, .slice A2 M.mem.length d2, .slice A3 M.out.length d3, .int .i64 M.ready, .int .i64 M.want] 37) := ⟨_, rfl⟩
  rw [← hW4]
  have y1 : W4.heap[w3.heap.size]? = some (.cells #[.slice At nT ct, .slice Ae nE ce, .int .i64 Ct] 27 (0, 0)) := by
    rw [hW4, Go.Deep.blk_alloc_lt _ _ _ (by simp)]; exact Go.Deep.blk_alloc_new _ _
  have y2 : W4.heap[w3.heap.size + 1]? = some (.cells #[.slice A1 M.regs.length d1, .int .i64 M.pc, .int .i64 M.back, .bool M.ints, .bool M.wait, .int .i64 M.table, .int .i64 M.count, .int .i64 M.fin, .slice A2 M.mem.length d2, .slice A3 M.out.length d3, .int .i64 M.ready, .int .i64 M.want] 37 (0, 0)) := by
    have := Go.Deep.blk_alloc_new (w3.alloc (.cells #[.slice At nT ct, .slice Ae nE ce, .int .i64 Ct] 27)) (.cells #[.slice A1 M.regs.length d1, .int .i64 M.pc, .int .i64 M.back, .bool M.ints, .bool M.wait, .int .i64 M.table, .int .i64 M.count, .int .i64 M.fin, .slice A2 M.mem.length d2, .slice A3 M.out.length d3, .int .i64 M.ready, .int .i64 M.want] 37)
    rw [hW4]
    rwa [show (w3.alloc (.cells #[.slice At nT ct, .slice Ae nE ce, .int .i64 Ct] 27)).heap.size = w3.heap.size + 1 by simp] at this
  have hb4 : Below w3.heap.size w3 W4 := by rw [hW4]; exact (below_alloc _ _).alloc (by simp) _
  have x1 := (HX.out.2.1 W4 (HB3.out.1.trans (hb4.mono HB3.out.1.size)))
  have HB4 : Hid (Chg (fun g => g = w.heap.size ∨ g = w.heap.size + 1) w3 W4) := Chg.of_below hb4
  obtain ⟨p0, p1, p2, pf, pl⟩ := three_cells x1.1
  obtain ⟨⟨z0, z1, z2, z3, z4, z5, z6, z7, z8, z9, z10, z11⟩, zf, zl⟩ := twelve_cells x1.2
  obtain ⟨t0, t1, t2, tf, tl⟩ := three_cells y1
  obtain ⟨⟨m0, m1, m2, m3, m4, m5, m6, m7, m8, m9, m10, m11⟩, mf, ml⟩ := twelve_cells y2
  have hsz := HB3.out.1.size
  have hw0 := HX.out.2.2
  have n1 : ¬ w.heap.size = w3.heap.size := by omega
  have n2 : ¬ w.heap.size = w3.heap.size + 1 := by omega
  have n3 : ¬ w.heap.size + 1 = w3.heap.size := by omega
  have n4 : ¬ w3.heap.size = w.heap.size := by omega
  have n5 : ¬ w3.heap.size + 1 = w.heap.size := by omega
  have n6 : ¬ w3.heap.size = w.heap.size + 1 := by omega
  clear hW4 y1 y2 hb4 x1 hsz hw0
  go_region_held3 (fun w' => w'.cell? ⟨w3.heap.size, 0, none⟩ = some (.slice At nT ct) ∧ w'.cell? ⟨w3.heap.size, 1, none⟩ = some (.slice Ae nE ce) ∧ w'.cell? ⟨w3.heap.size, 2, none⟩ = some (.int .i64 Ct) ∧ w'.cell? ⟨w3.heap.size + 1, 0, none⟩ = some (.slice A1 M.regs.length d1) ∧ w'.cell? ⟨w3.heap.size + 1, 1, none⟩ = some (.int .i64 M.pc) ∧ w'.cell? ⟨w3.heap.size + 1, 2, none⟩ = some (.int .i64 M.back) ∧ w'.cell? ⟨w3.heap.size + 1, 3, none⟩ = some (.bool M.ints) ∧ w'.cell? ⟨w3.heap.size + 1, 4, none⟩ = some (.bool M.wait) ∧ w'.cell? ⟨w3.heap.size + 1, 5, none⟩ = some (.int .i64 M.table) ∧ w'.cell? ⟨w3.heap.size + 1, 6, none⟩ = some (.int .i64 M.count) ∧ w'.cell? ⟨w3.heap.size + 1, 7, none⟩ = some (.int .i64 M.fin) ∧ w'.cell? ⟨w3.heap.size + 1, 8, none⟩ = some (.slice A2 M.mem.length d2) ∧ w'.cell? ⟨w3.heap.size + 1, 9, none⟩ = some (.slice A3 M.out.length d3) ∧ w'.cell? ⟨w3.heap.size + 1, 10, none⟩ = some (.int .i64 M.ready) ∧ w'.cell? ⟨w3.heap.size + 1, 11, none⟩ = some (.int .i64 M.want)) (go_keep) (first | fail)
  all_goals
    go_wp2_with fail
    refine bodyPost_ret (v := .tuple #[.agg #[.slice At nT ct, .slice Ae nE ce, .int .i64 Ct], .agg #[.slice A1 M.regs.length d1, .int .i64 M.pc, .int .i64 M.back, .bool M.ints, .bool M.wait, .int .i64 M.table, .int .i64 M.count, .int .i64 M.fin, .slice A2 M.mem.length d2, .slice A3 M.out.length d3, .int .i64 M.ready, .int .i64 M.want], .bool true]) (by simp [results, Tryz.results15, go_sem, p0, p1, p2, z0, z1, z2, z3, z4, z5, z6, z7, z8, z9, z10, z11]) rfl ?_
    refine HFIN.out _ ?_
    obtain ⟨F, hF⟩ : ∃ F : Nat → Prop, F = fun g => g = w.heap.size ∨ g = w.heap.size + 1 := ⟨_, rfl⟩
    have hF0 : F w.heap.size := by rw [hF]; exact Or.inl rfl
    have hF1 : F (w.heap.size + 1) := by rw [hF]; exact Or.inr rfl
    have hB := HB4.out
    rw [← hF] at hB ⊢
    clear hF
    refine hB.trans (G := F) ?_ (fun _ e => Or.inl e)
    try (with_reducible refine Chg.drew ?_)
    iterate 15 (with_reducible refine Chg.set ?_ (by first | exact Or.inl hF0 | exact Or.inl hF1) _)
    first | exact Chg.refl _ _ | exact (Chg.refl _ _).drew

end Go.Proofs.YtecpblabaelopaaGreatDoor

/- Contracts of keep's same and of top's: two guests that are the same. -/

namespace Go.Proofs.YtecpblabaelopaaGreatDoor
open Go.RowKit

set_option maxHeartbeats 1000000 in
theorem slicesEqual_drewN (va vb : Value) (l : List Int) (w : World) (ha : IntsAt w va l) (hb : IntsAt w vb l) :
    Calls Tryz.prog 34 #[va, vb] w fun e w' => e = .returned (.bool true) ∧ ∃ n, w' = w.drewN n := by
  obtain ⟨A, c, rfl, hl, hc⟩ := ha
  obtain ⟨A', c', rfl, -, hc'⟩ := hb
  go_enter Tryz.func34, Tryz.ntmps34
  go_wp2
  go_loopw [13] (fun i wr => ∃ k n : Nat, k ≤ l.length ∧ i = .int .i64 k ∧ wr = w.drewN n) (fun i _ => l.length - (intOf i).toNat)
  case atStart => exact ⟨0, 0, Nat.zero_le _, rfl, rfl⟩
  case round =>
    obtain ⟨k, n, hk, rfl, hw⟩ := hrel
    subst wr
    by_cases hlt : k < l.length
    · obtain ⟨b, off, rfl, hbs, hcell⟩ := hc (by omega)
      obtain ⟨b', off', rfl, hbs', hcell'⟩ := hc' (by omega)
      have h1 := hcell k hlt
      have h2 := hcell' k hlt
      clear hcell hcell' hc hc'
      revert h1 h2
      generalize l.getD k 0 = x
      intro h1 h2
      go_wp2
      go_quiet (fail)
      go_wp2
      refine ⟨⟨k + 1, _, by omega, by go_num, rfl⟩, ?_⟩
      simp [intOf]; omega
    · clear hc hc'
      go_wp2
      go_ret
      exact ⟨rfl, _, rfl⟩

set_option maxHeartbeats 4000000 in
theorem sameK_same (m : Mach) (rv mv ov rv' mv' ov' : Value) (w : World) (ha : MachAt w rv mv ov m) (hb : MachAt w rv' mv' ov' m) :
    Calls Tryz.prog 18 #[.agg (m.cells rv mv ov), .agg (m.cells rv' mv' ov')] w fun e w' => e = .returned (.bool true) ∧ Below w.heap.size w w' := by
  obtain ⟨r, p, k, i, t, a, n, f, m, o, y, q⟩ := m
  have H1 : Hid (IntsAt w rv r) := ha.regs
  have H2 : Hid (IntsAt w mv m) := ha.mem
  have H3 : Hid (IntsAt w ov o) := ha.out
  have K1 : Hid (IntsAt w rv' r) := hb.regs
  have K2 : Hid (IntsAt w mv' m) := hb.mem
  have K3 : Hid (IntsAt w ov' o) := hb.out
  clear ha hb
  simp only [Mach.cells]
  go_enter Tryz.func18, Tryz.ntmps18
  go_wp2_with fail
  refine (slicesEqual_drewN rv rv' r _ (H1.out.below (below_alloc2 _ _ _)) (K1.out.below (below_alloc2 _ _ _))).mono ?_
  rintro e w' ⟨rfl, j1, rfl⟩
  clear H1 K1
  go_wp2_with fail
  refine (slicesEqual_drewN mv mv' m _ ((H2.out.below (below_alloc2 _ _ _)).drewN _) ((K2.out.below (below_alloc2 _ _ _)).drewN _)).mono ?_
  rintro e w' ⟨rfl, j2, rfl⟩
  clear H2 K2
  go_wp2_with fail
  refine (slicesEqual_drewN ov ov' o _ ((H3.out.below (below_alloc2 _ _ _)).drewN _) ((K3.out.below (below_alloc2 _ _ _)).drewN _)).mono ?_
  rintro e w' ⟨rfl, j3, rfl⟩
  clear H3 K3
  go_wp2_with fail
  go_ret
  exact ⟨rfl, (below_alloc2 _ _ _).trans ⟨rfl, rfl, rfl, Nat.le_refl _, fun _ _ => rfl⟩⟩
set_option maxHeartbeats 4000000 in
theorem sameT_same (m : Mach) (rv mv ov rv' mv' ov' : Value) (w : World) (ha : MachAt w rv mv ov m) (hb : MachAt w rv' mv' ov' m) :
    Calls Tryz.prog 23 #[.agg (m.cells rv mv ov), .agg (m.cells rv' mv' ov')] w fun e w' => e = .returned (.bool true) ∧ Below w.heap.size w w' := by
  obtain ⟨r, p, k, i, t, a, n, f, m, o, y, q⟩ := m
  have H1 : Hid (IntsAt w rv r) := ha.regs
  have H2 : Hid (IntsAt w mv m) := ha.mem
  have H3 : Hid (IntsAt w ov o) := ha.out
  have K1 : Hid (IntsAt w rv' r) := hb.regs
  have K2 : Hid (IntsAt w mv' m) := hb.mem
  have K3 : Hid (IntsAt w ov' o) := hb.out
  clear ha hb
  simp only [Mach.cells]
  go_enter Tryz.func23, Tryz.ntmps23
  go_wp2_with fail
  refine (slicesEqual_drewN rv rv' r _ (H1.out.below (below_alloc2 _ _ _)) (K1.out.below (below_alloc2 _ _ _))).mono ?_
  rintro e w' ⟨rfl, j1, rfl⟩
  clear H1 K1
  go_wp2_with fail
  refine (slicesEqual_drewN mv mv' m _ ((H2.out.below (below_alloc2 _ _ _)).drewN _) ((K2.out.below (below_alloc2 _ _ _)).drewN _)).mono ?_
  rintro e w' ⟨rfl, j2, rfl⟩
  clear H2 K2
  go_wp2_with fail
  refine (slicesEqual_drewN ov ov' o _ ((H3.out.below (below_alloc2 _ _ _)).drewN _) ((K3.out.below (below_alloc2 _ _ _)).drewN _)).mono ?_
  rintro e w' ⟨rfl, j3, rfl⟩
  clear H3 K3
  go_wp2_with fail
  go_ret
  exact ⟨rfl, (below_alloc2 _ _ _).trans ⟨rfl, rfl, rfl, Nat.le_refl _, fun _ _ => rfl⟩⟩

end Go.Proofs.YtecpblabaelopaaGreatDoor

/- Guests in a row: their cells; new slices of numbers. -/

namespace Go.Proofs.YtecpblabaelopaaGreatDoor
open Go.RowKit
set_option maxRecDepth 100000

theorem range12o {w : World} {b : Nat} {m : Mach} {rv mv ov : Value} (o : Nat) (h : w.rangeAt b o (m.cells rv mv ov).toList) :
    w.cell? ⟨b, o, none⟩ = some rv ∧ w.cell? ⟨b, o + 1, none⟩ = some (.int .i64 m.pc) ∧ w.cell? ⟨b, o + 2, none⟩ = some (.int .i64 m.back) ∧ w.cell? ⟨b, o + 3, none⟩ = some (.bool m.ints) ∧ w.cell? ⟨b, o + 4, none⟩ = some (.bool m.wait) ∧ w.cell? ⟨b, o + 5, none⟩ = some (.int .i64 m.table) ∧ w.cell? ⟨b, o + 6, none⟩ = some (.int .i64 m.count) ∧ w.cell? ⟨b, o + 7, none⟩ = some (.int .i64 m.fin) ∧ w.cell? ⟨b, o + 8, none⟩ = some mv ∧ w.cell? ⟨b, o + 9, none⟩ = some ov ∧ w.cell? ⟨b, o + 10, none⟩ = some (.int .i64 m.ready) ∧ w.cell? ⟨b, o + 11, none⟩ = some (.int .i64 m.want) :=
  ⟨h 0 _ rfl, h 1 _ rfl, h 2 _ rfl, h 3 _ rfl, h 4 _ rfl, h 5 _ rfl, h 6 _ rfl, h 7 _ rfl, h 8 _ rfl, h 9 _ rfl, h 10 _ rfl, h 11 _ rfl⟩
theorem range_below {w w' : World} {b o : Nat} {cs : List Value} (hb : Below w.heap.size w w') (hl : b < w.heap.size) (h : w.rangeAt b o cs) : w'.rangeAt b o cs := fun j v hj => (hb.cell (p := ⟨b, o + j, none⟩) hl).trans (h j v hj)
theorem ints_new (w : World) (l : List Int) (hl : l.length ≤ 1000) : IntsAt (w.alloc (.cells (l.map (Value.int .i64)).toArray 3)) (.slice (some ⟨w.heap.size, 0, none⟩) l.length l.length) l := by
  refine ⟨_, _, rfl, by omega, fun _ => ⟨w.heap.size, 0, rfl, by simp, fun j hj => ?_⟩⟩
  have h := Go.Deep.blk_alloc_new w (.cells (l.map (Value.int .i64)).toArray 3)
  unfold World.cell?
  simp only [h]
  simp [List.getD, hj]

end Go.Proofs.YtecpblabaelopaaGreatDoor

/- Contract of slices.EqualFunc over guests that are the same. -/

namespace Go.Proofs.YtecpblabaelopaaGreatDoor
open Go.RowKit
set_option maxRecDepth 100000

set_option maxHeartbeats 4000000 in
theorem equalGs_same (va vb : Value) (Ms : List Mach) (w : World) (ha : GsAt w va Ms) (hb : GsAt w vb Ms) :
    Calls Tryz.prog 20 #[va, vb, .func (.func 18) #[] #[]] w fun e w' => e = .returned (.bool true) ∧ Below w.heap.size w w' := by
  obtain ⟨ba, na, rfl, hla, hsm, hja⟩ := ha
  obtain ⟨bb, nb, rfl, hlb, -, hjb⟩ := hb
  have HA : Hid (ba < w.heap.size ∧ bb < w.heap.size ∧ (∀ j, j < Ms.length → ∃ rv mv ov, w.rangeAt ba (j * 12) ((Ms.getD j noMach12).cells rv mv ov).toList ∧ MachAt w rv mv ov (Ms.getD j noMach12)) ∧ (∀ j, j < Ms.length → ∃ rv mv ov, w.rangeAt bb (j * 12) ((Ms.getD j noMach12).cells rv mv ov).toList ∧ MachAt w rv mv ov (Ms.getD j noMach12))) := ⟨hla, hlb, hja, hjb⟩
  obtain ⟨n, hn⟩ : ∃ n, n = Ms.length := ⟨_, rfl⟩
  rw [← hn] at HA hsm ⊢
  clear hla hlb hja hjb hn
  go_enter Tryz.func20, Tryz.ntmps20
  go_wp2_with fail
  go_loopw [17] (fun i wr => ∃ j : Nat, j ≤ n ∧ i = .int .i64 j ∧ Hid (Below w.heap.size w wr)) (fun i _ => n - (intOf i).toNat)
  case atStart => exact ⟨0, Nat.zero_le _, rfl, Below.refl _ _⟩
  case round =>
    obtain ⟨j, hj, rfl, HQ⟩ := hrel
    by_cases hjl : j < n
    case pos =>
      have hji : (j : Int) < (n : Int) := by omega
      have HN : Hid (j + 1 ≤ n ∧ wrap64 ((j : Int) + 1) = ((j + 1 : Nat) : Int) ∧ n - (j + 1) < n - j) := ⟨by omega, by unfold wrap64; omega, by omega⟩
      obtain ⟨rv, mv, ov, r1, r2⟩ := HA.out.2.2.1 j hjl
      obtain ⟨rv', mv', ov', r3, r4⟩ := HA.out.2.2.2 j hjl
      obtain ⟨G, hG⟩ : ∃ G, G = Ms.getD j noMach12 := ⟨_, rfl⟩
      rw [← hG] at r1 r2 r3 r4
      obtain ⟨Q1, j1, Q2, j2, Q3, j3, rfl, rfl, rfl⟩ := r2.shape
      obtain ⟨P1, k1, P2, k2, P3, k3, rfl, rfl, rfl⟩ := r4.shape
      have HSM : Hid (∀ X, Below w.heap.size w X → Calls Tryz.prog 18 #[.agg (G.cells (.slice Q1 G.regs.length j1) (.slice Q2 G.mem.length j2) (.slice Q3 G.out.length j3)), .agg (G.cells (.slice P1 G.regs.length k1) (.slice P2 G.mem.length k2) (.slice P3 G.out.length k3))] X fun e w' => e = .returned (.bool true) ∧ Below X.heap.size X w') := fun X hX => sameK_same G _ _ _ _ _ _ X (r2.below hX) (r4.below hX)
      obtain ⟨qca, qcb, qcc, qcd, qce, qcf, qcg, qch, qci, qcj, qck, qcl⟩ := range12o (j * 12) (range_below HQ.out HA.out.1 r1)
      obtain ⟨qda, qdb, qdc, qdd, qde, qdf, qdg, qdh, qdi, qdj, qdk, qdl⟩ := range12o (j * 12) (range_below HQ.out HA.out.2.1 r3)
      have hba : ba < wr.heap.size := Nat.lt_of_lt_of_le HA.out.1 HQ.out.size
      have hbb : bb < wr.heap.size := Nat.lt_of_lt_of_le HA.out.2.1 HQ.out.size
      simp only [Mach.cells] at HSM
      clear r1 r2 r3 r4 hG
      go_upto_region 7 with fail
      obtain ⟨W, hW⟩ : ∃ W, W = (wr.alloc (.cells #[.slice Q1 G.regs.length j1, .int .i64 G.pc, .int .i64 G.back, .bool G.ints, .bool G.wait, .int .i64 G.table, .int .i64 G.count, .int .i64 G.fin, .slice Q2 G.mem.length j2, .slice Q3 G.out.length j3, .int .i64 G.ready, .int .i64 G.want] 37)).alloc (.cells #[.slice P1 G.regs.length k1, .int .i64 G.pc, .int .i64 G.back, .bool G.ints, .bool G.wait, .int .i64 G.table, .int .i64 G.count, .int .i64 G.fin, .slice P2 G.mem.length k2, .slice P3 G.out.length k3, .int .i64 G.ready, .int .i64 G.want] 37) := ⟨_, rfl⟩
      rw [← hW]
      have y1 : W.heap[wr.heap.size]? = some (.cells #[.slice Q1 G.regs.length j1, .int .i64 G.pc, .int .i64 G.back, .bool G.ints, .bool G.wait, .int .i64 G.table, .int .i64 G.count, .int .i64 G.fin, .slice Q2 G.mem.length j2, .slice Q3 G.out.length j3, .int .i64 G.ready, .int .i64 G.want] 37 (0, 0)) := by
        rw [hW, Go.Deep.blk_alloc_lt _ _ _ (by simp)]; exact Go.Deep.blk_alloc_new _ _
      have y2 : W.heap[wr.heap.size + 1]? = some (.cells #[.slice P1 G.regs.length k1, .int .i64 G.pc, .int .i64 G.back, .bool G.ints, .bool G.wait, .int .i64 G.table, .int .i64 G.count, .int .i64 G.fin, .slice P2 G.mem.length k2, .slice P3 G.out.length k3, .int .i64 G.ready, .int .i64 G.want] 37 (0, 0)) := by
        have := Go.Deep.blk_alloc_new (wr.alloc (.cells #[.slice Q1 G.regs.length j1, .int .i64 G.pc, .int .i64 G.back, .bool G.ints, .bool G.wait, .int .i64 G.table, .int .i64 G.count, .int .i64 G.fin, .slice Q2 G.mem.length j2, .slice Q3 G.out.length j3, .int .i64 G.ready, .int .i64 G.want] 37)) (.cells #[.slice P1 G.regs.length k1, .int .i64 G.pc, .int .i64 G.back, .bool G.ints, .bool G.wait, .int .i64 G.table, .int .i64 G.count, .int .i64 G.fin, .slice P2 G.mem.length k2, .slice P3 G.out.length k3, .int .i64 G.ready, .int .i64 G.want] 37)
        rw [hW]
        rwa [show (wr.alloc (.cells #[.slice Q1 G.regs.length j1, .int .i64 G.pc, .int .i64 G.back, .bool G.ints, .bool G.wait, .int .i64 G.table, .int .i64 G.count, .int .i64 G.fin, .slice Q2 G.mem.length j2, .slice Q3 G.out.length j3, .int .i64 G.ready, .int .i64 G.want] 37)).heap.size = wr.heap.size + 1 by simp] at this
      have HB : Hid (Below w.heap.size w W) := by rw [hW]; exact HQ.out.trans (((below_alloc _ _).alloc (by simp) _).mono HQ.out.size)
      clear hW qca qcb qcc qcd qce qcf qcg qch qci qcj qck qcl qda qdb qdc qdd qde qdf qdg qdh qdi qdj qdk qdl
      obtain ⟨⟨qca, qcb, qcc, qcd, qce, qcf, qcg, qch, qci, qcj, qck, qcl⟩, mf, ml⟩ := twelve_cells y1
      obtain ⟨⟨qda, qdb, qdc, qdd, qde, qdf, qdg, qdh, qdi, qdj, qdk, qdl⟩, pf, pl⟩ := twelve_cells y2
      clear y1 y2
      go_wp2_with fail
      refine (HSM.out _ HB.out).mono ?_
      rintro e wz ⟨rfl, hz⟩
      have HZ : Hid (Below w.heap.size w wz) := HB.out.trans (hz.mono HB.out.size)
      clear hz
      go_wp2_with fail
      refine ⟨⟨j + 1, HN.out.1, by go_num, HZ⟩, ?_⟩
      simp only [intOf]
      exact HN.out.2.2
    case neg =>
      have hji : ¬ (j : Int) < (n : Int) := by omega
      go_wp2_with fail
      go_ret
      exact ⟨rfl, HQ.out⟩

end Go.Proofs.YtecpblabaelopaaGreatDoor

/- A slice of raw things that is handed in, opened. -/

namespace Go.Proofs.YtecpblabaelopaaGreatDoor
open Go.ChangeShapes Go.WideShapes Go.ChangeAt Go.RowKit Go.Deep Go.Joins

theorem cellsRaw : Tryz.prog.cellsOf 92 = 4 := by kernel_rfl
theorem bytesRaw : Tryz.prog.bytesOf 92 = 32 := by kernel_rfl

theorem list4 {l : List Value} (h : l.length = 4) : ∃ a b c d, l = [a, b, c, d] := by
  match l, h with
  | [a, b, c, d], _ => exact ⟨a, b, c, d, rfl⟩

theorem rawsIn_of {H : Type} {enc : TypeId × Value → H} {W : World} {fuel : Nat} {v : Value} {x : DataW H × List MemPlace}
    (h : DataW.trod enc Tryz.prog W 0 (fun _ => true) true fuel 35 [v] = some x) (hs : ∀ n ∈ x.1.weights Tryz.prog 35, n ≤ reachBytes) :
    ∃ n, RawsIn W v n := by
  rcases open_slice Tryz.underlying35 h with ⟨hcs, _⟩ | ⟨a, len, cap, m, n, D, Pl, hcs, _, hl, hm, hmm, hx, hel⟩
  · simp at hcs
    exact ⟨0, none, 0, by simpa using hcs, by simp, fun h => by simp at h⟩
  · simp at hcs
    subst hcs
    simp only [if_true] at hmm
    subst hmm
    rw [cellsRaw] at hel
    refine ⟨len, some a, m, rfl, ?_, fun h0 => ?_⟩
    · have := hs (len * 32 + (m - len) * 32) (by
        rw [hx]
        simp only [DataW.weights, Tryz.underlying35, bytesRaw, List.mem_cons]
        left
        simp
        omega)
      rw [reach_is] at this
      omega
    · have each : ∀ j, j < len → ∃ x0 x1 x2 x3 : Int, (Lit.int .i64 x0).wf = true ∧ (Lit.int .i64 x1).wf = true ∧ (Lit.int .i64 x2).wf = true ∧ (Lit.int .i64 x3).wf = true ∧
          W.cell? (a.add (j * 4)) = some (.int .i64 x0) ∧ W.cell? (a.add (j * 4 + 1)) = some (.int .i64 x1) ∧ W.cell? (a.add (j * 4 + 2)) = some (.int .i64 x2) ∧ W.cell? (a.add (j * 4 + 3)) = some (.int .i64 x3) := by
        intro j hj
        obtain ⟨cs, h1, h2⟩ := hel j (by omega)
        obtain ⟨_, hlen, hc⟩ := World.cells?_some h1
        obtain ⟨c0, c1, c2, c3, rfl⟩ := list4 hlen
        obtain ⟨z0, z1, z2, z3, k, _, _, t0, t1, t2, t3⟩ := trod_struct4 Tryz.underlying92 h2
        simp [cellsInt] at t0 t1 t2 t3
        obtain ⟨x0, e0, _, w0⟩ := DataW.trod_int Tryz.underlying3 t0
        obtain ⟨x1, e1, _, w1⟩ := DataW.trod_int Tryz.underlying3 t1
        obtain ⟨x2, e2, _, w2⟩ := DataW.trod_int Tryz.underlying3 t2
        obtain ⟨x3, e3, _, w3⟩ := DataW.trod_int Tryz.underlying3 t3
        simp at e0 e1 e2 e3
        subst e0 e1 e2 e3
        refine ⟨x0, x1, x2, x3, w0, w1, w2, w3, ?_, ?_, ?_, ?_⟩
        · have := hc 0 (by decide); rw [add_add] at this; simpa using this
        · have := hc 1 (by decide); rw [add_add] at this; simpa using this
        · have := hc 2 (by decide); rw [add_add] at this; simpa using this
        · have := hc 3 (by decide); rw [add_add] at this; simpa using this
      obtain ⟨b, off, sp⟩ := a
      obtain ⟨x0, _, _, _, _, _, _, _, hc0, _⟩ := each 0 h0
      have hsp : sp = none := by simpa [Addr.add] using World.cell?_spot hc0
      subst hsp
      refine ⟨b, off, rfl, World.block_lt_of_cell? _ _ hc0, fun j hj => ?_⟩
      obtain ⟨x0, x1, x2, x3, w0, w1, w2, w3, h0, h1, h2, h3⟩ := each j hj
      simp only [add_plain] at h0 h1 h2 h3
      exact ⟨x0, x1, x2, x3, w0, w1, w2, w3, h0, h1, h2, h3⟩

end Go.Proofs.YtecpblabaelopaaGreatDoor
