/- A replay, plainly. -/
import Derived.Test.YtecpblabaelopaaGreatDoorMaySPart
import Derived.Test.YtecpblabaelopaaGreatDoorDoEPart
import Derived.Test.YtecpblabaelopaaGreatDoorSkDPart
namespace Go.Proofs.YtecpblabaelopaaGreatDoor
open Go.RowKit
set_option maxRecDepth 100000

def replayM (im : List Int) (L : List Ev) : Nat → Mach
  | 0 => newM im
  | n + 1 => ((replayM im L n).step (toldL n L).irq (toldL n L).blk (toldL n L).val).1
theorem replay_may {im : List Int} {L : List Ev} (hi : newNo im = 0) (hL : chkNo L = 0) : ∀ n, n ≤ 3000 → MayP (replayM im L n) ∧ (replayM im L n).count ≤ n
  | 0, _ => ⟨newM_may hi, Int.le_refl _⟩
  | n + 1, hn => by
    obtain ⟨h1, h2⟩ := replay_may hi hL n (by omega)
    have ht := toldL_may hL n
    refine ⟨h1.step _ ht.all ht.len ht.val (by omega), ?_⟩
    have := step_count (replayM im L n) (toldL n L).irq (toldL n L).blk (toldL n L).val
    show ((replayM im L n).step _ _ _).1.count ≤ ((n + 1 : Nat) : Int)
    omega

def noMach12 : Mach := ⟨[], 0, 0, false, false, 0, 0, 0, [], [], 0, 0⟩
def replayG (im bs : List Int) (cnt n : Int) : Mach × Int :=
  if (tapeG im bs cnt).1 ≠ 0 then (noMach12, (tapeG im bs cnt).1) else if inB n 0 cnt = false then (noMach12, 2) else (replayM im (tapeG im bs cnt).2 n.toNat, 0)
theorem tapeG_ok {im bs : List Int} {cnt : Int} (h : (tapeG im bs cnt).1 = 0) : newNo im = 0 ∧ inB cnt 0 3000 = true ∧ (decD bs).1 = 0 ∧ (tapeG im bs cnt).2 = (decD bs).2 := by
  unfold tapeG at h ⊢
  split at h
  · rename_i h1; exact absurd h h1
  · rename_i h1
    split at h
    · cases h
    · rename_i h2
      split at h
      · rename_i h3; exact absurd h h3
      · rename_i h3
        split at h
        · cases h
        · rename_i h4
          rw [if_neg h1, if_neg h2, if_neg h3, if_neg h4]
          exact ⟨by simpa using h1, by simpa using h2, by simpa using h3, rfl⟩

end Go.Proofs.YtecpblabaelopaaGreatDoor

/- Events whose memory lies below lo. -/

namespace Go.Proofs.YtecpblabaelopaaGreatDoor
open Go.RowKit
set_option maxRecDepth 100000

structure EvsOld (lo : Nat) (w : World) (v : Value) (L : List Ev) : Prop where
  shape : ∃ A c, v = .slice A L.length c
  bound : L.length * 40 ≤ 140737488351232
  each : ∀ A c, v = .slice A L.length c → 0 < L.length → ∃ b off, A = some ⟨b, off, none⟩ ∧ b < lo ∧ ∀ j, j < L.length → w.cell? ⟨b, off + j * 3, none⟩ = some (.int .i64 (L.getD j noEv).at_) ∧ w.cell? ⟨b, off + j * 3 + 1, none⟩ = some (.int .i64 (L.getD j noEv).kind) ∧ ∃ u, w.cell? ⟨b, off + j * 3 + 2, none⟩ = some u ∧ IntsOld lo w u (L.getD j noEv).data
theorem EvsOld.below {lo : Nat} {w w' : World} {v : Value} {L : List Ev} (h : EvsOld lo w v L) (hb : Below lo w w') : EvsOld lo w' v L := by
  refine ⟨h.shape, h.bound, fun A c e h0 => ?_⟩
  obtain ⟨b, off, rfl, hlt, hj⟩ := h.each A c e h0
  refine ⟨b, off, rfl, hlt, fun j hjl => ?_⟩
  obtain ⟨h1, h2, u, h3, h4⟩ := hj j hjl
  exact ⟨(hb.cell (p := ⟨b, off + j * 3, none⟩) hlt).trans h1, (hb.cell (p := ⟨b, off + j * 3 + 1, none⟩) hlt).trans h2, u, (hb.cell (p := ⟨b, off + j * 3 + 2, none⟩) hlt).trans h3, h4.below hb⟩
theorem IntsAt.oldT {w : World} {v : Value} {l : List Int} (h : IntsAt w v l) : IntsOld w.heap.size w v l := by
  obtain ⟨A, c, rfl, hl, hc⟩ := h
  refine ⟨A, c, rfl, hl, fun h0 => ?_⟩
  obtain ⟨b, off, rfl, hb, hj⟩ := hc h0
  exact ⟨b, off, rfl, hb, hj⟩
theorem EvsAt.old {w : World} {v : Value} {L : List Ev} (h : EvsAt w v L) : EvsOld w.heap.size w v L := by
  obtain ⟨A, c, rfl, hl, hc⟩ := h
  refine ⟨⟨A, c, rfl⟩, hl, fun A' c' e h0 => ?_⟩
  simp only [Value.slice.injEq, true_and] at e
  obtain ⟨rfl, rfl⟩ := e
  obtain ⟨b, off, rfl, hb, hj⟩ := hc h0
  refine ⟨b, off, rfl, hb, fun j hjl => ?_⟩
  obtain ⟨h1, h2, u, h3, h4⟩ := hj j hjl
  exact ⟨h1, h2, u, h3, h4.oldT⟩

end Go.Proofs.YtecpblabaelopaaGreatDoor

/- Contract of run.Replay. -/

namespace Go.Proofs.YtecpblabaelopaaGreatDoor
open Go.RowKit
set_option maxRecDepth 100000

theorem EvsOld.at {lo : Nat} {w : World} {v : Value} {L : List Ev} (h : EvsOld lo w v L) (hlo : lo ≤ w.heap.size) : EvsAt w v L := by
  obtain ⟨A, c, rfl⟩ := h.shape
  refine ⟨A, c, rfl, h.bound, fun h0 => ?_⟩
  obtain ⟨b, off, rfl, hb, hj⟩ := h.each A c rfl h0
  refine ⟨b, off, rfl, Nat.lt_of_lt_of_le hb hlo, fun j hjl => ?_⟩
  obtain ⟨h1, h2, u, h3, Au, cu, rfl, hl, hc⟩ := hj j hjl
  refine ⟨h1, h2, _, h3, Au, cu, rfl, hl, fun h0 => ?_⟩
  obtain ⟨b', off', rfl, hb', hj'⟩ := hc h0
  exact ⟨b', off', rfl, Nat.lt_of_lt_of_le hb' hlo, hj'⟩
theorem EvsOld.mono {lo lo' : Nat} {w : World} {v : Value} {L : List Ev} (h : EvsOld lo w v L) (hl : lo ≤ lo') : EvsOld lo' w v L := by
  refine ⟨h.shape, h.bound, fun A c e h0 => ?_⟩
  obtain ⟨b, off, rfl, hb, hj⟩ := h.each A c e h0
  refine ⟨b, off, rfl, by omega, fun j hjl => ?_⟩
  obtain ⟨h1, h2, u, h3, Au, cu, rfl, hl2, hc⟩ := hj j hjl
  refine ⟨h1, h2, _, h3, Au, cu, rfl, hl2, fun h0 => ?_⟩
  obtain ⟨b', off', rfl, hb', hj'⟩ := hc h0
  exact ⟨b', off', rfl, by omega, hj'⟩
theorem DecQ.fits {w w' : World} {u : Value} {L : List Ev} (h : DecQ w w' u (0, L)) : ∃ A c, u = .slice A L.length c ∧ L.length ≤ c := by
  obtain ⟨R, hR, ho, hR1, hR2⟩ := h.ok rfl
  have hl : R.length = L.length := by
    have := congrArg List.length hR
    simpa using this
  rcases ho.row.2 with ⟨rfl, h0⟩ | ⟨g, cap, cur, rfl, _, hh, h1, _⟩
  · exact ⟨none, 0, by rw [← hl, h0], by omega⟩
  · exact ⟨_, cap, by rw [hl], by omega⟩
theorem stepNo_zero {m : Mach} (hm : MayP m) {t : Tl} (ht : TlMay t) (hc : m.count < 1099511627776) : stepNo m t.blk t.val = 0 := by
  have h1 : (m.count == 1099511627776) = false := by simp; omega
  unfold stepNo
  rw [mayP_iff.2 hm, ht.all, ht.val, h1]
  rcases ht.len with e | e <;> simp [e]

def RepQ (w : World) (G : Mach × Int) (e : Ending) (w' : World) : Prop :=
  ∃ A1 d1 A2 d2 A3 d3, e = .returned (.tuple #[.agg (G.1.cells (.slice A1 G.1.regs.length d1) (.slice A2 G.1.mem.length d2) (.slice A3 G.1.out.length d3)), .int .i64 G.2]) ∧ MachAt w' (.slice A1 G.1.regs.length d1) (.slice A2 G.1.mem.length d2) (.slice A3 G.1.out.length d3) G.1 ∧ Below w.heap.size w w'
theorem repQ_no {w w' : World} {no : Int} (hb : Below w.heap.size w w') : RepQ w (noMach12, no) (.returned (.tuple #[.agg zeroM, .int .i64 no])) w' :=
  ⟨none, 0, none, 0, none, 0, rfl, ⟨⟨none, 0, rfl, by simp [noMach12], fun h => by simp [noMach12] at h⟩, ⟨none, 0, rfl, by simp [noMach12], fun h => by simp [noMach12] at h⟩, ⟨none, 0, rfl, by simp [noMach12], fun h => by simp [noMach12] at h⟩⟩, hb⟩

set_option maxHeartbeats 4000000 in
theorem Replay_any (iv ev : Value) (im bs : List Int) (cnt n : Int) (w : World) (h : TapeAt w iv ev im bs) (hL : Laid w) :
    Calls Tryz.prog 17 #[.agg #[iv, ev, .int .i64 cnt], .int .i64 n] w fun e w' => RepQ w (replayG im bs cnt n) e w' := by
  have h' := h
  obtain ⟨Ai, ci, rfl, -, -⟩ := h'.ims
  obtain ⟨Ae, ce, rfl, hfit⟩ := h'.fit
  obtain ⟨b0, b1, b2⟩ := two_boxes (Below.refl (((w.alloc (.cells #[.slice Ai im.length ci, .slice Ae bs.length ce, .int .i64 cnt] 27)).alloc (.cells zeroM 37)).heap.size) ((w.alloc (.cells #[.slice Ai im.length ci, .slice Ae bs.length ce, .int .i64 cnt] 27)).alloc (.cells zeroM 37)))
  obtain ⟨W, hW⟩ : ∃ W, W = (w.alloc (.cells #[.slice Ai im.length ci, .slice Ae bs.length ce, .int .i64 cnt] 27)).alloc (.cells zeroM 37) := ⟨_, rfl⟩
  rw [← hW] at b0 b1 b2
  have HW : Hid (W = (w.alloc (.cells #[.slice Ai im.length ci, .slice Ae bs.length ce, .int .i64 cnt] 27)).alloc (.cells zeroM 37)) := hW
  have HX : Hid (W.heap[w.heap.size]? = some (.cells #[.slice Ai im.length ci, .slice Ae bs.length ce, .int .i64 cnt] 27 (0, 0)) ∧ W.heap[w.heap.size + 1]? = some (.cells zeroM 37 (0, 0)) ∧ Below w.heap.size w W) := ⟨b0, b1, b2⟩
  have HC : Hid (Calls Tryz.prog 29 #[.agg #[.slice Ai im.length ci, .slice Ae bs.length ce, .int .i64 cnt]] W fun e w' => ∃ u, e = .returned (.tuple #[u, .int .i64 (tapeG im bs cnt).1]) ∧ DecQ W w' u (tapeG im bs cnt)) := RunCheck_any _ _ im bs cnt W (h.below b2) (hL.below b2)
  have HI : Hid (IntsAt w (.slice Ai im.length ci) im ∧ ∀ x ∈ bs, 0 ≤ x ∧ x ≤ 255) := ⟨h.ims, by
    obtain ⟨_, _, _, _, hy, _⟩ := h.evs
    exact hy⟩
  obtain ⟨G, hG⟩ : ∃ G, G = replayG im bs cnt n := ⟨_, rfl⟩
  rw [← hG]
  have HG : Hid (G = replayG im bs cnt n) := hG
  have HTO : Hid ((tapeG im bs cnt).1 = 0 → newNo im = 0 ∧ inB cnt 0 3000 = true ∧ (decD bs).1 = 0 ∧ (tapeG im bs cnt).2 = (decD bs).2) := tapeG_ok
  obtain ⟨⟨gn, GL⟩, hT⟩ : ∃ T, T = tapeG im bs cnt := ⟨_, rfl⟩
  have HT : Hid ((gn, GL) = tapeG im bs cnt) := hT
  rw [← hT] at HC HTO
  obtain ⟨x0, x1, x2, xf, xl⟩ := three_cells b0
  clear h h' hL hW b0 b1 b2 hG hT
  go_enter Tryz.func17, Tryz.ntmps17
  go_wp2_with fail
  rw [← HW.out]
  refine HC.out.mono ?_
  rintro e w1 ⟨u, rfl, hq⟩
  have H1 : Hid (w1.heap[w.heap.size]? = some (.cells #[.slice Ai im.length ci, .slice Ae bs.length ce, .int .i64 cnt] 27 (0, 0)) ∧ w1.heap[w.heap.size + 1]? = some (.cells zeroM 37 (0, 0)) ∧ Below w.heap.size w w1 ∧ DecQ W w1 u (gn, GL)) := ⟨(hq.old.block _ (lt_of_block HX.out.1)).trans HX.out.1, (hq.old.block _ (lt_of_block HX.out.2.1)).trans HX.out.2.1, HX.out.2.2.trans (hq.old.mono HX.out.2.2.size), hq⟩
  clear hq HC x0 x1 x2 xf xl HW
  obtain ⟨z0, z1, z2, zf, zl⟩ := three_cells H1.out.1
  by_cases hn : gn = 0
  case neg =>
    have HE : Hid (G = (noMach12, gn)) := by show _ = _; rw [HG.out, replayG, if_pos (by rw [← HT.out]; exact hn), ← HT.out]
    have d0 : (gn != 0) = true := by simpa using hn
    obtain ⟨⟨y0, y1, y2, y3, y4, y5, y6, y7, y8, y9, y10, y11⟩, yf, yl⟩ := twelve_cells H1.out.2.1
    clear hn
    dsimp only
    go_wp2_with fail
    refine bodyPost_ret (v := .tuple #[.agg zeroM, .int .i64 gn]) (by simp [results, Tryz.results17, go_sem, y0, y1, y2, y3, y4, y5, y6, y7, y8, y9, y10, y11]) rfl ?_
    rw [HE.out]
    exact repQ_no (below_set12 H1.out.2.2.1 (by omega) _ _ _ _ _ _ _ _ _ _ _ _)
  case pos =>
    subst hn
    obtain ⟨hni, -, hdz, hGL⟩ := HTO.out rfl
    have HCK : Hid (chkNo GL = 0 ∧ newNo im = 0) := ⟨by rw [show GL = (decD bs).2 from hGL]; exact (decD_back HI.out.2 hdz).2.1, hni⟩
    have HCN : Hid (cnt ≤ 3000) := by
      have h3 := (HTO.out rfl).2.1
      exact (inB_iff.1 h3).2
    obtain ⟨Au, cu, rfl, hcap⟩ := H1.out.2.2.2.fits
    have HCAP : Hid (GL.length ≤ cu) := hcap
    have HEO : Hid (EvsOld w1.heap.size w1 (.slice Au GL.length cu) GL) := (H1.out.2.2.2.look).old
    clear hni hdz hGL hcap HTO
    cases hin : inB n 0 cnt with
    | false =>
      have HE : Hid (G = (noMach12, 2)) := by show _ = _; rw [HG.out, replayG, if_neg (by rw [← HT.out]; simp), if_pos hin]
      dsimp only
      go_wp2_with fail
      refine (outsideR_any _ _ _).mono ?_
      rintro e w2 ⟨p, q, rfl, hc2, hb2⟩
      have HC2 : Hid (CloAtR w2 p q 0 cnt ∧ Below w.heap.size w w2) := ⟨hc2, H1.out.2.2.1.trans (hb2.mono H1.out.2.2.1.size)⟩
      obtain ⟨⟨y0, y1, y2, y3, y4, y5, y6, y7, y8, y9, y10, y11⟩, yf, yl⟩ := twelve_cells ((hb2.block _ (lt_of_block H1.out.2.1)).trans H1.out.2.1)
      clear hc2 hb2 z0 z1 z2 zf zl
      go_wp2_with (go_at_call 72; refine (cloR_any n 0 cnt p q _ HC2.out.1).mono ?_; rw [hin]; rintro e w' ⟨rfl, hw'⟩; rw [hw']; clear hw' w')
      refine bodyPost_ret (v := .tuple #[.agg zeroM, .int .i64 2]) (by simp [results, Tryz.results17, go_sem, y0, y1, y2, y3, y4, y5, y6, y7, y8, y9, y10, y11]) rfl ?_
      rw [HE.out]
      exact repQ_no (below_set12 HC2.out.2 (by omega) _ _ _ _ _ _ _ _ _ _ _ _)
    | true =>
      obtain ⟨N, hN⟩ : ∃ N : Nat, n = (N : Int) := ⟨n.toNat, by have := (inB_iff.1 hin).1; omega⟩
      subst hN
      have HN : Hid (N ≤ 3000) := by have := (inB_iff.1 hin).2; have := HCN.out; show N ≤ 3000; omega
      have HE : Hid (G = (replayM im GL N, 0)) := by show _ = _; rw [HG.out, replayG, if_neg (by rw [← HT.out]; simp), if_neg (by rw [hin]; simp), ← HT.out, Int.toNat_natCast]
      dsimp only
      go_wp2_with fail
      refine (outsideR_any _ _ _).mono ?_
      rintro e w2 ⟨p, q, rfl, hc2, hb2⟩
      have HC2 : Hid (CloAtR w2 p q 0 cnt ∧ Below w.heap.size w w2) := ⟨hc2, H1.out.2.2.1.trans (hb2.mono H1.out.2.2.1.size)⟩
      have H2 : Hid (w2.heap[w.heap.size]? = some (.cells #[.slice Ai im.length ci, .slice Ae bs.length ce, .int .i64 cnt] 27 (0, 0)) ∧ w2.heap[w.heap.size + 1]? = some (.cells zeroM 37 (0, 0)) ∧ EvsOld w2.heap.size w2 (.slice Au GL.length cu) GL) := ⟨(hb2.block _ (lt_of_block H1.out.1)).trans H1.out.1, (hb2.block _ (lt_of_block H1.out.2.1)).trans H1.out.2.1, (HEO.out.below hb2).mono hb2.size⟩
      clear hc2 hb2 z0 z1 z2 zf zl HEO H1 HX
      obtain ⟨z0, z1, z2, zf, zl⟩ := three_cells H2.out.1
      go_wp2_with (first
        | (go_at_call 72; refine (cloR_any (N : Int) 0 cnt p q _ HC2.out.1).mono ?_; rw [hin]; rintro e w' ⟨rfl, hw'⟩; rw [hw']; clear hw' w'))
      refine (New_ok _ im w2 (HI.out.1.below HC2.out.2) HCK.out.2).mono ?_
      rintro e w3 ⟨rv, mv, ov, rfl, ho3, hb3⟩
      obtain ⟨A1, d1, A2, d2, A3, d3, rfl, rfl, rfl⟩ := ho3.shape
      have H3 : Hid (OwnM w3 w2.heap.size (.slice A1 (newM im).regs.length d1) (.slice A2 (newM im).mem.length d2) (.slice A3 (newM im).out.length d3) (newM im) ∧ Below w.heap.size w w3 ∧ w3.heap[w.heap.size + 1]? = some (.cells zeroM 37 (0, 0)) ∧ EvsOld w3.heap.size w3 (.slice Au GL.length cu) GL ∧ w2.heap.size ≤ w3.heap.size) := ⟨ho3, HC2.out.2.trans (hb3.mono HC2.out.2.size), (hb3.block _ (lt_of_block H2.out.2.1)).trans H2.out.2.1, (H2.out.2.2.below hb3).mono hb3.size, hb3.size⟩
      have hml : (newM im).regs.length = (newM im).regs.length := rfl
      obtain ⟨M0, hM0⟩ : ∃ M0, M0 = newM im := ⟨_, rfl⟩
      rw [← hM0] at H3 ⊢
      have HM0 : Hid (M0 = newM im) := hM0
      clear ho3 hb3 z0 z1 z2 zf zl H2 HC2 hin hM0 hml
      simp only [Mach.cells]
      go_wp2_with fail
      go_loopw [7, 9] (fun ev i wr => ∃ (k : Nat) (M : Mach) (B1 : Option Addr) (e1 : Nat) (B2 : Option Addr) (e2 : Nat) (B3 : Option Addr) (e3 : Nat), k ≤ N ∧ ev = .int .i64 0 ∧ i = .int .i64 (k : Int) ∧ Hid (M = replayM im GL k ∧ wr.heap[w3.heap.size]? = some (.cells (M.cells (.slice B1 M.regs.length e1) (.slice B2 M.mem.length e2) (.slice B3 M.out.length e3)) 37 (0, 0)) ∧ OwnM wr w2.heap.size (.slice B1 M.regs.length e1) (.slice B2 M.mem.length e2) (.slice B3 M.out.length e3) M ∧ Below w3.heap.size w3 wr)) (fun _ i _ => N - (intOf i).toNat)
      case atStart => exact ⟨0, M0, A1, d1, A2, d2, A3, d3, Nat.zero_le _, rfl, rfl, HM0.out, Go.Deep.blk_alloc_new _ _, H3.out.1.below (below_alloc _ _), below_alloc _ _⟩
      case round =>
        obtain ⟨k, M, B1, e1, B2, e2, B3, e3, hk, rfl, rfl, HR⟩ := hrel
        obtain ⟨⟨z0, z1, z2, z3, z4, z5, z6, z7, z8, z9, z10, z11⟩, zf, zl⟩ := twelve_cells HR.out.2.1
        by_cases hlt : k < N
        · have hl : (k : Int) < (N : Int) := by omega
          have hw2 : IntKind.i64.wrap ((k : Int) + 1) = (k : Int) + 1 := IntWalk.i64_in _ (by have := HN.out; omega)
          have HMM : Hid (MayP M ∧ M.count < 1099511627776) := by
            have := replay_may HCK.out.2 HCK.out.1 k (by have := HN.out; omega)
            rw [← HR.out.1] at this
            exact ⟨this.1, by have := this.2; have := HN.out; omega⟩
          have HKL : Hid (k < N) := hlt
          clear z0 z1 z2 z3 z4 z5 z6 z7 z8 z9 z10 z11 zf zl hlt
          go_wp2_with fail
          refine (told_any Au cu GL (k : Int) wr ((H3.out.2.2.2.1.below HR.out.2.2.2).at HR.out.2.2.2.size) HCK.out.1 HCAP.out).mono ?_
          rintro e w5 ⟨B, cb, rfl, hi5, hb5⟩
          obtain ⟨T, hTT⟩ : ∃ T, T = toldL (k : Int) GL := ⟨_, rfl⟩
          rw [← hTT] at hi5 ⊢
          have HTL : Hid (T = toldL (k : Int) GL ∧ TlMay T) := ⟨hTT, by rw [hTT]; exact toldL_may HCK.out.1 _⟩
          have hx5 := (hb5.block _ (lt_of_block HR.out.2.1)).trans HR.out.2.1
          obtain ⟨⟨z0, z1, z2, z3, z4, z5, z6, z7, z8, z9, z10, z11⟩, zf, zl⟩ := twelve_cells hx5
          have hst := Step_ok M (.slice B1 M.regs.length e1) (.slice B2 M.mem.length e2) (.slice B3 M.out.length e3) T.irq B cb T.blk T.val w5 ((HR.out.2.2.1.below hb5).at HMM.out.1.fits) hi5 HMM.out.1 HTL.out.2.all HTL.out.2.len HMM.out.2 (stepNo_zero HMM.out.1 HTL.out.2 HMM.out.2)
          obtain ⟨R, hR⟩ : ∃ R, R = M.step T.irq T.blk T.val := ⟨_, rfl⟩
          rw [← hR] at hst
          have HST : Hid (Calls Tryz.prog 48 #[.agg (M.cells (.slice B1 M.regs.length e1) (.slice B2 M.mem.length e2) (.slice B3 M.out.length e3)), .bool T.irq, .slice B T.blk.length cb, .int .i64 T.val] w5 fun e w' => ∃ rv' mv' ov', e = .returned (.tuple #[.agg (R.1.cells rv' mv' ov'), .int .i64 R.2, .int .i64 0]) ∧ OwnM w' w5.heap.size rv' mv' ov' R.1 ∧ Below w5.heap.size w5 w') := hst
          have H5 : Hid (w5.heap[w3.heap.size]? = some (.cells (M.cells (.slice B1 M.regs.length e1) (.slice B2 M.mem.length e2) (.slice B3 M.out.length e3)) 37 (0, 0)) ∧ Below w3.heap.size w3 w5 ∧ w2.heap.size ≤ w5.heap.size ∧ R.1 = replayM im GL (k + 1)) := ⟨hx5, HR.out.2.2.2.trans (hb5.mono HR.out.2.2.2.size), by have := H3.out.2.2.2.2; have := HR.out.2.2.2.size; have := hb5.size; omega, by rw [hR, HTL.out.1, HR.out.1]; rfl⟩
          simp only [Mach.cells] at HST
          clear hst hR hi5 hb5 hx5 hTT
          dsimp only
          go_wp2_with fail
          refine HST.out.mono ?_
          rintro e w6 ⟨rv', mv', ov', rfl, ho6, hb6⟩
          obtain ⟨D1, f1, D2, f2, D3, f3, rfl, rfl, rfl⟩ := ho6.shape
          have hx6 := (hb6.block _ (lt_of_block H5.out.1)).trans H5.out.1
          clear z0 z1 z2 z3 z4 z5 z6 z7 z8 z9 z10 z11 zf zl HST
          obtain ⟨⟨z0, z1, z2, z3, z4, z5, z6, z7, z8, z9, z10, z11⟩, zf, zl⟩ := twelve_cells hx6
          have H6 : Hid (OwnM w6 w2.heap.size (.slice D1 R.1.regs.length f1) (.slice D2 R.1.mem.length f2) (.slice D3 R.1.out.length f3) R.1 ∧ w6.heap[w3.heap.size]? = some (.cells (M.cells (.slice B1 M.regs.length e1) (.slice B2 M.mem.length e2) (.slice B3 M.out.length e3)) 37 (0, 0)) ∧ Below w3.heap.size w3 w6) := ⟨ho6.mono H5.out.2.2.1, hx6, H5.out.2.1.trans (hb6.mono H5.out.2.1.size)⟩
          clear ho6 hb6 hx6
          simp only
          go_wp2_with fail
          refine ⟨⟨k + 1, R.1, D1, f1, D2, f2, D3, f3, HKL.out, rfl, by go_num, H5.out.2.2.2, box_set12 H6.out.2.1 rfl _ _ _ _ _ _ _ _ _ _ _ _, H6.out.1.set12 ⟨_, H6.out.2.1⟩ _ _ _ _ _ _ _ _ _ _ _ _, below_set12 H6.out.2.2 (Nat.le_refl _) _ _ _ _ _ _ _ _ _ _ _ _⟩, ?_⟩
          have := HKL.out
          simp [intOf]; omega
        · have e : k = N := by omega
          subst e
          have hl : ¬ (k : Int) < (k : Int) := by omega
          have hr : wr.heap[w.heap.size + 1]? = some (.cells zeroM 37 (0, 0)) := (HR.out.2.2.2.block _ (lt_of_block H3.out.2.2.1)).trans H3.out.2.2.1
          obtain ⟨⟨y0, y1, y2, y3, y4, y5, y6, y7, y8, y9, y10, y11⟩, yf, yl⟩ := twelve_cells hr
          have HEND : Hid (OwnM wr w2.heap.size (.slice B1 M.regs.length e1) (.slice B2 M.mem.length e2) (.slice B3 M.out.length e3) M ∧ IsBox wr (w.heap.size + 1) ∧ Below w.heap.size w wr ∧ MayP M ∧ M = replayM im GL k) := ⟨HR.out.2.2.1, ⟨_, hr⟩, H3.out.2.1.trans (HR.out.2.2.2.mono H3.out.2.1.size), by have := (replay_may HCK.out.2 HCK.out.1 k HN.out).1; rwa [← HR.out.1] at this, HR.out.1⟩
          clear hr hlt
          go_wp2_with fail
          refine bodyPost_ret (v := .tuple #[.agg #[.slice B1 M.regs.length e1, .int .i64 M.pc, .int .i64 M.back, .bool M.ints, .bool M.wait, .int .i64 M.table, .int .i64 M.count, .int .i64 M.fin, .slice B2 M.mem.length e2, .slice B3 M.out.length e3, .int .i64 M.ready, .int .i64 M.want], .int .i64 0]) (by simp [results, Tryz.results17, go_sem, y0, y1, y2, y3, y4, y5, y6, y7, y8, y9, y10, y11]) rfl ?_
          rw [HE.out, ← HEND.out.2.2.2.2]
          exact ⟨B1, e1, B2, e2, B3, e3, rfl, (HEND.out.1.set12 HEND.out.2.1 _ _ _ _ _ _ _ _ _ _ _ _).at HEND.out.2.2.2.1.fits, below_set12 HEND.out.2.2.1 (by omega) _ _ _ _ _ _ _ _ _ _ _ _⟩

end Go.Proofs.YtecpblabaelopaaGreatDoor

/- A step of the seeker: plain laws. -/

namespace Go.Proofs.YtecpblabaelopaaGreatDoor
open Go.RowKit
set_option maxRecDepth 100000

def replayW (im : List Int) (L : List Ev) : Nat → Int
  | 0 => -1
  | n + 1 => ((replayM im L n).step (toldL n L).irq (toldL n L).blk (toldL n L).val).2
def EvsLow (w : World) (lo : Nat) (v : Value) (L : List Ev) : Prop := ∀ W, Below lo w W → EvsAt W v L
theorem EvsLow.at {w : World} {lo : Nat} {v : Value} {L : List Ev} (h : EvsLow w lo v L) : EvsAt w v L := h w (Below.refl _ _)
theorem EvsLow.below {w w' : World} {lo : Nat} {v : Value} {L : List Ev} (h : EvsLow w lo v L) (hb : Below lo w w') : EvsLow w' lo v L := fun W hW => h W (hb.trans hW)
theorem SkAt.foot_lo {w : World} {lo hp kp : Nat} {F E K : Int} {ev : Value} {S : SkS} (h : SkAt w lo hp kp F E K ev S) {g : Nat} (hg : S.foot kp g) : lo ≤ g := by
  rcases hg with e | e | e | ⟨p, hp, e⟩ | e
  · exact (h.host.foot_lt e).1
  · rw [e]; exact h.low.1
  · rw [e]; exact h.low.2.2.1
  · rw [e]; exact h.low.2.2.2 p hp
  · exact (World.ownsRow.lt h.kept g e).1
theorem SkAt.foot_lt {w : World} {lo hp kp : Nat} {F E K : Int} {ev : Value} {S : SkS} (h : SkAt w lo hp kp F E K ev S) {g : Nat} (hg : S.foot kp g) : g < w.heap.size := by
  rcases hg with e | e | e | ⟨p, hp, e⟩ | e
  · exact (h.host.foot_lt e).2
  · rw [e]; exact lt_of_block h.box
  · rw [e]; exact lt_of_block h.spn.box
  · obtain ⟨i, hi, rfl⟩ := mem_getD hp
    rw [e]; exact lt_of_block (h.sps i hi).box
  · exact (World.ownsRow.lt h.kept g e).2
theorem SkTo.low {w w' : World} {lo hp kp : Nat} {F E K : Int} {ev : Value} {S S' : SkS} (h : SkAt w lo hp kp F E K ev S) (k : SkTo w lo hp kp F E K ev S w' S') (hlow : lo ≤ w.heap.size) : Below lo w w' :=
  ⟨k.chg.os, k.chg.tape, k.chg.output, k.chg.size, fun g hg => k.chg.kept g (by omega) (fun e => by have := h.foot_lo e; omega)⟩

def StepPost (w : World) (lo hp kp : Nat) (F E K : Int) (ev : Value) (M : Nat → Mach) (Wr : Nat → Int) (cnt : Nat) (S : SkS) (e : Ending) (w' : World) : Prop :=
  ∃ S', SkTo w lo hp kp F E K ev S w' S' ∧ ((e = .returned (.int .i64 0) ∧ SkOk M Wr cnt K S' ∧ S'.pn.place = S.pn.place + 1) ∨ (e = .returned (.int .i64 7) ∧ (S.R.length : Int) < 16 * (K + 2)))

theorem step_end {w W w6 w7 : World} {lo hp kp : Nat} {F E K : Int} {ev : Value} {M : Nat → Mach} {Wr : Nat → Int} {cnt : Nat} {S : SkS} (h : SkAt w lo hp kp F E K ev S) (ho : SkOk M Wr cnt K S) (hlow : lo ≤ w.heap.size) (hW : Below w.heap.size w W) {n : Nat} (hn : S.pn.place = (n : Int)) (hn1 : n < cnt) {m : Mach} {rv ov : Value} {k : Int} (hm : m = M (n + 1)) (hk : k = Wr (n + 1)) (hr : OwnI W w.heap.size rv m.regs) (hov : OwnI W w.heap.size ov m.out)
    {v' : HV} {D' : List (List Int)} {R' s' : List Int} (hh : HostAt w6 lo hp v' D' R') (hs : SpAt w6 hp S.pn.sp s') (hsys : Sys D' R' (s' :: S.s0 :: S.ss)) (hwo : ∀ t ∈ S.s0 :: S.ss, wordsOf D' t = wordsOf S.D t) (hRl : R'.length = S.R.length) (hf : ∀ g, v'.foot g → S.hv.foot g ∨ W.heap.size ≤ g) (hc : Chg (fun g => (S.hv.foot g ∨ g = S.pn.sp) ∨ g = kp) W w6) (hmem : wordsOf D' s' = m.mem)
    (hb : w6.heap[kp]? = some (.cells (putAt (skL F E K ev S.p0 S.pn S.kv).toArray 20 (guestCells m rv ov)) 156 (0, 0))) (hw7 : w7 = (w6.setCell ⟨kp, 19, none⟩ (.int .i64 (S.pn.place + 1))).setCell ⟨kp, 33, none⟩ (.int .i64 k)) :
    ∃ S', SkTo w lo hp kp F E K ev S w7 S' ∧ SkOk M Wr cnt K S' ∧ S'.pn.place = S.pn.place + 1 ∧ S'.pn.m = m ∧ S'.R.length = S.R.length := by
  obtain ⟨b1, b2, b3, b4⟩ := h.boxes
  have hkl := lt_of_block h.box
  have hsl := lt_of_block h.spn.box
  have k7 : w7.heap[kp]? = some (.cells (skL F E K ev S.p0 ⟨S.pn.place + 1, rv, ov, m, S.pn.sp, k⟩ S.kv).toArray 156 (0, 0)) := by
    have e1 : w7.heap[kp]? = some (.cells (((putAt (skL F E K ev S.p0 S.pn S.kv).toArray 20 (guestCells m rv ov)).setIfInBounds 19 (.int .i64 (S.pn.place + 1))).setIfInBounds 33 (.int .i64 k)) 156 (0, 0)) := by
      rw [hw7]
      simp [World.setCell, Array.getElem?_modify, hb]
    rw [e1]
    rfl
  have hc7 : Chg (fun b => b = kp) w6 w7 := by
    rw [hw7]
    exact Chg.set (F := fun b => b = kp) (Chg.set (F := fun b => b = kp) (Chg.refl _ _) (a := ⟨kp, 19, none⟩) (Or.inl rfl) _) (a := ⟨kp, 33, none⟩) (Or.inl rfl) _
  have hcW : Chg (fun g => S.hv.foot g ∨ g = S.pn.sp ∨ g = kp) w w7 := by
    have a0 : Chg (fun g => S.hv.foot g ∨ g = S.pn.sp ∨ g = kp) w W := Chg.of_below hW
    have a1 := a0.trans hc (fun g e => Or.inl (by
      rcases e with (e | e) | e
      · exact Or.inl e
      · exact Or.inr (Or.inl e)
      · exact Or.inr (Or.inr e)))
    exact a1.trans hc7 (fun g e => Or.inl (Or.inr (Or.inr e)))
  have hk6 : w6.heap.size ≤ w7.heap.size := hc7.size
  have hh7 : HostAt w7 lo hp v' D' R' := hh.chg hc7 (fun g e => by rw [e]; exact BoxT.off ⟨_, hb⟩ hh (by decide) (by decide) (by decide))
  have hspk : S.pn.sp ≠ kp := fun e => BoxT.ne b3 b1 (by decide) e
  have hs7 : SpAt w7 hp S.pn.sp s' := hs.chg hc7 hspk
  have hf' : ∀ g, v'.foot g → S.hv.foot g ∨ w.heap.size ≤ g := fun g e => by
    rcases hf g e with e | e
    · exact Or.inl e
    · exact Or.inr (Nat.le_trans hW.size e)
  have hown : ∀ {u : Value} {l : List Int}, OwnI W w.heap.size u l → OwnI w7 lo u l ∧ Off v'.foot u := fun hu => by
    refine ⟨ownsRow_mono ((hc7.own (hc.own hu fun g hg e => ?_) fun g hg e => ?_)) hlow, fun g hg e => ?_⟩
    · have := (hu.lt g hg).1
      rcases e with (e | e) | e
      · have := (h.host.foot_lt e).2; omega
      · omega
      · omega
    · have := (hu.lt g hg).1
      omega
    · have h1 := hu.lt g hg
      rcases hf g e with e | e
      · have := (h.host.foot_lt e).2; omega
      · omega
  have hg : PtOk w7 lo v'.foot ⟨S.pn.place + 1, rv, ov, m, S.pn.sp, k⟩ := ⟨(hown hr).1, (hown hov).1, (hown hr).2, (hown hov).2⟩
  have hto := h.jump (pn' := ⟨S.pn.place + 1, rv, ov, m, S.pn.sp, k⟩) hcW hh7 hf' k7 hs7 (Or.inl rfl) (hsys.perm (List.Perm.swap _ _ _)) hg hlow hRl
  refine ⟨_, hto, ⟨ho.z, ho.i0.same (hwo _ (by simp)), ⟨n + 1, by simp [hn], by omega, hm, by rw [hmem, hm], hk⟩, fun i hi => ?_, ho.few, ho.k8⟩, rfl, rfl, hRl⟩
  have hlk := h.lenk
  have his : i < S.ss.length := by rw [hlk]; exact hi
  have hm2 : S.ss.getD i [] ∈ S.ss := by
    have e : S.ss.getD i [] = S.ss[i] := by simp [List.getD, his]
    rw [e]; exact List.getElem_mem his
  exact (ho.ik i hi).same (hwo _ (List.mem_cons_of_mem _ hm2))

theorem step_fail {w W w6 : World} {lo hp kp : Nat} {F E K : Int} {ev : Value} {M : Nat → Mach} {Wr : Nat → Int} {cnt : Nat} {S : SkS} (h : SkAt w lo hp kp F E K ev S) (ho : SkOk M Wr cnt K S) (hlow : lo ≤ w.heap.size) (hW : Below w.heap.size w W)
    {v' : HV} {D' : List (List Int)} {R' s' : List Int} (hh : HostAt w6 lo hp v' D' R') (hs : SpAt w6 hp S.pn.sp s') (hsys : Sys D' R' (s' :: S.s0 :: S.ss)) (hRl : R'.length = S.R.length) (hf : ∀ g, v'.foot g → S.hv.foot g ∨ W.heap.size ≤ g) (hc : Chg (fun g => (S.hv.foot g ∨ g = S.pn.sp) ∨ g = kp) W w6)
    (hb : w6.heap[kp]? = some (.cells (skL F E K ev S.p0 S.pn S.kv).toArray 156 (0, 0))) (hfew : S.R.length < 16 * ((S.s0 :: S.ss).length + 1)) : StepPost w lo hp kp F E K ev M Wr cnt S (.returned (.int .i64 7)) w6 := by
  obtain ⟨b1, b2, b3, b4⟩ := h.boxes
  have hcW : Chg (fun g => S.hv.foot g ∨ g = S.pn.sp ∨ g = kp) w w6 := by
    have a0 : Chg (fun g => S.hv.foot g ∨ g = S.pn.sp ∨ g = kp) w W := Chg.of_below hW
    exact a0.trans hc (fun g e => Or.inl (by
      rcases e with (e | e) | e
      · exact Or.inl e
      · exact Or.inr (Or.inl e)
      · exact Or.inr (Or.inr e)))
  have hf' : ∀ g, v'.foot g → S.hv.foot g ∨ w.heap.size ≤ g := fun g e => by
    rcases hf g e with e | e
    · exact Or.inl e
    · exact Or.inr (Nat.le_trans hW.size e)
  have hg : PtOk w6 lo v'.foot S.pn := h.gn.chg hcW (fun g e => by
    rcases e with e | e | e
    · exact Or.inl e
    · exact Or.inr ⟨_, by rw [e]; exact b3, by decide⟩
    · exact Or.inr ⟨_, by rw [e]; exact b1, by decide⟩) hf'
  have hlk := h.lenk
  have := ho.few
  refine ⟨_, h.jump (pn' := S.pn) hcW hh hf' hb hs (Or.inl rfl) (hsys.perm (List.Perm.swap _ _ _)) hg hlow hRl, Or.inr ⟨rfl, ?_⟩⟩
  simp only [List.length_cons] at hfew
  omega

end Go.Proofs.YtecpblabaelopaaGreatDoor

/- Contract of seeker.step. -/

namespace Go.Proofs.YtecpblabaelopaaGreatDoor
open Go.RowKit
set_option maxRecDepth 100000

theorem blank_step_one (rv mv ov : Value) (m : Mach) (h1 : ∃ A n c, rv = .slice A n c) (h2 : ∃ A n c, mv = .slice A n c) (h3 : ∃ A n c, ov = .slice A n c) : (m.cells rv mv ov).all (·.oneCell') = true := by
  obtain ⟨A, n, c, rfl⟩ := h1
  obtain ⟨A2, n2, c2, rfl⟩ := h2
  obtain ⟨A3, n3, c3, rfl⟩ := h3
  simp [Mach.cells, Value.oneCell']

theorem BecomePost.z {w w' : World} {lo hp sp b o : Nat} {cur : Array Value} {tb : TypeId} {v : HV} {D : List (List Int)} {R : List Int} {Ss : List (List Int)} {m : Mach} {rv ov : Value} {e : Ending} (h : BecomePost w lo hp sp b o cur tb v D R Ss m rv ov e w') : ∃ z, e = .returned (.int .i64 z) ∧ BecomePost w lo hp sp b o cur tb v D R Ss m rv ov (.returned (.int .i64 z)) w' := by
  obtain ⟨_, _, _, _, _, _, _, _, _, _, _, ⟨e0, _⟩ | ⟨e0, _⟩⟩ := id h
  · exact ⟨_, e0, by rw [← e0]; exact h⟩
  · exact ⟨_, e0, by rw [← e0]; exact h⟩

set_option maxHeartbeats 4000000 in
theorem seekStep_any (lo hp kp : Nat) (F E K : Int) (ev : Value) (im : List Int) (L : List Ev) (cnt : Nat) (S : SkS) (w : World) (h : SkAt w lo hp kp F E K ev S) (ho : SkOk (replayM im L) (replayW im L) cnt K S) (hlow : lo ≤ w.heap.size) (hev : EvsLow w lo ev L) (hcap : ∃ A c, ev = .slice A L.length c ∧ L.length ≤ c) (hno : newNo im = 0) (hck : chkNo L = 0) (hcnt : cnt ≤ 3000) (hE : 1 ≤ E ∧ E ≤ 1000000) (n : Nat) (hn : S.pn.place = (n : Int)) (hlt : n < cnt) :
    Calls Tryz.prog 99 #[hptr kp] w fun e w' => StepPost w lo hp kp F E K ev (replayM im L) (replayW im L) cnt S e w' := by
  obtain ⟨A, c, rfl, hlc⟩ := hcap
  obtain ⟨T, hT⟩ : ∃ T, T = toldL (n : Int) L := ⟨_, rfl⟩
  have hTM : TlMay T := by rw [hT]; exact toldL_may hck _
  have hpm : S.pn.m = replayM im L n ∧ wordsOf S.D S.sn = (replayM im L n).mem := by
    obtain ⟨n', a, b, c, d, e⟩ := ho.inow
    have : n' = n := by omega
    subst this
    exact ⟨c, d⟩
  have hmay : MayP S.pn.m ∧ S.pn.m.count < 1099511627776 := by
    have := replay_may hno hck n (by omega)
    rw [hpm.1]
    exact ⟨this.1, by have := this.2; omega⟩
  obtain ⟨m2, hm2⟩ : ∃ m2, m2 = (S.pn.m.step T.irq T.blk T.val).1 := ⟨_, rfl⟩
  obtain ⟨kw, hkw⟩ : ∃ kw, kw = (S.pn.m.step T.irq T.blk T.val).2 := ⟨_, rfl⟩
  have hM2 : m2 = replayM im L (n + 1) ∧ kw = replayW im L (n + 1) := by
    rw [hm2, hkw, hpm.1, hT]
    exact ⟨rfl, rfl⟩
  have hmay2 : MayP m2 := by rw [hM2.1]; exact (replay_may hno hck (n + 1) (by omega)).1
  have HTD : Hid (∀ W, Below w.heap.size w W → Calls Tryz.prog 47 #[.slice A L.length c, .int .i64 (n : Int)] W fun e w' => ToldQ W T e w') := fun W hW => by
    rw [hT]
    exact told_any A c L n W (hev.at.below hW) hck hlc
  have HWH : Hid (∀ W, Below w.heap.size w W → Calls Tryz.prog 100 #[.agg S.pn.cells.toArray] W fun e w' => ∃ u, e = .returned (.agg (S.pn.m.cells S.pn.rv u S.pn.ov)) ∧ OwnI w' W.heap.size u S.pn.m.mem ∧ Below W.heap.size W w') := fun W hW => by
    obtain ⟨A1, a1, e1⟩ := h.gn.regs.shape
    obtain ⟨A2, a2, e2⟩ := h.gn.out.shape
    have := whole_any lo hp S.hv S.D S.R S.sn (S.s0 :: S.sn :: S.ss) S.pn W (h.host.below hW) (h.spn.below hW) h.sys (by simp) ⟨_, _, _, e1⟩ ⟨_, _, _, e2⟩
    rw [hpm.2, ← hpm.1] at this
    exact this
  have HST : Hid (∀ W u B cb, Below w.heap.size w W → OwnI W w.heap.size u S.pn.m.mem → IntsAt W (.slice B T.blk.length cb) T.blk → Calls Tryz.prog 48 #[.agg (S.pn.m.cells S.pn.rv u S.pn.ov), .bool T.irq, .slice B T.blk.length cb, .int .i64 T.val] W fun e w' => ∃ rv' mv' ov', e = .returned (.tuple #[.agg (m2.cells rv' mv' ov'), .int .i64 kw, .int .i64 0]) ∧ OwnM w' W.heap.size rv' mv' ov' m2 ∧ Below W.heap.size W w') := fun W u B cb hW hu hb => by
    have hf := hmay.1.fits
    rw [hm2, hkw]
    exact Step_ok S.pn.m S.pn.rv u S.pn.ov T.irq B cb T.blk T.val W ⟨(h.gn.regs.at hf.regs).below hW, hu.at hf.mem, (h.gn.out.at hf.out).below hW⟩ hb hmay.1 hTM.all hTM.len hmay.2 (stepNo_zero hmay.1 hTM hmay.2)
  have h8 : S.ks.length ≤ 8 := by have := ho.few; have := ho.k8; omega
  have HH : Hid (SkAt w lo hp kp F E K (.slice A L.length c) S ∧ SkOk (replayM im L) (replayW im L) cnt K S ∧ S.ks.length ≤ 8 ∧ lo ≤ w.heap.size ∧ S.pn.place = (n : Int) ∧ n < cnt ∧ cnt ≤ 3000) := ⟨h, ho, h8, hlow, hn, hlt, hcnt⟩
  have HM2 : Hid (m2 = replayM im L (n + 1) ∧ kw = replayW im L (n + 1) ∧ MayP m2) := ⟨hM2.1, hM2.2, hmay2⟩
  have HSZ : Hid ((Tryz.prog.info? 153).map (·.size) = some 15) := by show _ = _; kernel_rfl
  have HSM : Hid ((Tryz.prog.info? 37).map (·.size) = some 12) := by show _ = _; kernel_rfl
  have HCK : Hid (∀ W, Below w.heap.size w W → W.heap[kp]? = some (.cells (skL F E K (.slice A L.length c) S.p0 S.pn S.kv).toArray 156 (0, 0))) := fun W hW => by rw [hW.block _ (lt_of_block h.box)]; exact h.box
  obtain ⟨k1, k2, k3, k19, k27, k32, k33, k34, kf, kl⟩ := sk_cells h.box
  rw [hn] at k19
  have HQ1 : Hid (∀ W, Below w.heap.size w W → W.cell? ⟨kp, 3, none⟩ = some (.slice A L.length c) ∧ W.cell? ⟨kp, 19, none⟩ = some (.int .i64 (n : Int))) := fun W hW => ⟨(hW.cell (p := ⟨kp, 3, none⟩) kl).trans k3, (hW.cell (p := ⟨kp, 19, none⟩) kl).trans k19⟩
  have HTM : Hid (TlMay T) := hTM
  obtain ⟨irq, blk, val⟩ := T
  simp only at HTD HST
  clear h ho hlow hev hno hck hm2 hkw hM2 hmay hmay2 hT hTM hpm k1 k2 k27 k32 k33 k34 hn
  go_enter Tryz.func99, Tryz.ntmps99
  go_wp2_with fail
  go_region_held3 (fun w' => w'.cell? ⟨kp, 3, none⟩ = some (.slice A L.length c) ∧ w'.cell? ⟨kp, 19, none⟩ = some (.int .i64 (n : Int))) (go_keep)
    (first
      | (go_at_call 47; refine (HTD.out _ ((Below.refl _ w).drew)).mono ?_; rintro e w1 ⟨B, cb, rfl, hi1, hb1⟩; have HB1 : Hid (IntsAt w1 (.slice B blk.length cb) blk ∧ Below w.heap.size w w1) := ⟨hi1, ((Below.refl _ w).drew).trans hb1⟩; obtain ⟨q1, q2⟩ := HQ1.out w1 HB1.out.2; clear hi1 hb1))
  all_goals
    have hbx1 := HCK.out w1 HB1.out.2
    have HRN : Hid (w1.rangeAt kp 19 S.pn.cells) := (sk_now hbx1).1
    clear hbx1 q1 q2 k3 k19
    go_wp2_with (first
      | (refine wpList_load_mid rfl 153 (.tmp 27) rfl kp 19 rfl S.pn.cells _ HRN.out Tryz.underlying153 rfl HSZ.out ?_))
    refine (HWH.out _ HB1.out.2).mono ?_
    rintro e w2 ⟨u, rfl, hu2, hb2⟩
    have HB2 : Hid (Below w.heap.size w w2 ∧ OwnI w2 w.heap.size u S.pn.m.mem ∧ IntsAt w2 (.slice B blk.length cb) blk) := ⟨HB1.out.2.trans (hb2.mono HB1.out.2.size), ownsRow_mono hu2 HB1.out.2.size, HB1.out.1.below hb2⟩
    clear hu2 hb2
    go_wp2_with fail
    refine (HST.out _ u B cb HB2.out.1 HB2.out.2.1 HB2.out.2.2).mono ?_
    rintro e w3 ⟨rv', mv', ov', rfl, ho3, hb3⟩
    obtain ⟨D1, f1, D2, f2, D3, f3, rfl, rfl, rfl⟩ := ho3.shape
    have HO : Hid ((#[.slice D1 m2.regs.length f1, .int .i64 m2.pc, .int .i64 m2.back, .bool m2.ints, .bool m2.wait, .int .i64 m2.table, .int .i64 m2.count, .int .i64 m2.fin, .slice D2 m2.mem.length f2, .slice D3 m2.out.length f3, .int .i64 m2.ready, .int .i64 m2.want] : Array Value).all (·.oneCell') = true) := blank_step_one _ _ _ m2 ⟨_, _, _, rfl⟩ ⟨_, _, _, rfl⟩ ⟨_, _, _, rfl⟩
    have HSN : Hid ((w3.alloc (.cells zerM 37)).heap[w3.heap.size]? = some (.cells zerM 37 (0, 0)) ∧ (w3.alloc (.cells zerM 37)).setRow w3.heap.size #[.slice D1 m2.regs.length f1, .int .i64 m2.pc, .int .i64 m2.back, .bool m2.ints, .bool m2.wait, .int .i64 m2.table, .int .i64 m2.count, .int .i64 m2.fin, .slice D2 m2.mem.length f2, .slice D3 m2.out.length f3, .int .i64 m2.ready, .int .i64 m2.want] = w3.alloc (.cells #[.slice D1 m2.regs.length f1, .int .i64 m2.pc, .int .i64 m2.back, .bool m2.ints, .bool m2.wait, .int .i64 m2.table, .int .i64 m2.count, .int .i64 m2.fin, .slice D2 m2.mem.length f2, .slice D3 m2.out.length f3, .int .i64 m2.ready, .int .i64 m2.want] 37)) := ⟨Go.Deep.blk_alloc_new _ _, World.setRow_alloc_new _ _ _ _⟩
    obtain ⟨W4, hW4⟩ : ∃ W4, W4 = w3.alloc (.cells #[.slice D1 m2.regs.length f1, .int .i64 m2.pc, .int .i64 m2.back, .bool m2.ints, .bool m2.wait, .int .i64 m2.table, .int .i64 m2.count, .int .i64 m2.fin, .slice D2 m2.mem.length f2, .slice D3 m2.out.length f3, .int .i64 m2.ready, .int .i64 m2.want] 37) := ⟨_, rfl⟩
    have HW4 : Hid (W4 = w3.alloc (.cells #[.slice D1 m2.regs.length f1, .int .i64 m2.pc, .int .i64 m2.back, .bool m2.ints, .bool m2.wait, .int .i64 m2.table, .int .i64 m2.count, .int .i64 m2.fin, .slice D2 m2.mem.length f2, .slice D3 m2.out.length f3, .int .i64 m2.ready, .int .i64 m2.want] 37)) := hW4
    have hb4 : Below w3.heap.size w3 W4 := by rw [hW4]; exact below_alloc _ _
    have hm4 : W4.heap[w3.heap.size]? = some (.cells #[.slice D1 m2.regs.length f1, .int .i64 m2.pc, .int .i64 m2.back, .bool m2.ints, .bool m2.wait, .int .i64 m2.table, .int .i64 m2.count, .int .i64 m2.fin, .slice D2 m2.mem.length f2, .slice D3 m2.out.length f3, .int .i64 m2.ready, .int .i64 m2.want] 37 (0, 0)) := by rw [hW4]; exact Go.Deep.blk_alloc_new _ _
    have hB4 : Below w.heap.size w W4 := HB2.out.1.trans ((hb3.trans (hb4.mono hb3.size)).mono HB2.out.1.size)
    have hO4 : OwnM W4 w.heap.size (.slice D1 m2.regs.length f1) (.slice D2 m2.mem.length f2) (.slice D3 m2.out.length f3) m2 := (ho3.below hb4).mono HB2.out.1.size
    have H4 : Hid (Below w.heap.size w W4 ∧ OwnM W4 w.heap.size (.slice D1 m2.regs.length f1) (.slice D2 m2.mem.length f2) (.slice D3 m2.out.length f3) m2 ∧ W4.heap[w3.heap.size]? = some (.cells #[.slice D1 m2.regs.length f1, .int .i64 m2.pc, .int .i64 m2.back, .bool m2.ints, .bool m2.wait, .int .i64 m2.table, .int .i64 m2.count, .int .i64 m2.fin, .slice D2 m2.mem.length f2, .slice D3 m2.out.length f3, .int .i64 m2.ready, .int .i64 m2.want] 37 (0, 0)) ∧ w.heap.size ≤ w3.heap.size) := ⟨hB4, hO4, hm4, (HB2.out.1.trans (hb3.mono HB2.out.1.size)).size⟩
    clear hW4 hb4 hm4 hB4 hO4 ho3 hb3 HRN
    simp only [Mach.cells]
    go_upto_region 5 with (first
      | (refine wpList_store_row rfl 37 (.tmp 6) (.tmp 34) rfl w3.heap.size #[.slice D1 m2.regs.length f1, .int .i64 m2.pc, .int .i64 m2.back, .bool m2.ints, .bool m2.wait, .int .i64 m2.table, .int .i64 m2.count, .int .i64 m2.fin, .slice D2 m2.mem.length f2, .slice D3 m2.out.length f3, .int .i64 m2.ready, .int .i64 m2.want] rfl rfl 37 _ HSN.out.1 HSM.out rfl HO.out ?_; rw [HSN.out.2, ← HW4.out]))
    have HBC : Hid (∀ W, Below W4.heap.size W4 W → Calls Tryz.prog 137 #[.pointer (some ⟨kp, 19, none⟩), .agg #[.slice D1 m2.regs.length f1, .int .i64 m2.pc, .int .i64 m2.back, .bool m2.ints, .bool m2.wait, .int .i64 m2.table, .int .i64 m2.count, .int .i64 m2.fin, .slice D2 m2.mem.length f2, .slice D3 m2.out.length f3, .int .i64 m2.ready, .int .i64 m2.want]] W fun e w' => BecomePost W lo hp S.pn.sp kp 19 (skL F E K (.slice A L.length c) S.p0 S.pn S.kv).toArray 156 S.hv S.D S.R (S.s0 :: S.ss) m2 (.slice D1 m2.regs.length f1) (.slice D3 m2.out.length f3) e w') := fun W hW => by
      have hb : Below w.heap.size w W := H4.out.1.trans (hW.mono H4.out.1.size)
      have hlk := HH.out.1.lenk
      have h8 := HH.out.2.2.1
      refine become_any lo hp S.pn.sp kp 19 _ _ S.hv S.D S.R S.sn (S.s0 :: S.ss) m2 _ (.slice D2 m2.mem.length f2) _ W (HH.out.1.host.below hb) (HH.out.1.spn.below hb) (HH.out.1.sys.perm (List.Perm.swap _ _ _)) (by simp only [List.length_cons]; omega) (HCK.out W hb) (by rw [skL_size]; omega) (by rfl) (by decide) ((H4.out.2.1.mem.below hW).at HM2.out.2.2.fits.mem) HM2.out.2.2.mem ?_ ⟨_, _, _, rfl⟩ ⟨_, _, _, rfl⟩
      intro g hg e
      have hgl := (H4.out.2.1.mem.lt g hg).1
      rcases e with e | e
      · have := (HH.out.1.host.foot_lt e).2; omega
      · have := lt_of_block HH.out.1.spn.box; omega
    have HQ5 : Hid (∀ W w' e5, Below W4.heap.size W4 W → BecomePost W lo hp S.pn.sp kp 19 (skL F E K (.slice A L.length c) S.p0 S.pn S.kv).toArray 156 S.hv S.D S.R (S.s0 :: S.ss) m2 (.slice D1 m2.regs.length f1) (.slice D3 m2.out.length f3) e5 w' → w'.heap[w3.heap.size]? = some (.cells #[.slice D1 m2.regs.length f1, .int .i64 m2.pc, .int .i64 m2.back, .bool m2.ints, .bool m2.wait, .int .i64 m2.table, .int .i64 m2.count, .int .i64 m2.fin, .slice D2 m2.mem.length f2, .slice D3 m2.out.length f3, .int .i64 m2.ready, .int .i64 m2.want] 37 (0, 0))) := fun W w' e5 hW hP => by
      obtain ⟨_, _, _, _, _, _, _, _, _, _, hc, _⟩ := hP
      refine hc.box (by rw [hW.block _ (lt_of_block H4.out.2.2.1)]; exact H4.out.2.2.1) ?_
      have h4 := H4.out.2.2.2
      rintro ((e | e) | e)
      · have := (HH.out.1.host.foot_lt e).2; omega
      · have := lt_of_block HH.out.1.spn.box; omega
      · have := lt_of_block HH.out.1.box; omega
    obtain ⟨⟨x0, x1, x2, x3, x4, x5, x6, x7, x8, x9, x10, x11⟩, xf, xl⟩ := twelve_cells H4.out.2.2.1
    have hk4 := HCK.out W4 H4.out.1
    have kl4 := lt_of_block hk4
    go_region_held3 (fun w' => w'.cell? ⟨w3.heap.size, 0, none⟩ = some (.slice D1 m2.regs.length f1) ∧ w'.cell? ⟨w3.heap.size, 1, none⟩ = some (.int .i64 m2.pc) ∧ w'.cell? ⟨w3.heap.size, 2, none⟩ = some (.int .i64 m2.back) ∧ w'.cell? ⟨w3.heap.size, 3, none⟩ = some (.bool m2.ints) ∧ w'.cell? ⟨w3.heap.size, 4, none⟩ = some (.bool m2.wait) ∧ w'.cell? ⟨w3.heap.size, 5, none⟩ = some (.int .i64 m2.table) ∧ w'.cell? ⟨w3.heap.size, 6, none⟩ = some (.int .i64 m2.count) ∧ w'.cell? ⟨w3.heap.size, 7, none⟩ = some (.int .i64 m2.fin) ∧ w'.cell? ⟨w3.heap.size, 8, none⟩ = some (.slice D2 m2.mem.length f2) ∧ w'.cell? ⟨w3.heap.size, 9, none⟩ = some (.slice D3 m2.out.length f3) ∧ w'.cell? ⟨w3.heap.size, 10, none⟩ = some (.int .i64 m2.ready) ∧ w'.cell? ⟨w3.heap.size, 11, none⟩ = some (.int .i64 m2.want)) (go_keep)
      (first
        | (go_at_call 137; refine (HBC.out _ ((Below.refl _ W4).drew)).mono ?_; rintro e w5 hP; have hx5 := HQ5.out _ _ _ ((Below.refl _ W4).drew) hP; obtain ⟨z, rfl, hZ⟩ := BecomePost.z hP; have HBP : Hid (_ ∧ _) := ⟨hZ, hx5⟩; obtain ⟨⟨z0, z1, z2, z3, z4, z5, z6, z7, z8, z9, z10, z11⟩, zf, zl⟩ := twelve_cells hx5; clear hP hZ hx5))
    all_goals
      clear x0 x1 x2 x3 x4 x5 x6 x7 x8 x9 x10 x11 xf xl
      obtain ⟨v', D', R', s', a1, a2, a3, a4, a5, a6, a7, a8⟩ := HBP.out.1
      rcases a8 with ⟨e0, a9, a10⟩ | ⟨e7, a9, a10⟩
      · have hz : z = 0 := by simpa using e0
        subst hz
        have u19 : w5.cell? ⟨kp, 19, none⟩ = some (.int .i64 (n : Int)) := by
          unfold World.cell?
          simp only [a10]
          rw [← HH.out.2.2.2.2.1]
          rfl
        have u33 : w5.cell? ⟨kp, 33, none⟩ = some (.int .i64 S.pn.wrote) := by
          unfold World.cell?
          simp only [a10]
          rfl
        have uf : ∀ j, w5.frozen? ⟨kp, j, none⟩ = false := fun j => by simp [World.frozen?, a10]
        have ul := lt_of_block a10
        have HSTP : Hid (∃ S', SkTo w lo hp kp F E K (.slice A L.length c) S ((w5.setCell ⟨kp, 19, none⟩ (.int .i64 ((n : Int) + 1))).setCell ⟨kp, 33, none⟩ (.int .i64 kw)) S' ∧ SkOk (replayM im L) (replayW im L) cnt K S' ∧ S'.pn.place = (n : Int) + 1 ∧ S'.pn.m = m2 ∧ S'.R.length = S.R.length) := by
          have := step_end HH.out.1 HH.out.2.1 HH.out.2.2.2.1 (W := W4.drew) H4.out.1.drew HH.out.2.2.2.2.1 HH.out.2.2.2.2.2.1 HM2.out.1 HM2.out.2.1 (H4.out.2.1.regs.below ((Below.refl _ W4).drew)) (H4.out.2.1.out.below ((Below.refl _ W4).drew)) a1 a2 a3 a4 a5 a6 a7 a9 a10 rfl
          rw [HH.out.2.2.2.2.1] at this
          exact this
        have hn3 : (n : Int) < 3000 := by omega
        have hkn : w3.heap.size ≠ kp := by
          have := lt_of_block HH.out.1.box
          have := H4.out.2.2.2
          omega
        clear a1 a2 a3 a4 a5 a6 a7 a9 a10 e0
        go_upto_region 10 with fail
        obtain ⟨S', t1, t2, t3, t4, t5⟩ := HSTP.out
        obtain ⟨W7, hW7⟩ : ∃ W7, W7 = (w5.setCell ⟨kp, 19, none⟩ (.int .i64 ((n : Int) + 1))).setCell ⟨kp, 33, none⟩ (.int .i64 kw) := ⟨_, rfl⟩
        have hm7 : W7.heap[w3.heap.size]? = some (.cells #[.slice D1 m2.regs.length f1, .int .i64 m2.pc, .int .i64 m2.back, .bool m2.ints, .bool m2.wait, .int .i64 m2.table, .int .i64 m2.count, .int .i64 m2.fin, .slice D2 m2.mem.length f2, .slice D3 m2.out.length f3, .int .i64 m2.ready, .int .i64 m2.want] 37 (0, 0)) := by
          rw [hW7, Below.heap_setCell _ _ _ _ hkn, Below.heap_setCell _ _ _ _ hkn]
          exact HBP.out.2
        rw [← hW7] at t1 ⊢
        obtain ⟨⟨-, -, -, -, -, -, -, y7, -, -, -, -⟩, yf, yl⟩ := twelve_cells hm7
        obtain ⟨j1, -, -, j19, -, -, -, -, jf, jl⟩ := sk_cells t1.at_.box
        rw [t3] at j19
        have HS7 : Hid (_ ∧ _ ∧ _ ∧ _) := ⟨t1, t2, t3, t5⟩
        have hE0 : E ≠ 0 := by omega
        clear hW7 hm7 t1 t2 t3 t5 HSTP z0 z1 z2 z3 z4 z5 z6 z7 z8 z9 z10 z11 zf zl u19 u33 uf ul
        by_cases hd : ((n : Int) + 1).tmod E = 0
        · by_cases hf0 : m2.fin = 0
          · have g1 : (m2.fin == 0) = true := by simp [hf0]
            go_quiet (fail)
            all_goals
              obtain ⟨W8, hW8⟩ : ∃ W8, W8 = W7.drewN nq := ⟨_, rfl⟩
              have HB8 : Hid (Below W7.heap.size W7 W8) := by show Below _ _ _; rw [hW8]; exact below_drewN _ _
              rw [← hW8]
              have HKP : Hid (Calls Tryz.prog 138 #[hptr kp] W8 fun e w' => KeepPost W8 lo hp kp F E K (.slice A L.length c) (replayM im L) (replayW im L) cnt S' e w') := keep_any lo hp kp F E K _ _ _ cnt S' W8 (HS7.out.1.at_.below HB8.out) HS7.out.2.1 (Nat.le_trans HH.out.2.2.2.1 (Nat.le_trans HS7.out.1.chg.size HB8.out.size))
              clear hW8 j1 j19 jf jl y7 yf yl
              go_wp2_with fail
              refine HKP.out.mono ?_
              rintro e w9 ⟨rfl, S9, u1, u2, u3⟩
              have HU : Hid (_ ∧ _ ∧ _) := ⟨u1, u2, u3⟩
              clear u1 u2 u3
              go_wp2_with fail
              go_ret
              exact ⟨S9, (HS7.out.1.trans (SkTo.same HS7.out.1.at_ HB8.out)).trans HU.out.1, Or.inl ⟨rfl, HU.out.2.1, by rw [HU.out.2.2, HS7.out.2.2.1, HH.out.2.2.2.2.1]⟩⟩
          · have g1 : (m2.fin == 0) = false := by simp [hf0]
            go_quiet (fail)
            all_goals
              go_wp2_with fail
              go_ret
              exact ⟨S', HS7.out.1.trans (SkTo.same HS7.out.1.at_ (below_drewN _ _)), Or.inl ⟨rfl, HS7.out.2.1, by rw [HS7.out.2.2.1, HH.out.2.2.2.2.1]⟩⟩
        · have g1 : (((n : Int) + 1).tmod E == 0) = false := by simp [hd]
          go_quiet (fail)
          all_goals
            go_wp2_with fail
            go_ret
            exact ⟨S', HS7.out.1.trans (SkTo.same HS7.out.1.at_ (below_drewN _ _)), Or.inl ⟨rfl, HS7.out.2.1, by rw [HS7.out.2.2.1, HH.out.2.2.2.2.1]⟩⟩
      · have hz : z = 7 := by simpa using e7
        subst hz
        have HE7 : Hid (StepPost w lo hp kp F E K (.slice A L.length c) (replayM im L) (replayW im L) cnt S (.returned (.int .i64 7)) w5) := step_fail HH.out.1 HH.out.2.1 HH.out.2.2.2.1 (W := W4.drew) H4.out.1.drew a1 a2 a3 a5 a6 a7 a10 a9
        clear a1 a2 a3 a4 a5 a6 a7 a9 a10 e7
        go_wp2_with fail
        go_ret
        exact HE7.out

end Go.Proofs.YtecpblabaelopaaGreatDoor
