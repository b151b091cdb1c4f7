/- Contract of deck.NewDeck. -/
import Derived.Test.YtecpblabaelopaaGreatDoorHoNPart
import Derived.Test.YtecpblabaelopaaGreatDoorInPart
import Derived.Test.YtecpblabaelopaaGreatDoorMaySPart
import Derived.Test.YtecpblabaelopaaGreatDoorTapePart
import Derived.Test.YtecpblabaelopaaGreatDoorByFPart
import Derived.Test.YtecpblabaelopaaGreatDoorRepPPart
import Derived.Test.YtecpblabaelopaaGreatDoorPtPart
namespace Go.Proofs.YtecpblabaelopaaGreatDoor
open Go.RowKit
set_option maxRecDepth 100000

def deckNo (F E K : Int) (im bs : List Int) (cnt : Int) : Int := if setupNo F E K ≠ 0 then setupNo F E K else (tapeG im bs cnt).1
theorem deckNo_set {F E K : Int} {im bs : List Int} {cnt : Int} (h : setupNo F E K ≠ 0) : deckNo F E K im bs cnt = setupNo F E K := by unfold deckNo; rw [if_pos h]
theorem deckNo_tape {F E K : Int} {im bs : List Int} {cnt : Int} (h : setupNo F E K = 0) : deckNo F E K im bs cnt = (tapeG im bs cnt).1 := by unfold deckNo; rw [if_neg (by rw [h]; simp)]
theorem setupNo_bd {F E K : Int} (h : setupNo F E K = 0) : (0 ≤ F ∧ F ≤ 200) ∧ (1 ≤ E ∧ E ≤ 3000) ∧ (1 ≤ K ∧ K ≤ 8) := by
  unfold setupNo at h
  split at h
  · rename_i hh
    simp only [Bool.and_eq_true, inB_iff] at hh
    exact ⟨hh.1.1, hh.1.2, hh.2⟩
  · cases h
def NewPost (w : World) (F E K : Int) (im bs : List Int) (cnt : Int) (e : Ending) (w' : World) : Prop :=
  Below w.heap.size w w' ∧
  ((deckNo F E K im bs cnt ≠ 0 ∧ e = .returned (.tuple #[.pointer none, .int .i64 (deckNo F E K im bs cnt)])) ∨
   (deckNo F E K im bs cnt = 0 ∧ ∃ dp iv ev, e = .returned (.tuple #[hptr dp, .int .i64 0]) ∧ w.heap.size ≤ dp ∧ cnt = (cnt.toNat : Int) ∧ DkAt w' dp F E K iv ev cnt.toNat im (tapeG im bs cnt).2 none ∧ DkOk F E K ev cnt.toNat im (tapeG im bs cnt).2))
theorem new_done {w w2 w3 w4 : World} {F E K : Int} {im bs : List Int} {cnt : Int} {u iv : Value} (hb : Below w.heap.size w w2) (hq : DecQ w2 w3 u (tapeG im bs cnt)) (hby : ∀ x ∈ bs, 0 ≤ x ∧ x ≤ 255) (hs : setupNo F E K = 0) (hg : (tapeG im bs cnt).1 = 0) (hi : OwnI w4 w.heap.size iv im) (h34 : Below w3.heap.size w3 w4) :
    NewPost w F E K im bs cnt (.returned (.tuple #[hptr w4.heap.size, .int .i64 0])) (w4.alloc (.cells (dkA F E K iv u cnt (.pointer none)) 114)) := by
  obtain ⟨g1, g2, g3, g4⟩ := tapeG_ok hg
  obtain ⟨c1, c2⟩ := inB_iff.1 g2
  obtain ⟨d1, d2, d3⟩ := decD_back hby g3
  have hb3 := hb.trans (hq.old.mono hb.size)
  have hb4 := hb3.trans (h34.mono hb3.size)
  have hA := below_alloc w4 (.cells (dkA F E K iv u cnt (.pointer none)) 114)
  have hG : tapeG im bs cnt = (0, (tapeG im bs cnt).2) := by rw [← hg]
  obtain ⟨R, hR, ho, hR1, hR2⟩ := hq.ok hg
  have hcc : cnt = (cnt.toNat : Int) := by omega
  have him : im.length * 8 ≤ 140737488351232 := by
    unfold newNo at g1
    split at g1
    · cases g1
    · omega
  have hfit : ∃ A c, u = .slice A (tapeG im bs cnt).2.length c ∧ (tapeG im bs cnt).2.length ≤ c := by
    have := hq
    rw [hG] at this
    exact this.fits
  refine ⟨hb4.trans (hA.mono hb4.size), Or.inr ⟨by rw [deckNo_tape hs, hg], w4.heap.size, iv, u, rfl, hb4.size, hcc, ⟨?_, fun W hW => ?_, fun W hW => ?_, fun k hk => by cases hk⟩, ⟨(setupNo_bd hs).1, (setupNo_bd hs).2.1, (setupNo_bd hs).2.2, g1, by rw [g4]; exact d2, by omega, hfit⟩⟩⟩
  · rw [← hcc]
    exact Go.Deep.blk_alloc_new _ _
  · exact (hi.below (hA.trans hW)).at him
  · have h1 := (ho.below h34).below (hA.trans hW)
    have h2 := (h1.evs hR1 hR2).at_
    rwa [hR] at h2

set_option maxHeartbeats 4000000 in
theorem NewDeck_any (F E K : Int) (iv ev : Value) (im bs : List Int) (cnt : Int) (w : World) (h : TapeAt w iv ev im bs) (hL : Laid w) :
    Calls Tryz.prog 35 #[.agg #[.int .i64 F, .int .i64 E, .int .i64 K], .agg #[iv, ev, .int .i64 cnt]] w fun e w' => NewPost w F E K im bs cnt e w' := by
  have h' := h
  obtain ⟨Ai, ci, rfl, -, -⟩ := h'.ims
  obtain ⟨Ae, ce, rfl, -⟩ := h'.fit
  obtain ⟨W, hW⟩ : ∃ W, W = (w.alloc (.cells #[.int .i64 F, .int .i64 E, .int .i64 K] 23)).alloc (.cells #[.slice Ai im.length ci, .slice Ae bs.length ce, .int .i64 cnt] 27) := ⟨_, rfl⟩
  have hb0 : Below w.heap.size w W := by rw [hW]; exact (below_alloc _ _).alloc (by simp) _
  have hx1 : W.heap[w.heap.size]? = some (.cells #[.int .i64 F, .int .i64 E, .int .i64 K] 23 (0, 0)) := by
    rw [hW, Go.Deep.blk_alloc_lt _ _ _ (by simp)]; exact Go.Deep.blk_alloc_new _ _
  have hx2 : W.heap[w.heap.size + 1]? = some (.cells #[.slice Ai im.length ci, .slice Ae bs.length ce, .int .i64 cnt] 27 (0, 0)) := by
    have := Go.Deep.blk_alloc_new (w.alloc (.cells #[.int .i64 F, .int .i64 E, .int .i64 K] 23)) (.cells #[.slice Ai im.length ci, .slice Ae bs.length ce, .int .i64 cnt] 27)
    rw [hW]
    rwa [show (w.alloc (.cells #[.int .i64 F, .int .i64 E, .int .i64 K] 23)).heap.size = w.heap.size + 1 by simp] at this
  have HW : Hid (W = (w.alloc (.cells #[.int .i64 F, .int .i64 E, .int .i64 K] 23)).alloc (.cells #[.slice Ai im.length ci, .slice Ae bs.length ce, .int .i64 cnt] 27)) := hW
  have HX : Hid (Below w.heap.size w W ∧ (∀ X, Below W.heap.size W X → X.heap[w.heap.size]? = some (.cells #[.int .i64 F, .int .i64 E, .int .i64 K] 23 (0, 0)) ∧ X.heap[w.heap.size + 1]? = some (.cells #[.slice Ai im.length ci, .slice Ae bs.length ce, .int .i64 cnt] 27 (0, 0)))) := ⟨hb0, fun X hX => ⟨(hX.block _ (lt_of_block hx1)).trans hx1, (hX.block _ (lt_of_block hx2)).trans hx2⟩⟩
  have HC : Hid (Calls Tryz.prog 62 #[.agg #[.int .i64 F, .int .i64 E, .int .i64 K]] W fun r w' => r = .returned (.int .i64 (setupNo F E K)) ∧ Below W.heap.size W w') := DeckCheck_any F E K W
  have HD : Hid (∀ X, Below w.heap.size w X → Calls Tryz.prog 29 #[.agg #[.slice Ai im.length ci, .slice Ae bs.length ce, .int .i64 cnt]] X fun e w' => ∃ u, e = .returned (.tuple #[u, .int .i64 (tapeG im bs cnt).1]) ∧ DecQ X w' u (tapeG im bs cnt)) := fun X hX => RunCheck_any _ _ im bs cnt X (h.below hX) (hL.below hX)
  have HI : Hid (∀ X, Below w.heap.size w X → IntsAt X (.slice Ai im.length ci) im) := fun X hX => h.ims.below hX
  have HBY : Hid (∀ x ∈ bs, 0 ≤ x ∧ x ≤ 255) := by
    obtain ⟨_, _, _, _, hy, _⟩ := h.evs
    exact hy
  obtain ⟨G, hG⟩ : ∃ G, G = tapeG im bs cnt := ⟨_, rfl⟩
  have HG : Hid (G = tapeG im bs cnt) := hG
  rw [← hG] at HD
  obtain ⟨sn, hsn⟩ : ∃ s, s = setupNo F E K := ⟨_, rfl⟩
  have HSN : Hid (sn = setupNo F E K) := hsn
  rw [← hsn] at HC
  obtain ⟨s0, s1, s2, sf, sl⟩ := three_cells hx1
  clear h h' hL hW hb0 hx1 hx2 hG hsn
  go_enter Tryz.func35, Tryz.ntmps35
  go_wp2_with fail
  rw [← HW.out]
  refine HC.out.mono ?_
  rintro e w2 ⟨rfl, hb2⟩
  have HB2 : Hid (Below W.heap.size W w2 ∧ Below w.heap.size w w2) := ⟨hb2, HX.out.1.trans (hb2.mono HX.out.1.size)⟩
  clear hb2 HC HW s0 s1 s2 sf sl
  by_cases hn : sn = 0
  case neg =>
    have d0 : (sn != 0) = true := by simpa using hn
    have HE : Hid (deckNo F E K im bs cnt = sn ∧ sn ≠ 0) := ⟨by rw [deckNo_set (by rw [← HSN.out]; exact hn), HSN.out], hn⟩
    clear hn
    go_wp2_with fail
    refine bodyPost_ret (v := .tuple #[.pointer none, .int .i64 sn]) (by simp [results, Tryz.results35, go_sem]) rfl ?_
    exact ⟨HB2.out.2, Or.inl ⟨by rw [HE.out.1]; exact HE.out.2, by rw [HE.out.1]⟩⟩
  case pos =>
    have d0 : (sn != 0) = false := by simp [hn]
    have HS0 : Hid (setupNo F E K = 0) := by show _ = _; rw [← HSN.out]; exact hn
    obtain ⟨t0, t1, t2, tf, tl⟩ := three_cells (HX.out.2 w2 HB2.out.1).2
    clear hn
    go_wp2_with fail
    refine (HD.out _ HB2.out.2).mono ?_
    rintro e w3 ⟨u, rfl, hq⟩
    have HQ : Hid (DecQ w2 w3 u G) := hq
    have HB3 : Hid (Below W.heap.size W w3 ∧ Below w.heap.size w w3) := ⟨HB2.out.1.trans (hq.old.mono HB2.out.1.size), HB2.out.2.trans (hq.old.mono HB2.out.2.size)⟩
    clear hq t0 t1 t2 tf tl
    obtain ⟨g0, hg0⟩ : ∃ g, g = G.1 := ⟨_, rfl⟩
    rw [← hg0]
    by_cases hn : g0 = 0
    case neg =>
      have d1 : (g0 != 0) = true := by simpa using hn
      have HE : Hid (deckNo F E K im bs cnt = g0 ∧ g0 ≠ 0) := ⟨by rw [deckNo_tape HS0.out, hg0, HG.out], hn⟩
      clear hn hg0
      go_wp2_with fail
      refine bodyPost_ret (v := .tuple #[.pointer none, .int .i64 g0]) (by simp [results, Tryz.results35, go_sem]) rfl ?_
      exact ⟨HB3.out.2, Or.inl ⟨by rw [HE.out.1]; exact HE.out.2, by rw [HE.out.1]⟩⟩
    case pos =>
      have d1 : (g0 != 0) = false := by simp [hn]
      have HG0 : Hid (G.1 = 0) := by show _ = _; rw [← hg0]; exact hn
      clear hn hg0
      have HFIN : Hid (∀ w4 iv, OwnI w4 w.heap.size iv im → Below w3.heap.size w3 w4 → NewPost w F E K im bs cnt (.returned (.tuple #[hptr w4.heap.size, .int .i64 0])) (w4.alloc (.cells (dkA F E K iv u cnt (.pointer none)) 114))) := fun w4 iv hi h34 => by
        have hq := HQ.out
        have hg := HG0.out
        rw [HG.out] at hq hg
        exact new_done HB2.out.2 hq HBY.out HS0.out hg hi h34
      obtain ⟨Au, cu, hu⟩ : ∃ A c, u = .slice A G.2.length c := by
        have hq := HQ.out
        have e : G = (0, G.2) := by rw [← HG0.out]
        rw [e] at hq
        obtain ⟨A, c, h1, _⟩ := hq.fits
        exact ⟨A, c, h1⟩
      obtain ⟨nL, hnL⟩ : ∃ n, n = G.2.length := ⟨_, rfl⟩
      rw [← hnL] at hu
      subst hu
      obtain ⟨s0, s1, s2, sf, sl⟩ := three_cells (HX.out.2 w3 HB3.out.1).1
      obtain ⟨t0, t1, t2, tf, tl⟩ := three_cells (HX.out.2 w3 HB3.out.1).2
      clear hnL
      go_wp2_with fail
      go_region_held3 (fun w' => w'.cell? ⟨w.heap.size, 0, none⟩ = some (.int .i64 F) ∧ w'.cell? ⟨w.heap.size, 1, none⟩ = some (.int .i64 E) ∧ w'.cell? ⟨w.heap.size, 2, none⟩ = some (.int .i64 K) ∧ w'.cell? ⟨w.heap.size + 1, 0, none⟩ = some (.slice Ai im.length ci) ∧ w'.cell? ⟨w.heap.size + 1, 2, none⟩ = some (.int .i64 cnt)) (go_keep)
        (first
          | (go_at_call 30; refine (Clone_any _ im _ (HI.out _ (by first | exact HB3.out.2 | exact HB3.out.2.drew))).mono ?_; rintro e w4 ⟨A4, c4, rfl, o4, b4⟩; have H4 : Hid (OwnI w4 w.heap.size (.slice A4 im.length c4) im ∧ Below w3.heap.size w3 w4) := ⟨ownsRow_mono o4 HB3.out.2.size, by first | exact b4 | exact ((Below.refl _ w3).drew).trans b4⟩; obtain ⟨q0, q1, q2, qf, ql⟩ := three_cells (HX.out.2 w4 (HB3.out.1.trans (H4.out.2.mono HB3.out.1.size))).1; obtain ⟨r0, r1, r2, rf, rl⟩ := three_cells (HX.out.2 w4 (HB3.out.1.trans (H4.out.2.mono HB3.out.1.size))).2; clear o4 b4))
      all_goals
        go_wp2_with fail
        refine bodyPost_ret (v := .tuple #[hptr w4.heap.size, .int .i64 0]) (by simp [results, Tryz.results35, go_sem]) rfl ?_
        exact HFIN.out _ _ H4.out.1 H4.out.2

end Go.Proofs.YtecpblabaelopaaGreatDoor

/- What deck.Seek makes: guests in a row; plain laws; slices.ContainsFunc with deck's closure. -/

namespace Go.Proofs.YtecpblabaelopaaGreatDoor
open Go.RowKit
set_option maxRecDepth 100000

set_option maxHeartbeats 400000 in
theorem IndexFuncD (v : Value) (l : List Int) (p q : Nat) (lo hi : Int) (w : World) (h : IntsAt w v l) (hq : CloAtD w p q lo hi) :
    Calls Tryz.prog 63 #[v, cloD p q] w fun e w' => ∃ r : Int, e = .returned (.int .i64 r) ∧ decide (0 ≤ r) = !allIn lo hi l ∧ w' = w := by
  obtain ⟨A, c, rfl, hl, hc⟩ := h
  have HQ : Hid (CloAtD w p q lo hi) := hq
  clear hq
  go_enter Tryz.func63, Tryz.ntmps63
  go_wp2
  go_loopw [8] (fun i wr => ∃ k : Nat, k ≤ l.length ∧ i = .int .i64 k ∧ Hid (∀ i, i < k → inB (l.getD i 0) lo hi = true) ∧ wr = w) (fun i _ => l.length - (intOf i).toNat)
  case atStart => exact ⟨0, Nat.zero_le _, rfl, fun i hi => absurd hi (Nat.not_lt_zero _), rfl⟩
  case round =>
    obtain ⟨k, hk, rfl, ht, hw⟩ := hrel
    subst wr
    by_cases hlt : k < l.length
    · obtain ⟨b, off, rfl, hbs, hcell⟩ := hc (by omega)
      have h1 := hcell k hlt
      cases hw : inB (l.getD k 0) lo hi with
      | false =>
        have HN : Hid (true = !allIn lo hi l) := by show _ = _; rw [allIn_no hlt hw]; rfl
        clear hcell hc
        revert h1 hw
        generalize l.getD k 0 = x
        intro h1 hw
        go_wp2_with (go_at_call 64; refine (cloD_any _ lo hi p q _ HQ.out).mono ?_; rintro e w' ⟨rfl, rfl⟩)
        go_ret
        exact ⟨k, rfl, by rw [← HN.out]; simp, rfl⟩
      | true =>
        have HN : Hid (∀ i, i < k + 1 → inB (l.getD i 0) lo hi = true) := allIn_step ht.out hw
        clear hcell hc
        revert h1 hw
        generalize l.getD k 0 = x
        intro h1 hw
        go_wp2_with (go_at_call 64; refine (cloD_any _ lo hi p q _ HQ.out).mono ?_; rintro e w' ⟨rfl, rfl⟩)
        refine ⟨⟨k + 1, by omega, by go_num, HN, trivial⟩, ?_⟩
        simp [intOf]; omega
    · have HN : Hid (false = !allIn lo hi l) := by show _ = _; rw [allIn_iff.2 fun i hi => ht.out i (by omega)]; rfl
      clear hc
      go_wp2
      go_ret
      exact ⟨-1, rfl, by rw [← HN.out]; rfl, rfl⟩
theorem ContainsFuncD (v : Value) (l : List Int) (p q : Nat) (lo hi : Int) (w : World) (h : IntsAt w v l) (hq : CloAtD w p q lo hi) :
    Calls Tryz.prog 36 #[v, cloD p q] w fun e w' => e = .returned (.bool (!allIn lo hi l)) ∧ w' = w := by
  go_enter Tryz.func36, Tryz.ntmps36
  go_wp2_with (go_at_call 63; refine (IndexFuncD v l p q lo hi _ h hq).mono ?_; rintro e w' ⟨r, rfl, hr, rfl⟩)
  go_ret
  exact ⟨rfl, rfl⟩

def GsAt (w : World) (v : Value) (Ms : List Mach) : Prop :=
  ∃ b c, v = .slice (some ⟨b, 0, none⟩) Ms.length c ∧ b < w.heap.size ∧ Ms.length ≤ 100000000 ∧
    ∀ j, j < Ms.length → ∃ rv mv ov, w.rangeAt b (j * 12) ((Ms.getD j noMach12).cells rv mv ov).toList ∧ MachAt w rv mv ov (Ms.getD j noMach12)
theorem GsAt.below {w w' : World} {v : Value} {Ms : List Mach} (h : GsAt w v Ms) (hb : Below w.heap.size w w') : GsAt w' v Ms := by
  obtain ⟨b, c, rfl, hl, hn, hj⟩ := h
  refine ⟨b, c, rfl, Nat.lt_of_lt_of_le hl hb.size, hn, fun j hjl => ?_⟩
  obtain ⟨rv, mv, ov, h1, h2⟩ := hj j hjl
  exact ⟨rv, mv, ov, fun i u hi => (hb.cell (p := ⟨b, j * 12 + i, none⟩) hl).trans (h1 i u hi), h2.below hb⟩

structure SqI (w wr : World) (dp : Nat) (F E K : Int) (iv ev : Value) (cnt : Nat) (im : List Int) (L : List Ev) (gb n : Nat) (l : List Int) (k : Nat) (q : Option DkK) : Prop where
  dk : DkAt wr dp F E K iv ev cnt im L q
  gs : ∃ cur, wr.heap[gb]? = some (.cells cur 37 (0, 0))
  there : wr.there gb 0 (12 * n)
  off : ¬ dkFoot dp q gb
  made : ∀ j, j < k → ∃ rv mv ov, wr.rangeAt gb (j * 12) ((replayM im L (l.getD j 0).toNat).cells rv mv ov).toList ∧ OwnM wr w.heap.size rv mv ov (replayM im L (l.getD j 0).toNat) ∧ Off (dkFoot dp q) rv ∧ Off (dkFoot dp q) mv ∧ Off (dkFoot dp q) ov
  old : Below w.heap.size w wr
  lo : w.heap.size ≤ dp
  gl : dp < gb
theorem there_block {w w' : World} {b n : Nat} (h : w.there b 0 n) (e : w'.heap[b]? = w.heap[b]?) : w'.there b 0 n := fun j hj => by
  obtain ⟨h1, h2⟩ := h j hj
  exact ⟨by rw [World.cell?_of_block (a := ⟨b, 0 + j, none⟩) e]; exact h1, by rw [World.frozen?_of_block (a := ⟨b, 0 + j, none⟩) e]; exact h2⟩
theorem range_block {w w' : World} {b o : Nat} {cs : List Value} (h : w.rangeAt b o cs) (e : w'.heap[b]? = w.heap[b]?) : w'.rangeAt b o cs := fun j v hj => by
  rw [World.cell?_of_block (a := ⟨b, o + j, none⟩) e]
  exact h j v hj
theorem off_later {w w' : World} {dp : Nat} {F E K : Int} {iv ev : Value} {cnt : Nat} {im : List Int} {L : List Ev} {q q' : Option DkK} {lo : Nat} {u : Value} {l : List Int} (hto : DkTo w dp F E K iv ev cnt im L q w' q') (hu : OwnI w lo u l) (ho : Off (dkFoot dp q) u) : Off (dkFoot dp q') u := fun g hg e => by
  rcases hto.foot g e with e | e
  · exact ho g hg e
  · have := (World.ownsRow.lt hu g hg).2; omega
theorem SqI.asked {w wr w' : World} {dp : Nat} {F E K : Int} {iv ev : Value} {cnt : Nat} {im : List Int} {L : List Ev} {gb n : Nat} {l : List Int} {k : Nat} {q q' : Option DkK} (h : SqI w wr dp F E K iv ev cnt im L gb n l k q) (hto : DkTo wr dp F E K iv ev cnt im L q w' q') : SqI w w' dp F E K iv ev cnt im L gb n l k q' := by
  obtain ⟨cur, hc⟩ := h.gs
  have hlt := lt_of_block hc
  have e := hto.chg.kept gb hlt h.off
  have hlo := h.lo
  have hb : Below w.heap.size wr w' := hto.chg.below h.old.size (fun g hg => by
    rcases hg with e | ⟨k, hk, e⟩
    · omega
    · obtain ⟨h1, h2, h3, _⟩ := h.dk.sk k hk
      have := h3.foot_lo e
      omega)
  refine ⟨hto.at_, ⟨cur, by rw [e]; exact hc⟩, there_block h.there e, fun hg => ?_, fun j hj => ?_, h.old.trans hb, h.lo, h.gl⟩
  · rcases hto.foot gb hg with e | e
    · exact h.off e
    · omega
  · obtain ⟨rv, mv, ov, h1, h2, h3, h4, h5⟩ := h.made j hj
    exact ⟨rv, mv, ov, range_block h1 e, ⟨hto.chg.own h2.regs h3, hto.chg.own h2.mem h4, hto.chg.own h2.out h5, h2.rm, h2.ro, h2.mo⟩, off_later hto h2.regs h3, off_later hto h2.mem h4, off_later hto h2.out h5⟩
theorem typed_setCells {b : Nat} {t : TypeId} : ∀ (vs : List Value) (o : Nat) (w : World), (∃ cur, w.heap[b]? = some (.cells cur t (0, 0))) → ∃ cur, (w.setCells b o vs).heap[b]? = some (.cells cur t (0, 0))
  | [], _, _, h => h
  | v :: vs, o, w, ⟨cur, h⟩ => typed_setCells vs (o + 1) _ ⟨_, by simp [World.setCell, Array.getElem?_modify, h]; rfl⟩
theorem SqI.stored {w wr : World} {dp : Nat} {F E K : Int} {iv ev : Value} {cnt : Nat} {im : List Int} {L : List Ev} {gb n : Nat} {l : List Int} {k : Nat} {q : Option DkK} (h : SqI w wr dp F E K iv ev cnt im L gb n l k q) (vs : List Value) : SqI w (wr.setCells gb (k * 12) vs) dp F E K iv ev cnt im L gb n l k q := by
  obtain ⟨cur, hc⟩ := h.gs
  have hchg : Chg (fun b => b = gb) wr (wr.setCells gb (k * 12) vs) := chg_setCells
  have hg := h.gl
  have hlo := h.lo
  refine ⟨h.dk.far hchg ⟨cur, hc⟩ h.gl, typed_setCells vs _ _ h.gs, World.there_setCells h.there _ _ _, h.off, fun j hj => ?_, h.old.trans (hchg.below h.old.size (fun g e => by omega)), h.lo, h.gl⟩
  obtain ⟨rv, mv, ov, h1, h2, h3, h4, h5⟩ := h.made j hj
  have keep : ∀ {u : Value} {l : List Int}, OwnI wr w.heap.size u l → OwnI (wr.setCells gb (k * 12) vs) w.heap.size u l := fun hu => hchg.own hu (fun g hg e => own_ne hu hc (by decide) (by rw [hg, e]))
  exact ⟨rv, mv, ov, World.rangeAt_setCells_apart h1 _ _ _ (Or.inr (Or.inl (by simp [Mach.cells]; omega))), ⟨keep h2.regs, keep h2.mem, keep h2.out, h2.rm, h2.ro, h2.mo⟩, h3, h4, h5⟩
theorem SqI.snoc {w wr : World} {dp : Nat} {F E K : Int} {iv ev : Value} {cnt : Nat} {im : List Int} {L : List Ev} {gb n : Nat} {l : List Int} {k : Nat} {q : Option DkK} (h : SqI w wr dp F E K iv ev cnt im L gb n l k q) (hk : k < n) {rv mv ov : Value} (ho : OwnM wr w.heap.size rv mv ov (replayM im L (l.getD k 0).toNat)) (o1 : Off (dkFoot dp q) rv) (o2 : Off (dkFoot dp q) mv) (o3 : Off (dkFoot dp q) ov) : SqI w (wr.setCells gb (k * 12) ((replayM im L (l.getD k 0).toNat).cells rv mv ov).toList) dp F E K iv ev cnt im L gb n l (k + 1) q := by
  obtain ⟨cur, hc⟩ := h.gs
  have h' := h.stored ((replayM im L (l.getD k 0).toNat).cells rv mv ov).toList
  have hchg : Chg (fun b => b = gb) wr (wr.setCells gb (k * 12) ((replayM im L (l.getD k 0).toNat).cells rv mv ov).toList) := chg_setCells
  have keep : ∀ {u : Value} {l' : List Int}, OwnI wr w.heap.size u l' → OwnI (wr.setCells gb (k * 12) ((replayM im L (l.getD k 0).toNat).cells rv mv ov).toList) w.heap.size u l' := fun hu => hchg.own hu (fun g hg e => own_ne hu hc (by decide) (by rw [hg, e]))
  refine ⟨h'.dk, h'.gs, h'.there, h'.off, fun j hj => ?_, h'.old, h'.lo, h'.gl⟩
  by_cases e : j = k
  · subst e
    refine ⟨rv, mv, ov, World.rangeAt_setCells_same _ _ _ _ (fun i hi => ?_), ⟨keep ho.regs, keep ho.mem, keep ho.out, ho.rm, ho.ro, ho.mo⟩, o1, o2, o3⟩
    have hi12 : i < 12 := by simpa [Mach.cells] using hi
    have := h.there (j * 12 + i) (by omega)
    simpa using this
  · exact h'.made j (by omega)
theorem SqI.room {w wr : World} {dp : Nat} {F E K : Int} {iv ev : Value} {cnt : Nat} {im : List Int} {L : List Ev} {gb n : Nat} {l : List Int} {k : Nat} {q : Option DkK} (h : SqI w wr dp F E K iv ev cnt im L gb n l k q) (hk : k < n) : wr.there gb (k * 12) 12 := fun i hi => by
  have := h.there (k * 12 + i) (by omega)
  simpa using this
theorem SqI.done {w wr : World} {dp : Nat} {F E K : Int} {iv ev : Value} {cnt : Nat} {im : List Int} {L : List Ev} {gb c : Nat} {l : List Int} {q : Option DkK} (h : SqI w wr dp F E K iv ev cnt im L gb l.length l l.length q) (hl : l.length ≤ 100000000) (hm : ∀ j, j < l.length → MachFits (replayM im L (l.getD j 0).toNat)) : GsAt wr (.slice (some ⟨gb, 0, none⟩) l.length c) (l.map fun k => replayM im L k.toNat) := by
  obtain ⟨cur, hc⟩ := h.gs
  refine ⟨gb, c, by simp, lt_of_block hc, by simpa using hl, fun j hj => ?_⟩
  have hjl : j < l.length := by simpa using hj
  have e : (l.map fun k => replayM im L k.toNat).getD j noMach12 = replayM im L (l.getD j 0).toNat := by simp [List.getD, hjl]
  obtain ⟨rv, mv, ov, h1, h2, _⟩ := h.made j hjl
  rw [e]
  exact ⟨rv, mv, ov, h1, h2.at (hm j hjl)⟩
def SoughtPost (w : World) (F E K : Int) (im bs : List Int) (cnt : Int) (l : List Int) (e : Ending) (w' : World) : Prop :=
  Below w.heap.size w w' ∧
  ((deckNo F E K im bs cnt ≠ 0 ∧ e = .returned (.tuple #[nilv, .int .i64 (deckNo F E K im bs cnt)])) ∨
   (deckNo F E K im bs cnt = 0 ∧ allIn 0 cnt l = false ∧ e = .returned (.tuple #[nilv, .int .i64 2])) ∨
   (deckNo F E K im bs cnt = 0 ∧ allIn 0 cnt l = true ∧
     ((∃ v, e = .returned (.tuple #[v, .int .i64 0]) ∧ GsAt w' v (l.map fun k => replayM im (tapeG im bs cnt).2 k.toNat)) ∨
      (e = .returned (.tuple #[nilv, .int .i64 7]) ∧ F < 16 * (K + 2)))))

end Go.Proofs.YtecpblabaelopaaGreatDoor

/- Contract of deck.Seek. -/

namespace Go.Proofs.YtecpblabaelopaaGreatDoor
open Go.RowKit
set_option maxRecDepth 100000

theorem infoMach : (Tryz.prog.info? 37).map (fun i => (i.zero, i.size, i.bytes)) = some (some (.agg zeroM), 12, 136) := by kernel_rfl
theorem make_mach (n : Nat) (hn : n ≤ 100000000) (W : World) : (Instr.makeSlice 28 (.int .i64 (n : Int)) (.int .i64 (n : Int))).run Tryz.prog W = .ok (.slice (some ⟨W.heap.size, 0, none⟩) n n) (W.alloc (.cells (madeCells zeroM (n * 12)) 37)) := by
  obtain ⟨i, hi, hzz⟩ := Option.map_eq_some_iff.1 infoMach
  simp only [Prod.mk.injEq] at hzz
  obtain ⟨hz, hs, hb⟩ := hzz
  have hr := run_make (P := Tryz.prog) W 28 37 i (.agg zeroM) Tryz.underlying28 hi hz .i64 .i64 n n (by omega) (Int.le_refl _) (by rw [hb]; omega) (by omega)
  simp only [Int.toNat_natCast, hs] at hr
  exact hr
theorem there_of {w : World} {b n : Nat} {C : Array Value} {t : TypeId} (h : w.heap[b]? = some (.cells C t (0, 0))) (hn : n ≤ C.size) : w.there b 0 n := fun j hj => by
  refine ⟨?_, by simp [World.frozen?, h]⟩
  have hj' : 0 + j < C.size := by omega
  unfold World.cell?
  simp only [h]
  simp
  omega
theorem sq_start {w w4 : World} {dp : Nat} {F E K : Int} {iv ev : Value} {cnt : Nat} {im : List Int} {L : List Ev} {n : Nat} {l : List Int} (hd : DkAt w4 dp F E K iv ev cnt im L none) (hb : Below w.heap.size w w4) (hlo : w.heap.size ≤ dp) : SqI w (w4.alloc (.cells (madeCells zeroM (n * 12)) 37)) dp F E K iv ev cnt im L w4.heap.size n l 0 none := by
  have hA := below_alloc w4 (.cells (madeCells zeroM (n * 12)) 37)
  have hl := lt_of_block hd.box
  have hx : (w4.alloc (.cells (madeCells zeroM (n * 12)) 37)).heap[w4.heap.size]? = some (.cells (madeCells zeroM (n * 12)) 37 (0, 0)) := Go.Deep.blk_alloc_new _ _
  refine ⟨hd.below hA, ⟨_, hx⟩, there_of hx (by rw [size_madeCells]; omega), fun hg => ?_, fun j hj => absurd hj (Nat.not_lt_zero _), hb.trans (hA.mono hb.size), hlo, hl⟩
  rcases hg with e | ⟨k, hk, _⟩
  · omega
  · cases hk
theorem mcells_one (m : Mach) (A B C : Option Addr) (a b c a' b' c' : Nat) : (#[.slice A a a', .int .i64 m.pc, .int .i64 m.back, .bool m.ints, .bool m.wait, .int .i64 m.table, .int .i64 m.count, .int .i64 m.fin, .slice B b b', .slice C c c', .int .i64 m.ready, .int .i64 m.want] : Array Value).all (·.oneCell') = true :=
  all_oneCell_toArray (cs := [.slice A a a', .int .i64 m.pc, .int .i64 m.back, .bool m.ints, .bool m.wait, .int .i64 m.table, .int .i64 m.count, .int .i64 m.fin, .slice B b b', .slice C c c', .int .i64 m.ready, .int .i64 m.want]) (by intro v hv; simp at hv; rcases hv with rfl | rfl | rfl | rfl | rfl | rfl | rfl | rfl | rfl | rfl | rfl | rfl <;> rfl)

set_option maxHeartbeats 4000000 in
theorem DeckSeek_any (F E K : Int) (iv ev lv : Value) (im bs l : List Int) (cnt : Int) (w : World) (h : TapeAt w iv ev im bs) (hi : IntsAt w lv l) (hL : Laid w) (hl : l.length ≤ 100000000) :
    Calls Tryz.prog 11 #[.agg #[.int .i64 F, .int .i64 E, .int .i64 K], .agg #[iv, ev, .int .i64 cnt], lv] w fun e w' => SoughtPost w F E K im bs cnt l e w' := by
  have h' := h
  obtain ⟨Ai, ci, rfl, -, -⟩ := h'.ims
  obtain ⟨Ae, ce, rfl, -⟩ := h'.fit
  obtain ⟨Al, cl, rfl, -, -⟩ := id hi
  obtain ⟨W, hW⟩ : ∃ W, W = (w.alloc (.cells #[.int .i64 F, .int .i64 E, .int .i64 K] 23)).alloc (.cells #[.slice Ai im.length ci, .slice Ae bs.length ce, .int .i64 cnt] 27) := ⟨_, rfl⟩
  have hb0 : Below w.heap.size w W := by rw [hW]; exact (below_alloc _ _).alloc (by simp) _
  have hx1 : W.heap[w.heap.size]? = some (.cells #[.int .i64 F, .int .i64 E, .int .i64 K] 23 (0, 0)) := by
    rw [hW, Go.Deep.blk_alloc_lt _ _ _ (by simp)]; exact Go.Deep.blk_alloc_new _ _
  have hx2 : W.heap[w.heap.size + 1]? = some (.cells #[.slice Ai im.length ci, .slice Ae bs.length ce, .int .i64 cnt] 27 (0, 0)) := by
    have := Go.Deep.blk_alloc_new (w.alloc (.cells #[.int .i64 F, .int .i64 E, .int .i64 K] 23)) (.cells #[.slice Ai im.length ci, .slice Ae bs.length ce, .int .i64 cnt] 27)
    rw [hW]
    rwa [show (w.alloc (.cells #[.int .i64 F, .int .i64 E, .int .i64 K] 23)).heap.size = w.heap.size + 1 by simp] at this
  have HW : Hid (W = (w.alloc (.cells #[.int .i64 F, .int .i64 E, .int .i64 K] 23)).alloc (.cells #[.slice Ai im.length ci, .slice Ae bs.length ce, .int .i64 cnt] 27)) := hW
  have HX : Hid (Below w.heap.size w W ∧ (∀ X, Below W.heap.size W X → X.heap[w.heap.size + 1]? = some (.cells #[.slice Ai im.length ci, .slice Ae bs.length ce, .int .i64 cnt] 27 (0, 0)))) := ⟨hb0, fun X hX => (hX.block _ (lt_of_block hx2)).trans hx2⟩
  have HN : Hid (Calls Tryz.prog 35 #[.agg #[.int .i64 F, .int .i64 E, .int .i64 K], .agg #[.slice Ai im.length ci, .slice Ae bs.length ce, .int .i64 cnt]] W fun e w' => NewPost W F E K im bs cnt e w') := NewDeck_any F E K _ _ im bs cnt W (h.below hb0) (hL.below hb0)
  have HI : Hid (∀ X, Below w.heap.size w X → IntsAt X (.slice Al l.length cl) l) := fun X hX => hi.below hX
  obtain ⟨s0, s1, s2, sf, sl⟩ := three_cells hx1
  obtain ⟨t0, t1, t2, tf, tl⟩ := three_cells hx2
  obtain ⟨n, hn⟩ : ∃ n, n = l.length := ⟨_, rfl⟩
  have HNL : Hid (n = l.length) := hn
  have hn8 : n ≤ 100000000 := by omega
  rw [← hn] at HI ⊢
  have hmk := make_mach n hn8
  clear h h' hi hL hl hW hb0 hx1 hx2 hn
  go_enter Tryz.func11, Tryz.ntmps11
  go_wp2_with fail
  rw [← HW.out]
  refine HN.out.mono ?_
  rintro e w2 ⟨hb2, hcase⟩
  have HB2 : Hid (Below W.heap.size W w2 ∧ Below w.heap.size w w2) := ⟨hb2, HX.out.1.trans (hb2.mono HX.out.1.size)⟩
  clear hb2 HN HW s0 s1 s2 sf sl t0 t1 t2 tf tl
  rcases hcase with ⟨hno, rfl⟩ | ⟨hno, dp, iv2, ev2, rfl, hdp, hcc, hdk, hok⟩
  · obtain ⟨z, hz⟩ : ∃ z, z = deckNo F E K im bs cnt := ⟨_, rfl⟩
    rw [← hz] at hno ⊢
    have d0 : (z != 0) = true := by simpa using hno
    have HE : Hid (deckNo F E K im bs cnt = z ∧ z ≠ 0) := ⟨hz.symm, hno⟩
    clear hz hno
    go_wp2_with fail
    refine bodyPost_ret (v := .tuple #[nilv, .int .i64 z]) (by simp [results, Tryz.results11, go_sem]) rfl ?_
    exact ⟨HB2.out.2, Or.inl ⟨by rw [HE.out.1]; exact HE.out.2, by rw [HE.out.1]⟩⟩
  · have HNO : Hid (deckNo F E K im bs cnt = 0 ∧ cnt = (cnt.toNat : Int) ∧ W.heap.size ≤ dp) := ⟨hno, hcc, hdp⟩
    obtain ⟨L, hLL⟩ : ∃ L, L = (tapeG im bs cnt).2 := ⟨_, rfl⟩
    rw [← hLL] at hdk hok
    have HLL : Hid (L = (tapeG im bs cnt).2) := hLL
    have HDK : Hid (DkAt w2 dp F E K iv2 ev2 cnt.toNat im L none) := hdk
    have HOK : Hid (DkOk F E K ev2 cnt.toNat im L) := hok
    obtain ⟨t0, t1, t2, tf, tl⟩ := three_cells (HX.out.2 w2 HB2.out.1)
    clear hno hdp hcc hdk hok hLL
    go_wp2_with fail
    refine (outsideD_any 0 cnt _).mono ?_
    rintro e w3 ⟨p, q1, rfl, hc1, hb1⟩
    have HC : Hid (CloAtD w3 p q1 0 cnt ∧ Below w2.heap.size w2 w3 ∧ Below w.heap.size w w3) := ⟨hc1, hb1, HB2.out.2.trans (hb1.mono HB2.out.2.size)⟩
    have HCF : Hid (Calls Tryz.prog 36 #[.slice Al n cl, cloD p q1] w3 fun e w' => e = .returned (.bool (!allIn 0 cnt l)) ∧ w' = w3) := ContainsFuncD _ l p q1 0 cnt w3 (HI.out w3 HC.out.2.2) HC.out.1
    clear hc1 hb1 t0 t1 t2 tf tl
    go_wp2_with fail
    refine HCF.out.mono ?_
    rintro e w' ⟨rfl, hw'⟩
    subst hw'
    cases hc : allIn 0 cnt l with
    | false =>
      have HE : Hid (allIn 0 cnt l = false) := hc
      clear hc
      go_wp2_with fail
      refine bodyPost_ret (v := .tuple #[nilv, .int .i64 2]) (by simp [results, Tryz.results11, go_sem]) rfl ?_
      exact ⟨HC.out.2.2, Or.inr (Or.inl ⟨HNO.out.1, HE.out, rfl⟩)⟩
    | true =>
      have HE : Hid (allIn 0 cnt l = true) := hc
      clear hc
      go_wp2_with fail
      have HS0 : Hid (SqI w (w'.alloc (.cells (madeCells zeroM (n * 12)) 37)) dp F E K iv2 ev2 cnt.toNat im L w'.heap.size n l 0 none) := sq_start (HDK.out.below HC.out.2.1) HC.out.2.2 (Nat.le_trans HX.out.1.size HNO.out.2.2)
      obtain ⟨W5, hW5⟩ : ∃ W5, W5 = w'.alloc (.cells (madeCells zeroM (n * 12)) 37) := ⟨_, rfl⟩
      obtain ⟨gb, hgb⟩ : ∃ gb, gb = w'.heap.size := ⟨_, rfl⟩
      rw [← hW5, ← hgb] at HS0
      rw [← hW5, ← hgb]
      clear hW5 hgb
      go_loopw [32] (fun i wr => ∃ (k : Nat) (q : Option DkK), k ≤ n ∧ i = .int .i64 k ∧ Hid (SqI w wr dp F E K iv2 ev2 cnt.toNat im L gb n l k q)) (fun i _ => n - (intOf i).toNat)
      case atStart => exact ⟨0, none, Nat.zero_le _, rfl, HS0⟩
      case round =>
        obtain ⟨k, q, hk, rfl, HS⟩ := hrel
        clear HS0
        by_cases hlt : k < n
        case pos =>
          have hki : (k : Int) < (n : Int) := by omega
          have hkl : k < l.length := by rw [← HNL.out]; exact hlt
          have hin := inB_iff.1 (allIn_iff.1 HE.out k hkl)
          obtain ⟨xn, hxn⟩ : ∃ xn : Nat, l.getD k 0 = (xn : Int) := ⟨(l.getD k 0).toNat, by omega⟩
          have hxc : xn ≤ cnt.toNat := by have := HNO.out.2.1; omega
          obtain ⟨b, off, rfl, hbs, hcell⟩ : ∃ b off, Al = some ⟨b, off, none⟩ ∧ b < wr.heap.size ∧ ∀ j, j < l.length → wr.cell? ⟨b, off + j, none⟩ = some (.int .i64 (l.getD j 0)) := by
            obtain ⟨A, c, e, _, h2⟩ := HI.out wr HS.out.old
            simp only [Value.slice.injEq] at e
            obtain ⟨rfl, -, -⟩ := e
            exact h2 (by omega)
          have h1 := hcell k hkl
          rw [hxn] at h1
          have HXN : Hid ((l.getD k 0).toNat = xn) := by show _ = _; omega
          have HG : Hid (Calls Tryz.prog 38 #[hptr dp, .int .i64 (xn : Int)] wr fun e w' => GuestPost wr dp F E K iv2 ev2 cnt.toNat im L q xn e w') := Guest_in dp F E K iv2 ev2 cnt.toNat im L q xn wr HS.out.dk HOK.out hxc
          clear hcell hin hxn hxc hkl
          go_wp2_with fail
          refine HG.out.mono ?_
          rintro e w6 ⟨q', hto, hres⟩
          have HA : Hid (SqI w w6 dp F E K iv2 ev2 cnt.toNat im L gb n l k q') := HS.out.asked hto
          have HTH : Hid (w6.there gb (k * 12) 12) := HA.out.room hlt
          have HINF : Hid ((Tryz.prog.info? 37).map (·.size) = some 12) := by show _ = _; kernel_rfl
          have hws := HS.out.old.size
          rcases hres with ⟨rv, mv, ov, rfl, ho, o1, o2, o3⟩ | ⟨rfl, hf⟩
          · have HR : Hid (SqI w (w6.setCells gb (k * 12) ((replayM im L (l.getD k 0).toNat).cells rv mv ov).toList) dp F E K iv2 ev2 cnt.toNat im L gb n l (k + 1) q') := by
              refine HA.out.snoc hlt ?_ o1 o2 o3
              rw [HXN.out]
              exact ⟨ownsRow_mono ho.regs hws, ownsRow_mono ho.mem hws, ownsRow_mono ho.out hws, ho.rm, ho.ro, ho.mo⟩
            rw [HXN.out] at HR
            obtain ⟨D1, f1, D2, f2, D3, f3, rfl, rfl, rfl⟩ := ho.shape
            obtain ⟨wo, hwo⟩ : ∃ wo, wo = replayW im L xn := ⟨_, rfl⟩
            rw [← hwo]
            obtain ⟨C, hC⟩ : ∃ C : Array Value, C = (replayM im L xn).cells (.slice D1 (replayM im L xn).regs.length f1) (.slice D2 (replayM im L xn).mem.length f2) (.slice D3 (replayM im L xn).out.length f3) := ⟨_, rfl⟩
            have hCs : C.size = 12 := by rw [hC]; rfl
            have HCT : Hid (w6.there gb (k * 12) C.size ∧ (Tryz.prog.info? 37).map (·.size) = some C.size ∧ C.all (·.oneCell') = true) := by
              rw [hCs]
              exact ⟨HTH.out, HINF.out, by rw [hC]; exact mcells_one _ _ _ _ _ _ _ _ _ _⟩
            rw [← hC] at HR ⊢
            clear hCs hC HTH HINF hwo ho o1 o2 o3 hto HG
            go_wp2_with (first
              | (refine wpList_store_mid rfl 37 (.tmp 46) (.tmp 43) rfl gb (k * 12) C rfl rfl HCT.out.1 HCT.out.2.1 HCT.out.2.2 ?_))
            refine ⟨⟨k + 1, q', by omega, by go_num, HR⟩, ?_⟩
            simp [intOf]; omega
          · have HR : Hid (Below w.heap.size w (w6.setCells gb (k * 12) zeroM.toList)) := (HA.out.stored zeroM.toList).old
            have HF : Hid (F < 16 * (K + 2)) := hf
            clear hf hto HG
            obtain ⟨C, hC⟩ : ∃ C : Array Value, C = zeroM := ⟨_, rfl⟩
            have hCs : C.size = 12 := by rw [hC]; rfl
            have HCT : Hid (w6.there gb (k * 12) C.size ∧ (Tryz.prog.info? 37).map (·.size) = some C.size ∧ C.all (·.oneCell') = true) := by
              rw [hCs]
              exact ⟨HTH.out, HINF.out, by rw [hC]; exact mcells_one ⟨[], 0, 0, false, false, 0, 0, 0, [], [], 0, 0⟩ none none none 0 0 0 0 0 0⟩
            rw [← hC] at HR ⊢
            clear hCs hC HTH HINF
            go_wp2_with (first
              | (refine wpList_store_mid rfl 37 (.tmp 46) (.tmp 43) rfl gb (k * 12) C rfl rfl HCT.out.1 HCT.out.2.1 HCT.out.2.2 ?_))
            refine bodyPost_ret (v := .tuple #[nilv, .int .i64 7]) (by simp [results, Tryz.results11, go_sem]) rfl ?_
            exact ⟨HR.out, Or.inr (Or.inr ⟨HNO.out.1, HE.out, Or.inr ⟨rfl, HF.out⟩⟩)⟩
        case neg =>
          have hki : ¬ (k : Int) < (n : Int) := by omega
          obtain rfl : k = n := by omega
          go_wp2_with fail
          refine bodyPost_ret (v := .tuple #[.slice (some ⟨gb, 0, none⟩) k k, .int .i64 0]) (by simp [results, Tryz.results11, go_sem]) rfl ?_
          refine ⟨HS.out.old, Or.inr (Or.inr ⟨HNO.out.1, HE.out, Or.inl ⟨_, rfl, ?_⟩⟩)⟩
          have h1 := HS.out
          rw [← HLL.out]
          have hkl := HNL.out
          subst hkl
          exact h1.done (by omega) (fun j hj => (replay_may HOK.out.no HOK.out.ck _ (by have := HOK.out.cn; have := inB_iff.1 (allIn_iff.1 HE.out j hj); omega)).1.fits)

end Go.Proofs.YtecpblabaelopaaGreatDoor
