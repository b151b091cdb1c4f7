/- Contract of the document's onward. -/
import Derived.Test.YtbjlfhpiebokkaaDoorToldCPart
import Derived.Test.YtbjlfhpiebokkaaDoorSpWPart
import Derived.Test.YtbjlfhpiebokkaaDoorStepAPart
namespace Go.Proofs.YtbjlfhpiebokkaaDoor
open Go.RowKit
set_option maxRecDepth 100000

structure EvsOld (lo : Nat) (w : World) (v : Value) (L : List Ev) : Prop where
  shape : ∃ A c, v = .slice A L.length c
  bound : L.length * 40 ≤ 140737488351232
  each : ∀ A c, v = .slice A L.length c → 0 < L.length → ∃ b off, A = some ⟨b, off, none⟩ ∧ b < lo ∧ ∀ j, j < L.length → w.cell? ⟨b, off + j * 3, none⟩ = some (.int .i64 (L.getD j noEv).at_) ∧ w.cell? ⟨b, off + j * 3 + 1, none⟩ = some (.int .i64 (L.getD j noEv).kind) ∧ ∃ u, w.cell? ⟨b, off + j * 3 + 2, none⟩ = some u ∧ IntsOld lo w u (L.getD j noEv).data
theorem EvsOld.below {lo : Nat} {w w' : World} {v : Value} {L : List Ev} (h : EvsOld lo w v L) (hb : Below lo w w') : EvsOld lo w' v L := by
  refine ⟨h.shape, h.bound, fun A c e h0 => ?_⟩
  obtain ⟨b, off, rfl, hlt, hj⟩ := h.each A c e h0
  refine ⟨b, off, rfl, hlt, fun j hjl => ?_⟩
  obtain ⟨h1, h2, u, h3, h4⟩ := hj j hjl
  exact ⟨(hb.cell (p := ⟨b, off + j * 3, none⟩) hlt).trans h1, (hb.cell (p := ⟨b, off + j * 3 + 1, none⟩) hlt).trans h2, u, (hb.cell (p := ⟨b, off + j * 3 + 2, none⟩) hlt).trans h3, h4.below hb⟩
theorem IntsAt.oldT {w : World} {v : Value} {l : List Int} (h : IntsAt w v l) : IntsOld w.heap.size w v l := by
  obtain ⟨A, c, rfl, hl, hc⟩ := h
  refine ⟨A, c, rfl, hl, fun h0 => ?_⟩
  obtain ⟨b, off, rfl, hb, hj⟩ := hc h0
  exact ⟨b, off, rfl, hb, hj⟩
theorem EvsAt.old {w : World} {v : Value} {L : List Ev} (h : EvsAt w v L) : EvsOld w.heap.size w v L := by
  obtain ⟨A, c, rfl, hl, hc⟩ := h
  refine ⟨⟨A, c, rfl⟩, hl, fun A' c' e h0 => ?_⟩
  simp only [Value.slice.injEq, true_and] at e
  obtain ⟨rfl, rfl⟩ := e
  obtain ⟨b, off, rfl, hb, hj⟩ := hc h0
  refine ⟨b, off, rfl, hb, fun j hjl => ?_⟩
  obtain ⟨h1, h2, u, h3, h4⟩ := hj j hjl
  exact ⟨h1, h2, u, h3, h4.oldT⟩

set_option maxHeartbeats 4000000 in
theorem onward_any (m : Mach) (rv mv ov : Value) (A : Option Addr) (c : Nat) (L : List Ev) (k : Int) (w : World) (lo : Nat) (ho : OwnM w lo rv mv ov m) (hm : MayP m) (hlo : lo ≤ w.heap.size) (he : EvsOld lo w (.slice A L.length c) L) (hs : chkNo L = 0) (hct : m.count < 1099511627776) :
    Calls Tryd.prog 41 #[.agg (m.cells rv mv ov), .slice A L.length c, .int .i64 k] w fun e w' => ∃ rv' mv' ov', e = .returned (.tuple #[.agg ((m.step (toldL k L).irq (toldL k L).blk (toldL k L).val).1.cells rv' mv' ov'), .int .i64 (m.step (toldL k L).irq (toldL k L).blk (toldL k L).val).2]) ∧ OwnM w' lo rv' mv' ov' (m.step (toldL k L).irq (toldL k L).blk (toldL k L).val).1 ∧ Below lo w w' ∧ KeptM w w' := by
  obtain ⟨b0, b1, b2⟩ := two_boxes (Below.refl (((w.alloc (.cells (m.cells rv mv ov) 30)).alloc (.cells zeroM 30)).heap.size) ((w.alloc (.cells (m.cells rv mv ov) 30)).alloc (.cells zeroM 30)))
  obtain ⟨W, hW⟩ : ∃ W, W = (w.alloc (.cells (m.cells rv mv ov) 30)).alloc (.cells zeroM 30) := ⟨_, rfl⟩
  rw [← hW] at b0 b1 b2
  have HW : Hid (W = (w.alloc (.cells (m.cells rv mv ov) 30)).alloc (.cells zeroM 30)) := hW
  have HX : Hid (W.heap[w.heap.size + 1]? = some (.cells zeroM 30 (0, 0)) ∧ Below w.heap.size w W) := ⟨b1, b2⟩
  have HE : Hid (EvsOld lo W (.slice A L.length c) L ∧ chkNo L = 0 ∧ OwnM W lo rv mv ov m ∧ MayP m ∧ lo ≤ w.heap.size ∧ m.count < 1099511627776) := ⟨he.below (b2.mono hlo), hs, ho.below b2, hm, hlo, hct⟩
  obtain ⟨A1, c1, A2, c2, A3, c3, rfl, rfl, rfl⟩ := ho.shape
  obtain ⟨⟨z0, z1, z2, z3, z4, z5, z6, z7, z8, z9, z10, z11⟩, zf, zl⟩ := twelve_cells b0
  have hbd := he.bound
  obtain ⟨R, hR0⟩ : ∃ R, R = m.step (toldL k L).irq (toldL k L).blk (toldL k L).val := ⟨_, rfl⟩
  rw [← hR0]
  have HR0 : Hid (R = m.step (toldL k L).irq (toldL k L).blk (toldL k L).val) := hR0
  clear hR0
  clear b0 b1 b2 hW ho hm hlo he hs hct
  simp only [Mach.cells] at HW
  go_enter Tryd.func41, Tryd.ntmps41
  simp only [Mach.cells]
  go_wp2_with fail
  rw [← HW.out]
  go_loopw [8, 9, 10, 11] (fun q v x i wr => ∃ (n : Nat) (B : Option Addr) (cb : Nat), n ≤ L.length ∧ q = .bool (toldL k (L.take n)).irq ∧ v = .slice B (toldL k (L.take n)).blk.length cb ∧ x = .int .i64 (toldL k (L.take n)).val ∧ i = .int .i64 (n : Int) ∧ Hid (IntsOld lo W (.slice B (toldL k (L.take n)).blk.length cb) (toldL k (L.take n)).blk) ∧ wr = W) (fun _ _ _ i _ => L.length - (intOf i).toNat)
  case atStart => exact ⟨0, none, 0, Nat.zero_le _, rfl, rfl, rfl, rfl, ⟨none, 0, rfl, by simp [toldL, noTl], fun h => by simp [toldL, noTl] at h⟩, rfl⟩
  case round =>
    obtain ⟨n, B, cb, hn, rfl, rfl, rfl, rfl, HI, hw⟩ := hrel
    subst hw
    obtain ⟨T, hT⟩ : ∃ T, T = toldL k (L.take n) := ⟨_, rfl⟩
    rw [← hT] at HI ⊢
    have HTT : Hid (T = toldL k (L.take n)) := hT
    clear hT
    by_cases hl : n < L.length
    · have hl1 : (n : Int) < (L.length : Int) := by omega
      have hw2 : IntKind.i64.wrap ((n : Int) + 1) = (n : Int) + 1 := IntWalk.i64_in _ (by omega)
      obtain ⟨b, off, rfl, hb, hc⟩ := HE.out.1.each A c rfl (by omega)
      obtain ⟨g0, g1, v, g2, hv⟩ := hc n hl
      obtain ⟨X, hX⟩ : ∃ X, X = L.getD n noEv := ⟨_, rfl⟩
      rw [← hX] at g0 g1 hv
      have HX2 : Hid (X = L.getD n noEv ∧ n < L.length) := ⟨hX, hl⟩
      have HV : Hid (IntsOld lo wr v X.data) := hv
      have HEO : Hid (evNo X = 0) := by show _ = _; rw [hX]; exact verdict_ev (chk_verdict HE.out.2.1 _ hl)
      obtain ⟨Av, cv, rfl, -, -⟩ := hv
      have gl : b < wr.heap.size := by have := HE.out.2.2.2.2.1; have := HX.out.2.size; omega
      obtain ⟨xa, hxa⟩ : ∃ xa, xa = X.at_ := ⟨_, rfl⟩
      obtain ⟨xk, hxk⟩ : ∃ xk, xk = X.kind := ⟨_, rfl⟩
      obtain ⟨xn, hxn⟩ : ∃ xn, xn = X.data.length := ⟨_, rfl⟩
      rw [← hxa] at g0
      rw [← hxk] at g1
      rw [← hxn] at g2 HV
      have HXX : Hid (xa = X.at_ ∧ xk = X.kind ∧ xn = X.data.length) := ⟨hxa, hxk, hxn⟩
      have HTN : Hid (toldL k (L.take (n + 1)) = tellE k T X) := by show _ = _; rw [toldL_take k L n hl, ← hX, ← HTT.out]
      clear hX hxa hxk hxn hl hc hb
      by_cases ha : xa = k
      case neg =>
        have d0 : (xa != k) = true := by simpa using ha
        have HTE : Hid (tellE k T X = T) := by show _ = _; rw [tellE, if_neg (by rw [← HXX.out.1]; exact ha)]
        clear ha
        go_wp2_with fail
        refine ⟨⟨n + 1, B, cb, by have := HX2.out.2; omega, ?_, ?_, ?_, by go_num, ?_, trivial⟩, ?_⟩
        · rw [HTN.out, HTE.out]
        · rw [HTN.out, HTE.out]
        · rw [HTN.out, HTE.out]
        · rw [HTN.out, HTE.out]; exact HI
        · have := HX2.out.2; simp [intOf]; omega
      case pos =>
        have d0 : (xa != k) = false := by simp [ha]
        have HAT : Hid (X.at_ = k) := by show _ = _; rw [← HXX.out.1]; exact ha
        clear ha
        by_cases k1 : xk = 1
        · have c1 : (xk == 1) = true := by simp [k1]
          have HTE : Hid (tellE k T X = { T with irq := true }) := by show _ = _; rw [tellE, if_pos HAT.out, if_pos (by rw [← HXX.out.2.1]; exact k1)]
          clear k1
          go_wp2_with fail
          refine ⟨⟨n + 1, B, cb, by have := HX2.out.2; omega, ?_, ?_, ?_, by go_num, ?_, trivial⟩, ?_⟩
          · rw [HTN.out, HTE.out]
          · rw [HTN.out, HTE.out]
          · rw [HTN.out, HTE.out]
          · rw [HTN.out, HTE.out]; exact HI
          · have := HX2.out.2; simp [intOf]; omega
        · have c1 : (xk == 1) = false := by simpa using k1
          by_cases k2 : xk = 2
          · have c2 : (xk == 2) = true := by simp [k2]
            have HTE : Hid (tellE k T X = { T with blk := X.data }) := by show _ = _; rw [tellE, if_pos HAT.out, if_neg (by rw [← HXX.out.2.1]; exact k1), if_pos (by rw [← HXX.out.2.1]; exact k2)]
            clear k1 k2
            go_wp2_with fail
            refine ⟨⟨n + 1, Av, cv, by have := HX2.out.2; omega, ?_, ?_, ?_, by go_num, ?_, trivial⟩, ?_⟩
            · rw [HTN.out, HTE.out]
            · rw [HTN.out, HTE.out, HXX.out.2.2]
            · rw [HTN.out, HTE.out]
            · rw [HTN.out, HTE.out]; have := HV.out; rw [HXX.out.2.2] at this; exact this
            · have := HX2.out.2; simp [intOf]; omega
          · have c2 : (xk == 2) = false := by simpa using k2
            have hb3 := (evNo_bd HEO.out)
            have k3 : xk = 3 := by have := hb3.1; rw [← HXX.out.2.1] at this; omega
            have hlen : xn = 1 := by
              have h4 := hb3.2.2.2
              rw [← HXX.out.2.1, ← HXX.out.2.2, k3] at h4
              have h5 : (xn : Int) = 1 := h4
              omega
            subst hlen
            have HTE : Hid (tellE k T X = { T with val := X.data.getD 0 0 }) := by show _ = _; rw [tellE, if_pos HAT.out, if_neg (by rw [← HXX.out.2.1]; exact k1), if_neg (by rw [← HXX.out.2.1]; exact k2)]
            have hd1 : X.data.length = 1 := HXX.out.2.2.symm
            obtain ⟨Aw, cw, ew, -, hcw⟩ := HV.out
            rw [hd1] at ew hcw
            simp only [Value.slice.injEq, true_and] at ew
            obtain ⟨rfl, rfl⟩ := ew
            obtain ⟨bd, od, rfl, hbd2, hcd⟩ := hcw (by omega)
            have g3 := hcd 0 (by omega)
            rw [Nat.add_zero] at g3
            have gl3 : bd < wr.heap.size := by have := HE.out.2.2.2.2.1; have := HX.out.2.size; omega
            obtain ⟨y, hy⟩ : ∃ y, y = X.data.getD 0 0 := ⟨_, rfl⟩
            rw [← hy] at g3
            have HY : Hid (y = X.data.getD 0 0) := hy
            clear hb3 k1 k2 k3 hcd hcw hy hd1
            go_wp2_with fail
            refine ⟨⟨n + 1, B, cb, by have := HX2.out.2; omega, ?_, ?_, ?_, by go_num, ?_, trivial⟩, ?_⟩
            · rw [HTN.out, HTE.out]
            · rw [HTN.out, HTE.out]
            · rw [HTN.out, HTE.out, HY.out]
            · rw [HTN.out, HTE.out]; exact HI
            · have := HX2.out.2; simp [intOf]; omega
    · have hl1 : ¬ (n : Int) < (L.length : Int) := by omega
      have HTE : Hid (toldL k L = T) := by show _ = _; rw [HTT.out, List.take_of_length_le (by omega)]
      have HTM : Hid (TlMay T) := by
        have := toldL_may HE.out.2.1 k
        rw [HTE.out] at this
        exact this
      have hst := stepped_kept m (.slice A1 m.regs.length c1) (.slice A2 m.mem.length c2) (.slice A3 m.out.length c3) T.irq B cb T.blk T.val wr lo HE.out.2.2.1 HE.out.2.2.2.1 (by have := HE.out.2.2.2.2.1; have := HX.out.2.size; omega) HI.out HTM.out.len HTM.out.all HE.out.2.2.2.2.2
      have hR : R = m.step T.irq T.blk T.val := by rw [HR0.out, HTE.out]
      rw [← hR] at hst
      have HST : Hid (Calls Tryd.prog 34 #[.agg (m.cells (.slice A1 m.regs.length c1) (.slice A2 m.mem.length c2) (.slice A3 m.out.length c3)), .bool T.irq, .slice B T.blk.length cb, .int .i64 T.val] wr fun e w' => ∃ rv' mv' ov', e = .returned (.tuple #[.agg (R.1.cells rv' mv' ov'), .int .i64 R.2]) ∧ OwnM w' lo rv' mv' ov' R.1 ∧ Below lo wr w' ∧ KeptM wr w') := hst
      simp only [Mach.cells] at HST
      clear hst hR hl
      go_wp2_with fail
      refine HST.out.mono ?_
      rintro e w4 ⟨rv', mv', ov', rfl, ho4, hb4, hk4⟩
      obtain ⟨D1, d1, D2, d2, D3, d3, rfl, rfl, rfl⟩ := ho4.shape
      have hr4 := hk4 _ _ HX.out.1
      have HO4 : Hid (OwnM w4 lo (.slice D1 R.1.regs.length d1) (.slice D2 R.1.mem.length d2) (.slice D3 R.1.out.length d3) R.1 ∧ IsBox w4 (w.heap.size + 1) ∧ Below lo w w4 ∧ lo ≤ w.heap.size) := ⟨ho4, ⟨_, hr4⟩, (HX.out.2.mono HE.out.2.2.2.2.1).trans hb4, HE.out.2.2.2.2.1⟩
      have HK4 : Hid (KeptM w w4) := fun g cur hg => hk4 g cur (by rw [HX.out.2.block g (lt_of_block hg)]; exact hg)
      obtain ⟨⟨y0, y1, y2, y3, y4, y5, y6, y7, y8, y9, y10, y11⟩, yf, yl⟩ := twelve_cells hr4
      clear z0 z1 z2 z3 z4 z5 z6 z7 z8 z9 z10 z11 zf zl hr4 ho4 hb4 hk4 HST
      simp only
      go_wp2_with fail
      refine bodyPost_ret (v := .tuple #[.agg #[.slice D1 R.1.regs.length d1, .int .i64 R.1.pc, .int .i64 R.1.back, .bool R.1.ints, .bool R.1.wait, .int .i64 R.1.table, .int .i64 R.1.count, .int .i64 R.1.fin, .slice D2 R.1.mem.length d2, .slice D3 R.1.out.length d3, .int .i64 R.1.ready, .int .i64 R.1.want], .int .i64 R.2]) (by simp [results, Tryd.results41, go_sem, y0, y1, y2, y3, y4, y5, y6, y7, y8, y9, y10, y11]) rfl ?_
      exact ⟨_, _, _, rfl, HO4.out.1.set12 HO4.out.2.1 _ _ _ _ _ _ _ _ _ _ _ _, below_set12 HO4.out.2.2.1 (by have := HO4.out.2.2.2; omega) _ _ _ _ _ _ _ _ _ _ _ _, keptM_set12 HK4.out (by omega) _ _ _ _ _ _ _ _ _ _ _ _⟩

end Go.Proofs.YtbjlfhpiebokkaaDoor

/- Contract of run.Replay. -/

namespace Go.Proofs.YtbjlfhpiebokkaaDoor
open Go.RowKit
set_option maxRecDepth 100000

theorem EvsOld.at {lo : Nat} {w : World} {v : Value} {L : List Ev} (h : EvsOld lo w v L) (hlo : lo ≤ w.heap.size) : EvsAt w v L := by
  obtain ⟨A, c, rfl⟩ := h.shape
  refine ⟨A, c, rfl, h.bound, fun h0 => ?_⟩
  obtain ⟨b, off, rfl, hb, hj⟩ := h.each A c rfl h0
  refine ⟨b, off, rfl, Nat.lt_of_lt_of_le hb hlo, fun j hjl => ?_⟩
  obtain ⟨h1, h2, u, h3, Au, cu, rfl, hl, hc⟩ := hj j hjl
  refine ⟨h1, h2, _, h3, Au, cu, rfl, hl, fun h0 => ?_⟩
  obtain ⟨b', off', rfl, hb', hj'⟩ := hc h0
  exact ⟨b', off', rfl, Nat.lt_of_lt_of_le hb' hlo, hj'⟩
theorem EvsOld.mono {lo lo' : Nat} {w : World} {v : Value} {L : List Ev} (h : EvsOld lo w v L) (hl : lo ≤ lo') : EvsOld lo' w v L := by
  refine ⟨h.shape, h.bound, fun A c e h0 => ?_⟩
  obtain ⟨b, off, rfl, hb, hj⟩ := h.each A c e h0
  refine ⟨b, off, rfl, by omega, fun j hjl => ?_⟩
  obtain ⟨h1, h2, u, h3, Au, cu, rfl, hl2, hc⟩ := hj j hjl
  refine ⟨h1, h2, _, h3, Au, cu, rfl, hl2, fun h0 => ?_⟩
  obtain ⟨b', off', rfl, hb', hj'⟩ := hc h0
  exact ⟨b', off', rfl, by omega, hj'⟩
theorem DecQ.fits {w w' : World} {u : Value} {L : List Ev} (h : DecQ w w' u (0, L)) : ∃ A c, u = .slice A L.length c ∧ L.length ≤ c := by
  obtain ⟨R, hR, ho, hR1, hR2⟩ := h.ok rfl
  have hl : R.length = L.length := by
    have := congrArg List.length hR
    simpa using this
  rcases ho.row.2 with ⟨rfl, h0⟩ | ⟨g, cap, cur, rfl, _, hh, h1, _⟩
  · exact ⟨none, 0, by rw [← hl, h0], by omega⟩
  · exact ⟨_, cap, by rw [hl], by omega⟩
theorem stepNo_zero {m : Mach} (hm : MayP m) {t : Tl} (ht : TlMay t) (hc : m.count < 1099511627776) : stepNo m t.blk t.val = 0 := by
  have h1 : (m.count == 1099511627776) = false := by simp; omega
  unfold stepNo
  rw [mayP_iff.2 hm, ht.all, ht.val, h1]
  rcases ht.len with e | e <;> simp [e]

def RepQ (w : World) (G : Mach × Int) (e : Ending) (w' : World) : Prop :=
  ∃ A1 d1 A2 d2 A3 d3, e = .returned (.tuple #[.agg (G.1.cells (.slice A1 G.1.regs.length d1) (.slice A2 G.1.mem.length d2) (.slice A3 G.1.out.length d3)), .int .i64 G.2]) ∧ MachAt w' (.slice A1 G.1.regs.length d1) (.slice A2 G.1.mem.length d2) (.slice A3 G.1.out.length d3) G.1 ∧ Below w.heap.size w w'
theorem repQ_no {w w' : World} {no : Int} (hb : Below w.heap.size w w') : RepQ w (noMach12, no) (.returned (.tuple #[.agg zeroM, .int .i64 no])) w' :=
  ⟨none, 0, none, 0, none, 0, rfl, ⟨⟨none, 0, rfl, by simp [noMach12], fun h => by simp [noMach12] at h⟩, ⟨none, 0, rfl, by simp [noMach12], fun h => by simp [noMach12] at h⟩, ⟨none, 0, rfl, by simp [noMach12], fun h => by simp [noMach12] at h⟩⟩, hb⟩

set_option maxHeartbeats 4000000 in
theorem Replay_any (iv ev : Value) (im bs : List Int) (cnt n : Int) (w : World) (h : TapeAt w iv ev im bs) (hL : Laid w) :
    Calls Tryd.prog 12 #[.agg #[iv, ev, .int .i64 cnt], .int .i64 n] w fun e w' => RepQ w (replayG im bs cnt n) e w' := by
  have h' := h
  obtain ⟨Ai, ci, rfl, -, -⟩ := h'.ims
  obtain ⟨Ae, ce, rfl, hfit⟩ := h'.fit
  obtain ⟨b0, b1, b2⟩ := two_boxes (Below.refl (((w.alloc (.cells #[.slice Ai im.length ci, .slice Ae bs.length ce, .int .i64 cnt] 28)).alloc (.cells zeroM 30)).heap.size) ((w.alloc (.cells #[.slice Ai im.length ci, .slice Ae bs.length ce, .int .i64 cnt] 28)).alloc (.cells zeroM 30)))
  obtain ⟨W, hW⟩ : ∃ W, W = (w.alloc (.cells #[.slice Ai im.length ci, .slice Ae bs.length ce, .int .i64 cnt] 28)).alloc (.cells zeroM 30) := ⟨_, rfl⟩
  rw [← hW] at b0 b1 b2
  have HW : Hid (W = (w.alloc (.cells #[.slice Ai im.length ci, .slice Ae bs.length ce, .int .i64 cnt] 28)).alloc (.cells zeroM 30)) := hW
  have HX : Hid (W.heap[w.heap.size]? = some (.cells #[.slice Ai im.length ci, .slice Ae bs.length ce, .int .i64 cnt] 28 (0, 0)) ∧ W.heap[w.heap.size + 1]? = some (.cells zeroM 30 (0, 0)) ∧ Below w.heap.size w W) := ⟨b0, b1, b2⟩
  have HC : Hid (Calls Tryd.prog 15 #[.agg #[.slice Ai im.length ci, .slice Ae bs.length ce, .int .i64 cnt]] W fun e w' => ∃ u, e = .returned (.tuple #[u, .int .i64 (tapeG im bs cnt).1]) ∧ DecQ W w' u (tapeG im bs cnt)) := RunCheck_any _ _ im bs cnt W (h.below b2) (hL.below b2)
  have HI : Hid (IntsAt w (.slice Ai im.length ci) im ∧ ∀ x ∈ bs, 0 ≤ x ∧ x ≤ 255) := ⟨h.ims, by
    obtain ⟨_, _, _, _, hy, _⟩ := h.evs
    exact hy⟩
  obtain ⟨G, hG⟩ : ∃ G, G = replayG im bs cnt n := ⟨_, rfl⟩
  rw [← hG]
  have HG : Hid (G = replayG im bs cnt n) := hG
  have HTO : Hid ((tapeG im bs cnt).1 = 0 → newNo im = 0 ∧ inB cnt 0 3000 = true ∧ (decD bs).1 = 0 ∧ (tapeG im bs cnt).2 = (decD bs).2) := tapeG_ok
  obtain ⟨⟨gn, GL⟩, hT⟩ : ∃ T, T = tapeG im bs cnt := ⟨_, rfl⟩
  have HT : Hid ((gn, GL) = tapeG im bs cnt) := hT
  rw [← hT] at HC HTO
  obtain ⟨x0, x1, x2, xf, xl⟩ := three_cells b0
  clear h h' hL hW b0 b1 b2 hG hT
  go_enter Tryd.func12, Tryd.ntmps12
  go_wp2_with fail
  rw [← HW.out]
  refine HC.out.mono ?_
  rintro e w1 ⟨u, rfl, hq⟩
  have H1 : Hid (w1.heap[w.heap.size]? = some (.cells #[.slice Ai im.length ci, .slice Ae bs.length ce, .int .i64 cnt] 28 (0, 0)) ∧ w1.heap[w.heap.size + 1]? = some (.cells zeroM 30 (0, 0)) ∧ Below w.heap.size w w1 ∧ DecQ W w1 u (gn, GL)) := ⟨(hq.old.block _ (lt_of_block HX.out.1)).trans HX.out.1, (hq.old.block _ (lt_of_block HX.out.2.1)).trans HX.out.2.1, HX.out.2.2.trans (hq.old.mono HX.out.2.2.size), hq⟩
  clear hq HC x0 x1 x2 xf xl HW
  obtain ⟨z0, z1, z2, zf, zl⟩ := three_cells H1.out.1
  by_cases hn : gn = 0
  case neg =>
    have HE : Hid (G = (noMach12, gn)) := by show _ = _; rw [HG.out, replayG, if_pos (by rw [← HT.out]; exact hn), ← HT.out]
    have d0 : (gn != 0) = true := by simpa using hn
    obtain ⟨⟨y0, y1, y2, y3, y4, y5, y6, y7, y8, y9, y10, y11⟩, yf, yl⟩ := twelve_cells H1.out.2.1
    clear hn
    dsimp only
    go_wp2_with fail
    refine bodyPost_ret (v := .tuple #[.agg zeroM, .int .i64 gn]) (by simp [results, Tryd.results12, go_sem, y0, y1, y2, y3, y4, y5, y6, y7, y8, y9, y10, y11]) rfl ?_
    rw [HE.out]
    exact repQ_no (below_set12 H1.out.2.2.1 (by omega) _ _ _ _ _ _ _ _ _ _ _ _)
  case pos =>
    subst hn
    obtain ⟨hni, -, hdz, hGL⟩ := HTO.out rfl
    have HCK : Hid (chkNo GL = 0 ∧ newNo im = 0) := ⟨by rw [show GL = (decD bs).2 from hGL]; exact (decD_back HI.out.2 hdz).2.1, hni⟩
    have HCN : Hid (cnt ≤ 3000) := by
      have h3 := (HTO.out rfl).2.1
      exact (inB_iff.1 h3).2
    obtain ⟨Au, cu, rfl, hcap⟩ := H1.out.2.2.2.fits
    have HCAP : Hid (GL.length ≤ cu) := hcap
    have HEO : Hid (EvsOld w1.heap.size w1 (.slice Au GL.length cu) GL) := (H1.out.2.2.2.look).old
    clear hni hdz hGL hcap HTO
    cases hin : inB n 0 cnt with
    | false =>
      have HE : Hid (G = (noMach12, 2)) := by show _ = _; rw [HG.out, replayG, if_neg (by rw [← HT.out]; simp), if_pos hin]
      dsimp only
      go_wp2_with fail
      refine (outsideR_any _ _ _).mono ?_
      rintro e w2 ⟨p, q, rfl, hc2, hb2⟩
      have HC2 : Hid (CloAtR w2 p q 0 cnt ∧ Below w.heap.size w w2) := ⟨hc2, H1.out.2.2.1.trans (hb2.mono H1.out.2.2.1.size)⟩
      obtain ⟨⟨y0, y1, y2, y3, y4, y5, y6, y7, y8, y9, y10, y11⟩, yf, yl⟩ := twelve_cells ((hb2.block _ (lt_of_block H1.out.2.1)).trans H1.out.2.1)
      clear hc2 hb2 z0 z1 z2 zf zl
      go_wp2_with (go_at_call 71; refine (cloR_any n 0 cnt p q _ HC2.out.1).mono ?_; rw [hin]; rintro e w' ⟨rfl, hw'⟩; rw [hw']; clear hw' w')
      refine bodyPost_ret (v := .tuple #[.agg zeroM, .int .i64 2]) (by simp [results, Tryd.results12, go_sem, y0, y1, y2, y3, y4, y5, y6, y7, y8, y9, y10, y11]) rfl ?_
      rw [HE.out]
      exact repQ_no (below_set12 HC2.out.2 (by omega) _ _ _ _ _ _ _ _ _ _ _ _)
    | true =>
      obtain ⟨N, hN⟩ : ∃ N : Nat, n = (N : Int) := ⟨n.toNat, by have := (inB_iff.1 hin).1; omega⟩
      subst hN
      have HN : Hid (N ≤ 3000) := by have := (inB_iff.1 hin).2; have := HCN.out; show N ≤ 3000; omega
      have HE : Hid (G = (replayM im GL N, 0)) := by show _ = _; rw [HG.out, replayG, if_neg (by rw [← HT.out]; simp), if_neg (by rw [hin]; simp), ← HT.out, Int.toNat_natCast]
      dsimp only
      go_wp2_with fail
      refine (outsideR_any _ _ _).mono ?_
      rintro e w2 ⟨p, q, rfl, hc2, hb2⟩
      have HC2 : Hid (CloAtR w2 p q 0 cnt ∧ Below w.heap.size w w2) := ⟨hc2, H1.out.2.2.1.trans (hb2.mono H1.out.2.2.1.size)⟩
      have H2 : Hid (w2.heap[w.heap.size]? = some (.cells #[.slice Ai im.length ci, .slice Ae bs.length ce, .int .i64 cnt] 28 (0, 0)) ∧ w2.heap[w.heap.size + 1]? = some (.cells zeroM 30 (0, 0)) ∧ EvsOld w2.heap.size w2 (.slice Au GL.length cu) GL) := ⟨(hb2.block _ (lt_of_block H1.out.1)).trans H1.out.1, (hb2.block _ (lt_of_block H1.out.2.1)).trans H1.out.2.1, (HEO.out.below hb2).mono hb2.size⟩
      clear hc2 hb2 z0 z1 z2 zf zl HEO H1 HX
      obtain ⟨z0, z1, z2, zf, zl⟩ := three_cells H2.out.1
      go_wp2_with (first
        | (go_at_call 71; refine (cloR_any (N : Int) 0 cnt p q _ HC2.out.1).mono ?_; rw [hin]; rintro e w' ⟨rfl, hw'⟩; rw [hw']; clear hw' w'))
      refine (New_ok _ im w2 (HI.out.1.below HC2.out.2) HCK.out.2).mono ?_
      rintro e w3 ⟨rv, mv, ov, rfl, ho3, hb3⟩
      obtain ⟨A1, d1, A2, d2, A3, d3, rfl, rfl, rfl⟩ := ho3.shape
      have H3 : Hid (OwnM w3 w2.heap.size (.slice A1 (newM im).regs.length d1) (.slice A2 (newM im).mem.length d2) (.slice A3 (newM im).out.length d3) (newM im) ∧ Below w.heap.size w w3 ∧ w3.heap[w.heap.size + 1]? = some (.cells zeroM 30 (0, 0)) ∧ EvsOld w3.heap.size w3 (.slice Au GL.length cu) GL ∧ w2.heap.size ≤ w3.heap.size) := ⟨ho3, HC2.out.2.trans (hb3.mono HC2.out.2.size), (hb3.block _ (lt_of_block H2.out.2.1)).trans H2.out.2.1, (H2.out.2.2.below hb3).mono hb3.size, hb3.size⟩
      have hml : (newM im).regs.length = (newM im).regs.length := rfl
      obtain ⟨M0, hM0⟩ : ∃ M0, M0 = newM im := ⟨_, rfl⟩
      rw [← hM0] at H3 ⊢
      have HM0 : Hid (M0 = newM im) := hM0
      clear ho3 hb3 z0 z1 z2 zf zl H2 HC2 hin hM0 hml
      simp only [Mach.cells]
      go_wp2_with fail
      go_loopw [7, 9] (fun ev i wr => ∃ (k : Nat) (M : Mach) (B1 : Option Addr) (e1 : Nat) (B2 : Option Addr) (e2 : Nat) (B3 : Option Addr) (e3 : Nat), k ≤ N ∧ ev = .int .i64 0 ∧ i = .int .i64 (k : Int) ∧ Hid (M = replayM im GL k ∧ wr.heap[w3.heap.size]? = some (.cells (M.cells (.slice B1 M.regs.length e1) (.slice B2 M.mem.length e2) (.slice B3 M.out.length e3)) 30 (0, 0)) ∧ OwnM wr w2.heap.size (.slice B1 M.regs.length e1) (.slice B2 M.mem.length e2) (.slice B3 M.out.length e3) M ∧ Below w3.heap.size w3 wr)) (fun _ i _ => N - (intOf i).toNat)
      case atStart => exact ⟨0, M0, A1, d1, A2, d2, A3, d3, Nat.zero_le _, rfl, rfl, HM0.out, Go.Deep.blk_alloc_new _ _, H3.out.1.below (below_alloc _ _), below_alloc _ _⟩
      case round =>
        obtain ⟨k, M, B1, e1, B2, e2, B3, e3, hk, rfl, rfl, HR⟩ := hrel
        obtain ⟨⟨z0, z1, z2, z3, z4, z5, z6, z7, z8, z9, z10, z11⟩, zf, zl⟩ := twelve_cells HR.out.2.1
        by_cases hlt : k < N
        · have hl : (k : Int) < (N : Int) := by omega
          have hw2 : IntKind.i64.wrap ((k : Int) + 1) = (k : Int) + 1 := IntWalk.i64_in _ (by have := HN.out; omega)
          have HMM : Hid (MayP M ∧ M.count < 1099511627776) := by
            have := replay_may HCK.out.2 HCK.out.1 k (by have := HN.out; omega)
            rw [← HR.out.1] at this
            exact ⟨this.1, by have := this.2; have := HN.out; omega⟩
          have HKL : Hid (k < N) := hlt
          clear z0 z1 z2 z3 z4 z5 z6 z7 z8 z9 z10 z11 zf zl hlt
          go_wp2_with fail
          refine (told_any Au cu GL (k : Int) wr ((H3.out.2.2.2.1.below HR.out.2.2.2).at HR.out.2.2.2.size) HCK.out.1 HCAP.out).mono ?_
          rintro e w5 ⟨B, cb, rfl, hi5, hb5⟩
          obtain ⟨T, hTT⟩ : ∃ T, T = toldL (k : Int) GL := ⟨_, rfl⟩
          rw [← hTT] at hi5 ⊢
          have HTL : Hid (T = toldL (k : Int) GL ∧ TlMay T) := ⟨hTT, by rw [hTT]; exact toldL_may HCK.out.1 _⟩
          have hx5 := (hb5.block _ (lt_of_block HR.out.2.1)).trans HR.out.2.1
          obtain ⟨⟨z0, z1, z2, z3, z4, z5, z6, z7, z8, z9, z10, z11⟩, zf, zl⟩ := twelve_cells hx5
          have hst := Step_ok M (.slice B1 M.regs.length e1) (.slice B2 M.mem.length e2) (.slice B3 M.out.length e3) T.irq B cb T.blk T.val w5 ((HR.out.2.2.1.below hb5).at HMM.out.1.fits) hi5 HMM.out.1 HTL.out.2.all HTL.out.2.len HMM.out.2 (stepNo_zero HMM.out.1 HTL.out.2 HMM.out.2)
          obtain ⟨R, hR⟩ : ∃ R, R = M.step T.irq T.blk T.val := ⟨_, rfl⟩
          rw [← hR] at hst
          have HST : Hid (Calls Tryd.prog 22 #[.agg (M.cells (.slice B1 M.regs.length e1) (.slice B2 M.mem.length e2) (.slice B3 M.out.length e3)), .bool T.irq, .slice B T.blk.length cb, .int .i64 T.val] w5 fun e w' => ∃ rv' mv' ov', e = .returned (.tuple #[.agg (R.1.cells rv' mv' ov'), .int .i64 R.2, .int .i64 0]) ∧ OwnM w' w5.heap.size rv' mv' ov' R.1 ∧ Below w5.heap.size w5 w') := hst
          have H5 : Hid (w5.heap[w3.heap.size]? = some (.cells (M.cells (.slice B1 M.regs.length e1) (.slice B2 M.mem.length e2) (.slice B3 M.out.length e3)) 30 (0, 0)) ∧ Below w3.heap.size w3 w5 ∧ w2.heap.size ≤ w5.heap.size ∧ R.1 = replayM im GL (k + 1)) := ⟨hx5, HR.out.2.2.2.trans (hb5.mono HR.out.2.2.2.size), by have := H3.out.2.2.2.2; have := HR.out.2.2.2.size; have := hb5.size; omega, by rw [hR, HTL.out.1, HR.out.1]; rfl⟩
          simp only [Mach.cells] at HST
          clear hst hR hi5 hb5 hx5 hTT
          dsimp only
          go_wp2_with fail
          refine HST.out.mono ?_
          rintro e w6 ⟨rv', mv', ov', rfl, ho6, hb6⟩
          obtain ⟨D1, f1, D2, f2, D3, f3, rfl, rfl, rfl⟩ := ho6.shape
          have hx6 := (hb6.block _ (lt_of_block H5.out.1)).trans H5.out.1
          clear z0 z1 z2 z3 z4 z5 z6 z7 z8 z9 z10 z11 zf zl HST
          obtain ⟨⟨z0, z1, z2, z3, z4, z5, z6, z7, z8, z9, z10, z11⟩, zf, zl⟩ := twelve_cells hx6
          have H6 : Hid (OwnM w6 w2.heap.size (.slice D1 R.1.regs.length f1) (.slice D2 R.1.mem.length f2) (.slice D3 R.1.out.length f3) R.1 ∧ w6.heap[w3.heap.size]? = some (.cells (M.cells (.slice B1 M.regs.length e1) (.slice B2 M.mem.length e2) (.slice B3 M.out.length e3)) 30 (0, 0)) ∧ Below w3.heap.size w3 w6) := ⟨ho6.mono H5.out.2.2.1, hx6, H5.out.2.1.trans (hb6.mono H5.out.2.1.size)⟩
          clear ho6 hb6 hx6
          simp only
          go_wp2_with fail
          refine ⟨⟨k + 1, R.1, D1, f1, D2, f2, D3, f3, HKL.out, rfl, by go_num, H5.out.2.2.2, box_set12 H6.out.2.1 rfl _ _ _ _ _ _ _ _ _ _ _ _, H6.out.1.set12 ⟨_, H6.out.2.1⟩ _ _ _ _ _ _ _ _ _ _ _ _, below_set12 H6.out.2.2 (Nat.le_refl _) _ _ _ _ _ _ _ _ _ _ _ _⟩, ?_⟩
          have := HKL.out
          simp [intOf]; omega
        · have e : k = N := by omega
          subst e
          have hl : ¬ (k : Int) < (k : Int) := by omega
          have hr : wr.heap[w.heap.size + 1]? = some (.cells zeroM 30 (0, 0)) := (HR.out.2.2.2.block _ (lt_of_block H3.out.2.2.1)).trans H3.out.2.2.1
          obtain ⟨⟨y0, y1, y2, y3, y4, y5, y6, y7, y8, y9, y10, y11⟩, yf, yl⟩ := twelve_cells hr
          have HEND : Hid (OwnM wr w2.heap.size (.slice B1 M.regs.length e1) (.slice B2 M.mem.length e2) (.slice B3 M.out.length e3) M ∧ IsBox wr (w.heap.size + 1) ∧ Below w.heap.size w wr ∧ MayP M ∧ M = replayM im GL k) := ⟨HR.out.2.2.1, ⟨_, hr⟩, H3.out.2.1.trans (HR.out.2.2.2.mono H3.out.2.1.size), by have := (replay_may HCK.out.2 HCK.out.1 k HN.out).1; rwa [← HR.out.1] at this, HR.out.1⟩
          clear hr hlt
          go_wp2_with fail
          refine bodyPost_ret (v := .tuple #[.agg #[.slice B1 M.regs.length e1, .int .i64 M.pc, .int .i64 M.back, .bool M.ints, .bool M.wait, .int .i64 M.table, .int .i64 M.count, .int .i64 M.fin, .slice B2 M.mem.length e2, .slice B3 M.out.length e3, .int .i64 M.ready, .int .i64 M.want], .int .i64 0]) (by simp [results, Tryd.results12, go_sem, y0, y1, y2, y3, y4, y5, y6, y7, y8, y9, y10, y11]) rfl ?_
          rw [HE.out, ← HEND.out.2.2.2.2]
          exact ⟨B1, e1, B2, e2, B3, e3, rfl, (HEND.out.1.set12 HEND.out.2.1 _ _ _ _ _ _ _ _ _ _ _ _).at HEND.out.2.2.2.1.fits, below_set12 HEND.out.2.2.1 (by omega) _ _ _ _ _ _ _ _ _ _ _ _⟩

end Go.Proofs.YtbjlfhpiebokkaaDoor
