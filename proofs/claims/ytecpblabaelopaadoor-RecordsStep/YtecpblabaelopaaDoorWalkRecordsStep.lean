/- RecordsStep, walked. -/
import Derived.Test.YtecpblabaelopaaDoorKRunTellPart
namespace Go.Proofs.YtecpblabaelopaaDoor
open Go.RowKit
set_option maxRecDepth 100000

set_option maxHeartbeats 4000000 in
theorem RecordsStep_any (v0 : Value) (n0 : Nat) (v1 : Value) (n1 : Nat) (n at_ : Int) (w : World) (h0 : RawsIn w v0 n0) (h1 : RawsIn w v1 n1) (hn : (Lit.int .i64 n).wf = true) (hat : (Lit.int .i64 at_).wf = true) (hL : Laid w) :
    Calls Tryd.prog 5 #[v0, v1, .int .i64 n, .int .i64 at_] w fun e w' => e = .returned (.bool true) ∧ Below w.heap.size w w' := by
  obtain ⟨R, -, hR⟩ := h0.some_
  obtain ⟨S, -, hS⟩ := h1.some_
  have HRT : Hid (Calls Tryd.prog 12 #[] w fun e w' => e = .returned (.bool true) ∧ Below w.heap.size w w') := runTells_any w hL
  have hp1 := pick_nat (n := n) (m := 300) (by decide)
  have HRC : Hid (∀ X, Below w.heap.size w X → Calls Tryd.prog 6 #[v0, v1, .int .i64 n] X fun e w' => RecdQ X R S (pickF n 300).toNat e w') := fun X hX => recordedK_any v0 v1 R S n X (hR.below hX) (hS.below hX) hn (hL.below hX)
  obtain ⟨N, hN⟩ : ∃ N, N = (pickF n 300).toNat := ⟨_, rfl⟩
  rw [← hN] at HRC hp1
  have hND : N < 300 := by omega
  have HF : Hid (RecFine (wdOf S) (imageF R) N) := recFine R S (by omega)
  have HL : Hid (∀ X, Below w.heap.size w X → Laid X) := fun X hX => hL.below hX
  have HN : Hid (N < 300) := hND
  have HAT : Hid ((Lit.int .i64 at_).wf = true) := hat
  clear h0 h1 hR hS hn hL hN hp1 hND hat
  go_enter Tryd.func5, Tryd.ntmps5
  go_wp2_with fail
  refine HRT.out.mono ?_
  rintro e w1 ⟨rfl, hb1⟩
  have HB1 : Hid (Below w.heap.size w w1) := hb1
  clear hb1 HRT
  go_wp2_with fail
  refine (HRC.out w1 HB1.out).mono ?_
  rintro e w2 ⟨ti, te, A1, d1, A2, d2, A3, d3, rfl, q1, q2, q3, hb2⟩
  have hTA : TapeAt w2 ti te (imageF R) (fullB (recN (wdOf S) (imageF R) N).evs) := RecdQ.tape (by have := HN.out; omega) q1 q2
  obtain ⟨At, ct, rfl⟩ := q1.shape
  obtain ⟨Ae, ce, rfl⟩ := q2.shape
  have HT : Hid (TapeAt w2 (.slice At (imageF R).length ct) (.slice Ae (fullB (recN (wdOf S) (imageF R) N).evs).length ce) (imageF R) (fullB (recN (wdOf S) (imageF R) N).evs) ∧ Below w.heap.size w w2) := ⟨hTA, HB1.out.trans (hb2.mono HB1.out.size)⟩
  have HRP : Hid (∀ X (k : Nat), Below w2.heap.size w2 X → k ≤ recC (wdOf S) (imageF R) N → Calls Tryd.prog 7 #[.agg #[.slice At (imageF R).length ct, .slice Ae (fullB (recN (wdOf S) (imageF R) N).evs).length ce, .int .i64 (recC (wdOf S) (imageF R) N)], .int .i64 (k : Int)] X fun e w' => RepQ X (replayM (imageF R) (recN (wdOf S) (imageF R) N).evs k, 0) e w') := fun X k hX hk => by
    have := Replay_any _ _ (imageF R) (fullB (recN (wdOf S) (imageF R) N).evs) (recC (wdOf S) (imageF R) N) k X (HT.out.1.below hX) (HL.out X (HT.out.2.trans (hX.mono HT.out.2.size)))
    rwa [HF.out.replay hk] at this
  have HCK : Hid (∀ X, Below w2.heap.size w2 X → Calls Tryd.prog 8 #[.agg #[.slice At (imageF R).length ct, .slice Ae (fullB (recN (wdOf S) (imageF R) N).evs).length ce, .int .i64 (recC (wdOf S) (imageF R) N)]] X fun e w' => ∃ u, e = .returned (.tuple #[u, .int .i64 0]) ∧ EvsAt w' u (recN (wdOf S) (imageF R) N).evs ∧ Below X.heap.size X w') := fun X hX => by
    refine (RunCheck_any _ _ (imageF R) (fullB (recN (wdOf S) (imageF R) N).evs) (recC (wdOf S) (imageF R) N) X (HT.out.1.below hX) (HL.out X (HT.out.2.trans (hX.mono HT.out.2.size)))).mono ?_
    rintro e w' ⟨u, rfl, hq⟩
    rw [HF.out.tape] at hq ⊢
    exact ⟨u, rfl, hq.look, hq.old⟩
  have HMK : Hid (∀ k, k ≤ recC (wdOf S) (imageF R) N → MayP (replayM (imageF R) (recN (wdOf S) (imageF R) N).evs k) ∧ (replayM (imageF R) (recN (wdOf S) (imageF R) N).evs k).count < 1099511627776) := fun k hk => by
    have h1 := HF.out.cnt
    have h2 := HF.out.le
    have := replay_may HF.out.im HF.out.chk k (by omega)
    exact ⟨this.1, by omega⟩
  have HCH : Hid (chkNo (recN (wdOf S) (imageF R) N).evs = 0) := HF.out.chk
  have hcl : (recC (wdOf S) (imageF R) N : Int) < 300 := by have := HF.out.cnt; have := HN.out; omega
  clear q1 q2 q3 hb2 hTA HRC
  obtain ⟨cn, hcn⟩ : ∃ c, c = recC (wdOf S) (imageF R) N := ⟨_, rfl⟩
  rw [← hcn] at HRP HCK HMK hcl ⊢
  obtain ⟨Ct, hCt⟩ : ∃ C, C = (cn : Int) := ⟨_, rfl⟩
  have HCN : Hid (Ct = (cn : Int)) := hCt
  obtain ⟨nE, hnE⟩ : ∃ n, n = (fullB (recN (wdOf S) (imageF R) N).evs).length := ⟨_, rfl⟩
  obtain ⟨nI, hnI⟩ : ∃ n, n = (imageF R).length := ⟨_, rfl⟩
  obtain ⟨M, hM⟩ : ∃ M, M = (recN (wdOf S) (imageF R) N).m := ⟨_, rfl⟩
  obtain ⟨L, hLL⟩ : ∃ L, L = (recN (wdOf S) (imageF R) N).evs := ⟨_, rfl⟩
  rw [← hCt, ← hnE, ← hnI, ← hLL] at HRP HCK
  rw [← hLL] at HMK HCH
  rw [← hCt] at hcl
  rw [← hCt, ← hnE, ← hnI, ← hM]
  have hc0 : 0 ≤ Ct := by omega
  clear hCt hnE hnI hM hLL hcn
  simp only [Mach.cells]
  go_upto_region 4 with fail
  obtain ⟨W3, hW3⟩ : ∃ W3, W3 = (w2.alloc (.cells #[.slice At nI ct, .slice Ae nE ce, .int .i64 Ct] 26)).alloc (.cells #[.slice A1 M.regs.length d1, .int .i64 M.pc, .int .i64 M.back, .bool M.ints, .bool M.wait, .int .i64 M.table, .int .i64 M.count, .int .i64 M.fin, .slice A2 M.mem.length d2, .slice A3 M.out.length d3, .int .i64 M.ready, .int .i64 M.want] 28) := ⟨_, rfl⟩
  rw [← hW3]
  obtain ⟨y1, -, y3⟩ := two_alloc w2 #[.slice At nI ct, .slice Ae nE ce, .int .i64 Ct] #[.slice A1 M.regs.length d1, .int .i64 M.pc, .int .i64 M.back, .bool M.ints, .bool M.wait, .int .i64 M.table, .int .i64 M.count, .int .i64 M.fin, .slice A2 M.mem.length d2, .slice A3 M.out.length d3, .int .i64 M.ready, .int .i64 M.want] 26 28
  rw [← hW3] at y1 y3
  have H3 : Hid (Below w2.heap.size w2 W3 ∧ Below w.heap.size w W3 ∧ ∀ X, Below W3.heap.size W3 X → X.heap[w2.heap.size]? = some (.cells #[.slice At nI ct, .slice Ae nE ce, .int .i64 Ct] 26 (0, 0))) := ⟨y3, HT.out.2.trans (y3.mono HT.out.2.size), fun X hX => (hX.block _ (lt_of_block y1)).trans y1⟩
  obtain ⟨t0, t1, t2, tf, tl⟩ := three_cells y1
  clear hW3 y1 y3
  go_wp2_with fail
  refine (HCK.out W3 H3.out.1).mono ?_
  rintro e w4 ⟨u, rfl, hev, hb4⟩
  have H4 : Hid (EvsAt w4 u L ∧ Below W3.heap.size W3 w4 ∧ Below w.heap.size w w4) := ⟨hev, hb4, H3.out.2.1.trans (hb4.mono H3.out.2.1.size)⟩
  obtain ⟨Au, cu, rfl, hLn, -⟩ := id hev
  clear hev hb4 t0 t1 t2 tf tl HCK
  obtain ⟨t0, t1, t2, tf, tl⟩ := three_cells (H3.out.2.2 w4 H4.out.2.1)
  by_cases hz : Ct = 0
  case pos =>
    have z0 : (Ct == 0) = true := by simpa using hz
    clear hz
    go_wp2_with fail
    go_ret
    exact ⟨rfl, H4.out.2.2⟩
  case neg =>
    have z0 : (Ct == 0) = false := by simpa using hz
    obtain ⟨kk, hkk⟩ : ∃ kk : Nat, pickF at_ Ct = (kk : Int) ∧ kk < cn := by
      have h1 := HCN.out
      have := pickF_bd at_ (m := Ct) (by omega)
      exact ⟨(pickF at_ Ct).toNat, by omega, by omega⟩
    have HPK : Hid (∀ X, Calls Tryd.prog 10 #[.int .i64 at_, .int .i64 Ct] X fun e w' => e = .returned (.int .i64 (kk : Int)) ∧ w' = X) := fun X => by
      rw [← hkk.1]; exact picked_any at_ Ct X HAT.out (by omega) (by omega)
    have HKN : Hid (kk < cn) := hkk.2
    have hk3 : (kk : Int) < 300 := by have := HCN.out; omega
    have hwk : IntKind.i64.wrap ((kk : Int) + 1) = (kk : Int) + 1 := IntWalk.i64_in _ (by omega)
    clear hkk hz
    go_wp2_with fail
    refine (HPK.out _).mono ?_
    rintro e w' ⟨rfl, hw'⟩
    subst hw'
    go_wp2_with fail
    refine (HRP.out w' kk (H3.out.1.trans (H4.out.2.1.mono H3.out.1.size)) (by have := HKN.out; omega)).mono ?_
    rintro e w5 ⟨E1, k1, E2, k2, E3, k3, rfl, hm5, hb5⟩
    obtain ⟨A0, hA0⟩ : ∃ A0, A0 = replayM (imageF R) L kk := ⟨_, rfl⟩
    simp only at hm5 ⊢
    rw [← hA0] at hm5 ⊢
    have HA0 : Hid (A0 = replayM (imageF R) L kk) := hA0
    have H5 : Hid (MachAt w5 (.slice E1 A0.regs.length k1) (.slice E2 A0.mem.length k2) (.slice E3 A0.out.length k3) A0 ∧ Below w'.heap.size w' w5) := ⟨hm5, hb5⟩
    clear hm5 hb5 hA0 t0 t1 t2 tf tl HPK
    simp only [Mach.cells]
    go_upto_region 9 with fail
    obtain ⟨W6, hW6⟩ : ∃ W6, W6 = w5.alloc (.cells #[.slice E1 A0.regs.length k1, .int .i64 A0.pc, .int .i64 A0.back, .bool A0.ints, .bool A0.wait, .int .i64 A0.table, .int .i64 A0.count, .int .i64 A0.fin, .slice E2 A0.mem.length k2, .slice E3 A0.out.length k3, .int .i64 A0.ready, .int .i64 A0.want] 28) := ⟨_, rfl⟩
    rw [← hW6]
    obtain ⟨y6, hb6⟩ := one_alloc w5 #[.slice E1 A0.regs.length k1, .int .i64 A0.pc, .int .i64 A0.back, .bool A0.ints, .bool A0.wait, .int .i64 A0.table, .int .i64 A0.count, .int .i64 A0.fin, .slice E2 A0.mem.length k2, .slice E3 A0.out.length k3, .int .i64 A0.ready, .int .i64 A0.want] 28
    rw [← hW6] at y6 hb6
    have H6 : Hid (MachAt W6 (.slice E1 A0.regs.length k1) (.slice E2 A0.mem.length k2) (.slice E3 A0.out.length k3) A0 ∧ Below w'.heap.size w' W6 ∧ ∀ X, Below W6.heap.size W6 X → X.heap[w5.heap.size]? = some (.cells #[.slice E1 A0.regs.length k1, .int .i64 A0.pc, .int .i64 A0.back, .bool A0.ints, .bool A0.wait, .int .i64 A0.table, .int .i64 A0.count, .int .i64 A0.fin, .slice E2 A0.mem.length k2, .slice E3 A0.out.length k3, .int .i64 A0.ready, .int .i64 A0.want] 28 (0, 0))) := ⟨H5.out.1.below hb6, H5.out.2.trans (hb6.mono H5.out.2.size), fun X hX => (hX.block _ (lt_of_block y6)).trans y6⟩
    clear hW6 y6 hb6
    obtain ⟨t0, t1, t2, tf, tl⟩ := three_cells (H3.out.2.2 W6 (H4.out.2.1.trans (H6.out.2.1.mono H4.out.2.1.size)))
    have HRQ : Hid (Calls Tryd.prog 7 #[.agg #[.slice At nI ct, .slice Ae nE ce, .int .i64 Ct], .int .i64 ((kk : Int) + 1)] W6 fun e w' => RepQ W6 (replayM (imageF R) L (kk + 1), 0) e w') := by
      have := HRP.out W6 (kk + 1) (H3.out.1.trans ((H4.out.2.1.trans (H6.out.2.1.mono H4.out.2.1.size)).mono H3.out.1.size)) (by have := HKN.out; omega)
      rwa [show ((kk + 1 : Nat) : Int) = (kk : Int) + 1 by omega] at this
    go_wp2_with fail
    refine HRQ.out.mono ?_
    rintro e w7 ⟨G1, g1, G2, g2, G3, g3, rfl, hm7, hb7⟩
    obtain ⟨B0, hB0⟩ : ∃ B0, B0 = replayM (imageF R) L (kk + 1) := ⟨_, rfl⟩
    simp only at hm7 ⊢
    rw [← hB0] at hm7 ⊢
    have HB0 : Hid (B0 = (A0.step (toldL kk L).irq (toldL kk L).blk (toldL kk L).val).1) := by
      show _ = _
      rw [hB0, HA0.out]
      rfl
    have H7 : Hid (MachAt w7 (.slice G1 B0.regs.length g1) (.slice G2 B0.mem.length g2) (.slice G3 B0.out.length g3) B0 ∧ Below W6.heap.size W6 w7) := ⟨hm7, hb7⟩
    clear hm7 hb7 hB0 t0 t1 t2 tf tl HRP HRQ
    simp only [Mach.cells]
    go_upto_region 13 with fail
    obtain ⟨W8, hW8⟩ : ∃ W8, W8 = w7.alloc (.cells #[.slice G1 B0.regs.length g1, .int .i64 B0.pc, .int .i64 B0.back, .bool B0.ints, .bool B0.wait, .int .i64 B0.table, .int .i64 B0.count, .int .i64 B0.fin, .slice G2 B0.mem.length g2, .slice G3 B0.out.length g3, .int .i64 B0.ready, .int .i64 B0.want] 28) := ⟨_, rfl⟩
    rw [← hW8]
    obtain ⟨y8, hb8⟩ := one_alloc w7 #[.slice G1 B0.regs.length g1, .int .i64 B0.pc, .int .i64 B0.back, .bool B0.ints, .bool B0.wait, .int .i64 B0.table, .int .i64 B0.count, .int .i64 B0.fin, .slice G2 B0.mem.length g2, .slice G3 B0.out.length g3, .int .i64 B0.ready, .int .i64 B0.want] 28
    rw [← hW8] at y8 hb8
    have H8 : Hid (MachAt W8 (.slice G1 B0.regs.length g1) (.slice G2 B0.mem.length g2) (.slice G3 B0.out.length g3) B0 ∧ Below W6.heap.size W6 W8 ∧ Below w'.heap.size w' W8 ∧ ∀ X, Below W8.heap.size W8 X → X.heap[w7.heap.size]? = some (.cells #[.slice G1 B0.regs.length g1, .int .i64 B0.pc, .int .i64 B0.back, .bool B0.ints, .bool B0.wait, .int .i64 B0.table, .int .i64 B0.count, .int .i64 B0.fin, .slice G2 B0.mem.length g2, .slice G3 B0.out.length g3, .int .i64 B0.ready, .int .i64 B0.want] 28 (0, 0))) := ⟨H7.out.1.below hb8, H7.out.2.trans (hb8.mono H7.out.2.size), H6.out.2.1.trans ((H7.out.2.trans (hb8.mono H7.out.2.size)).mono H6.out.2.1.size), fun X hX => (hX.block _ (lt_of_block y8)).trans y8⟩
    clear hW8 y8 hb8
    go_wp2_with fail
    go_loopw [19, 20, 21, 77] (fun q v x i wr => ∃ (j : Nat) (B : Option Addr) (cb : Nat), j ≤ L.length ∧ q = .bool (toldL kk (L.take j)).irq ∧ v = .slice B (toldL kk (L.take j)).blk.length cb ∧ x = .int .i64 (toldL kk (L.take j)).val ∧ i = .int .i64 (j : Int) ∧ Hid (IntsAt wr (.slice B (toldL kk (L.take j)).blk.length cb) (toldL kk (L.take j)).blk ∧ Below W8.heap.size W8 wr)) (fun _ _ _ i _ => L.length - (intOf i).toNat)
    case atStart => exact ⟨0, none, 0, Nat.zero_le _, rfl, rfl, rfl, rfl, ⟨none, 0, rfl, by simp [toldL, noTl], fun h => by simp [toldL, noTl] at h⟩, Below.refl _ _⟩
    case round =>
      obtain ⟨j, B, cb, hj, rfl, rfl, rfl, rfl, HI⟩ := hrel
      obtain ⟨T, hT⟩ : ∃ T, T = toldL kk (L.take j) := ⟨_, rfl⟩
      rw [← hT] at HI ⊢
      have HTT : Hid (T = toldL kk (L.take j)) := hT
      clear hT
      by_cases hl : j < L.length
      case pos =>
        have hl1 : (j : Int) < (L.length : Int) := by omega
        have hw2 : IntKind.i64.wrap ((j : Int) + 1) = (j : Int) + 1 := IntWalk.i64_in _ (by omega)
        obtain ⟨b, off, rfl, hb, hc⟩ : ∃ b off, Au = some ⟨b, off, none⟩ ∧ b < wr.heap.size ∧ ∀ j, j < L.length → EvAt wr b (off + j * 3) (L.getD j noEv) := by
          have hew := H4.out.1.below (H8.out.2.2.1.trans (HI.out.2.mono H8.out.2.2.1.size))
          obtain ⟨A', c', e', -, h2⟩ := hew
          simp only [Value.slice.injEq, true_and] at e'
          obtain ⟨rfl, rfl⟩ := e'
          exact h2 (by omega)
        obtain ⟨g0, g1', v, g2', hv⟩ := hc j hl
        obtain ⟨X, hX⟩ : ∃ X, X = L.getD j noEv := ⟨_, rfl⟩
        rw [← hX] at g0 g1' hv
        have HX2 : Hid (X = L.getD j noEv ∧ j < L.length) := ⟨hX, hl⟩
        have HV : Hid (IntsAt wr v X.data) := hv
        have HEO : Hid (evNo X = 0) := by show _ = _; rw [hX]; exact verdict_ev (chk_verdict HCH.out _ hl)
        obtain ⟨Av, cv, rfl, -, -⟩ := hv
        obtain ⟨xa, hxa⟩ : ∃ xa, xa = X.at_ := ⟨_, rfl⟩
        obtain ⟨xk, hxk⟩ : ∃ xk, xk = X.kind := ⟨_, rfl⟩
        obtain ⟨xn, hxn⟩ : ∃ xn, xn = X.data.length := ⟨_, rfl⟩
        rw [← hxa] at g0
        rw [← hxk] at g1'
        rw [← hxn] at g2' HV
        have HXX : Hid (xa = X.at_ ∧ xk = X.kind ∧ xn = X.data.length) := ⟨hxa, hxk, hxn⟩
        have HTN : Hid (toldL kk (L.take (j + 1)) = tellE kk T X) := by show _ = _; rw [toldL_take (kk : Int) L j hl, ← hX, ← HTT.out]
        have HNX : Hid (∀ o, IntsAt (wr.alloc o) (.slice B T.blk.length cb) T.blk ∧ Below W8.heap.size W8 (wr.alloc o)) := fun o => ⟨HI.out.1.below (below_alloc _ _), HI.out.2.alloc HI.out.2.size _⟩
        have HVX : Hid (∀ o, IntsAt (wr.alloc o) (.slice Av xn cv) X.data ∧ Below W8.heap.size W8 (wr.alloc o)) := fun o => ⟨HV.out.below (below_alloc _ _), HI.out.2.alloc HI.out.2.size _⟩
        have hbk := hb
        clear hX hxa hxk hxn hl hc hb
        by_cases ha : xa = (kk : Int)
        case neg =>
          have d0 : (xa != (kk : Int)) = true := by simpa using ha
          have HTE : Hid (tellE kk T X = T) := by show _ = _; rw [tellE, if_neg (by rw [← HXX.out.1]; exact ha)]
          clear ha
          go_wp2_with fail
          refine ⟨⟨j + 1, B, cb, by have := HX2.out.2; omega, ?_, ?_, ?_, by go_num, ?_⟩, ?_⟩
          · rw [HTN.out, HTE.out]
          · rw [HTN.out, HTE.out]
          · rw [HTN.out, HTE.out]
          · rw [HTN.out, HTE.out]; exact HNX.out _
          · have := HX2.out.2; simp [intOf]; omega
        case pos =>
          have d0 : (xa != (kk : Int)) = false := by simp [ha]
          have HAX : Hid (X.at_ = (kk : Int)) := by show _ = _; rw [← HXX.out.1]; exact ha
          clear ha
          by_cases k1' : xk = 1
          case pos =>
            have c1 : (xk == 1) = true := by simp [k1']
            have HTE : Hid (tellE kk T X = { T with irq := true }) := by show _ = _; rw [tellE, if_pos HAX.out, if_pos (by rw [← HXX.out.2.1]; exact k1')]
            clear k1'
            go_wp2_with fail
            refine ⟨⟨j + 1, B, cb, by have := HX2.out.2; omega, ?_, ?_, ?_, by go_num, ?_⟩, ?_⟩
            · rw [HTN.out, HTE.out]
            · rw [HTN.out, HTE.out]
            · rw [HTN.out, HTE.out]
            · rw [HTN.out, HTE.out]; exact HNX.out _
            · have := HX2.out.2; simp [intOf]; omega
          case neg =>
            have c1 : (xk == 1) = false := by simpa using k1'
            by_cases k2' : xk = 2
            case pos =>
              have c2 : (xk == 2) = true := by simp [k2']
              have HTE : Hid (tellE kk T X = { T with blk := X.data }) := by show _ = _; rw [tellE, if_pos HAX.out, if_neg (by rw [← HXX.out.2.1]; exact k1'), if_pos (by rw [← HXX.out.2.1]; exact k2')]
              clear k1' k2'
              go_wp2_with fail
              refine ⟨⟨j + 1, Av, cv, by have := HX2.out.2; omega, ?_, ?_, ?_, by go_num, ?_⟩, ?_⟩
              · rw [HTN.out, HTE.out]
              · rw [HTN.out, HTE.out, HXX.out.2.2]
              · rw [HTN.out, HTE.out]
              · rw [HTN.out, HTE.out]; have := HVX.out; rw [HXX.out.2.2] at this; rw [HXX.out.2.2]; exact this _
              · have := HX2.out.2; simp [intOf]; omega
            case neg =>
              have c2 : (xk == 2) = false := by simpa using k2'
              have hb3 := (evNo_bd HEO.out)
              have k3' : xk = 3 := by have := hb3.1; rw [← HXX.out.2.1] at this; omega
              have hlen : xn = 1 := by
                have h4 := hb3.2.2.2
                rw [← HXX.out.2.1, ← HXX.out.2.2, k3'] at h4
                have h5 : (xn : Int) = 1 := h4
                omega
              subst hlen
              have HTE : Hid (tellE kk T X = { T with val := X.data.getD 0 0 }) := by show _ = _; rw [tellE, if_pos HAX.out, if_neg (by rw [← HXX.out.2.1]; exact k1'), if_neg (by rw [← HXX.out.2.1]; exact k2')]
              have hd1 : X.data.length = 1 := HXX.out.2.2.symm
              obtain ⟨Aw, cw, ew, -, hcw⟩ := HV.out
              rw [hd1] at ew hcw
              simp only [Value.slice.injEq, true_and] at ew
              obtain ⟨rfl, rfl⟩ := ew
              obtain ⟨bd, od, rfl, hbd2, hcd⟩ := hcw (by omega)
              have g3' := hcd 0 (by omega)
              rw [Nat.add_zero] at g3'
              obtain ⟨y, hy⟩ : ∃ y, y = X.data.getD 0 0 := ⟨_, rfl⟩
              rw [← hy] at g3'
              have HY : Hid (y = X.data.getD 0 0) := hy
              clear hb3 k1' k2' k3' hcd hcw hy hd1
              go_wp2_with fail
              refine ⟨⟨j + 1, B, cb, by have := HX2.out.2; omega, ?_, ?_, ?_, by go_num, ?_⟩, ?_⟩
              · rw [HTN.out, HTE.out]
              · rw [HTN.out, HTE.out]
              · rw [HTN.out, HTE.out, HY.out]
              · rw [HTN.out, HTE.out]; exact HNX.out _
              · have := HX2.out.2; simp [intOf]; omega
      case neg =>
        have hl1 : ¬ (j : Int) < (L.length : Int) := by omega
        have HTE : Hid (toldL kk L = T) := by show _ = _; rw [HTT.out, List.take_of_length_le (by omega)]
        have HTM : Hid (TlMay T) := by
          have := toldL_may HCH.out (kk : Int)
          rw [HTE.out] at this
          exact this
        have hb6 : Below W6.heap.size W6 wr := H8.out.2.1.trans (HI.out.2.mono H8.out.2.1.size)
        have hmk := HMK.out kk (by have := HKN.out; omega)
        rw [← HA0.out] at hmk
        have hst := Step_ok A0 _ _ _ T.irq B cb T.blk T.val wr (H6.out.1.below hb6) HI.out.1 hmk.1 HTM.out.all HTM.out.len hmk.2 (stepNo_zero hmk.1 HTM.out hmk.2)
        have hR : B0 = (A0.step T.irq T.blk T.val).1 := by rw [HB0.out, HTE.out]
        rw [← hR] at hst
        obtain ⟨z2, hz2⟩ : ∃ z, z = (A0.step T.irq T.blk T.val).2 := ⟨_, rfl⟩
        rw [← hz2] at hst
        have HST : Hid (Calls Tryd.prog 16 #[.agg (A0.cells (.slice E1 A0.regs.length k1) (.slice E2 A0.mem.length k2) (.slice E3 A0.out.length k3)), .bool T.irq, .slice B T.blk.length cb, .int .i64 T.val] wr fun e w' => ∃ rv' mv' ov', e = .returned (.tuple #[.agg (B0.cells rv' mv' ov'), .int .i64 z2, .int .i64 0]) ∧ OwnM w' wr.heap.size rv' mv' ov' B0 ∧ Below wr.heap.size wr w') := hst
        simp only [Mach.cells] at HST
        obtain ⟨⟨m0, m1, m2, m3, m4, m5, m6, m7, m8, m9, m10, m11⟩, mf, ml⟩ := twelve_cells (H6.out.2.2 wr hb6)
        clear hst hR hl hb6 hmk hz2
        go_wp2_with fail
        refine HST.out.mono ?_
        rintro e w9 ⟨rv', mv', ov', rfl, ho9, hb9⟩
        have hma := ho9.at (HMK.out (kk + 1) (by have := HKN.out; omega) |>.1.fits |> fun h => by
          have e : replayM (imageF R) L (kk + 1) = B0 := by rw [HB0.out, HA0.out]; rfl
          rwa [e] at h)
        obtain ⟨Q1, j1, Q2, j2, Q3, j3, rfl, rfl, rfl⟩ := ho9.shape
        have H9 : Hid (MachAt w9 (.slice Q1 B0.regs.length j1) (.slice Q2 B0.mem.length j2) (.slice Q3 B0.out.length j3) B0 ∧ Below W8.heap.size W8 w9) := ⟨hma, HI.out.2.trans (hb9.mono HI.out.2.size)⟩
        clear hma ho9 hb9 m0 m1 m2 m3 m4 m5 m6 m7 m8 m9 m10 m11 mf ml HST
        simp only
        go_upto_region 25 with fail
        obtain ⟨Wa, hWa⟩ : ∃ Wa, Wa = w9.alloc (.cells #[.slice Q1 B0.regs.length j1, .int .i64 B0.pc, .int .i64 B0.back, .bool B0.ints, .bool B0.wait, .int .i64 B0.table, .int .i64 B0.count, .int .i64 B0.fin, .slice Q2 B0.mem.length j2, .slice Q3 B0.out.length j3, .int .i64 B0.ready, .int .i64 B0.want] 28) := ⟨_, rfl⟩
        rw [← hWa]
        obtain ⟨ya, hba⟩ := one_alloc w9 #[.slice Q1 B0.regs.length j1, .int .i64 B0.pc, .int .i64 B0.back, .bool B0.ints, .bool B0.wait, .int .i64 B0.table, .int .i64 B0.count, .int .i64 B0.fin, .slice Q2 B0.mem.length j2, .slice Q3 B0.out.length j3, .int .i64 B0.ready, .int .i64 B0.want] 28
        rw [← hWa] at ya hba
        have h8a : Below W8.heap.size W8 Wa := H9.out.2.trans (hba.mono H9.out.2.size)
        have HSM : Hid (Calls Tryd.prog 9 #[.agg (B0.cells (.slice G1 B0.regs.length g1) (.slice G2 B0.mem.length g2) (.slice G3 B0.out.length g3)), .agg (B0.cells (.slice Q1 B0.regs.length j1) (.slice Q2 B0.mem.length j2) (.slice Q3 B0.out.length j3))] Wa fun e w' => e = .returned (.bool true) ∧ Below Wa.heap.size Wa w') := sameK_same B0 _ _ _ _ _ _ Wa (H8.out.1.below h8a) (H9.out.1.below hba)
        have HBA : Hid (Below w.heap.size w Wa) := H4.out.2.2.trans ((H8.out.2.2.1.trans (h8a.mono H8.out.2.2.1.size)).mono H4.out.2.2.size)
        obtain ⟨⟨m0, m1, m2, m3, m4, m5, m6, m7, m8, m9, m10, m11⟩, mf, ml⟩ := twelve_cells (H8.out.2.2.2 Wa h8a)
        obtain ⟨⟨p0, p1, p2, p3, p4, p5, p6, p7, p8, p9, p10, p11⟩, pf, pl⟩ := twelve_cells ya
        simp only [Mach.cells] at HSM
        clear hWa ya hba h8a
        go_wp2_with fail
        refine HSM.out.mono ?_
        rintro e wz ⟨rfl, hz⟩
        have HZ : Hid (Below w.heap.size w wz) := HBA.out.trans (hz.mono HBA.out.size)
        clear hz
        go_wp2_with fail
        go_ret
        exact ⟨rfl, HZ.out⟩

end Go.Proofs.YtecpblabaelopaaDoor
