/- RecordsBegin, walked. -/
import Derived.Test.YtecpblabaelopaaDoorKRunTellPart
namespace Go.Proofs.YtecpblabaelopaaDoor
open Go.RowKit
set_option maxRecDepth 100000

set_option maxHeartbeats 4000000 in
theorem RecordsBegin_any (v0 : Value) (n0 : Nat) (v1 : Value) (n1 : Nat) (n more : Int) (w : World) (h0 : RawsIn w v0 n0) (h1 : RawsIn w v1 n1) (hn : (Lit.int .i64 n).wf = true) (hm : (Lit.int .i64 more).wf = true) (hL : Laid w) :
    Calls Tryd.prog 4 #[v0, v1, .int .i64 n, .int .i64 more] w fun e w' => e = .returned (.bool true) ∧ Below w.heap.size w w' := by
  obtain ⟨R, -, hR⟩ := h0.some_
  obtain ⟨S, -, hS⟩ := h1.some_
  have HRT : Hid (Calls Tryd.prog 12 #[] w fun e w' => e = .returned (.bool true) ∧ Below w.heap.size w w') := runTells_any w hL
  have hp1 := pick_nat (n := n) (m := 300) (by decide)
  have hp2 := pick_nat (n := more) (m := 200) (by decide)
  have HRC : Hid (∀ X, Below w.heap.size w X → Calls Tryd.prog 6 #[v0, v1, .int .i64 n] X fun e w' => RecdQ X R S (pickF n 300).toNat e w') := fun X hX => recordedK_any v0 v1 R S n X (hR.below hX) (hS.below hX) hn (hL.below hX)
  have HP1 : Hid (∀ X, Calls Tryd.prog 10 #[.int .i64 n, .int .i64 300] X fun e w' => e = .returned (.int .i64 ((pickF n 300).toNat : Int)) ∧ w' = X) := fun X => by
    rw [← hp1.1]; exact picked_any n 300 X hn (by decide) (by decide)
  have HP2 : Hid (∀ X, Calls Tryd.prog 10 #[.int .i64 more, .int .i64 200] X fun e w' => e = .returned (.int .i64 ((pickF more 200).toNat : Int)) ∧ w' = X) := fun X => by
    rw [← hp2.1]; exact picked_any more 200 X hm (by decide) (by decide)
  obtain ⟨N, hN⟩ : ∃ N, N = (pickF n 300).toNat := ⟨_, rfl⟩
  obtain ⟨D, hD⟩ : ∃ D, D = (pickF more 200).toNat := ⟨_, rfl⟩
  rw [← hN] at HRC HP1 hp1
  rw [← hD] at HP2 hp2
  have hND : N < 300 ∧ D < 200 := ⟨by omega, by omega⟩
  have HF : Hid (RecFine (wdOf S) (imageF R) N) := recFine R S (by omega)
  have HF2 : Hid (RecFine (wdOf S) (imageF R) (N + D)) := recFine R S (by omega)
  have hw : IntKind.i64.wrap ((N : Int) + (D : Int)) = ((N + D : Nat) : Int) := by rw [IntWalk.i64_in _ (by omega)]; omega
  have HIM : Hid (∀ X, Below w.heap.size w X → Calls Tryd.prog 14 #[v0] X fun e w' => ∃ v', e = .returned v' ∧ OwnI w' X.heap.size v' (imageF R) ∧ Below X.heap.size X w') := fun X hX => ImageF_any v0 R X (hR.below hX)
  have HWD : Hid (∀ X, Below w.heap.size w X → Calls Tryd.prog 15 #[v1] X fun e w' => ∃ iv vv bv dv rows, e = .returned (.agg #[iv, vv, bv, dv]) ∧ WorldT X w' iv vv bv dv rows (worldF (S.take 20))) := fun X hX => World_any v1 S X (hS.below hX)
  have HL : Hid (∀ X, Below w.heap.size w X → Laid X) := fun X hX => hL.below hX
  have HN : Hid (N < 300 ∧ D < 200) := hND
  have HIL : Hid ((imageF R).length ≤ 64) := imageF_len R
  clear h0 h1 hR hS hn hm hL hN hD hp1 hp2 hND
  go_enter Tryd.func4, Tryd.ntmps4
  go_wp2_with fail
  refine HRT.out.mono ?_
  rintro e w1 ⟨rfl, hb1⟩
  have HB1 : Hid (Below w.heap.size w w1) := hb1
  clear hb1 HRT
  go_wp2_with fail
  refine (HRC.out w1 HB1.out).mono ?_
  rintro e w2 ⟨ti, te, A1, d1, A2, d2, A3, d3, rfl, q1, q2, q3, hb2⟩
  have hTA : TapeAt w2 ti te (imageF R) (fullB (recN (wdOf S) (imageF R) N).evs) := RecdQ.tape (by have := HN.out; omega) q1 q2
  obtain ⟨At, ct, rfl⟩ := q1.shape
  obtain ⟨Ae, ce, rfl⟩ := q2.shape
  have HT : Hid (TapeAt w2 (.slice At (imageF R).length ct) (.slice Ae (fullB (recN (wdOf S) (imageF R) N).evs).length ce) (imageF R) (fullB (recN (wdOf S) (imageF R) N).evs) ∧ Below w.heap.size w w2) := ⟨hTA, HB1.out.trans (hb2.mono HB1.out.size)⟩
  have HRP : Hid (∀ X, Below w2.heap.size w2 X → Calls Tryd.prog 7 #[.agg #[.slice At (imageF R).length ct, .slice Ae (fullB (recN (wdOf S) (imageF R) N).evs).length ce, .int .i64 (recC (wdOf S) (imageF R) N)], .int .i64 (recC (wdOf S) (imageF R) N)] X fun e w' => RepQ X ((recN (wdOf S) (imageF R) N).m, 0) e w') := fun X hX => by
    have := Replay_any _ _ (imageF R) (fullB (recN (wdOf S) (imageF R) N).evs) (recC (wdOf S) (imageF R) N) (recC (wdOf S) (imageF R) N) X (HT.out.1.below hX) (HL.out X (HT.out.2.trans (hX.mono HT.out.2.size)))
    rwa [HF.out.replay (Nat.le_refl _), HF.out.ends] at this
  clear q1 q2 q3 hb2 hTA HRC
  obtain ⟨Ct, hCt⟩ : ∃ C, C = (recC (wdOf S) (imageF R) N : Int) := ⟨_, rfl⟩
  obtain ⟨nE, hnE⟩ : ∃ n, n = (fullB (recN (wdOf S) (imageF R) N).evs).length := ⟨_, rfl⟩
  obtain ⟨nI, hnI⟩ : ∃ n, n = (imageF R).length := ⟨_, rfl⟩
  obtain ⟨M, hM⟩ : ∃ M, M = (recN (wdOf S) (imageF R) N).m := ⟨_, rfl⟩
  have HCM : Hid (Ct = (recC (wdOf S) (imageF R) N : Int) ∧ M = (recN (wdOf S) (imageF R) N).m) := ⟨hCt, hM⟩
  rw [← hCt, ← hnE, ← hnI, ← hM] at HRP
  rw [← hCt, ← hnE, ← hnI, ← hM]
  clear hCt hnE hnI hM
  simp only [Mach.cells]
  go_upto_region 4 with fail
  obtain ⟨W3, hW3⟩ : ∃ W3, W3 = (w2.alloc (.cells #[.slice At nI ct, .slice Ae nE ce, .int .i64 Ct] 26)).alloc (.cells #[.slice A1 M.regs.length d1, .int .i64 M.pc, .int .i64 M.back, .bool M.ints, .bool M.wait, .int .i64 M.table, .int .i64 M.count, .int .i64 M.fin, .slice A2 M.mem.length d2, .slice A3 M.out.length d3, .int .i64 M.ready, .int .i64 M.want] 28) := ⟨_, rfl⟩
  rw [← hW3]
  obtain ⟨y1, -, y3⟩ := two_alloc w2 #[.slice At nI ct, .slice Ae nE ce, .int .i64 Ct] #[.slice A1 M.regs.length d1, .int .i64 M.pc, .int .i64 M.back, .bool M.ints, .bool M.wait, .int .i64 M.table, .int .i64 M.count, .int .i64 M.fin, .slice A2 M.mem.length d2, .slice A3 M.out.length d3, .int .i64 M.ready, .int .i64 M.want] 26 28
  rw [← hW3] at y1 y3
  have H3 : Hid (Below w2.heap.size w2 W3 ∧ Below w.heap.size w W3 ∧ ∀ X, Below W3.heap.size W3 X → X.heap[w2.heap.size]? = some (.cells #[.slice At nI ct, .slice Ae nE ce, .int .i64 Ct] 26 (0, 0))) := ⟨y3, HT.out.2.trans (y3.mono HT.out.2.size), fun X hX => (hX.block _ (lt_of_block y1)).trans y1⟩
  clear hW3 y1 y3
  go_wp2_with fail
  refine (HIM.out W3 H3.out.2.1).mono ?_
  rintro e w4 ⟨im, rfl, ho4, hb4⟩
  have H4 : Hid (OwnI w4 W3.heap.size im (imageF R) ∧ Below W3.heap.size W3 w4 ∧ Below w.heap.size w w4) := ⟨ho4, hb4, H3.out.2.1.trans (hb4.mono H3.out.2.1.size)⟩
  clear ho4 hb4 HIM
  go_wp2_with fail
  refine (HWD.out w4 H4.out.2.2).mono ?_
  rintro e w5 ⟨a, b, c, d, rows, rfl, hT5⟩
  have H5 : Hid (WdT w5.heap.size w5 a b c d (wdOf S) ∧ OwnI w5 W3.heap.size im (imageF R) ∧ Below W3.heap.size W3 w5 ∧ Below w.heap.size w w5) := ⟨hT5.wdt (by simp; omega), H4.out.1.below hT5.old, H4.out.2.1.trans (hT5.old.mono H4.out.2.1.size), H4.out.2.2.trans (hT5.old.mono H4.out.2.2.size)⟩
  clear hT5 HWD H4
  go_wp2_with fail
  refine (HP1.out _).mono ?_
  rintro e w' ⟨rfl, hw'⟩
  subst hw'
  go_wp2_with fail
  refine (HP2.out _).mono ?_
  rintro e w'' ⟨rfl, hw''⟩
  subst hw''
  obtain ⟨Ai, ci, rfl⟩ := H5.out.2.1.shape
  have HRC : Hid (∀ X, X = w'' → Calls Tryd.prog 13 #[.slice Ai (imageF R).length ci, .agg #[a, b, c, d], .int .i64 ((N + D : Nat) : Int)] X fun e w3 => RecQ w'' ⟨0, imageF R, fullB (recN (wdOf S) (imageF R) (N + D)).evs, (recC (wdOf S) (imageF R) (N + D) : Int), (recN (wdOf S) (imageF R) (N + D)).m⟩ e w3) := fun X hX => by
    have := Record_any Ai ci (imageF R) a b c d (wdOf S) ((N + D : Nat) : Int) w'' (H5.out.2.1.at (by have := HIL.out; omega)) H5.out.1 (HL.out w'' H5.out.2.2.2)
    rw [HF2.out.ans (wdOf_no S)] at this
    rw [hX]; exact this
  rw [show (imageF R).length = (imageF R).length from rfl]
  obtain ⟨nJ, hnJ⟩ : ∃ n, n = (imageF R).length := ⟨_, rfl⟩
  rw [← hnJ] at HRC ⊢
  clear hnJ
  go_wp2_with fail
  refine (HRC.out _ rfl).mono ?_
  rintro e w6 ⟨ui, ue, B1, f1, B2, f2, B3, f3, rfl, q1, q2, q3, hb6⟩
  simp only at q1 q2 q3 ⊢
  have hTU : TapeAt w6 ui ue (imageF R) (fullB (recN (wdOf S) (imageF R) (N + D)).evs) := RecdQ.tape (by have := HN.out; omega) q1 q2
  obtain ⟨Au, cu, rfl⟩ := q1.shape
  obtain ⟨Av, cv, rfl⟩ := q2.shape
  have H6 : Hid (TapeAt w6 (.slice Au (imageF R).length cu) (.slice Av (fullB (recN (wdOf S) (imageF R) (N + D)).evs).length cv) (imageF R) (fullB (recN (wdOf S) (imageF R) (N + D)).evs) ∧ Below W3.heap.size W3 w6 ∧ Below w.heap.size w w6) := ⟨hTU, H5.out.2.2.1.trans (hb6.mono H5.out.2.2.1.size), H5.out.2.2.2.trans (hb6.mono H5.out.2.2.2.size)⟩
  have HRU : Hid (∀ X, Below w6.heap.size w6 X → Calls Tryd.prog 7 #[.agg #[.slice Au (imageF R).length cu, .slice Av (fullB (recN (wdOf S) (imageF R) (N + D)).evs).length cv, .int .i64 (recC (wdOf S) (imageF R) (N + D))], .int .i64 (recC (wdOf S) (imageF R) N)] X fun e w' => RepQ X ((recN (wdOf S) (imageF R) N).m, 0) e w') := fun X hX => by
    have := Replay_any _ _ (imageF R) (fullB (recN (wdOf S) (imageF R) (N + D)).evs) (recC (wdOf S) (imageF R) (N + D)) (recC (wdOf S) (imageF R) N) X (H6.out.1.below hX) (HL.out X (H6.out.2.2.trans (hX.mono H6.out.2.2.size)))
    rwa [HF2.out.replay (recC_mono (by omega)), HF.out.begins HF2.out (by omega)] at this
  clear q1 q2 q3 hb6 hTU HRC
  have hle : (recC (wdOf S) (imageF R) N : Int) ≤ (recC (wdOf S) (imageF R) (N + D) : Int) := by have := recC_mono (x := wdOf S) (im := imageF R) (n := N) (n' := N + D) (by omega); omega
  obtain ⟨Cu, hCu⟩ : ∃ C, C = (recC (wdOf S) (imageF R) (N + D) : Int) := ⟨_, rfl⟩
  obtain ⟨nF, hnF⟩ : ∃ n, n = (fullB (recN (wdOf S) (imageF R) (N + D)).evs).length := ⟨_, rfl⟩
  obtain ⟨nK, hnK⟩ : ∃ n, n = (imageF R).length := ⟨_, rfl⟩
  obtain ⟨P, hP⟩ : ∃ P, P = (recN (wdOf S) (imageF R) (N + D)).m := ⟨_, rfl⟩
  rw [← hCu, ← hnF, ← hnK, ← HCM.out.1, ← HCM.out.2] at HRU
  rw [← hCu, ← HCM.out.1] at hle
  rw [← hCu, ← hnF, ← hnK, ← hP]
  clear hCu hnF hnK hP
  simp only [Mach.cells]
  go_upto_region 5 with fail
  obtain ⟨W7, hW7⟩ : ∃ W7, W7 = (w6.alloc (.cells #[.slice Au nK cu, .slice Av nF cv, .int .i64 Cu] 26)).alloc (.cells #[.slice B1 P.regs.length f1, .int .i64 P.pc, .int .i64 P.back, .bool P.ints, .bool P.wait, .int .i64 P.table, .int .i64 P.count, .int .i64 P.fin, .slice B2 P.mem.length f2, .slice B3 P.out.length f3, .int .i64 P.ready, .int .i64 P.want] 28) := ⟨_, rfl⟩
  rw [← hW7]
  obtain ⟨y1, -, y3⟩ := two_alloc w6 #[.slice Au nK cu, .slice Av nF cv, .int .i64 Cu] #[.slice B1 P.regs.length f1, .int .i64 P.pc, .int .i64 P.back, .bool P.ints, .bool P.wait, .int .i64 P.table, .int .i64 P.count, .int .i64 P.fin, .slice B2 P.mem.length f2, .slice B3 P.out.length f3, .int .i64 P.ready, .int .i64 P.want] 26 28
  rw [← hW7] at y1 y3
  have H7 : Hid (Below w6.heap.size w6 W7 ∧ Below W3.heap.size W3 W7 ∧ Below w.heap.size w W7 ∧ ∀ X, Below W7.heap.size W7 X → X.heap[w6.heap.size]? = some (.cells #[.slice Au nK cu, .slice Av nF cv, .int .i64 Cu] 26 (0, 0))) := ⟨y3, H6.out.2.1.trans (y3.mono H6.out.2.1.size), H6.out.2.2.trans (y3.mono H6.out.2.2.size), fun X hX => (hX.block _ (lt_of_block y1)).trans y1⟩
  clear hW7 y1 y3
  obtain ⟨t0, t1, t2, tf, tl⟩ := three_cells (H3.out.2.2 W7 H7.out.2.1)
  go_wp2_with fail
  refine (HRP.out W7 (H3.out.1.trans (H7.out.2.1.mono H3.out.1.size))).mono ?_
  rintro e w8 ⟨E1, k1, E2, k2, E3, k3, rfl, hm8, hb8⟩
  have H8 : Hid (MachAt w8 (.slice E1 M.regs.length k1) (.slice E2 M.mem.length k2) (.slice E3 M.out.length k3) M ∧ Below W7.heap.size W7 w8) := ⟨hm8, hb8⟩
  clear hm8 hb8 t0 t1 t2 tf tl HRP
  simp only [Mach.cells]
  go_upto_region 6 with fail
  obtain ⟨W9, hW9⟩ : ∃ W9, W9 = w8.alloc (.cells #[.slice E1 M.regs.length k1, .int .i64 M.pc, .int .i64 M.back, .bool M.ints, .bool M.wait, .int .i64 M.table, .int .i64 M.count, .int .i64 M.fin, .slice E2 M.mem.length k2, .slice E3 M.out.length k3, .int .i64 M.ready, .int .i64 M.want] 28) := ⟨_, rfl⟩
  rw [← hW9]
  have y9 : W9.heap[w8.heap.size]? = some (.cells #[.slice E1 M.regs.length k1, .int .i64 M.pc, .int .i64 M.back, .bool M.ints, .bool M.wait, .int .i64 M.table, .int .i64 M.count, .int .i64 M.fin, .slice E2 M.mem.length k2, .slice E3 M.out.length k3, .int .i64 M.ready, .int .i64 M.want] 28 (0, 0)) := by rw [hW9]; exact Go.Deep.blk_alloc_new _ _
  have hb9 : Below w8.heap.size w8 W9 := by rw [hW9]; exact below_alloc _ _
  have H9 : Hid (MachAt W9 (.slice E1 M.regs.length k1) (.slice E2 M.mem.length k2) (.slice E3 M.out.length k3) M ∧ Below W7.heap.size W7 W9 ∧ W9.heap[w8.heap.size]? = some (.cells #[.slice E1 M.regs.length k1, .int .i64 M.pc, .int .i64 M.back, .bool M.ints, .bool M.wait, .int .i64 M.table, .int .i64 M.count, .int .i64 M.fin, .slice E2 M.mem.length k2, .slice E3 M.out.length k3, .int .i64 M.ready, .int .i64 M.want] 28 (0, 0))) := ⟨H8.out.1.below hb9, H8.out.2.trans (hb9.mono H8.out.2.size), y9⟩
  clear hW9 y9 hb9
  obtain ⟨t0, t1, t2, tf, tl⟩ := three_cells (H3.out.2.2 W9 (H7.out.2.1.trans (H9.out.2.1.mono H7.out.2.1.size)))
  obtain ⟨s0, s1, s2, sf, sl⟩ := three_cells (H7.out.2.2.2 W9 H9.out.2.1)
  go_wp2_with fail
  refine (HRU.out W9 (H7.out.1.trans (H9.out.2.1.mono H7.out.1.size))).mono ?_
  rintro e wa ⟨G1, g1, G2, g2, G3, g3, rfl, hma, hba⟩
  have HA : Hid (MachAt wa (.slice G1 M.regs.length g1) (.slice G2 M.mem.length g2) (.slice G3 M.out.length g3) M ∧ Below W9.heap.size W9 wa) := ⟨hma, hba⟩
  clear hma hba t0 t1 t2 tf tl s0 s1 s2 sf sl HRU
  simp only [Mach.cells]
  go_upto_region 7 with fail
  obtain ⟨Wb, hWb⟩ : ∃ Wb, Wb = wa.alloc (.cells #[.slice G1 M.regs.length g1, .int .i64 M.pc, .int .i64 M.back, .bool M.ints, .bool M.wait, .int .i64 M.table, .int .i64 M.count, .int .i64 M.fin, .slice G2 M.mem.length g2, .slice G3 M.out.length g3, .int .i64 M.ready, .int .i64 M.want] 28) := ⟨_, rfl⟩
  rw [← hWb]
  have yb : Wb.heap[wa.heap.size]? = some (.cells #[.slice G1 M.regs.length g1, .int .i64 M.pc, .int .i64 M.back, .bool M.ints, .bool M.wait, .int .i64 M.table, .int .i64 M.count, .int .i64 M.fin, .slice G2 M.mem.length g2, .slice G3 M.out.length g3, .int .i64 M.ready, .int .i64 M.want] 28 (0, 0)) := by rw [hWb]; exact Go.Deep.blk_alloc_new _ _
  have hbb : Below wa.heap.size wa Wb := by rw [hWb]; exact below_alloc _ _
  have h9b : Below W9.heap.size W9 Wb := HA.out.2.trans (hbb.mono HA.out.2.size)
  have h7b : Below W7.heap.size W7 Wb := H9.out.2.1.trans (h9b.mono H9.out.2.1.size)
  have HSM : Hid (Calls Tryd.prog 9 #[.agg (M.cells (.slice E1 M.regs.length k1) (.slice E2 M.mem.length k2) (.slice E3 M.out.length k3)), .agg (M.cells (.slice G1 M.regs.length g1) (.slice G2 M.mem.length g2) (.slice G3 M.out.length g3))] Wb fun e w' => e = .returned (.bool true) ∧ Below Wb.heap.size Wb w') := sameK_same M _ _ _ _ _ _ Wb (H9.out.1.below h9b) (HA.out.1.below hbb)
  have HBB : Hid (Below w.heap.size w Wb) := H7.out.2.2.1.trans (h7b.mono H7.out.2.2.1.size)
  obtain ⟨t0, t1, t2, tf, tl⟩ := three_cells (H3.out.2.2 Wb (H7.out.2.1.trans (h7b.mono H7.out.2.1.size)))
  obtain ⟨s0, s1, s2, sf, sl⟩ := three_cells (H7.out.2.2.2 Wb h7b)
  have e9 := (h9b.block _ (lt_of_block H9.out.2.2)).trans H9.out.2.2
  obtain ⟨⟨m0, m1, m2, m3, m4, m5, m6, m7, m8, m9, m10, m11⟩, mf, ml⟩ := twelve_cells e9
  obtain ⟨⟨p0, p1, p2, p3, p4, p5, p6, p7, p8, p9, p10, p11⟩, pf, pl⟩ := twelve_cells yb
  simp only [Mach.cells] at HSM
  have hle2 : decide (Ct ≤ Cu) = true := decide_eq_true hle
  clear hWb yb hbb h9b h7b e9
  go_wp2_with fail
  refine HSM.out.mono ?_
  rintro e wz ⟨rfl, hz⟩
  have HZ : Hid (Below w.heap.size w wz) := HBB.out.trans (hz.mono HBB.out.size)
  clear hz
  go_wp2_with fail
  go_ret
  exact ⟨rfl, HZ.out⟩

end Go.Proofs.YtecpblabaelopaaDoor
