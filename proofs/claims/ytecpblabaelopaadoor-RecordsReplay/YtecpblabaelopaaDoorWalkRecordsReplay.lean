/- RecordsReplay, walked. -/
import Derived.Test.YtecpblabaelopaaDoorKRunTellPart
namespace Go.Proofs.YtecpblabaelopaaDoor
open Go.RowKit
set_option maxRecDepth 100000

set_option maxHeartbeats 4000000 in
theorem RecordsReplay_any (v0 : Value) (n0 : Nat) (v1 : Value) (n1 : Nat) (n : Int) (w : World) (h0 : RawsIn w v0 n0) (h1 : RawsIn w v1 n1) (hn : (Lit.int .i64 n).wf = true) (hL : Laid w) :
    Calls Tryd.prog 3 #[v0, v1, .int .i64 n] w fun e w' => e = .returned (.bool true) ∧ Below w.heap.size w w' := by
  obtain ⟨R, -, hR⟩ := h0.some_
  obtain ⟨S, -, hS⟩ := h1.some_
  have hp1 := pick_nat (n := n) (m := 300) (by decide)
  have HRC : Hid (∀ X, Below w.heap.size w X → Calls Tryd.prog 6 #[v0, v1, .int .i64 n] X fun e w' => RecdQ X R S (pickF n 300).toNat e w') := fun X hX => recordedK_any v0 v1 R S n X (hR.below hX) (hS.below hX) hn (hL.below hX)
  have HP1 : Hid (∀ X, Calls Tryd.prog 10 #[.int .i64 n, .int .i64 300] X fun e w' => e = .returned (.int .i64 ((pickF n 300).toNat : Int)) ∧ w' = X) := fun X => by
    rw [← hp1.1]; exact picked_any n 300 X hn (by decide) (by decide)
  obtain ⟨N, hN⟩ : ∃ N, N = (pickF n 300).toNat := ⟨_, rfl⟩
  rw [← hN] at HRC HP1 hp1
  have hND : N < 300 := by omega
  have HF : Hid (RecFine (wdOf S) (imageF R) N) := recFine R S (by omega)
  have HL : Hid (∀ X, Below w.heap.size w X → Laid X) := fun X hX => hL.below hX
  have HN : Hid (N < 300) := hND
  clear h0 h1 hR hS hn hL hN hp1 hND
  go_enter Tryd.func3, Tryd.ntmps3
  go_wp2_with fail
  refine (HRC.out w (Below.refl _ _)).mono ?_
  rintro e w2 ⟨ti, te, A1, d1, A2, d2, A3, d3, rfl, q1, q2, q3, hb2⟩
  have hTA : TapeAt w2 ti te (imageF R) (fullB (recN (wdOf S) (imageF R) N).evs) := RecdQ.tape (by have := HN.out; omega) q1 q2
  have hMA := q3.at HF.out.ok.may.fits
  obtain ⟨At, ct, rfl⟩ := q1.shape
  obtain ⟨Ae, ce, rfl⟩ := q2.shape
  have HT : Hid (TapeAt w2 (.slice At (imageF R).length ct) (.slice Ae (fullB (recN (wdOf S) (imageF R) N).evs).length ce) (imageF R) (fullB (recN (wdOf S) (imageF R) N).evs) ∧ Below w.heap.size w w2) := ⟨hTA, hb2⟩
  have HRP : Hid (∀ X, Below w2.heap.size w2 X → Calls Tryd.prog 7 #[.agg #[.slice At (imageF R).length ct, .slice Ae (fullB (recN (wdOf S) (imageF R) N).evs).length ce, .int .i64 (recC (wdOf S) (imageF R) N)], .int .i64 (recC (wdOf S) (imageF R) N)] X fun e w' => RepQ X ((recN (wdOf S) (imageF R) N).m, 0) e w') := fun X hX => by
    have := Replay_any _ _ (imageF R) (fullB (recN (wdOf S) (imageF R) N).evs) (recC (wdOf S) (imageF R) N) (recC (wdOf S) (imageF R) N) X (HT.out.1.below hX) (HL.out X (HT.out.2.trans (hX.mono HT.out.2.size)))
    rwa [HF.out.replay (Nat.le_refl _), HF.out.ends] at this
  have HRF : Hid (∀ X, Below w2.heap.size w2 X → Calls Tryd.prog 7 #[.agg #[.slice At (imageF R).length ct, .slice Ae (fullB (recN (wdOf S) (imageF R) N).evs).length ce, .int .i64 (recC (wdOf S) (imageF R) N)], .int .i64 ((recC (wdOf S) (imageF R) N : Int) + 1)] X fun e w' => RepQ X (noMach12, 2) e w') := fun X hX => by
    have := Replay_any _ _ (imageF R) (fullB (recN (wdOf S) (imageF R) N).evs) (recC (wdOf S) (imageF R) N) ((recC (wdOf S) (imageF R) N : Int) + 1) X (HT.out.1.below hX) (HL.out X (HT.out.2.trans (hX.mono HT.out.2.size)))
    rwa [HF.out.far] at this
  have HCK : Hid (∀ X, Below w2.heap.size w2 X → Calls Tryd.prog 8 #[.agg #[.slice At (imageF R).length ct, .slice Ae (fullB (recN (wdOf S) (imageF R) N).evs).length ce, .int .i64 (recC (wdOf S) (imageF R) N)]] X fun e w' => ∃ A m c, e = .returned (.tuple #[.slice A m c, .int .i64 0]) ∧ Below X.heap.size X w') := fun X hX => by
    refine (RunCheck_any _ _ (imageF R) (fullB (recN (wdOf S) (imageF R) N).evs) (recC (wdOf S) (imageF R) N) X (HT.out.1.below hX) (HL.out X (HT.out.2.trans (hX.mono HT.out.2.size)))).mono ?_
    rintro e w' ⟨u, rfl, hq⟩
    rw [HF.out.tape] at hq ⊢
    obtain ⟨A, c, rfl, -⟩ := hq.fits
    exact ⟨A, _, c, rfl, hq.old⟩
  have HMA : Hid (MachAt w2 (.slice A1 (recN (wdOf S) (imageF R) N).m.regs.length d1) (.slice A2 (recN (wdOf S) (imageF R) N).m.mem.length d2) (.slice A3 (recN (wdOf S) (imageF R) N).m.out.length d3) (recN (wdOf S) (imageF R) N).m) := hMA
  have HMY : Hid (MayP (recN (wdOf S) (imageF R) N).m) := HF.out.ok.may
  have hcl : (recC (wdOf S) (imageF R) N : Int) ≤ (N : Int) ∧ (N : Int) < 300 ∧ (0 : Int) ≤ (recC (wdOf S) (imageF R) N : Int) := by have := HF.out.cnt; have := HN.out; omega
  clear q1 q2 q3 hb2 hTA hMA HRC
  obtain ⟨Ct, hCt⟩ : ∃ C, C = (recC (wdOf S) (imageF R) N : Int) := ⟨_, rfl⟩
  obtain ⟨nE, hnE⟩ : ∃ n, n = (fullB (recN (wdOf S) (imageF R) N).evs).length := ⟨_, rfl⟩
  obtain ⟨nI, hnI⟩ : ∃ n, n = (imageF R).length := ⟨_, rfl⟩
  obtain ⟨M, hM⟩ : ∃ M, M = (recN (wdOf S) (imageF R) N).m := ⟨_, rfl⟩
  obtain ⟨P, hP⟩ : ∃ P, P = noMach12 := ⟨_, rfl⟩
  rw [← hCt, ← hnE, ← hnI, ← hM] at HRP
  rw [← hCt, ← hnE, ← hnI, ← hP] at HRF
  rw [← hCt, ← hnE, ← hnI] at HCK
  rw [← hM] at HMA HMY
  rw [← hCt] at hcl
  rw [← hCt, ← hnE, ← hnI, ← hM]
  clear hCt hnE hnI hM hP
  have hwc : IntKind.i64.wrap (Ct + 1) = Ct + 1 := IntWalk.i64_in _ (by omega)
  simp only [Mach.cells]
  go_upto_region 2 with fail
  obtain ⟨W3, hW3⟩ : ∃ W3, W3 = (w2.alloc (.cells #[.slice At nI ct, .slice Ae nE ce, .int .i64 Ct] 26)).alloc (.cells #[.slice A1 M.regs.length d1, .int .i64 M.pc, .int .i64 M.back, .bool M.ints, .bool M.wait, .int .i64 M.table, .int .i64 M.count, .int .i64 M.fin, .slice A2 M.mem.length d2, .slice A3 M.out.length d3, .int .i64 M.ready, .int .i64 M.want] 28) := ⟨_, rfl⟩
  rw [← hW3]
  obtain ⟨y1, y2, y3⟩ := two_alloc w2 #[.slice At nI ct, .slice Ae nE ce, .int .i64 Ct] #[.slice A1 M.regs.length d1, .int .i64 M.pc, .int .i64 M.back, .bool M.ints, .bool M.wait, .int .i64 M.table, .int .i64 M.count, .int .i64 M.fin, .slice A2 M.mem.length d2, .slice A3 M.out.length d3, .int .i64 M.ready, .int .i64 M.want] 26 28
  rw [← hW3] at y1 y2 y3
  have H3 : Hid (Below w2.heap.size w2 W3 ∧ Below w.heap.size w W3 ∧ ∀ X, Below W3.heap.size W3 X → X.heap[w2.heap.size]? = some (.cells #[.slice At nI ct, .slice Ae nE ce, .int .i64 Ct] 26 (0, 0)) ∧ X.heap[w2.heap.size + 1]? = some (.cells #[.slice A1 M.regs.length d1, .int .i64 M.pc, .int .i64 M.back, .bool M.ints, .bool M.wait, .int .i64 M.table, .int .i64 M.count, .int .i64 M.fin, .slice A2 M.mem.length d2, .slice A3 M.out.length d3, .int .i64 M.ready, .int .i64 M.want] 28 (0, 0))) := ⟨y3, HT.out.2.trans (y3.mono HT.out.2.size), fun X hX => ⟨(hX.block _ (lt_of_block y1)).trans y1, (hX.block _ (lt_of_block y2)).trans y2⟩⟩
  obtain ⟨t0, t1, t2, tf, tl⟩ := three_cells y1
  clear hW3 y1 y2 y3
  go_wp2_with fail
  refine (HRP.out W3 H3.out.1).mono ?_
  rintro e w4 ⟨E1, k1, E2, k2, E3, k3, rfl, hm4, hb4⟩
  have H4 : Hid (MachAt w4 (.slice E1 M.regs.length k1) (.slice E2 M.mem.length k2) (.slice E3 M.out.length k3) M ∧ Below W3.heap.size W3 w4) := ⟨hm4, hb4⟩
  clear hm4 hb4 t0 t1 t2 tf tl HRP
  simp only [Mach.cells]
  go_upto_region 3 with fail
  obtain ⟨W5, hW5⟩ : ∃ W5, W5 = w4.alloc (.cells #[.slice E1 M.regs.length k1, .int .i64 M.pc, .int .i64 M.back, .bool M.ints, .bool M.wait, .int .i64 M.table, .int .i64 M.count, .int .i64 M.fin, .slice E2 M.mem.length k2, .slice E3 M.out.length k3, .int .i64 M.ready, .int .i64 M.want] 28) := ⟨_, rfl⟩
  rw [← hW5]
  obtain ⟨y5, hb5⟩ := one_alloc w4 #[.slice E1 M.regs.length k1, .int .i64 M.pc, .int .i64 M.back, .bool M.ints, .bool M.wait, .int .i64 M.table, .int .i64 M.count, .int .i64 M.fin, .slice E2 M.mem.length k2, .slice E3 M.out.length k3, .int .i64 M.ready, .int .i64 M.want] 28
  rw [← hW5] at y5 hb5
  have H5 : Hid (MachAt W5 (.slice E1 M.regs.length k1) (.slice E2 M.mem.length k2) (.slice E3 M.out.length k3) M ∧ Below W3.heap.size W3 W5 ∧ ∀ X, Below W5.heap.size W5 X → X.heap[w4.heap.size]? = some (.cells #[.slice E1 M.regs.length k1, .int .i64 M.pc, .int .i64 M.back, .bool M.ints, .bool M.wait, .int .i64 M.table, .int .i64 M.count, .int .i64 M.fin, .slice E2 M.mem.length k2, .slice E3 M.out.length k3, .int .i64 M.ready, .int .i64 M.want] 28 (0, 0))) := ⟨H4.out.1.below hb5, H4.out.2.trans (hb5.mono H4.out.2.size), fun X hX => (hX.block _ (lt_of_block y5)).trans y5⟩
  clear hW5 y5 hb5
  obtain ⟨t0, t1, t2, tf, tl⟩ := three_cells (H3.out.2.2 W5 H5.out.2.1).1
  go_wp2_with fail
  refine (HRF.out W5 (H3.out.1.trans (H5.out.2.1.mono H3.out.1.size))).mono ?_
  rintro e w6 ⟨G1, g1, G2, g2, G3, g3, rfl, -, hb6⟩
  simp only [Mach.cells]
  go_upto_region 4 with fail
  obtain ⟨W7, hW7⟩ : ∃ W7, W7 = w6.alloc (.cells #[.slice G1 P.regs.length g1, .int .i64 P.pc, .int .i64 P.back, .bool P.ints, .bool P.wait, .int .i64 P.table, .int .i64 P.count, .int .i64 P.fin, .slice G2 P.mem.length g2, .slice G3 P.out.length g3, .int .i64 P.ready, .int .i64 P.want] 28) := ⟨_, rfl⟩
  rw [← hW7]
  have hb7 : Below W5.heap.size W5 W7 := by rw [hW7]; exact hb6.trans ((below_alloc _ _).mono hb6.size)
  have H7 : Hid (Below W5.heap.size W5 W7 ∧ Below W3.heap.size W3 W7) := ⟨hb7, H5.out.2.1.trans (hb7.mono H5.out.2.1.size)⟩
  clear hW7 hb6 hb7 t0 t1 t2 tf tl HRF
  obtain ⟨t0, t1, t2, tf, tl⟩ := three_cells (H3.out.2.2 W7 H7.out.2).1
  go_wp2_with fail
  refine (HCK.out W7 (H3.out.1.trans (H7.out.2.mono H3.out.1.size))).mono ?_
  rintro e w8 ⟨Ac, mc, cc, rfl, hb8⟩
  have H8 : Hid (Below W5.heap.size W5 w8 ∧ Below W3.heap.size W3 w8) := ⟨H7.out.1.trans (hb8.mono H7.out.1.size), H7.out.2.trans (hb8.mono H7.out.2.size)⟩
  clear hb8 t0 t1 t2 tf tl HCK
  have HSM : Hid (∀ X, Below w8.heap.size w8 X → Calls Tryd.prog 9 #[.agg (M.cells (.slice A1 M.regs.length d1) (.slice A2 M.mem.length d2) (.slice A3 M.out.length d3)), .agg (M.cells (.slice E1 M.regs.length k1) (.slice E2 M.mem.length k2) (.slice E3 M.out.length k3))] X fun e w' => e = .returned (.bool true) ∧ Below X.heap.size X w') := fun X hX => sameK_same M _ _ _ _ _ _ X ((HMA.out.below (H3.out.1.trans (H8.out.2.mono H3.out.1.size))).below hX) ((H5.out.1.below H8.out.1).below hX)
  have HCM : Hid (∀ X, Below w8.heap.size w8 X → Calls Tryd.prog 11 #[.agg (M.cells (.slice A1 M.regs.length d1) (.slice A2 M.mem.length d2) (.slice A3 M.out.length d3))] X fun e w' => e = .returned (.int .i64 0) ∧ Below X.heap.size X w') := fun X hX => by
    have := CpuCheckMachine_any M _ _ _ X ((HMA.out.below (H3.out.1.trans (H8.out.2.mono H3.out.1.size))).below hX)
    rwa [mayP_iff.2 HMY.out] at this
  have HBX : Hid (∀ X, Below w8.heap.size w8 X → Below W5.heap.size W5 X ∧ Below W3.heap.size W3 X ∧ Below w.heap.size w X) := fun X hX => ⟨H8.out.1.trans (hX.mono H8.out.1.size), H8.out.2.trans (hX.mono H8.out.2.size), H3.out.2.1.trans ((H8.out.2.trans (hX.mono H8.out.2.size)).mono H3.out.2.1.size)⟩
  obtain ⟨t0, t1, t2, tf, tl⟩ := three_cells (H3.out.2.2 w8 H8.out.2).1
  obtain ⟨⟨m0, m1, m2, m3, m4, m5, m6, m7, m8, m9, m10, m11⟩, mf, ml⟩ := twelve_cells (H3.out.2.2 w8 H8.out.2).2
  obtain ⟨⟨p0, p1, p2, p3, p4, p5, p6, p7, p8, p9, p10, p11⟩, pf, pl⟩ := twelve_cells (H5.out.2.2 w8 H8.out.1)
  simp only [Mach.cells] at HSM HCM
  have hle2 : decide (Ct ≤ (N : Int)) = true := decide_eq_true hcl.1
  clear hcl
  go_wp2_with fail
  go_region_held3 (fun w' => w'.cell? ⟨w2.heap.size, 2, none⟩ = some (.int .i64 Ct) ∧ w'.cell? ⟨w4.heap.size, 0, none⟩ = some (.slice E1 M.regs.length k1) ∧ w'.cell? ⟨w4.heap.size, 1, none⟩ = some (.int .i64 M.pc) ∧ w'.cell? ⟨w4.heap.size, 2, none⟩ = some (.int .i64 M.back) ∧ w'.cell? ⟨w4.heap.size, 3, none⟩ = some (.bool M.ints) ∧ w'.cell? ⟨w4.heap.size, 4, none⟩ = some (.bool M.wait) ∧ w'.cell? ⟨w4.heap.size, 5, none⟩ = some (.int .i64 M.table) ∧ w'.cell? ⟨w4.heap.size, 6, none⟩ = some (.int .i64 M.count) ∧ w'.cell? ⟨w4.heap.size, 7, none⟩ = some (.int .i64 M.fin) ∧ w'.cell? ⟨w4.heap.size, 8, none⟩ = some (.slice E2 M.mem.length k2) ∧ w'.cell? ⟨w4.heap.size, 9, none⟩ = some (.slice E3 M.out.length k3) ∧ w'.cell? ⟨w4.heap.size, 10, none⟩ = some (.int .i64 M.ready) ∧ w'.cell? ⟨w4.heap.size, 11, none⟩ = some (.int .i64 M.want) ∧ w'.cell? ⟨w2.heap.size + 1, 0, none⟩ = some (.slice A1 M.regs.length d1) ∧ w'.cell? ⟨w2.heap.size + 1, 1, none⟩ = some (.int .i64 M.pc) ∧ w'.cell? ⟨w2.heap.size + 1, 2, none⟩ = some (.int .i64 M.back) ∧ w'.cell? ⟨w2.heap.size + 1, 3, none⟩ = some (.bool M.ints) ∧ w'.cell? ⟨w2.heap.size + 1, 4, none⟩ = some (.bool M.wait) ∧ w'.cell? ⟨w2.heap.size + 1, 5, none⟩ = some (.int .i64 M.table) ∧ w'.cell? ⟨w2.heap.size + 1, 6, none⟩ = some (.int .i64 M.count) ∧ w'.cell? ⟨w2.heap.size + 1, 7, none⟩ = some (.int .i64 M.fin) ∧ w'.cell? ⟨w2.heap.size + 1, 8, none⟩ = some (.slice A2 M.mem.length d2) ∧ w'.cell? ⟨w2.heap.size + 1, 9, none⟩ = some (.slice A3 M.out.length d3) ∧ w'.cell? ⟨w2.heap.size + 1, 10, none⟩ = some (.int .i64 M.ready) ∧ w'.cell? ⟨w2.heap.size + 1, 11, none⟩ = some (.int .i64 M.want)) (go_keep)
    (first
      | (go_at_call 9; refine (HSM.out _ ((Below.refl _ w8).drew)).mono ?_; rintro e w9 ⟨rfl, hb9⟩; have H9 : Hid (Below w8.heap.size w8 w9) := ((Below.refl _ w8).drew).trans hb9; clear hb9 t0 t1 t2 tf tl m0 m1 m2 m3 m4 m5 m6 m7 m8 m9 m10 m11 mf ml p0 p1 p2 p3 p4 p5 p6 p7 p8 p9 p10 p11 pf pl; obtain ⟨t0, t1, t2, tf, tl⟩ := three_cells (H3.out.2.2 w9 (HBX.out w9 H9.out).2.1).1; obtain ⟨⟨m0, m1, m2, m3, m4, m5, m6, m7, m8, m9, m10, m11⟩, mf, ml⟩ := twelve_cells (H3.out.2.2 w9 (HBX.out w9 H9.out).2.1).2; obtain ⟨⟨p0, p1, p2, p3, p4, p5, p6, p7, p8, p9, p10, p11⟩, pf, pl⟩ := twelve_cells (H5.out.2.2 w9 (HBX.out w9 H9.out).1))
      | (go_at_call 10; refine (HP1.out _).mono ?_; rintro e w' ⟨rfl, hw'⟩; subst hw')
      | (go_at_call 11; refine (HCM.out _ H9.out).mono ?_; rintro e wa ⟨rfl, hba⟩; have HA : Hid (Below w8.heap.size w8 wa) := H9.out.trans (hba.mono H9.out.size); clear hba t0 t1 t2 tf tl m0 m1 m2 m3 m4 m5 m6 m7 m8 m9 m10 m11 mf ml p0 p1 p2 p3 p4 p5 p6 p7 p8 p9 p10 p11 pf pl; obtain ⟨t0, t1, t2, tf, tl⟩ := three_cells (H3.out.2.2 wa (HBX.out wa HA.out).2.1).1; obtain ⟨⟨m0, m1, m2, m3, m4, m5, m6, m7, m8, m9, m10, m11⟩, mf, ml⟩ := twelve_cells (H3.out.2.2 wa (HBX.out wa HA.out).2.1).2; obtain ⟨⟨p0, p1, p2, p3, p4, p5, p6, p7, p8, p9, p10, p11⟩, pf, pl⟩ := twelve_cells (H5.out.2.2 wa (HBX.out wa HA.out).1)))
  all_goals
    go_wp2_with fail
    go_ret
    exact ⟨rfl, (HBX.out wa HA.out).2.2⟩

end Go.Proofs.YtecpblabaelopaaDoor
