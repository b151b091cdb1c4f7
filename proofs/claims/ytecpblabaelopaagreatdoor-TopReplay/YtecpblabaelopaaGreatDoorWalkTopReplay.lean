/- TopReplay, walked. -/
import Derived.Test.YtecpblabaelopaaGreatDoorDkTellPart
namespace Go.Proofs.YtecpblabaelopaaGreatDoor
open Go.RowKit
set_option maxRecDepth 100000

set_option maxHeartbeats 4000000 in
theorem TopReplay_any (v0 : Value) (n0 : Nat) (v1 : Value) (n1 : Nat) (n every keep : Int) (w : World) (h0 : RawsIn w v0 n0) (h1 : RawsIn w v1 n1) (hn : (Lit.int .i64 n).wf = true) (he : (Lit.int .i64 every).wf = true) (hk : (Lit.int .i64 keep).wf = true) (hL : Laid w) :
    Calls Tryz.prog 6 #[v0, v1, .int .i64 n, .int .i64 every, .int .i64 keep] w fun e w' => e = .returned (.bool true) ∧ Below w.heap.size w w' := by
  obtain ⟨R, -, hR⟩ := h0.some_
  obtain ⟨S, -, hS⟩ := h1.some_
  have HDT : Hid (Calls Tryz.prog 19 #[] w fun e w' => e = .returned (.bool true) ∧ Below w.heap.size w w') := DeckTells_any w hL
  have HRC : Hid (∀ X, Below w.heap.size w X → Calls Tryz.prog 21 #[v0, v1, .int .i64 n] X fun e w' => RecdQ X R S (pickF n 400).toNat e w') := fun X hX => recordedT_any v0 v1 R S n X (hR.below hX) (hS.below hX) hn (hL.below hX)
  have HSU : Hid (∀ X, Calls Tryz.prog 22 #[.int .i64 every, .int .i64 keep] X fun e w' => e = .returned (.agg #[.int .i64 200, .int .i64 (1 + pickF every 90), .int .i64 (1 + pickF keep 8)]) ∧ Below X.heap.size X w') := fun X => setup_any every keep X he hk
  have hE := pickF_bd every (m := 90) (by decide)
  have hK := pickF_bd keep (m := 8) (by decide)
  have hN : (pickF n 400).toNat ≤ 900 := by have := pickF_bd n (m := 400) (by decide); omega
  obtain ⟨N, hNN⟩ : ∃ N, N = (pickF n 400).toNat := ⟨_, rfl⟩
  obtain ⟨E, hEE⟩ : ∃ E, E = 1 + pickF every 90 := ⟨_, rfl⟩
  obtain ⟨K, hKK⟩ : ∃ K, K = 1 + pickF keep 8 := ⟨_, rfl⟩
  rw [← hNN] at HRC hN
  rw [← hEE, ← hKK] at HSU
  have HF : Hid (RecFine (wdOf S) (imageF R) N) := recFine R S hN
  have HEK : Hid ((1 ≤ E ∧ E ≤ 3000) ∧ (1 ≤ K ∧ K ≤ 8) ∧ N ≤ 900) := ⟨by omega, by omega, hN⟩
  have HL : Hid (Laid w) := hL
  clear h0 h1 hR hS hn he hk hL hE hK hN hNN hEE hKK
  go_enter Tryz.func6, Tryz.ntmps6
  go_wp2_with fail
  refine HDT.out.mono ?_
  rintro e w1 ⟨rfl, hb1⟩
  have HB1 : Hid (Below w.heap.size w w1) := hb1
  clear hb1 HDT
  go_wp2_with fail
  refine (HRC.out w1 HB1.out).mono ?_
  rintro e w2 ⟨ti, te, A1, d1, A2, d2, A3, d3, rfl, q1, q2, q3, hb2⟩
  have hTA : TapeAt w2 ti te (imageF R) (fullB (recN (wdOf S) (imageF R) N).evs) := RecdQ.tape HEK.out.2.2 q1 q2
  have hMA := q3.at HF.out.ok.may.fits
  obtain ⟨At, ct, rfl⟩ := q1.shape
  obtain ⟨Ae, ce, rfl⟩ := q2.shape
  have HT : Hid (TapeAt w2 (.slice At (imageF R).length ct) (.slice Ae (fullB (recN (wdOf S) (imageF R) N).evs).length ce) (imageF R) (fullB (recN (wdOf S) (imageF R) N).evs) ∧ Below w.heap.size w w2) := ⟨hTA, HB1.out.trans (hb2.mono HB1.out.size)⟩
  have HDS : Hid (∀ X lv, Below w2.heap.size w2 X → IntsAt X lv [(recC (wdOf S) (imageF R) N : Int)] → Calls Tryz.prog 11 #[.agg #[.int .i64 200, .int .i64 E, .int .i64 K], .agg #[.slice At (imageF R).length ct, .slice Ae (fullB (recN (wdOf S) (imageF R) N).evs).length ce, .int .i64 (recC (wdOf S) (imageF R) N)], lv] X fun e w' => Below X.heap.size X w' ∧ ∃ v, e = .returned (.tuple #[v, .int .i64 0]) ∧ GsAt w' v [(recN (wdOf S) (imageF R) N).m]) := fun X lv hX hi => by
    refine (DeckSeek_any 200 E K _ _ lv (imageF R) (fullB (recN (wdOf S) (imageF R) N).evs) [(recC (wdOf S) (imageF R) N : Int)] (recC (wdOf S) (imageF R) N) X (HT.out.1.below hX) hi (HL.out.below (HT.out.2.trans (hX.mono HT.out.2.size))) (by simp)).mono fun e w' hp => ?_
    obtain ⟨h1, v, h2, h3⟩ := sought_ok HEK.out.1 HEK.out.2.1 HF.out (fun k hk => by simp at hk; omega) hp
    refine ⟨h1, v, h2, ?_⟩
    have e1 : ([(recC (wdOf S) (imageF R) N : Int)].map fun k => replayM (imageF R) (recN (wdOf S) (imageF R) N).evs k.toNat) = [(recN (wdOf S) (imageF R) N).m] := by
      rw [List.map_cons, List.map_nil, Int.toNat_natCast, HF.out.ends]
    rwa [e1] at h3
  have HMA : Hid (MachAt w2 (.slice A1 (recN (wdOf S) (imageF R) N).m.regs.length d1) (.slice A2 (recN (wdOf S) (imageF R) N).m.mem.length d2) (.slice A3 (recN (wdOf S) (imageF R) N).m.out.length d3) (recN (wdOf S) (imageF R) N).m) := hMA
  clear q1 q2 q3 hb2 hTA hMA HRC
  obtain ⟨Ct, hCt⟩ : ∃ C, C = (recC (wdOf S) (imageF R) N : Int) := ⟨_, rfl⟩
  obtain ⟨nE, hnE⟩ : ∃ n, n = (fullB (recN (wdOf S) (imageF R) N).evs).length := ⟨_, rfl⟩
  obtain ⟨nI, hnI⟩ : ∃ n, n = (imageF R).length := ⟨_, rfl⟩
  obtain ⟨M, hM⟩ : ∃ M, M = (recN (wdOf S) (imageF R) N).m := ⟨_, rfl⟩
  rw [← hCt, ← hnE, ← hnI, ← hM] at HDS
  rw [← hM] at HMA
  rw [← hCt, ← hnE, ← hnI, ← hM]
  clear hCt hnE hnI hM
  simp only [Mach.cells]
  go_upto_region 4 with fail
  obtain ⟨W4, hW4⟩ : ∃ W4, W4 = (w2.alloc (.cells #[.slice At nI ct, .slice Ae nE ce, .int .i64 Ct] 27)).alloc (.cells #[.slice A1 M.regs.length d1, .int .i64 M.pc, .int .i64 M.back, .bool M.ints, .bool M.wait, .int .i64 M.table, .int .i64 M.count, .int .i64 M.fin, .slice A2 M.mem.length d2, .slice A3 M.out.length d3, .int .i64 M.ready, .int .i64 M.want] 37) := ⟨_, rfl⟩
  rw [← hW4]
  have y1 : W4.heap[w2.heap.size]? = some (.cells #[.slice At nI ct, .slice Ae nE ce, .int .i64 Ct] 27 (0, 0)) := by
    rw [hW4, Go.Deep.blk_alloc_lt _ _ _ (by simp)]; exact Go.Deep.blk_alloc_new _ _
  have y2 : W4.heap[w2.heap.size + 1]? = some (.cells #[.slice A1 M.regs.length d1, .int .i64 M.pc, .int .i64 M.back, .bool M.ints, .bool M.wait, .int .i64 M.table, .int .i64 M.count, .int .i64 M.fin, .slice A2 M.mem.length d2, .slice A3 M.out.length d3, .int .i64 M.ready, .int .i64 M.want] 37 (0, 0)) := by
    have := Go.Deep.blk_alloc_new (w2.alloc (.cells #[.slice At nI ct, .slice Ae nE ce, .int .i64 Ct] 27)) (.cells #[.slice A1 M.regs.length d1, .int .i64 M.pc, .int .i64 M.back, .bool M.ints, .bool M.wait, .int .i64 M.table, .int .i64 M.count, .int .i64 M.fin, .slice A2 M.mem.length d2, .slice A3 M.out.length d3, .int .i64 M.ready, .int .i64 M.want] 37)
    rw [hW4]
    rwa [show (w2.alloc (.cells #[.slice At nI ct, .slice Ae nE ce, .int .i64 Ct] 27)).heap.size = w2.heap.size + 1 by simp] at this
  have HB4 : Hid (Below w2.heap.size w2 W4 ∧ W4.heap[w2.heap.size]? = some (.cells #[.slice At nI ct, .slice Ae nE ce, .int .i64 Ct] 27 (0, 0)) ∧ W4.heap[w2.heap.size + 1]? = some (.cells #[.slice A1 M.regs.length d1, .int .i64 M.pc, .int .i64 M.back, .bool M.ints, .bool M.wait, .int .i64 M.table, .int .i64 M.count, .int .i64 M.fin, .slice A2 M.mem.length d2, .slice A3 M.out.length d3, .int .i64 M.ready, .int .i64 M.want] 37 (0, 0))) := ⟨by rw [hW4]; exact (below_alloc _ _).alloc (by simp) _, y1, y2⟩
  obtain ⟨t0, t1, t2, tf, tl⟩ := three_cells y1
  clear hW4 y1 y2
  have HI4 : Hid (IntsAt (W4.alloc (.cells #[.int .i64 Ct] 3)).drew (.slice (some ⟨W4.heap.size, 0, none⟩) 1 1) [Ct]) := (ints_one_new W4 Ct).below ((Below.refl _ _).drew)
  have HD4 : Hid (Below W4.heap.size W4 W4.drew) := (Below.refl _ W4).drew
  have HA4 : Hid (Below W4.heap.size W4 (W4.alloc (.cells #[.int .i64 Ct] 3)).drew) := (below_alloc W4 _).drew
  go_region_held3 (fun w' => w'.cell? ⟨w2.heap.size, 0, none⟩ = some (.slice At nI ct) ∧ w'.cell? ⟨w2.heap.size, 1, none⟩ = some (.slice Ae nE ce) ∧ w'.cell? ⟨w2.heap.size, 2, none⟩ = some (.int .i64 Ct)) (go_keep)
    (first
      | (go_at_call 22; refine (HSU.out _).mono ?_; rintro e w5 ⟨rfl, hb5⟩; have hi5 := HI4.out.below (by with_reducible exact hb5); have HI5 : Hid (IntsAt w5 (.slice (some ⟨W4.heap.size, 0, none⟩) 1 1) [Ct]) := hi5; have HB5 : Hid (Below W4.heap.size W4 w5) := HA4.out.trans (hb5.mono HA4.out.size); clear hi5; clear hb5; have hx5 := (HB5.out.block _ tl).trans HB4.out.2.1; obtain ⟨r0, r1, r2, rf, rl⟩ := three_cells hx5; clear hx5)
      | (go_at_call 22; refine (HSU.out _).mono ?_; rintro e w5 ⟨rfl, hb5⟩; have hB5 : Below W4.heap.size W4 w5 := (by first | with_reducible exact hb5 | exact HD4.out.trans (by with_reducible exact hb5.mono HD4.out.size)); have HB5 : Hid (Below W4.heap.size W4 w5) := hB5; clear hB5; clear hb5; have hx5 := (HB5.out.block _ tl).trans HB4.out.2.1; obtain ⟨r0, r1, r2, rf, rl⟩ := three_cells hx5; clear hx5)
      | (go_at_call 11; refine (HDS.out _ _ (HB4.out.1.trans (HB5.out.mono HB4.out.1.size)) HI5.out).mono ?_; rintro e w6 ⟨hb6, v, rfl, b, c, rfl, hbl, -, hj⟩; have H6 : Hid (Below W4.heap.size W4 w6) := HB5.out.trans (hb6.mono HB5.out.size); obtain ⟨rv, mv, ov, hr, hma⟩ := hj 0 (by simp); have HR : Hid (w6.rangeAt b (0 * 12) (M.cells rv mv ov).toList ∧ MachAt w6 rv mv ov M) := ⟨hr, hma⟩; have hx6 := (H6.out.block _ tl).trans HB4.out.2.1; obtain ⟨g0, g1, g2, gf, gl⟩ := three_cells hx6; clear hb6 hj hr hma hx6)
      | (go_at_call 11; refine (HDS.out _ _ ((HB4.out.1.trans (HB5.out.mono HB4.out.1.size)).alloc (by have := HB4.out.1.size; have := HB5.out.size; omega) _) (ints_one_new w5 Ct)).mono ?_; rintro e w6 ⟨hb6, v, rfl, b, c, rfl, hbl, -, hj⟩; have H6 : Hid (Below W4.heap.size W4 w6) := HB5.out.trans (((below_alloc w5 _).trans (hb6.mono (by simp))).mono HB5.out.size); obtain ⟨rv, mv, ov, hr, hma⟩ := hj 0 (by simp); have HR : Hid (w6.rangeAt b (0 * 12) (M.cells rv mv ov).toList ∧ MachAt w6 rv mv ov M) := ⟨hr, hma⟩; have hx6 := (H6.out.block _ tl).trans HB4.out.2.1; obtain ⟨g0, g1, g2, gf, gl⟩ := three_cells hx6; clear hb6 hj hr hma hx6))
  all_goals
    obtain ⟨B1, f1, B2, f2, B3, f3, rfl, rfl, rfl⟩ := HR.out.2.shape
    have hw6 : Below w2.heap.size w2 w6 := HB4.out.1.trans (H6.out.mono HB4.out.1.size)
    have HSM : Hid (∀ X, Below w6.heap.size w6 X → Calls Tryz.prog 23 #[.agg (M.cells (.slice B1 M.regs.length f1) (.slice B2 M.mem.length f2) (.slice B3 M.out.length f3)), .agg (M.cells (.slice A1 M.regs.length d1) (.slice A2 M.mem.length d2) (.slice A3 M.out.length d3))] X fun e w' => e = .returned (.bool true) ∧ Below X.heap.size X w') := fun X hX => sameT_same M _ _ _ _ _ _ X (HR.out.2.below hX) ((HMA.out.below hw6).below hX)
    have H7 : Hid (Below w.heap.size w w6) := HT.out.2.trans (hw6.mono HT.out.2.size)
    have hx6 := (H6.out.block _ (lt_of_block HB4.out.2.2)).trans HB4.out.2.2
    obtain ⟨⟨m0, m1, m2, m3, m4, m5, m6, m7, m8, m9, m10, m11⟩, mf, ml⟩ := twelve_cells hx6
    obtain ⟨k0, k1, k2, k3, k4, k5, k6, k7, k8, k9, k10, k11⟩ := range12 HR.out.1
    have hone : ([M] : List Mach).length = 1 := rfl
    simp only [Mach.cells] at HSM
    have HX6 : Hid (_ = _) := hx6
    clear hx6 hw6 t0 t1 t2 tf tl
    try simp only [hone]
    go_wp2_with fail
    go_region_held3 (fun w' => w'.cell? ⟨b, 0, none⟩ = some (.slice B1 M.regs.length f1) ∧ w'.cell? ⟨b, 1, none⟩ = some (.int .i64 M.pc) ∧ w'.cell? ⟨b, 2, none⟩ = some (.int .i64 M.back) ∧ w'.cell? ⟨b, 3, none⟩ = some (.bool M.ints) ∧ w'.cell? ⟨b, 4, none⟩ = some (.bool M.wait) ∧ w'.cell? ⟨b, 5, none⟩ = some (.int .i64 M.table) ∧ w'.cell? ⟨b, 6, none⟩ = some (.int .i64 M.count) ∧ w'.cell? ⟨b, 7, none⟩ = some (.int .i64 M.fin) ∧ w'.cell? ⟨b, 8, none⟩ = some (.slice B2 M.mem.length f2) ∧ w'.cell? ⟨b, 9, none⟩ = some (.slice B3 M.out.length f3) ∧ w'.cell? ⟨b, 10, none⟩ = some (.int .i64 M.ready) ∧ w'.cell? ⟨b, 11, none⟩ = some (.int .i64 M.want) ∧ w'.cell? ⟨w2.heap.size + 1, 0, none⟩ = some (.slice A1 M.regs.length d1) ∧ w'.cell? ⟨w2.heap.size + 1, 1, none⟩ = some (.int .i64 M.pc) ∧ w'.cell? ⟨w2.heap.size + 1, 2, none⟩ = some (.int .i64 M.back) ∧ w'.cell? ⟨w2.heap.size + 1, 3, none⟩ = some (.bool M.ints) ∧ w'.cell? ⟨w2.heap.size + 1, 4, none⟩ = some (.bool M.wait) ∧ w'.cell? ⟨w2.heap.size + 1, 5, none⟩ = some (.int .i64 M.table) ∧ w'.cell? ⟨w2.heap.size + 1, 6, none⟩ = some (.int .i64 M.count) ∧ w'.cell? ⟨w2.heap.size + 1, 7, none⟩ = some (.int .i64 M.fin) ∧ w'.cell? ⟨w2.heap.size + 1, 8, none⟩ = some (.slice A2 M.mem.length d2) ∧ w'.cell? ⟨w2.heap.size + 1, 9, none⟩ = some (.slice A3 M.out.length d3) ∧ w'.cell? ⟨w2.heap.size + 1, 10, none⟩ = some (.int .i64 M.ready) ∧ w'.cell? ⟨w2.heap.size + 1, 11, none⟩ = some (.int .i64 M.want)) (go_keep)
      (first
        | (go_at_call 23; refine (HSM.out _ (by first | exact Below.refl _ _ | exact (Below.refl _ w6).drew)).mono ?_; rintro e w8 ⟨rfl, hb8⟩; have H8 : Hid (Below w6.heap.size w6 w8) := (by first | exact hb8 | exact ((Below.refl _ w6).drew).trans hb8); have hx8 := (H8.out.block _ ml).trans HX6.out; have hr8 : w8.rangeAt b (0 * 12) (M.cells (.slice B1 M.regs.length f1) (.slice B2 M.mem.length f2) (.slice B3 M.out.length f3)).toList := (fun i u hi => (H8.out.cell (p := ⟨b, 0 * 12 + i, none⟩) hbl).trans (HR.out.1 i u hi)); clear hb8 m0 m1 m2 m3 m4 m5 m6 m7 m8 m9 m10 m11 mf ml k0 k1 k2 k3 k4 k5 k6 k7 k8 k9 k10 k11; obtain ⟨⟨m0, m1, m2, m3, m4, m5, m6, m7, m8, m9, m10, m11⟩, mf, ml⟩ := twelve_cells hx8; obtain ⟨k0, k1, k2, k3, k4, k5, k6, k7, k8, k9, k10, k11⟩ := range12 hr8; clear hx8 hr8))
    all_goals
      go_wp2_with fail
      go_ret
      exact ⟨rfl, H7.out.trans (H8.out.mono H7.out.size)⟩

end Go.Proofs.YtecpblabaelopaaGreatDoor
