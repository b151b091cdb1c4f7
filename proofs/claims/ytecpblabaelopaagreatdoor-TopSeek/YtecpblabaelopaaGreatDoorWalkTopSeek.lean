/- TopSeek, walked. -/
import Derived.Test.YtecpblabaelopaaGreatDoorDkTellPart
namespace Go.Proofs.YtecpblabaelopaaGreatDoor
open Go.RowKit
set_option maxRecDepth 100000

theorem range12o {w : World} {b : Nat} {m : Mach} {rv mv ov : Value} (o : Nat) (h : w.rangeAt b o (m.cells rv mv ov).toList) :
    w.cell? ⟨b, o, none⟩ = some rv ∧ w.cell? ⟨b, o + 1, none⟩ = some (.int .i64 m.pc) ∧ w.cell? ⟨b, o + 2, none⟩ = some (.int .i64 m.back) ∧ w.cell? ⟨b, o + 3, none⟩ = some (.bool m.ints) ∧ w.cell? ⟨b, o + 4, none⟩ = some (.bool m.wait) ∧ w.cell? ⟨b, o + 5, none⟩ = some (.int .i64 m.table) ∧ w.cell? ⟨b, o + 6, none⟩ = some (.int .i64 m.count) ∧ w.cell? ⟨b, o + 7, none⟩ = some (.int .i64 m.fin) ∧ w.cell? ⟨b, o + 8, none⟩ = some mv ∧ w.cell? ⟨b, o + 9, none⟩ = some ov ∧ w.cell? ⟨b, o + 10, none⟩ = some (.int .i64 m.ready) ∧ w.cell? ⟨b, o + 11, none⟩ = some (.int .i64 m.want) :=
  ⟨h 0 _ rfl, h 1 _ rfl, h 2 _ rfl, h 3 _ rfl, h 4 _ rfl, h 5 _ rfl, h 6 _ rfl, h 7 _ rfl, h 8 _ rfl, h 9 _ rfl, h 10 _ rfl, h 11 _ rfl⟩
theorem range_below {w w' : World} {b o : Nat} {cs : List Value} (hb : Below w.heap.size w w') (hl : b < w.heap.size) (h : w.rangeAt b o cs) : w'.rangeAt b o cs := fun j v hj => (hb.cell (p := ⟨b, o + j, none⟩) hl).trans (h j v hj)
theorem ints_new (w : World) (l : List Int) (hl : l.length ≤ 1000) : IntsAt (w.alloc (.cells (l.map (Value.int .i64)).toArray 3)) (.slice (some ⟨w.heap.size, 0, none⟩) l.length l.length) l := by
  refine ⟨_, _, rfl, by omega, fun _ => ⟨w.heap.size, 0, rfl, by simp, fun j hj => ?_⟩⟩
  have h := Go.Deep.blk_alloc_new w (.cells (l.map (Value.int .i64)).toArray 3)
  unfold World.cell?
  simp only [h]
  simp [List.getD, hj]

set_option maxHeartbeats 4000000 in
theorem TopSeek_any (v0 : Value) (n0 : Nat) (v1 : Value) (n1 : Nat) (n a b' every keep : Int) (w : World) (h0 : RawsIn w v0 n0) (h1 : RawsIn w v1 n1) (hn : (Lit.int .i64 n).wf = true) (ha : (Lit.int .i64 a).wf = true) (hb' : (Lit.int .i64 b').wf = true) (he : (Lit.int .i64 every).wf = true) (hk : (Lit.int .i64 keep).wf = true) (hL : Laid w) :
    Calls Tryz.prog 7 #[v0, v1, .int .i64 n, .int .i64 a, .int .i64 b', .int .i64 every, .int .i64 keep] w fun e w' => e = .returned (.bool true) ∧ Below w.heap.size w w' := by
  obtain ⟨R, -, hR⟩ := h0.some_
  obtain ⟨S, -, hS⟩ := h1.some_
  have HDT : Hid (Calls Tryz.prog 19 #[] w fun e w' => e = .returned (.bool true) ∧ Below w.heap.size w w') := DeckTells_any w hL
  have HRC : Hid (∀ X, Below w.heap.size w X → Calls Tryz.prog 21 #[v0, v1, .int .i64 n] X fun e w' => RecdQ X R S (pickF n 400).toNat e w') := fun X hX => recordedT_any v0 v1 R S n X (hR.below hX) (hS.below hX) hn (hL.below hX)
  have HSU : Hid (∀ X, Calls Tryz.prog 22 #[.int .i64 every, .int .i64 keep] X fun e w' => e = .returned (.agg #[.int .i64 200, .int .i64 (1 + pickF every 90), .int .i64 (1 + pickF keep 8)]) ∧ Below X.heap.size X w') := fun X => setup_any every keep X he hk
  have hE := pickF_bd every (m := 90) (by decide)
  have hK := pickF_bd keep (m := 8) (by decide)
  have hN : (pickF n 400).toNat ≤ 900 := by have := pickF_bd n (m := 400) (by decide); omega
  obtain ⟨N, hNN⟩ : ∃ N, N = (pickF n 400).toNat := ⟨_, rfl⟩
  obtain ⟨E, hEE⟩ : ∃ E, E = 1 + pickF every 90 := ⟨_, rfl⟩
  obtain ⟨K, hKK⟩ : ∃ K, K = 1 + pickF keep 8 := ⟨_, rfl⟩
  rw [← hNN] at HRC hN
  rw [← hEE, ← hKK] at HSU
  have HF : Hid (RecFine (wdOf S) (imageF R) N) := recFine R S hN
  have HEK : Hid ((1 ≤ E ∧ E ≤ 3000) ∧ (1 ≤ K ∧ K ≤ 8) ∧ N ≤ 900) := ⟨by omega, by omega, hN⟩
  have HL : Hid (Laid w) := hL
  have HPA : Hid (∀ X (m : Int), 0 < m → m ≤ 1000 → Calls Tryz.prog 24 #[.int .i64 a, .int .i64 m] X fun e w' => e = .returned (.int .i64 (pickF a m)) ∧ w' = X) := fun X m h1 h2 => Picked_any a m X ha h1 (by omega)
  have HPB : Hid (∀ X (m : Int), 0 < m → m ≤ 1000 → Calls Tryz.prog 24 #[.int .i64 b', .int .i64 m] X fun e w' => e = .returned (.int .i64 (pickF b' m)) ∧ w' = X) := fun X m h1 h2 => Picked_any b' m X hb' h1 (by omega)
  clear h0 h1 hR hS hn he hk hL hE hK hN hNN hEE hKK ha hb'
  go_enter Tryz.func7, Tryz.ntmps7
  go_wp2_with fail
  refine HDT.out.mono ?_
  rintro e w1 ⟨rfl, hb1⟩
  have HB1 : Hid (Below w.heap.size w w1) := hb1
  clear hb1 HDT
  go_wp2_with fail
  refine (HRC.out w1 HB1.out).mono ?_
  rintro e w2 ⟨ti, te, A1, d1, A2, d2, A3, d3, rfl, q1, q2, q3, hb2⟩
  have hTA : TapeAt w2 ti te (imageF R) (fullB (recN (wdOf S) (imageF R) N).evs) := RecdQ.tape HEK.out.2.2 q1 q2
  obtain ⟨At, ct, rfl⟩ := q1.shape
  obtain ⟨Ae, ce, rfl⟩ := q2.shape
  have HT : Hid (TapeAt w2 (.slice At (imageF R).length ct) (.slice Ae (fullB (recN (wdOf S) (imageF R) N).evs).length ce) (imageF R) (fullB (recN (wdOf S) (imageF R) N).evs) ∧ Below w.heap.size w w2) := ⟨hTA, HB1.out.trans (hb2.mono HB1.out.size)⟩
  have HDS : Hid (∀ X lv (l : List Int), Below w2.heap.size w2 X → IntsAt X lv l → l.length ≤ 1000 → (∀ k ∈ l, 0 ≤ k ∧ k ≤ (recC (wdOf S) (imageF R) N : Int)) → Calls Tryz.prog 11 #[.agg #[.int .i64 200, .int .i64 E, .int .i64 K], .agg #[.slice At (imageF R).length ct, .slice Ae (fullB (recN (wdOf S) (imageF R) N).evs).length ce, .int .i64 (recC (wdOf S) (imageF R) N)], lv] X fun e w' => Below X.heap.size X w' ∧ ∃ v, e = .returned (.tuple #[v, .int .i64 0]) ∧ GsAt w' v (l.map fun k => replayM (imageF R) (recN (wdOf S) (imageF R) N).evs k.toNat)) := fun X lv l hX hi hl hk =>
    (DeckSeek_any 200 E K _ _ lv (imageF R) (fullB (recN (wdOf S) (imageF R) N).evs) l (recC (wdOf S) (imageF R) N) X (HT.out.1.below hX) hi (HL.out.below (HT.out.2.trans (hX.mono HT.out.2.size))) (by omega)).mono fun e w' hp => sought_ok HEK.out.1 HEK.out.2.1 HF.out hk hp
  have hcn := HF.out.cnt
  have hN9 := HEK.out.2.2
  clear q1 q2 q3 hb2 hTA HRC
  obtain ⟨Ct, hCt⟩ : ∃ C, C = (recC (wdOf S) (imageF R) N : Int) := ⟨_, rfl⟩
  obtain ⟨nE, hnE⟩ : ∃ n, n = (fullB (recN (wdOf S) (imageF R) N).evs).length := ⟨_, rfl⟩
  obtain ⟨nI, hnI⟩ : ∃ n, n = (imageF R).length := ⟨_, rfl⟩
  obtain ⟨M, hM⟩ : ∃ M, M = (recN (wdOf S) (imageF R) N).m := ⟨_, rfl⟩
  obtain ⟨L, hLL⟩ : ∃ L, L = (recN (wdOf S) (imageF R) N).evs := ⟨_, rfl⟩
  rw [← hCt, ← hnE, ← hnI, ← hLL] at HDS
  rw [← hCt, ← hnE, ← hnI, ← hM]
  have hc9 : 0 ≤ Ct ∧ Ct ≤ 900 := by omega
  clear hCt hnE hnI hM hLL hcn hN9
  have hw1 : IntKind.i64.wrap (Ct + 1) = Ct + 1 := IntWalk.i64_in _ (by omega)
  have hpx := pickF_bd a (m := Ct + 1) (by omega)
  have hpy := pickF_bd b' (m := Ct + 1) (by omega)
  have HPX := HPA.out
  obtain ⟨x, hx⟩ : ∃ x, x = pickF a (Ct + 1) := ⟨_, rfl⟩
  obtain ⟨y, hy⟩ : ∃ y, y = pickF b' (Ct + 1) := ⟨_, rfl⟩
  have HX : Hid (∀ X, Calls Tryz.prog 24 #[.int .i64 a, .int .i64 (Ct + 1)] X fun e w' => e = .returned (.int .i64 x) ∧ w' = X) := fun X => by rw [hx]; exact HPA.out X _ (by omega) (by omega)
  have HY : Hid (∀ X, Calls Tryz.prog 24 #[.int .i64 b', .int .i64 (Ct + 1)] X fun e w' => e = .returned (.int .i64 y) ∧ w' = X) := fun X => by rw [hy]; exact HPB.out X _ (by omega) (by omega)
  rw [← hx] at hpx
  rw [← hy] at hpy
  have HXY : Hid ((0 ≤ x ∧ x ≤ Ct) ∧ (0 ≤ y ∧ y ≤ Ct) ∧ 0 ≤ Ct) := ⟨by omega, by omega, by omega⟩
  clear hx hy hpx hpy HPX HPA HPB hc9
  simp only [Mach.cells]
  go_upto_region 4 with fail
  obtain ⟨W4, hW4⟩ : ∃ W4, W4 = (w2.alloc (.cells #[.slice At nI ct, .slice Ae nE ce, .int .i64 Ct] 27)).alloc (.cells #[.slice A1 M.regs.length d1, .int .i64 M.pc, .int .i64 M.back, .bool M.ints, .bool M.wait, .int .i64 M.table, .int .i64 M.count, .int .i64 M.fin, .slice A2 M.mem.length d2, .slice A3 M.out.length d3, .int .i64 M.ready, .int .i64 M.want] 37) := ⟨_, rfl⟩
  rw [← hW4]
  have y1 : W4.heap[w2.heap.size]? = some (.cells #[.slice At nI ct, .slice Ae nE ce, .int .i64 Ct] 27 (0, 0)) := by
    rw [hW4, Go.Deep.blk_alloc_lt _ _ _ (by simp)]; exact Go.Deep.blk_alloc_new _ _
  have H4 : Hid (Below w2.heap.size w2 W4 ∧ ∀ X, Below W4.heap.size W4 X → X.heap[w2.heap.size]? = some (.cells #[.slice At nI ct, .slice Ae nE ce, .int .i64 Ct] 27 (0, 0))) := ⟨by rw [hW4]; exact (below_alloc _ _).alloc (by simp) _, fun X hX => (hX.block _ (lt_of_block y1)).trans y1⟩
  obtain ⟨t0, t1, t2, tf, tl⟩ := three_cells y1
  clear hW4 y1
  go_wp2_with fail
  refine (HX.out _).mono ?_
  rintro e w' ⟨rfl, hw'⟩
  subst hw'
  go_wp2_with fail
  refine (HY.out _).mono ?_
  rintro e w'' ⟨rfl, hw''⟩
  subst hw''
  go_wp2_with fail
  refine (HSU.out _).mono ?_
  rintro e w5 ⟨rfl, hb5⟩
  have H5 : Hid (Below w''.heap.size w'' w5) := hb5
  clear hb5 t0 t1 t2 tf tl HX HY HSU
  go_upto_region 7 with fail
  obtain ⟨W6, hW6⟩ : ∃ W6, W6 = w5.alloc (.cells #[.int .i64 200, .int .i64 E, .int .i64 K] 23) := ⟨_, rfl⟩
  rw [← hW6]
  have y6 : W6.heap[w5.heap.size]? = some (.cells #[.int .i64 200, .int .i64 E, .int .i64 K] 23 (0, 0)) := by rw [hW6]; exact Go.Deep.blk_alloc_new _ _
  have hb6 : Below w5.heap.size w5 W6 := by rw [hW6]; exact below_alloc _ _
  have H6 : Hid (Below w''.heap.size w'' W6 ∧ ∀ X, Below W6.heap.size W6 X → X.heap[w5.heap.size]? = some (.cells #[.int .i64 200, .int .i64 E, .int .i64 K] 23 (0, 0))) := ⟨H5.out.trans (hb6.mono H5.out.size), fun X hX => (hX.block _ (lt_of_block y6)).trans y6⟩
  obtain ⟨s0, s1, s2, sf, sl⟩ := three_cells y6
  obtain ⟨t0, t1, t2, tf, tl⟩ := three_cells (H4.out.2 W6 H6.out.1)
  clear hW6 y6 hb6
  have HS1 : Hid (Calls Tryz.prog 11 #[.agg #[.int .i64 200, .int .i64 E, .int .i64 K], .agg #[.slice At nI ct, .slice Ae nE ce, .int .i64 Ct], .slice (some ⟨W6.heap.size, 0, none⟩) 5 5] (W6.alloc (.cells #[.int .i64 x, .int .i64 y, .int .i64 x, .int .i64 Ct, .int .i64 y] 3)) fun e w' => Below W6.heap.size W6 w' ∧ ∃ v, e = .returned (.tuple #[v, .int .i64 0]) ∧ GsAt w' v ([x, y, x, Ct, y].map fun k => replayM (imageF R) L k.toNat)) := by
    have hA := below_alloc W6 (.cells #[.int .i64 x, .int .i64 y, .int .i64 x, .int .i64 Ct, .int .i64 y] 3)
    have h46 := H4.out.1.trans (H6.out.1.mono H4.out.1.size)
    have o := HXY.out
    exact (HDS.out _ _ [x, y, x, Ct, y] (h46.trans (hA.mono h46.size)) (ints_new W6 [x, y, x, Ct, y] (by simp)) (by simp) (fun k hk => by simp at hk; omega)).mono fun e w' ⟨h1, h2⟩ => ⟨hA.trans (h1.mono (by simp)), h2⟩
  go_wp2_with fail
  refine HS1.out.mono ?_
  rintro e w7 ⟨hb7, v, rfl, b, cb, rfl, hbl7, -, hj⟩
  have H7 : Hid (Below W6.heap.size W6 w7 ∧ b < w7.heap.size ∧ ∀ j, j < ([x, y, x, Ct, y].map fun k => replayM (imageF R) L k.toNat).length → ∃ rv mv ov, w7.rangeAt b (j * 12) ((([x, y, x, Ct, y].map fun k => replayM (imageF R) L k.toNat).getD j noMach12).cells rv mv ov).toList ∧ MachAt w7 rv mv ov (([x, y, x, Ct, y].map fun k => replayM (imageF R) L k.toNat).getD j noMach12)) := ⟨hb7, hbl7, hj⟩
  have hlen5 : ([x, y, x, Ct, y].map fun k => replayM (imageF R) L k.toNat).length = 5 := rfl
  rw [hlen5]
  clear hb7 hbl7 hj hlen5 s0 s1 s2 sf sl t0 t1 t2 tf tl HS1
  obtain ⟨s0, s1, s2, sf, sl⟩ := three_cells (H6.out.2 w7 H7.out.1)
  obtain ⟨t0, t1, t2, tf, tl⟩ := three_cells (H4.out.2 w7 (H6.out.1.trans (H7.out.1.mono H6.out.1.size)))
  have HS2 : Hid (Calls Tryz.prog 11 #[.agg #[.int .i64 200, .int .i64 E, .int .i64 K], .agg #[.slice At nI ct, .slice Ae nE ce, .int .i64 Ct], .slice (some ⟨w7.heap.size, 0, none⟩) 1 1] (w7.alloc (.cells #[.int .i64 y] 3)) fun e w' => Below w7.heap.size w7 w' ∧ ∃ v, e = .returned (.tuple #[v, .int .i64 0]) ∧ GsAt w' v ([y].map fun k => replayM (imageF R) L k.toNat)) := by
    have hA := below_alloc w7 (.cells #[.int .i64 y] 3)
    have h46 := H4.out.1.trans (H6.out.1.mono H4.out.1.size)
    have h47 := h46.trans (H7.out.1.mono h46.size)
    have o := HXY.out
    exact (HDS.out _ _ [y] (h47.trans (hA.mono h47.size)) (ints_new w7 [y] (by simp)) (by simp) (fun k hk => by simp at hk; omega)).mono fun e w' ⟨h1, h2⟩ => ⟨hA.trans (h1.mono (by simp)), h2⟩
  go_wp2_with fail
  refine HS2.out.mono ?_
  rintro e w8 ⟨hb8, v, rfl, g, cg, rfl, hgl, -, hj⟩
  have hlen1 : ([y].map fun k => replayM (imageF R) L k.toNat).length = 1 := rfl
  obtain ⟨p5a, p5b, p5c, p5d, p5e⟩ := hj 0 (by simp)
  rw [hlen1]
  obtain ⟨p0a, p0b, p0c, p0d, p0e⟩ := H7.out.2.2 0 (by simp)
  obtain ⟨p1a, p1b, p1c, p1d, p1e⟩ := H7.out.2.2 1 (by simp)
  obtain ⟨p2a, p2b, p2c, p2d, p2e⟩ := H7.out.2.2 2 (by simp)
  obtain ⟨p4a, p4b, p4c, p4d, p4e⟩ := H7.out.2.2 4 (by simp)
  have hb7 := H7.out.2.1
  have hbl : b < w8.heap.size := Nat.lt_of_lt_of_le hb7 hb8.size
  obtain ⟨X, hX⟩ : ∃ X, X = replayM (imageF R) L x.toNat := ⟨_, rfl⟩
  obtain ⟨Y, hY⟩ : ∃ Y, Y = replayM (imageF R) L y.toNat := ⟨_, rfl⟩
  have HRP0 : Hid (w8.rangeAt b 0 (X.cells p0a p0b p0c).toList ∧ MachAt w8 p0a p0b p0c X) := ⟨by rw [hX]; exact range_below hb8 hb7 p0d, by rw [hX]; exact p0e.below hb8⟩
  have HRP1 : Hid (w8.rangeAt b 12 (Y.cells p1a p1b p1c).toList ∧ MachAt w8 p1a p1b p1c Y) := ⟨by rw [hY]; exact range_below hb8 hb7 p1d, by rw [hY]; exact p1e.below hb8⟩
  have HRP2 : Hid (w8.rangeAt b 24 (X.cells p2a p2b p2c).toList ∧ MachAt w8 p2a p2b p2c X) := ⟨by rw [hX]; exact range_below hb8 hb7 p2d, by rw [hX]; exact p2e.below hb8⟩
  have HRP4 : Hid (w8.rangeAt b 48 (Y.cells p4a p4b p4c).toList ∧ MachAt w8 p4a p4b p4c Y) := ⟨by rw [hY]; exact range_below hb8 hb7 p4d, by rw [hY]; exact p4e.below hb8⟩
  have HRP5 : Hid (w8.rangeAt g 0 (Y.cells p5a p5b p5c).toList ∧ MachAt w8 p5a p5b p5c Y) := ⟨by rw [hY]; exact p5d, by rw [hY]; exact p5e⟩
  obtain ⟨P0A, P0x, P0B, P0y, P0C, P0z, rfl, rfl, rfl⟩ := HRP0.out.2.shape
  obtain ⟨P1A, P1x, P1B, P1y, P1C, P1z, rfl, rfl, rfl⟩ := HRP1.out.2.shape
  obtain ⟨P2A, P2x, P2B, P2y, P2C, P2z, rfl, rfl, rfl⟩ := HRP2.out.2.shape
  obtain ⟨P4A, P4x, P4B, P4y, P4C, P4z, rfl, rfl, rfl⟩ := HRP4.out.2.shape
  obtain ⟨P5A, P5x, P5B, P5y, P5C, P5z, rfl, rfl, rfl⟩ := HRP5.out.2.shape
  have H8 : Hid (Below w.heap.size w w8 ∧ b < w8.heap.size ∧ g < w8.heap.size) := ⟨HT.out.2.trans ((H4.out.1.trans ((H6.out.1.trans ((H7.out.1.trans (hb8.mono H7.out.1.size)).mono H6.out.1.size)).mono H4.out.1.size)).mono HT.out.2.size), hbl, hgl⟩
  have HM1 : Hid (∀ Z, Below w8.heap.size w8 Z → Calls Tryz.prog 23 #[.agg (X.cells (.slice P0A X.regs.length P0x) (.slice P0B X.mem.length P0y) (.slice P0C X.out.length P0z)), .agg (X.cells (.slice P2A X.regs.length P2x) (.slice P2B X.mem.length P2y) (.slice P2C X.out.length P2z))] Z fun e w' => e = .returned (.bool true) ∧ Below Z.heap.size Z w') := fun Z hZ => sameT_same X _ _ _ _ _ _ Z (HRP0.out.2.below hZ) (HRP2.out.2.below hZ)
  have HM2 : Hid (∀ Z, Below w8.heap.size w8 Z → Calls Tryz.prog 23 #[.agg (Y.cells (.slice P1A Y.regs.length P1x) (.slice P1B Y.mem.length P1y) (.slice P1C Y.out.length P1z)), .agg (Y.cells (.slice P4A Y.regs.length P4x) (.slice P4B Y.mem.length P4y) (.slice P4C Y.out.length P4z))] Z fun e w' => e = .returned (.bool true) ∧ Below Z.heap.size Z w') := fun Z hZ => sameT_same Y _ _ _ _ _ _ Z (HRP1.out.2.below hZ) (HRP4.out.2.below hZ)
  have HM3 : Hid (∀ Z, Below w8.heap.size w8 Z → Calls Tryz.prog 23 #[.agg (Y.cells (.slice P1A Y.regs.length P1x) (.slice P1B Y.mem.length P1y) (.slice P1C Y.out.length P1z)), .agg (Y.cells (.slice P5A Y.regs.length P5x) (.slice P5B Y.mem.length P5y) (.slice P5C Y.out.length P5z))] Z fun e w' => e = .returned (.bool true) ∧ Below Z.heap.size Z w') := fun Z hZ => sameT_same Y _ _ _ _ _ _ Z (HRP1.out.2.below hZ) (HRP5.out.2.below hZ)
  clear hX hY p0d p0e p1d p1e p2d p2e p4d p4e p5d p5e hb8 hj hb7 s0 s1 s2 sf sl t0 t1 t2 tf tl HS2 H7
  simp only [Mach.cells] at HM1 HM2 HM3
  obtain ⟨P0_a, P0_b, P0_c, P0_d, P0_e, P0_f, P0_g, P0_h, P0_i, P0_j, P0_k, P0_l⟩ := range12o 0 HRP0.out.1
  obtain ⟨P1_a, P1_b, P1_c, P1_d, P1_e, P1_f, P1_g, P1_h, P1_i, P1_j, P1_k, P1_l⟩ := range12o 12 HRP1.out.1
  obtain ⟨P2_a, P2_b, P2_c, P2_d, P2_e, P2_f, P2_g, P2_h, P2_i, P2_j, P2_k, P2_l⟩ := range12o 24 HRP2.out.1
  obtain ⟨P4_a, P4_b, P4_c, P4_d, P4_e, P4_f, P4_g, P4_h, P4_i, P4_j, P4_k, P4_l⟩ := range12o 48 HRP4.out.1
  obtain ⟨P5_a, P5_b, P5_c, P5_d, P5_e, P5_f, P5_g, P5_h, P5_i, P5_j, P5_k, P5_l⟩ := range12o 0 HRP5.out.1
  simp only [Nat.reduceAdd, Nat.zero_add] at P0_a P0_b P0_c P0_d P0_e P0_f P0_g P0_h P0_i P0_j P0_k P0_l P1_a P1_b P1_c P1_d P1_e P1_f P1_g P1_h P1_i P1_j P1_k P1_l P2_a P2_b P2_c P2_d P2_e P2_f P2_g P2_h P2_i P2_j P2_k P2_l P4_a P4_b P4_c P4_d P4_e P4_f P4_g P4_h P4_i P4_j P4_k P4_l P5_a P5_b P5_c P5_d P5_e P5_f P5_g P5_h P5_i P5_j P5_k P5_l
  go_wp2_with fail
  go_region_held3 (fun w' => w'.cell? ⟨b, 0, none⟩ = some (.slice P0A X.regs.length P0x) ∧ w'.cell? ⟨b, 1, none⟩ = some (.int .i64 X.pc) ∧ w'.cell? ⟨b, 2, none⟩ = some (.int .i64 X.back) ∧ w'.cell? ⟨b, 3, none⟩ = some (.bool X.ints) ∧ w'.cell? ⟨b, 4, none⟩ = some (.bool X.wait) ∧ w'.cell? ⟨b, 5, none⟩ = some (.int .i64 X.table) ∧ w'.cell? ⟨b, 6, none⟩ = some (.int .i64 X.count) ∧ w'.cell? ⟨b, 7, none⟩ = some (.int .i64 X.fin) ∧ w'.cell? ⟨b, 8, none⟩ = some (.slice P0B X.mem.length P0y) ∧ w'.cell? ⟨b, 9, none⟩ = some (.slice P0C X.out.length P0z) ∧ w'.cell? ⟨b, 10, none⟩ = some (.int .i64 X.ready) ∧ w'.cell? ⟨b, 11, none⟩ = some (.int .i64 X.want) ∧ w'.cell? ⟨b, 12, none⟩ = some (.slice P1A Y.regs.length P1x) ∧ w'.cell? ⟨b, 13, none⟩ = some (.int .i64 Y.pc) ∧ w'.cell? ⟨b, 14, none⟩ = some (.int .i64 Y.back) ∧ w'.cell? ⟨b, 15, none⟩ = some (.bool Y.ints) ∧ w'.cell? ⟨b, 16, none⟩ = some (.bool Y.wait) ∧ w'.cell? ⟨b, 17, none⟩ = some (.int .i64 Y.table) ∧ w'.cell? ⟨b, 18, none⟩ = some (.int .i64 Y.count) ∧ w'.cell? ⟨b, 19, none⟩ = some (.int .i64 Y.fin) ∧ w'.cell? ⟨b, 20, none⟩ = some (.slice P1B Y.mem.length P1y) ∧ w'.cell? ⟨b, 21, none⟩ = some (.slice P1C Y.out.length P1z) ∧ w'.cell? ⟨b, 22, none⟩ = some (.int .i64 Y.ready) ∧ w'.cell? ⟨b, 23, none⟩ = some (.int .i64 Y.want) ∧ w'.cell? ⟨b, 24, none⟩ = some (.slice P2A X.regs.length P2x) ∧ w'.cell? ⟨b, 25, none⟩ = some (.int .i64 X.pc) ∧ w'.cell? ⟨b, 26, none⟩ = some (.int .i64 X.back) ∧ w'.cell? ⟨b, 27, none⟩ = some (.bool X.ints) ∧ w'.cell? ⟨b, 28, none⟩ = some (.bool X.wait) ∧ w'.cell? ⟨b, 29, none⟩ = some (.int .i64 X.table) ∧ w'.cell? ⟨b, 30, none⟩ = some (.int .i64 X.count) ∧ w'.cell? ⟨b, 31, none⟩ = some (.int .i64 X.fin) ∧ w'.cell? ⟨b, 32, none⟩ = some (.slice P2B X.mem.length P2y) ∧ w'.cell? ⟨b, 33, none⟩ = some (.slice P2C X.out.length P2z) ∧ w'.cell? ⟨b, 34, none⟩ = some (.int .i64 X.ready) ∧ w'.cell? ⟨b, 35, none⟩ = some (.int .i64 X.want) ∧ w'.cell? ⟨b, 48, none⟩ = some (.slice P4A Y.regs.length P4x) ∧ w'.cell? ⟨b, 49, none⟩ = some (.int .i64 Y.pc) ∧ w'.cell? ⟨b, 50, none⟩ = some (.int .i64 Y.back) ∧ w'.cell? ⟨b, 51, none⟩ = some (.bool Y.ints) ∧ w'.cell? ⟨b, 52, none⟩ = some (.bool Y.wait) ∧ w'.cell? ⟨b, 53, none⟩ = some (.int .i64 Y.table) ∧ w'.cell? ⟨b, 54, none⟩ = some (.int .i64 Y.count) ∧ w'.cell? ⟨b, 55, none⟩ = some (.int .i64 Y.fin) ∧ w'.cell? ⟨b, 56, none⟩ = some (.slice P4B Y.mem.length P4y) ∧ w'.cell? ⟨b, 57, none⟩ = some (.slice P4C Y.out.length P4z) ∧ w'.cell? ⟨b, 58, none⟩ = some (.int .i64 Y.ready) ∧ w'.cell? ⟨b, 59, none⟩ = some (.int .i64 Y.want) ∧ w'.cell? ⟨g, 0, none⟩ = some (.slice P5A Y.regs.length P5x) ∧ w'.cell? ⟨g, 1, none⟩ = some (.int .i64 Y.pc) ∧ w'.cell? ⟨g, 2, none⟩ = some (.int .i64 Y.back) ∧ w'.cell? ⟨g, 3, none⟩ = some (.bool Y.ints) ∧ w'.cell? ⟨g, 4, none⟩ = some (.bool Y.wait) ∧ w'.cell? ⟨g, 5, none⟩ = some (.int .i64 Y.table) ∧ w'.cell? ⟨g, 6, none⟩ = some (.int .i64 Y.count) ∧ w'.cell? ⟨g, 7, none⟩ = some (.int .i64 Y.fin) ∧ w'.cell? ⟨g, 8, none⟩ = some (.slice P5B Y.mem.length P5y) ∧ w'.cell? ⟨g, 9, none⟩ = some (.slice P5C Y.out.length P5z) ∧ w'.cell? ⟨g, 10, none⟩ = some (.int .i64 Y.ready) ∧ w'.cell? ⟨g, 11, none⟩ = some (.int .i64 Y.want)) (go_keep)
    (first
      | (have htry := HA; clear htry; go_at_call 23; refine (HM3.out _ HA.out).mono ?_; rintro e wb ⟨rfl, hbb⟩; have HB : Hid (Below w8.heap.size w8 wb) := HA.out.trans (hbb.mono HA.out.size); clear hbb P0_a P0_b P0_c P0_d P0_e P0_f P0_g P0_h P0_i P0_j P0_k P0_l P1_a P1_b P1_c P1_d P1_e P1_f P1_g P1_h P1_i P1_j P1_k P1_l P2_a P2_b P2_c P2_d P2_e P2_f P2_g P2_h P2_i P2_j P2_k P2_l P4_a P4_b P4_c P4_d P4_e P4_f P4_g P4_h P4_i P4_j P4_k P4_l P5_a P5_b P5_c P5_d P5_e P5_f P5_g P5_h P5_i P5_j P5_k P5_l; obtain ⟨P0_a, P0_b, P0_c, P0_d, P0_e, P0_f, P0_g, P0_h, P0_i, P0_j, P0_k, P0_l⟩ := range12o 0 (range_below HB.out hbl HRP0.out.1); obtain ⟨P1_a, P1_b, P1_c, P1_d, P1_e, P1_f, P1_g, P1_h, P1_i, P1_j, P1_k, P1_l⟩ := range12o 12 (range_below HB.out hbl HRP1.out.1); obtain ⟨P2_a, P2_b, P2_c, P2_d, P2_e, P2_f, P2_g, P2_h, P2_i, P2_j, P2_k, P2_l⟩ := range12o 24 (range_below HB.out hbl HRP2.out.1); obtain ⟨P4_a, P4_b, P4_c, P4_d, P4_e, P4_f, P4_g, P4_h, P4_i, P4_j, P4_k, P4_l⟩ := range12o 48 (range_below HB.out hbl HRP4.out.1); obtain ⟨P5_a, P5_b, P5_c, P5_d, P5_e, P5_f, P5_g, P5_h, P5_i, P5_j, P5_k, P5_l⟩ := range12o 0 (range_below HB.out hgl HRP5.out.1); simp only [Nat.reduceAdd] at P0_a P0_b P0_c P0_d P0_e P0_f P0_g P0_h P0_i P0_j P0_k P0_l P1_a P1_b P1_c P1_d P1_e P1_f P1_g P1_h P1_i P1_j P1_k P1_l P2_a P2_b P2_c P2_d P2_e P2_f P2_g P2_h P2_i P2_j P2_k P2_l P4_a P4_b P4_c P4_d P4_e P4_f P4_g P4_h P4_i P4_j P4_k P4_l P5_a P5_b P5_c P5_d P5_e P5_f P5_g P5_h P5_i P5_j P5_k P5_l)
      | (have htry := H9; clear htry; go_at_call 23; refine (HM2.out _ H9.out).mono ?_; rintro e wa ⟨rfl, hba⟩; have HA : Hid (Below w8.heap.size w8 wa) := H9.out.trans (hba.mono H9.out.size); clear hba P0_a P0_b P0_c P0_d P0_e P0_f P0_g P0_h P0_i P0_j P0_k P0_l P1_a P1_b P1_c P1_d P1_e P1_f P1_g P1_h P1_i P1_j P1_k P1_l P2_a P2_b P2_c P2_d P2_e P2_f P2_g P2_h P2_i P2_j P2_k P2_l P4_a P4_b P4_c P4_d P4_e P4_f P4_g P4_h P4_i P4_j P4_k P4_l P5_a P5_b P5_c P5_d P5_e P5_f P5_g P5_h P5_i P5_j P5_k P5_l; obtain ⟨P0_a, P0_b, P0_c, P0_d, P0_e, P0_f, P0_g, P0_h, P0_i, P0_j, P0_k, P0_l⟩ := range12o 0 (range_below HA.out hbl HRP0.out.1); obtain ⟨P1_a, P1_b, P1_c, P1_d, P1_e, P1_f, P1_g, P1_h, P1_i, P1_j, P1_k, P1_l⟩ := range12o 12 (range_below HA.out hbl HRP1.out.1); obtain ⟨P2_a, P2_b, P2_c, P2_d, P2_e, P2_f, P2_g, P2_h, P2_i, P2_j, P2_k, P2_l⟩ := range12o 24 (range_below HA.out hbl HRP2.out.1); obtain ⟨P4_a, P4_b, P4_c, P4_d, P4_e, P4_f, P4_g, P4_h, P4_i, P4_j, P4_k, P4_l⟩ := range12o 48 (range_below HA.out hbl HRP4.out.1); obtain ⟨P5_a, P5_b, P5_c, P5_d, P5_e, P5_f, P5_g, P5_h, P5_i, P5_j, P5_k, P5_l⟩ := range12o 0 (range_below HA.out hgl HRP5.out.1); simp only [Nat.reduceAdd] at P0_a P0_b P0_c P0_d P0_e P0_f P0_g P0_h P0_i P0_j P0_k P0_l P1_a P1_b P1_c P1_d P1_e P1_f P1_g P1_h P1_i P1_j P1_k P1_l P2_a P2_b P2_c P2_d P2_e P2_f P2_g P2_h P2_i P2_j P2_k P2_l P4_a P4_b P4_c P4_d P4_e P4_f P4_g P4_h P4_i P4_j P4_k P4_l P5_a P5_b P5_c P5_d P5_e P5_f P5_g P5_h P5_i P5_j P5_k P5_l)
      | (go_at_call 23; refine (HM1.out _ ((Below.refl _ w8).drew)).mono ?_; rintro e w9 ⟨rfl, hb9⟩; have H9 : Hid (Below w8.heap.size w8 w9) := ((Below.refl _ w8).drew).trans hb9; clear hb9 P0_a P0_b P0_c P0_d P0_e P0_f P0_g P0_h P0_i P0_j P0_k P0_l P1_a P1_b P1_c P1_d P1_e P1_f P1_g P1_h P1_i P1_j P1_k P1_l P2_a P2_b P2_c P2_d P2_e P2_f P2_g P2_h P2_i P2_j P2_k P2_l P4_a P4_b P4_c P4_d P4_e P4_f P4_g P4_h P4_i P4_j P4_k P4_l P5_a P5_b P5_c P5_d P5_e P5_f P5_g P5_h P5_i P5_j P5_k P5_l; obtain ⟨P0_a, P0_b, P0_c, P0_d, P0_e, P0_f, P0_g, P0_h, P0_i, P0_j, P0_k, P0_l⟩ := range12o 0 (range_below H9.out hbl HRP0.out.1); obtain ⟨P1_a, P1_b, P1_c, P1_d, P1_e, P1_f, P1_g, P1_h, P1_i, P1_j, P1_k, P1_l⟩ := range12o 12 (range_below H9.out hbl HRP1.out.1); obtain ⟨P2_a, P2_b, P2_c, P2_d, P2_e, P2_f, P2_g, P2_h, P2_i, P2_j, P2_k, P2_l⟩ := range12o 24 (range_below H9.out hbl HRP2.out.1); obtain ⟨P4_a, P4_b, P4_c, P4_d, P4_e, P4_f, P4_g, P4_h, P4_i, P4_j, P4_k, P4_l⟩ := range12o 48 (range_below H9.out hbl HRP4.out.1); obtain ⟨P5_a, P5_b, P5_c, P5_d, P5_e, P5_f, P5_g, P5_h, P5_i, P5_j, P5_k, P5_l⟩ := range12o 0 (range_below H9.out hgl HRP5.out.1); simp only [Nat.reduceAdd] at P0_a P0_b P0_c P0_d P0_e P0_f P0_g P0_h P0_i P0_j P0_k P0_l P1_a P1_b P1_c P1_d P1_e P1_f P1_g P1_h P1_i P1_j P1_k P1_l P2_a P2_b P2_c P2_d P2_e P2_f P2_g P2_h P2_i P2_j P2_k P2_l P4_a P4_b P4_c P4_d P4_e P4_f P4_g P4_h P4_i P4_j P4_k P4_l P5_a P5_b P5_c P5_d P5_e P5_f P5_g P5_h P5_i P5_j P5_k P5_l))
  all_goals
    go_wp2_with fail
    go_ret
    exact ⟨rfl, H8.out.1.trans (HB.out.mono H8.out.1.size)⟩

end Go.Proofs.YtecpblabaelopaaGreatDoor
