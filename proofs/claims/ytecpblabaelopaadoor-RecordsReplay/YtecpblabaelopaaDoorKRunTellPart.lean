/- Contract of runTells; longer recordings; plain. -/
import Derived.Test.YtecpblabaelopaaDoorChgPart
import Derived.Test.YtecpblabaelopaaDoorRecLenPart
import Derived.Test.YtecpblabaelopaaDoorRunPPart
import Derived.Test.YtecpblabaelopaaDoorInfoPart
import Derived.Test.YtecpblabaelopaaDoorBasePart
namespace Go.Proofs.YtecpblabaelopaaDoor
open Go.RowKit
set_option maxRecDepth 100000

/-- A world without anything. -/
def wd0 : Wd := ⟨[], [], [], []⟩
theorem wd0_no : worldNo wd0 = 0 := by decide
theorem wd0_small : WdSmall wd0 := ⟨worldNo_may wd0_no, fun b hb => by simp [wd0] at hb, by simp [wd0]⟩
theorem new0 : newNo [] = 0 := by decide
theorem fine0 {N : Nat} (hN : N ≤ 900) : RecFine wd0 [] N := ⟨wd0_small, new0, hN⟩
theorem wd0_at (w : World) : WdT w.heap.size w nilv nilv nilv nilv wd0 := by
  have hI : TailI w.heap.size w nilv [] := ⟨none, 0, rfl, by simp, by simp, fun h => by simp at h⟩
  exact ⟨hI, hI, ⟨none, 0, rfl, by simp [wd0], by simp [wd0], fun h => by simp [wd0] at h⟩, hI, Nat.le_refl _⟩
theorem ints_nil (w : World) : IntsAt w nilv [] := ⟨none, 0, rfl, by simp, fun h => by simp at h⟩
theorem one_alloc (w : World) (X : Array Value) (s : TypeId) : (w.alloc (.cells X s)).heap[w.heap.size]? = some (.cells X s (0, 0)) ∧ Below w.heap.size w (w.alloc (.cells X s)) := ⟨Go.Deep.blk_alloc_new _ _, below_alloc _ _⟩
theorem two_alloc (w : World) (X Y : Array Value) (s t : TypeId) : ((w.alloc (.cells X s)).alloc (.cells Y t)).heap[w.heap.size]? = some (.cells X s (0, 0)) ∧ ((w.alloc (.cells X s)).alloc (.cells Y t)).heap[w.heap.size + 1]? = some (.cells Y t (0, 0)) ∧ Below w.heap.size w ((w.alloc (.cells X s)).alloc (.cells Y t)) := by
  refine ⟨?_, ?_, (below_alloc _ _).alloc (by simp) _⟩
  · rw [Go.Deep.blk_alloc_lt _ _ _ (by simp)]; exact Go.Deep.blk_alloc_new _ _
  · have := Go.Deep.blk_alloc_new (w.alloc (.cells X s)) (.cells Y t)
    rwa [show (w.alloc (.cells X s)).heap.size = w.heap.size + 1 by simp] at this
theorem rec_cnt_step {x : Wd} {im : List Int} (k : Nat) : (recN x im k).m.count ≤ (recN x im (k + 1)).m.count := by
  by_cases hf : (recN x im k).m.fin = 0
  · rw [rec_step hf]
    show _ ≤ ((recN x im k).m.step _ _ _).1.count
    rw [step_going _ _ _ hf]
    omega
  · rw [rec_stays hf 1]
    exact Int.le_refl _
theorem rec_cnt_mono {x : Wd} {im : List Int} (k : Nat) : ∀ d, (recN x im k).m.count ≤ (recN x im (k + d)).m.count
  | 0 => Int.le_refl _
  | d + 1 => Int.le_trans (rec_cnt_mono k d) (rec_cnt_step (k + d))
theorem recC_mono {x : Wd} {im : List Int} {n n' : Nat} (h : n ≤ n') : recC x im n ≤ recC x im n' := by
  have := rec_cnt_mono (x := x) (im := im) n (n' - n)
  rw [show n + (n' - n) = n' by omega] at this
  unfold recC
  omega
/-- A longer recording begins as the shorter one. -/
theorem RecFine.begins {x : Wd} {im : List Int} {n n' : Nat} (h : RecFine x im n) (h' : RecFine x im n') (hn : n ≤ n') : replayM im (recN x im n').evs (recC x im n) = (recN x im n).m := by
  rw [h'.at_ (recC_mono hn), h.fix]

set_option maxHeartbeats 4000000 in
theorem runTells_any (w : World) (hL : Laid w) :
    Calls Tryd.prog 12 #[] w fun e w' => e = .returned (.bool true) ∧ Below w.heap.size w w' := by
  have HR : Hid (Calls Tryd.prog 13 #[.slice none 0 0, .agg #[nilv, nilv, nilv, nilv], .int .i64 1] w fun e w' => RecQ w ⟨0, [], fullB (recN wd0 [] 1).evs, (recC wd0 [] 1 : Int), (recN wd0 [] 1).m⟩ e w') := by
    have := Record_any none 0 [] nilv nilv nilv nilv wd0 ((1 : Nat) : Int) w (ints_nil w) (wd0_at w) hL
    rwa [(fine0 (N := 1) (by omega)).ans wd0_no] at this
  have hE : 0 < ((fullB (recN wd0 [] 1).evs).length : Int) := by
    have := encB_pos (recN wd0 [] 1).evs
    unfold fullB
    rw [List.length_append]
    omega
  have hM : (recN wd0 [] 1).m.mem.length = 256 := (fine0 (N := 1) (by omega)).ok.may.mem
  clear hL
  go_enter Tryd.func12, Tryd.ntmps12
  go_wp2_with fail
  refine HR.out.mono ?_
  rintro e w1 ⟨ti, te, A1, d1, A2, d2, A3, d3, rfl, q1, q2, q3, hb1⟩
  simp only at q1 q2 q3 ⊢
  obtain ⟨At, ct, rfl⟩ := q1.shape
  obtain ⟨Ae, ce, rfl⟩ := q2.shape
  have HB : Hid (Below w.heap.size w w1) := hb1
  clear q1 q2 q3 hb1 HR
  rw [hM]
  revert hE
  generalize (fullB (recN wd0 [] 1).evs).length = nE
  intro hE
  obtain ⟨Ct, hCt⟩ : ∃ C, C = (recC wd0 [] 1 : Int) := ⟨_, rfl⟩
  obtain ⟨M, hMM⟩ : ∃ M, M = (recN wd0 [] 1).m := ⟨_, rfl⟩
  rw [← hCt, ← hMM]
  clear hCt hMM hM
  simp only [Mach.cells, List.length_nil]
  go_wp2_with fail
  go_ret
  exact ⟨rfl, (HB.out.alloc HB.out.size _).alloc (by have := HB.out.size; simp; omega) _⟩

end Go.Proofs.YtecpblabaelopaaDoor

/- Contract of hourglasskeep.recorded: raw things recorded. -/

namespace Go.Proofs.YtecpblabaelopaaDoor
open Go.RowKit
set_option maxRecDepth 100000

set_option maxHeartbeats 4000000 in
theorem recordedK_any (lv mv : Value) (R S : List Raw4) (n : Int) (w : World) (hR : RawsL w lv R) (hS : RawsL w mv S) (hn : (Lit.int .i64 n).wf = true) (hL : Laid w) :
    Calls Tryd.prog 6 #[lv, mv, .int .i64 n] w fun e w' => RecdQ w R S (pickF n 300).toNat e w' := by
  obtain ⟨N, hN⟩ : ∃ N, N = (pickF n 300).toNat := ⟨_, rfl⟩
  have hpn : pickF n 300 = (N : Int) ∧ N ≤ 900 := by
    have := pick_nat (n := n) (m := 300) (by decide)
    rw [← hN] at this
    omega
  rw [← hN]
  obtain ⟨W0, hW0⟩ : ∃ W0, W0 = (w.alloc (.cells zeroT 26)).alloc (.cells zeroM 28) := ⟨_, rfl⟩
  have hb0 : Below w.heap.size w W0 := by rw [hW0]; exact (below_alloc _ _).alloc (by simp) _
  have hx1 : W0.heap[w.heap.size]? = some (.cells zeroT 26 (0, 0)) := by
    rw [hW0, Go.Deep.blk_alloc_lt _ _ _ (by simp)]; exact Go.Deep.blk_alloc_new _ _
  have hx2 : W0.heap[w.heap.size + 1]? = some (.cells zeroM 28 (0, 0)) := by
    have := Go.Deep.blk_alloc_new (w.alloc (.cells zeroT 26)) (.cells zeroM 28)
    rw [hW0]
    rwa [show (w.alloc (.cells zeroT 26)).heap.size = w.heap.size + 1 by simp] at this
  have HW0 : Hid (W0 = (w.alloc (.cells zeroT 26)).alloc (.cells zeroM 28)) := hW0
  have HX : Hid (Below w.heap.size w W0 ∧ (∀ X, Below W0.heap.size W0 X → X.heap[w.heap.size]? = some (.cells zeroT 26 (0, 0)) ∧ X.heap[w.heap.size + 1]? = some (.cells zeroM 28 (0, 0))) ∧ w.heap.size + 1 < W0.heap.size) := ⟨hb0, fun X hX => ⟨(hX.block _ (lt_of_block hx1)).trans hx1, (hX.block _ (lt_of_block hx2)).trans hx2⟩, lt_of_block hx2⟩
  have HI : Hid (Calls Tryd.prog 14 #[lv] W0 fun e w' => ∃ v', e = .returned v' ∧ OwnI w' W0.heap.size v' (imageF R) ∧ Below W0.heap.size W0 w') := ImageF_any lv R W0 (hR.below hb0)
  have HWD : Hid (∀ X, Below w.heap.size w X → Calls Tryd.prog 15 #[mv] X fun e w' => ∃ iv vv bv dv rows, e = .returned (.agg #[iv, vv, bv, dv]) ∧ WorldT X w' iv vv bv dv rows (worldF (S.take 20))) := fun X hX => World_any mv S X (hS.below hX)
  have HP : Hid (∀ X, Calls Tryd.prog 10 #[.int .i64 n, .int .i64 300] X fun e w' => e = .returned (.int .i64 (N : Int)) ∧ w' = X) := fun X => by
    rw [← hpn.1]
    exact picked_any n 300 X hn (by decide) (by decide)
  have HL : Hid (Laid w) := hL
  have HN : Hid (N ≤ 900) := hpn.2
  have HAN : Hid (recA (wdOf S) (imageF R) (N : Int) = ⟨0, imageF R, fullB (recN (wdOf S) (imageF R) N).evs, (recC (wdOf S) (imageF R) N : Int), (recN (wdOf S) (imageF R) N).m⟩) := (recFine R S hpn.2).ans (wdOf_no S)
  have HIL : Hid ((imageF R).length ≤ 64) := imageF_len R
  clear hR hS hn hL hN hpn hW0 hb0 hx1 hx2
  go_enter Tryd.func6, Tryd.ntmps6
  go_upto_region 1 with fail
  rw [← HW0.out]
  go_wp2_with fail
  refine HI.out.mono ?_
  rintro e w1 ⟨iv, rfl, ho1, hb1⟩
  have H1 : Hid (OwnI w1 W0.heap.size iv (imageF R) ∧ Below W0.heap.size W0 w1 ∧ Below w.heap.size w w1) := ⟨ho1, hb1, HX.out.1.trans (hb1.mono HX.out.1.size)⟩
  clear ho1 hb1 HI
  go_wp2_with fail
  refine (HWD.out w1 H1.out.2.2).mono ?_
  rintro e w2 ⟨a, b, c, d, rows, rfl, hT⟩
  have H2 : Hid (WdT w2.heap.size w2 a b c d (wdOf S) ∧ OwnI w2 W0.heap.size iv (imageF R) ∧ Below W0.heap.size W0 w2 ∧ Below w.heap.size w w2) := ⟨hT.wdt (by simp; omega), H1.out.1.below hT.old, H1.out.2.1.trans (hT.old.mono H1.out.2.1.size), H1.out.2.2.trans (hT.old.mono H1.out.2.2.size)⟩
  clear hT HWD H1
  go_wp2_with fail
  refine (HP.out _).mono ?_
  rintro e w' ⟨rfl, hw'⟩
  subst hw'
  obtain ⟨Ai, ci, rfl⟩ := H2.out.2.1.shape
  have HRC : Hid (Calls Tryd.prog 13 #[.slice Ai (imageF R).length ci, .agg #[a, b, c, d], .int .i64 (N : Int)] w' fun e w3 => RecQ w' (recA (wdOf S) (imageF R) N) e w3) := Record_any Ai ci (imageF R) a b c d (wdOf S) N w' (H2.out.2.1.at (by have := HIL.out; omega)) H2.out.1 (HL.out.below H2.out.2.2.2)
  rw [HAN.out] at HRC
  obtain ⟨nI, hnI⟩ : ∃ n, n = (imageF R).length := ⟨_, rfl⟩
  rw [← hnI] at HRC ⊢
  clear hnI
  go_wp2_with fail
  refine HRC.out.mono ?_
  rintro e w3 ⟨ti, te, A1, d1, A2, d2, A3, d3, rfl, q1, q2, q3, hb3⟩
  simp only at q1 q2 q3 ⊢
  obtain ⟨Ct, hCt⟩ : ∃ C, C = (recC (wdOf S) (imageF R) N : Int) := ⟨_, rfl⟩
  obtain ⟨At, ct, rfl⟩ := q1.shape
  obtain ⟨Ae, ce, rfl⟩ := q2.shape
  have hw2 := H2.out.2.2.1.size
  have HB3 : Hid (Below W0.heap.size W0 w3 ∧ Below w.heap.size w w3) := ⟨H2.out.2.2.1.trans (hb3.mono H2.out.2.2.1.size), H2.out.2.2.2.trans (hb3.mono H2.out.2.2.2.size)⟩
  have HFIN : Hid (∀ W', Chg (fun g => g = w.heap.size ∨ g = w.heap.size + 1) w3 W' → RecdQ w R S N (.returned (.tuple #[.agg #[.slice At (imageF R).length ct, .slice Ae (fullB (recN (wdOf S) (imageF R) N).evs).length ce, .int .i64 (recC (wdOf S) (imageF R) N)], .agg ((recN (wdOf S) (imageF R) N).m.cells (.slice A1 (recN (wdOf S) (imageF R) N).m.regs.length d1) (.slice A2 (recN (wdOf S) (imageF R) N).m.mem.length d2) (.slice A3 (recN (wdOf S) (imageF R) N).m.out.length d3)), .bool true])) W') := fun W' hc => by
    have hw0 := HX.out.2.2
    have hlo := H2.out.2.2.2.size
    have off : ∀ g, w'.heap.size ≤ g → ¬ (g = w.heap.size ∨ g = w.heap.size + 1) := fun g hg e => by omega
    have keep : ∀ {u : Value} {l : List Int}, OwnI w3 w'.heap.size u l → OwnI W' w.heap.size u l := fun hu => ownsRow_mono (hc.own hu (fun g hg e => off g (hu.lt g hg).1 e)) hlo
    exact ⟨_, _, A1, d1, A2, d2, A3, d3, rfl, keep q1, (hc.ownB q2 (fun g hg e => off g (q2.lt g hg).1 e)).mono hlo, ⟨keep q3.regs, keep q3.mem, keep q3.out, q3.rm, q3.ro, q3.mo⟩, HB3.out.2.trans (hc.below HB3.out.2.size (fun g e => by omega))⟩
  clear q1 q2 q3 hb3 HRC hw2
  rw [← hCt] at HFIN ⊢
  obtain ⟨nE, hnE⟩ : ∃ n, n = (fullB (recN (wdOf S) (imageF R) N).evs).length := ⟨_, rfl⟩
  obtain ⟨nT, hnT⟩ : ∃ n, n = (imageF R).length := ⟨_, rfl⟩
  obtain ⟨M, hM⟩ : ∃ M, M = (recN (wdOf S) (imageF R) N).m := ⟨_, rfl⟩
  rw [← hnE, ← hnT, ← hM] at HFIN ⊢
  clear hCt hnE hnT hM
  simp only [Mach.cells] at HFIN ⊢
  go_upto_region 2 with fail
  obtain ⟨W4, hW4⟩ : ∃ W4, W4 = (w3.alloc (.cells #[.slice At nT ct, .slice Ae nE ce, .int .i64 Ct] 26)).alloc (.cells #[.slice A1 M.regs.length d1, .int .i64 M.pc, .int .i64 M.back, .bool M.ints, .bool M.wait, .int .i64 M.table, .int .i64 M.count, .int .i64 M.fin, .slice A2 M.mem.length d2, .slice A3 M.out.length d3, .int .i64 M.ready, .int .i64 M.want] 28) := ⟨_, rfl⟩
  rw [← hW4]
  have y1 : W4.heap[w3.heap.size]? = some (.cells #[.slice At nT ct, .slice Ae nE ce, .int .i64 Ct] 26 (0, 0)) := by
    rw [hW4, Go.Deep.blk_alloc_lt _ _ _ (by simp)]; exact Go.Deep.blk_alloc_new _ _
  have y2 : W4.heap[w3.heap.size + 1]? = some (.cells #[.slice A1 M.regs.length d1, .int .i64 M.pc, .int .i64 M.back, .bool M.ints, .bool M.wait, .int .i64 M.table, .int .i64 M.count, .int .i64 M.fin, .slice A2 M.mem.length d2, .slice A3 M.out.length d3, .int .i64 M.ready, .int .i64 M.want] 28 (0, 0)) := by
    have := Go.Deep.blk_alloc_new (w3.alloc (.cells #[.slice At nT ct, .slice Ae nE ce, .int .i64 Ct] 26)) (.cells #[.slice A1 M.regs.length d1, .int .i64 M.pc, .int .i64 M.back, .bool M.ints, .bool M.wait, .int .i64 M.table, .int .i64 M.count, .int .i64 M.fin, .slice A2 M.mem.length d2, .slice A3 M.out.length d3, .int .i64 M.ready, .int .i64 M.want] 28)
    rw [hW4]
    rwa [show (w3.alloc (.cells #[.slice At nT ct, .slice Ae nE ce, .int .i64 Ct] 26)).heap.size = w3.heap.size + 1 by simp] at this
  have hb4 : Below w3.heap.size w3 W4 := by rw [hW4]; exact (below_alloc _ _).alloc (by simp) _
  have x1 := (HX.out.2.1 W4 (HB3.out.1.trans (hb4.mono HB3.out.1.size)))
  have HB4 : Hid (Chg (fun g => g = w.heap.size ∨ g = w.heap.size + 1) w3 W4) := Chg.of_below hb4
  obtain ⟨p0, p1, p2, pf, pl⟩ := three_cells x1.1
  obtain ⟨⟨z0, z1, z2, z3, z4, z5, z6, z7, z8, z9, z10, z11⟩, zf, zl⟩ := twelve_cells x1.2
  obtain ⟨t0, t1, t2, tf, tl⟩ := three_cells y1
  obtain ⟨⟨m0, m1, m2, m3, m4, m5, m6, m7, m8, m9, m10, m11⟩, mf, ml⟩ := twelve_cells y2
  have hsz := HB3.out.1.size
  have hw0 := HX.out.2.2
  have n1 : ¬ w.heap.size = w3.heap.size := by omega
  have n2 : ¬ w.heap.size = w3.heap.size + 1 := by omega
  have n3 : ¬ w.heap.size + 1 = w3.heap.size := by omega
  have n4 : ¬ w3.heap.size = w.heap.size := by omega
  have n5 : ¬ w3.heap.size + 1 = w.heap.size := by omega
  have n6 : ¬ w3.heap.size = w.heap.size + 1 := by omega
  clear hW4 y1 y2 hb4 x1 hsz hw0
  go_region_held3 (fun w' => w'.cell? ⟨w3.heap.size, 0, none⟩ = some (.slice At nT ct) ∧ w'.cell? ⟨w3.heap.size, 1, none⟩ = some (.slice Ae nE ce) ∧ w'.cell? ⟨w3.heap.size, 2, none⟩ = some (.int .i64 Ct) ∧ w'.cell? ⟨w3.heap.size + 1, 0, none⟩ = some (.slice A1 M.regs.length d1) ∧ w'.cell? ⟨w3.heap.size + 1, 1, none⟩ = some (.int .i64 M.pc) ∧ w'.cell? ⟨w3.heap.size + 1, 2, none⟩ = some (.int .i64 M.back) ∧ w'.cell? ⟨w3.heap.size + 1, 3, none⟩ = some (.bool M.ints) ∧ w'.cell? ⟨w3.heap.size + 1, 4, none⟩ = some (.bool M.wait) ∧ w'.cell? ⟨w3.heap.size + 1, 5, none⟩ = some (.int .i64 M.table) ∧ w'.cell? ⟨w3.heap.size + 1, 6, none⟩ = some (.int .i64 M.count) ∧ w'.cell? ⟨w3.heap.size + 1, 7, none⟩ = some (.int .i64 M.fin) ∧ w'.cell? ⟨w3.heap.size + 1, 8, none⟩ = some (.slice A2 M.mem.length d2) ∧ w'.cell? ⟨w3.heap.size + 1, 9, none⟩ = some (.slice A3 M.out.length d3) ∧ w'.cell? ⟨w3.heap.size + 1, 10, none⟩ = some (.int .i64 M.ready) ∧ w'.cell? ⟨w3.heap.size + 1, 11, none⟩ = some (.int .i64 M.want)) (go_keep) (first | fail)
  all_goals
    go_wp2_with fail
    refine bodyPost_ret (v := .tuple #[.agg #[.slice At nT ct, .slice Ae nE ce, .int .i64 Ct], .agg #[.slice A1 M.regs.length d1, .int .i64 M.pc, .int .i64 M.back, .bool M.ints, .bool M.wait, .int .i64 M.table, .int .i64 M.count, .int .i64 M.fin, .slice A2 M.mem.length d2, .slice A3 M.out.length d3, .int .i64 M.ready, .int .i64 M.want], .bool true]) (by simp [results, Tryd.results6, go_sem, p0, p1, p2, z0, z1, z2, z3, z4, z5, z6, z7, z8, z9, z10, z11]) rfl ?_
    refine HFIN.out _ ?_
    obtain ⟨F, hF⟩ : ∃ F : Nat → Prop, F = fun g => g = w.heap.size ∨ g = w.heap.size + 1 := ⟨_, rfl⟩
    have hF0 : F w.heap.size := by rw [hF]; exact Or.inl rfl
    have hF1 : F (w.heap.size + 1) := by rw [hF]; exact Or.inr rfl
    have hB := HB4.out
    rw [← hF] at hB ⊢
    clear hF
    refine hB.trans (G := F) ?_ (fun _ e => Or.inl e)
    try (with_reducible refine Chg.drew ?_)
    iterate 15 (with_reducible refine Chg.set ?_ (by first | exact Or.inl hF0 | exact Or.inl hF1) _)
    first | exact Chg.refl _ _ | exact (Chg.refl _ _).drew

end Go.Proofs.YtecpblabaelopaaDoor

/- Contracts of keep's same and of top's: two guests that are the same. -/

namespace Go.Proofs.YtecpblabaelopaaDoor
open Go.RowKit

set_option maxHeartbeats 1000000 in
theorem slicesEqual_drewN (va vb : Value) (l : List Int) (w : World) (ha : IntsAt w va l) (hb : IntsAt w vb l) :
    Calls Tryd.prog 22 #[va, vb] w fun e w' => e = .returned (.bool true) ∧ ∃ n, w' = w.drewN n := by
  obtain ⟨A, c, rfl, hl, hc⟩ := ha
  obtain ⟨A', c', rfl, -, hc'⟩ := hb
  go_enter Tryd.func22, Tryd.ntmps22
  go_wp2
  go_loopw [13] (fun i wr => ∃ k n : Nat, k ≤ l.length ∧ i = .int .i64 k ∧ wr = w.drewN n) (fun i _ => l.length - (intOf i).toNat)
  case atStart => exact ⟨0, 0, Nat.zero_le _, rfl, rfl⟩
  case round =>
    obtain ⟨k, n, hk, rfl, hw⟩ := hrel
    subst wr
    by_cases hlt : k < l.length
    · obtain ⟨b, off, rfl, hbs, hcell⟩ := hc (by omega)
      obtain ⟨b', off', rfl, hbs', hcell'⟩ := hc' (by omega)
      have h1 := hcell k hlt
      have h2 := hcell' k hlt
      clear hcell hcell' hc hc'
      revert h1 h2
      generalize l.getD k 0 = x
      intro h1 h2
      go_wp2
      go_quiet (fail)
      go_wp2
      refine ⟨⟨k + 1, _, by omega, by go_num, rfl⟩, ?_⟩
      simp [intOf]; omega
    · clear hc hc'
      go_wp2
      go_ret
      exact ⟨rfl, _, rfl⟩

set_option maxHeartbeats 4000000 in
theorem sameK_same (m : Mach) (rv mv ov rv' mv' ov' : Value) (w : World) (ha : MachAt w rv mv ov m) (hb : MachAt w rv' mv' ov' m) :
    Calls Tryd.prog 9 #[.agg (m.cells rv mv ov), .agg (m.cells rv' mv' ov')] w fun e w' => e = .returned (.bool true) ∧ Below w.heap.size w w' := by
  obtain ⟨r, p, k, i, t, a, n, f, m, o, y, q⟩ := m
  have H1 : Hid (IntsAt w rv r) := ha.regs
  have H2 : Hid (IntsAt w mv m) := ha.mem
  have H3 : Hid (IntsAt w ov o) := ha.out
  have K1 : Hid (IntsAt w rv' r) := hb.regs
  have K2 : Hid (IntsAt w mv' m) := hb.mem
  have K3 : Hid (IntsAt w ov' o) := hb.out
  clear ha hb
  simp only [Mach.cells]
  go_enter Tryd.func9, Tryd.ntmps9
  go_wp2_with fail
  refine (slicesEqual_drewN rv rv' r _ (H1.out.below (below_alloc2 _ _ _)) (K1.out.below (below_alloc2 _ _ _))).mono ?_
  rintro e w' ⟨rfl, j1, rfl⟩
  clear H1 K1
  go_wp2_with fail
  refine (slicesEqual_drewN mv mv' m _ ((H2.out.below (below_alloc2 _ _ _)).drewN _) ((K2.out.below (below_alloc2 _ _ _)).drewN _)).mono ?_
  rintro e w' ⟨rfl, j2, rfl⟩
  clear H2 K2
  go_wp2_with fail
  refine (slicesEqual_drewN ov ov' o _ ((H3.out.below (below_alloc2 _ _ _)).drewN _) ((K3.out.below (below_alloc2 _ _ _)).drewN _)).mono ?_
  rintro e w' ⟨rfl, j3, rfl⟩
  clear H3 K3
  go_wp2_with fail
  go_ret
  exact ⟨rfl, below_drewN (below_alloc2 _ _ _) _⟩

end Go.Proofs.YtecpblabaelopaaDoor

/- A slice of raw things that is handed in, opened. -/

namespace Go.Proofs.YtecpblabaelopaaDoor
open Go.ChangeShapes Go.WideShapes Go.ChangeAt Go.RowKit Go.Deep Go.Joins

theorem cellsRaw : Tryd.prog.cellsOf 79 = 4 := by kernel_rfl
theorem bytesRaw : Tryd.prog.bytesOf 79 = 32 := by kernel_rfl

theorem list4 {l : List Value} (h : l.length = 4) : ∃ a b c d, l = [a, b, c, d] := by
  match l, h with
  | [a, b, c, d], _ => exact ⟨a, b, c, d, rfl⟩

theorem rawsIn_of {H : Type} {enc : TypeId × Value → H} {W : World} {fuel : Nat} {v : Value} {x : DataW H × List MemPlace}
    (h : DataW.trod enc Tryd.prog W 0 (fun _ => true) true fuel 22 [v] = some x) (hs : ∀ n ∈ x.1.weights Tryd.prog 22, n ≤ reachBytes) :
    ∃ n, RawsIn W v n := by
  rcases open_slice Tryd.underlying22 h with ⟨hcs, _⟩ | ⟨a, len, cap, m, n, D, Pl, hcs, _, hl, hm, hmm, hx, hel⟩
  · simp at hcs
    exact ⟨0, none, 0, by simpa using hcs, by simp, fun h => by simp at h⟩
  · simp at hcs
    subst hcs
    simp only [if_true] at hmm
    subst hmm
    rw [cellsRaw] at hel
    refine ⟨len, some a, m, rfl, ?_, fun h0 => ?_⟩
    · have := hs (len * 32 + (m - len) * 32) (by
        rw [hx]
        simp only [DataW.weights, Tryd.underlying22, bytesRaw, List.mem_cons]
        left
        simp
        omega)
      rw [reach_is] at this
      omega
    · have each : ∀ j, j < len → ∃ x0 x1 x2 x3 : Int, (Lit.int .i64 x0).wf = true ∧ (Lit.int .i64 x1).wf = true ∧ (Lit.int .i64 x2).wf = true ∧ (Lit.int .i64 x3).wf = true ∧
          W.cell? (a.add (j * 4)) = some (.int .i64 x0) ∧ W.cell? (a.add (j * 4 + 1)) = some (.int .i64 x1) ∧ W.cell? (a.add (j * 4 + 2)) = some (.int .i64 x2) ∧ W.cell? (a.add (j * 4 + 3)) = some (.int .i64 x3) := by
        intro j hj
        obtain ⟨cs, h1, h2⟩ := hel j (by omega)
        obtain ⟨_, hlen, hc⟩ := World.cells?_some h1
        obtain ⟨c0, c1, c2, c3, rfl⟩ := list4 hlen
        obtain ⟨z0, z1, z2, z3, k, _, _, t0, t1, t2, t3⟩ := trod_struct4 Tryd.underlying79 h2
        simp [cellsInt] at t0 t1 t2 t3
        obtain ⟨x0, e0, _, w0⟩ := DataW.trod_int Tryd.underlying3 t0
        obtain ⟨x1, e1, _, w1⟩ := DataW.trod_int Tryd.underlying3 t1
        obtain ⟨x2, e2, _, w2⟩ := DataW.trod_int Tryd.underlying3 t2
        obtain ⟨x3, e3, _, w3⟩ := DataW.trod_int Tryd.underlying3 t3
        simp at e0 e1 e2 e3
        subst e0 e1 e2 e3
        refine ⟨x0, x1, x2, x3, w0, w1, w2, w3, ?_, ?_, ?_, ?_⟩
        · have := hc 0 (by decide); rw [add_add] at this; simpa using this
        · have := hc 1 (by decide); rw [add_add] at this; simpa using this
        · have := hc 2 (by decide); rw [add_add] at this; simpa using this
        · have := hc 3 (by decide); rw [add_add] at this; simpa using this
      obtain ⟨b, off, sp⟩ := a
      obtain ⟨x0, _, _, _, _, _, _, _, hc0, _⟩ := each 0 h0
      have hsp : sp = none := by simpa [Addr.add] using World.cell?_spot hc0
      subst hsp
      refine ⟨b, off, rfl, World.block_lt_of_cell? _ _ hc0, fun j hj => ?_⟩
      obtain ⟨x0, x1, x2, x3, w0, w1, w2, w3, h0, h1, h2, h3⟩ := each j hj
      simp only [add_plain] at h0 h1 h2 h3
      exact ⟨x0, x1, x2, x3, w0, w1, w2, w3, h0, h1, h2, h3⟩

end Go.Proofs.YtecpblabaelopaaDoor
