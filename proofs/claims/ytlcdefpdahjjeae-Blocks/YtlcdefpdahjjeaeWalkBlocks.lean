/- The walk of the law Blocks. -/
import Derived.Test.YtlcdefpdahjjeaeKBlocks
namespace Go.Proofs.Ytlcdefpdahjjeae
open Go.RowKit
set_option linter.unusedVariables false

theorem own_cap {w : World} {lo n c : Nat} {A : Option Addr} {l : List Int} (h : OwnI w lo (.slice A n c) l) : n ≤ c := by
  rcases h.2 with ⟨e, _⟩ | ⟨g, cap, cur, e, _, _, r1, _⟩
  · simp only [Value.slice.injEq] at e; omega
  · simp only [Value.slice.injEq] at e
    obtain ⟨-, rfl, rfl⟩ := e
    exact r1

set_option maxRecDepth 100000 in
set_option maxHeartbeats 8000000 in
theorem Blocks_any (p v : Int) (w : World) (hp : (Lit.int .i64 p).wf = true) (hv : (Lit.int .i64 v).wf = true) :
    Calls Try.prog 4 #[.int .i64 p, .int .i64 v] w fun e w' => e = .returned (.bool true) ∧ Below w.heap.size w w' := by
  obtain ⟨k, k0, k9, HPA⟩ : ∃ k : Int, 1 ≤ k ∧ k ≤ 15 ∧ Hid (∀ W, Calls Try.prog 6 #[.int .i64 p, .int .i64 15] W fun e w' => e = .returned (.int .i64 (k - 1)) ∧ w' = W) := by
    have hb := pickF_bd p (m := 15) (by decide)
    exact ⟨pickF p 15 + 1, by omega, by omega, fun W => by rw [show pickF p 15 + 1 - 1 = pickF p 15 by omega]; exact picked_any p 15 W hp (by decide) (by decide)⟩
  have HG : Hid (guestM [k] (blkL.map insWord) [k].length = blkM0 k) := blkM_0 k (by omega) k9
  have HWF : Hid (∀ i, i < [k].length → -9223372036854775808 ≤ [k].getD i 0 ∧ [k].getD i 0 ≤ 9223372036854775807) := fun i hi => by
    rcases i with _ | i
    · exact ⟨by show _ ≤ k; omega, by show k ≤ _; omega⟩
    · simp at hi
  have HM0 : Hid (MayP (blkM0 k)) := blkM0_may k (by omega) k9
  have HM1 : Hid (MayP (blkM1 k)) := by
    have := HM0.out.step false (blk := []) rfl (Or.inl rfl) (v := 0) (by decide) (by show (0 : Int) < _; decide)
    rwa [blk_1 k (by omega) k9] at this
  have HM2 : Hid (MayP (blkM2 k)) := by
    have := HM1.out.step false (blk := []) rfl (Or.inl rfl) (v := 0) (by decide) (by show (1 : Int) < _; decide)
    rwa [blk_2 k] at this
  have HM3 : Hid (MayP (blkM3 k (blkW v 16))) := by
    have := HM2.out.step false (blk := blkW v 16) (blkW_all v 16) (Or.inr (blkW_len v 16)) (v := 0) (by decide) (by show (2 : Int) < _; decide)
    rwa [blk_3 k k0 k9 _ (blkW_len v 16)] at this
  have sk : 1 + (k - 1) = k := by omega
  have tm := tmod_sign v 1000
  have tm1 : -1000 ≤ v.tmod 1000 := by omega
  have tm2 : v.tmod 1000 ≤ 1000 := by omega
  have hm16 : ∀ W : World, (Instr.makeSlice 25 (.int .i64 16) (.int .i64 16)).run Try.prog W = .ok (.slice (some ⟨W.heap.size, 0, none⟩) 16 16) (W.alloc (.cells (madeCells #[.int .i64 0] 16) 3)) := fun W => run_make_row' (P := Try.prog) 25 3 (.int .i64 0) 8 Try.underlying25 infoInt rfl .i64 .i64 16 (by omega) (by omega) W
  clear hp hv tm
  go_enter Try.func4, Try.ntmps4
  go_wp2_with fail
  refine (cpuTells_any _).mono ?_
  rintro e w0 ⟨rfl, hb0⟩
  have HB0 : Hid (Below w.heap.size w w0) := hb0
  clear hb0
  go_wp2_with fail
  refine (HPA.out _).mono ?_
  rintro e w0 ⟨rfl, rfl⟩
  clear HPA
  go_wp2_with fail
  clear sk
  have hbx := two_boxes (Below.refl (((w0.alloc (.cells ([k].map (Value.int .i64)).toArray 3)).alloc (.cells (insCells blkL).toArray 24)).heap.size) ((w0.alloc (.cells ([k].map (Value.int .i64)).toArray 3)).alloc (.cells (insCells blkL).toArray 24)))
  refine (guest_any _ _ [k] blkL _ (IntsAt.of [k] hbx.1 (by simp)) (InsAt.of blkL hbx.2.1 (by decide)) (by simp) HWF.out (by rw [blkL_words]; decide)).mono ?_
  rw [HG.out]
  rintro e w1 ⟨rv, mv, ov, rfl, ho, hb1⟩
  have hbb : Below w.heap.size w w1 := HB0.out.trans ((hbx.2.2.trans (hb1.mono hbx.2.2.size)).mono HB0.out.size)
  have hN := BoxM.new ho HM0.out
  obtain ⟨A1, c1, A2, c2, A3, c3, rfl, rfl, rfl⟩ := ho.shape
  rw [show (blkM0 k).regs.length = 8 from rfl, HM0.out.mem, show (blkM0 k).out.length = 0 from rfl] at hN ⊢
  obtain ⟨W0, hW0⟩ : ∃ W0, W0 = w1.alloc (.cells ((blkM0 k).cells (.slice A1 8 c1) (.slice A2 256 c2) (.slice A3 0 c3)) 27) := ⟨_, rfl⟩
  have hs0 : W0.heap.size = w1.heap.size + 1 := by rw [hW0]; simp
  have HN : Hid (BoxM W0 w1.heap.size (.slice A1 8 c1) (.slice A2 256 c2) (.slice A3 0 c3) (blkM0 k) ∧ Below w.heap.size w W0 ∧ w.heap.size ≤ w1.heap.size ∧ W0.heap.size = w1.heap.size + 1) := ⟨by rw [hW0]; exact hN, by rw [hW0]; exact hbb.alloc hbb.size _, hbb.size, hs0⟩
  have HW0 : Hid (W0 = w1.alloc (.cells ((blkM0 k).cells (.slice A1 8 c1) (.slice A2 256 c2) (.slice A3 0 c3)) 27)) := hW0
  clear hbx ho hb1 hbb HB0 HWF HG hN hW0
  simp only [Mach.cells, blkM0] at HW0 ⊢
  go_upto_region 6 with fail
  rw [← HW0.out]
  have HMZ : Hid (OwnI (W0.alloc (.cells (madeCells #[.int .i64 0] 16) 3)) w.heap.size (.slice (some ⟨w1.heap.size + 1, 0, none⟩) 16 16) (blkW v 0)) := by
    have hh := Go.Deep.blk_alloc_new W0 (.cells (madeCells #[.int .i64 0] 16) 3)
    rw [hs0] at hh
    exact OwnI.madeZ (by have := HN.out.2.2.1; omega) (by unfold maxLen; omega) hh
  clear HW0 hm16
  go_wp2_with fail
  go_loopw [41] (fun i wr => ∃ j : Nat, j ≤ 16 ∧ i = .int .i64 j ∧ Hid (OwnI wr w.heap.size (.slice (some ⟨w1.heap.size + 1, 0, none⟩) 16 16) (blkW v j)) ∧ Hid (Below W0.heap.size W0 wr)) (fun i _ => 16 - (intOf i).toNat)
  case atStart => exact ⟨0, by omega, rfl, HMZ.out, below_alloc _ _⟩
  case round =>
    clear HMZ
    obtain ⟨j, hj, rfl, hO, hB⟩ := hrel
    by_cases hlt : j < 16
    · obtain ⟨g', c', e', -, hgl, hgc, hgf⟩ := hO.out.opened (by rw [blkW_len]; decide)
      simp only [Value.slice.injEq, Option.some.injEq, Addr.mk.injEq] at e'
      obtain ⟨⟨rfl, -, -⟩, -, rfl⟩ := e'
      have q1 := hgc j (by rw [blkW_len]; omega)
      have hj16 : (j : Int) < 16 := by omega
      have HQ : Hid (OwnI _ w.heap.size (.slice (some ⟨w1.heap.size + 1, 0, none⟩) 16 16) (blkW v (j + 1))) := OwnI.stored (i := j) hO.out (foldF (v.tmod 1000 + (j : Nat)))
      clear hgc
      revert q1
      generalize (blkW v j).getD j 0 = y
      intro q1
      go_wp2_with (first | (go_at_call 10; refine (Fold_same _ _ (by omega) (by omega)).mono ?_; rintro e w9 ⟨rfl, rfl⟩))
      refine ⟨⟨j + 1, by omega, by go_num, HQ, hB.out.setCell (by show W0.heap.size ≤ w1.heap.size + 1; have := HN.out.2.2.2; omega) _⟩, ?_⟩
      simp [intOf]; omega
    · obtain rfl : j = 16 := by omega
      clear hlt hj
      have hIB : IntsAt wr (.slice (some ⟨w1.heap.size + 1, 0, none⟩) (blkW v 16).length 16) (blkW v 16) := by
        have := hO.out.at (by rw [blkW_len]; decide)
        rwa [blkW_len]
      have HIB : Hid (∀ W, Below wr.heap.size wr W → IntsAt W (.slice (some ⟨w1.heap.size + 1, 0, none⟩) (blkW v 16).length 16) (blkW v 16)) := fun W hb => hIB.below hb
      have hbm := HN.out.1.below hB.out
      have HBW : Hid (Below w.heap.size w wr) := HN.out.2.1.trans (hB.out.mono HN.out.2.1.size)
      have HBM : Hid (∀ W, Below wr.heap.size wr W → BoxM W w1.heap.size (.slice A1 8 c1) (.slice A2 256 c2) (.slice A3 0 c3) (blkM0 k)) := fun W hb => hbm.below hb
      obtain ⟨⟨z0, z1, z2, z3, z4, z5, z6, z7, z8, z9, z10, z11⟩, zf, zl⟩ := twelve_cells hbm.box
      simp only [blkM0] at z1 z2 z3 z4 z5 z6 z7 z10 z11
      clear hbm hIB hO hB HN
      go_wp2_with fail
      have hsb := StepB (blkM0 k) (blkM1 k) false 0 (-1) (.slice A1 8 c1) (.slice A2 256 c2) (.slice A3 0 c3) (some ⟨w1.heap.size + 1, 0, none⟩) 16 (blkW v 16) wr (HBM.out wr (Below.refl _ _)).dat (HIB.out wr (Below.refl _ _)) (blkW_all v 16) (blkW_len v 16) HM0.out (by decide) (by show (0 : Int) < _; decide) ((step_unwanted rfl _ _).trans (blk_1 k (by omega) k9))
      rw [blkW_len] at hsb
      refine hsb.mono ?_
      clear hsb
      rintro e w5 ⟨D1, e1, D2, e2, D3, e3, rfl, ho5, hb5⟩
      have hN5 := BoxM.new ho5 HM1.out
      rw [show (blkM1 k).regs.length = 8 from rfl, HM1.out.mem, show (blkM1 k).out.length = 0 from rfl] at hN5 ⊢
      have hB5 : Below wr.heap.size wr (w5.alloc (.cells ((blkM1 k).cells (.slice D1 8 e1) (.slice D2 256 e2) (.slice D3 0 e3)) 27)) := hb5.alloc hb5.size _
      obtain ⟨W5, hW5⟩ : ∃ W5, W5 = w5.alloc (.cells ((blkM1 k).cells (.slice D1 8 e1) (.slice D2 256 e2) (.slice D3 0 e3)) 27) := ⟨_, rfl⟩
      rw [← hW5] at hN5 hB5
      have HW5 : Hid (W5 = w5.alloc (.cells ((blkM1 k).cells (.slice D1 8 e1) (.slice D2 256 e2) (.slice D3 0 e3)) 27)) := hW5
      have H5 : Hid (BoxM W5 w5.heap.size (.slice D1 8 e1) (.slice D2 256 e2) (.slice D3 0 e3) (blkM1 k) ∧ Below wr.heap.size wr W5) := ⟨hN5, hB5⟩
      clear z0 z1 z2 z3 z4 z5 z6 z7 z8 z9 z10 z11 zf zl
      obtain ⟨⟨z0, z1, z2, z3, z4, z5, z6, z7, z8, z9, z10, z11⟩, zf, zl⟩ := twelve_cells (HBM.out w5 hb5).box
      simp only [blkM0] at z1 z2 z3 z4 z5 z6 z7 z10 z11
      have hne : ¬ w1.heap.size = w5.heap.size := by omega
      clear ho5 hb5 hN5 hB5 hW5
      simp only [Mach.cells, blkM1] at HW5 ⊢
      go_wp2_with fail
      rw [← HW5.out]
      clear HW5 hne
      refine (StepQ (blkM0 k) (blkM1 k) false 0 (-1) (.slice A1 8 c1) (.slice A2 256 c2) (.slice A3 0 c3) W5 (HBM.out W5 H5.out.2).dat HM0.out (by decide) (by show (0 : Int) < _; decide) (blk_1 k (by omega) k9)).mono ?_
      rintro e w6 ⟨E1, f1, E2, f2, E3, f3, rfl, ho6, hb6⟩
      have hN6 := BoxM.new ho6 HM1.out
      rw [show (blkM1 k).regs.length = 8 from rfl, HM1.out.mem, show (blkM1 k).out.length = 0 from rfl] at hN6 ⊢
      have H6 : Hid (BoxM (w6.alloc (.cells ((blkM1 k).cells (.slice E1 8 f1) (.slice E2 256 f2) (.slice E3 0 f3)) 27)) w6.heap.size (.slice E1 8 f1) (.slice E2 256 f2) (.slice E3 0 f3) (blkM1 k) ∧ Below W5.heap.size W5 (w6.alloc (.cells ((blkM1 k).cells (.slice E1 8 f1) (.slice E2 256 f2) (.slice E3 0 f3)) 27))) := ⟨hN6, hb6.alloc hb6.size _⟩
      clear ho6 hb6 hN6 z0 z1 z2 z3 z4 z5 z6 z7 z8 z9 z10 z11 zf zl
      simp only [Mach.cells, blkM1]
      go_wp2_with fail
      refine (StepQ (blkM1 k) (blkM2 k) false 0 (-1) (.slice E1 8 f1) (.slice E2 256 f2) (.slice E3 0 f3) _ H6.out.1.dat HM1.out (by decide) (by show (1 : Int) < _; decide) (blk_2 k)).mono ?_
      rintro e w7 ⟨F1, g1, F2, g2, F3, g3, rfl, ho7, hb7⟩
      have hN7 := BoxM.new ho7 HM2.out
      rw [show (blkM2 k).regs.length = 8 from rfl, HM2.out.mem, show (blkM2 k).out.length = 0 from rfl] at hN7 ⊢
      have H7 : Hid (BoxM (w7.alloc (.cells ((blkM2 k).cells (.slice F1 8 g1) (.slice F2 256 g2) (.slice F3 0 g3)) 27)) w7.heap.size (.slice F1 8 g1) (.slice F2 256 g2) (.slice F3 0 g3) (blkM2 k) ∧ Below W5.heap.size W5 (w7.alloc (.cells ((blkM2 k).cells (.slice F1 8 g1) (.slice F2 256 g2) (.slice F3 0 g3)) 27)) ∧ BoxM (w7.alloc (.cells ((blkM2 k).cells (.slice F1 8 g1) (.slice F2 256 g2) (.slice F3 0 g3)) 27)) w6.heap.size (.slice E1 8 f1) (.slice E2 256 f2) (.slice E3 0 f3) (blkM1 k)) := ⟨hN7, (H6.out.2.trans (hb7.mono H6.out.2.size)).alloc (Nat.le_trans H6.out.2.size hb7.size) _, (H6.out.1.below hb7).below (below_alloc _ _)⟩
      clear ho7 hb7 hN7 H6
      simp only [Mach.cells, blkM2]
      go_wp2_with fail
      have hsb := StepB (blkM2 k) (blkM3 k (blkW v 16)) false 0 (-1) (.slice F1 8 g1) (.slice F2 256 g2) (.slice F3 0 g3) (some ⟨w1.heap.size + 1, 0, none⟩) 16 (blkW v 16) _ H7.out.1.dat (HIB.out _ (H5.out.2.trans (H7.out.2.1.mono H5.out.2.size))) (blkW_all v 16) (blkW_len v 16) HM2.out (by decide) (by show (2 : Int) < _; decide) (blk_3 k k0 k9 _ (blkW_len v 16))
      rw [blkW_len] at hsb
      refine hsb.mono ?_
      clear hsb
      rintro e w8 ⟨G1, h1, G2, h2, G3, h3, rfl, ho8, hb8⟩
      have hcap := own_cap ho8.mem
      rw [HM3.out.mem] at hcap
      have hN8 := BoxM.new ho8 HM3.out
      rw [show (blkM3 k (blkW v 16)).regs.length = 8 from rfl, HM3.out.mem, show (blkM3 k (blkW v 16)).out.length = 0 from rfl] at hN8 ⊢
      have hB8 : Below W5.heap.size W5 (w8.alloc (.cells ((blkM3 k (blkW v 16)).cells (.slice G1 8 h1) (.slice G2 256 h2) (.slice G3 0 h3)) 27)) := (H7.out.2.1.trans (hb8.mono H7.out.2.1.size)).alloc (Nat.le_trans H7.out.2.1.size hb8.size) _
      have b7 := (H7.out.1.below hb8).below (below_alloc w8 (.cells ((blkM3 k (blkW v 16)).cells (.slice G1 8 h1) (.slice G2 256 h2) (.slice G3 0 h3)) 27))
      have b6 := (H7.out.2.2.below hb8).below (below_alloc w8 (.cells ((blkM3 k (blkW v 16)).cells (.slice G1 8 h1) (.slice G2 256 h2) (.slice G3 0 h3)) 27))
      have b5 := H5.out.1.below hB8
      clear ho8 hb8 H7
      obtain ⟨W8, hW8⟩ : ∃ W8, W8 = w8.alloc (.cells ((blkM3 k (blkW v 16)).cells (.slice G1 8 h1) (.slice G2 256 h2) (.slice G3 0 h3)) 27) := ⟨_, rfl⟩
      rw [← hW8] at hN8 hB8 b7 b6 b5
      have HW8 : Hid (W8 = w8.alloc (.cells ((blkM3 k (blkW v 16)).cells (.slice G1 8 h1) (.slice G2 256 h2) (.slice G3 0 h3)) 27)) := hW8
      have hBB : Below wr.heap.size wr W8 := H5.out.2.trans (hB8.mono H5.out.2.size)
      have HF : Hid (Below w.heap.size w W8 ∧ IntsAt W8 (.slice (some ⟨w1.heap.size + 1, 0, none⟩) (blkW v 16).length 16) (blkW v 16)) := ⟨HBW.out.trans (hBB.mono HBW.out.size), HIB.out _ hBB⟩
      clear hW8 hBB hB8 HBW HIB HBM H5
      obtain ⟨⟨-, -, -, -, -, -, -, -, x8, -, -, x11⟩, -, -⟩ := twelve_cells b5.box
      obtain ⟨⟨-, -, -, -, -, -, -, -, -, -, -, y11⟩, -, -⟩ := twelve_cells b6.box
      obtain ⟨⟨u0, -, -, -, -, -, -, -, -, -, -, -⟩, -, -⟩ := twelve_cells b7.box
      obtain ⟨⟨v0, -, -, -, v4, -, -, -, v8, -, -, v11⟩, -, -⟩ := twelve_cells hN8.box
      obtain ⟨Q5, q5, e5, -, hq5⟩ := b5.dat.mem
      rw [HM1.out.mem] at e5 hq5
      simp only [Value.slice.injEq] at e5
      obtain ⟨rfl, -, rfl⟩ := e5
      obtain ⟨bm5, om5, rfl, -, hm5⟩ := hq5 (by decide)
      have s5 : W8.cell? ⟨bm5, om5 + (k * 16 + 3).toNat, none⟩ = some (.int .i64 0) := by rw [hm5 _ (by omega)]; exact congrArg (fun x => some (Value.int .i64 x)) (blkMem_zero _ (by omega))
      obtain ⟨Q7, q7, e7, -, hq7⟩ := b7.dat.regs
      simp only [Value.slice.injEq] at e7
      obtain ⟨rfl, -, rfl⟩ := e7
      obtain ⟨br7, or7, rfl, -, hr7⟩ := hq7 (by show 0 < 8; decide)
      have s7 : W8.cell? ⟨br7, or7 + 1, none⟩ = some (.int .i64 0) := hr7 1 (by show 1 < 8; decide)
      obtain ⟨Q8, q8, e8, -, hq8⟩ := hN8.dat.regs
      simp only [Value.slice.injEq] at e8
      obtain ⟨rfl, -, rfl⟩ := e8
      obtain ⟨br8, or8, rfl, -, hr8⟩ := hq8 (by show 0 < 8; decide)
      have s8 : W8.cell? ⟨br8, or8 + 2, none⟩ = some (.int .i64 1) := hr8 2 (by show 2 < 8; decide)
      obtain ⟨R8, r8, e9, -, hz8⟩ := hN8.dat.mem
      rw [HM3.out.mem] at e9 hz8
      simp only [Value.slice.injEq] at e9
      obtain ⟨rfl, -, rfl⟩ := e9
      obtain ⟨bm8, om8, rfl, -, -⟩ := hz8 (by decide)
      have HEQ : Hid (∀ c2, IntsAt W8 (.slice (some ⟨bm8, om8 + (k * 16).toNat, none⟩) 16 c2) (blkW v 16)) := fun c2 => by
        have := hN8.dat.mem.sub (k * 16).toNat 16 c2 (by rw [HM3.out.mem]; omega) (by decide)
        rwa [show (blkM3 k (blkW v 16)).mem = putWords blkMem (k * 16).toNat (blkW v 16) 16 by rw [show (k * 16).toNat = (16 * k).toNat by omega]; rfl, put_part _ _ _ (blkW_len v 16) (by rw [blkMem_len]; omega)] at this
      clear hm5 hq5 hq7 hr7 hq8 hr8 hz8 b5 b6 b7 hN8
      have x11' : W8.cell? ⟨w5.heap.size, 11, none⟩ = some (.int .i64 k) := x11
      have y11' : W8.cell? ⟨w6.heap.size, 11, none⟩ = some (.int .i64 k) := y11
      have v4' : W8.cell? ⟨w8.heap.size, 4, none⟩ = some (.bool true) := v4
      have v11' : W8.cell? ⟨w8.heap.size, 11, none⟩ = some (.int .i64 (-1)) := v11
      clear x11 y11 v4 v11
      simp only [Mach.cells, blkM3] at HW8 ⊢
      go_upto_region 15 with fail
      rw [← HW8.out]
      clear HW8
      have hcne : ¬ h2 = (k * 16).toNat := by omega
      have hlen : (k * 16 + 16).toNat - (k * 16).toNat = 16 := by omega
      go_wp2_with fail
      refine (slicesEqual_same _ _ (blkW v 16) W8 (HEQ.out _) (by have := HF.out.2; rwa [blkW_len] at this)).mono ?_
      rintro e w9 ⟨rfl, hb9⟩
      have HB9 : Hid (Below w.heap.size w w9) := HF.out.1.trans (hb9.mono HF.out.1.size)
      clear hb9 HF HEQ x8 u0 v0 v8 s5 s7 s8 x11' y11' v4' v11'
      go_wp2_with fail
      go_ret
      exact ⟨rfl, HB9.out⟩

end Go.Proofs.Ytlcdefpdahjjeae
