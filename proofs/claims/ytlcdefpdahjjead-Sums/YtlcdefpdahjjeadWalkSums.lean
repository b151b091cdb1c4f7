/- The walk of the law Sums. -/
import Derived.Test.YtlcdefpdahjjeadKStep
import Derived.LoopN
namespace Go.Proofs.Ytlcdefpdahjjead
open Go.RowKit

/-- The instructions of Sums. -/
abbrev sumsL : List Ins := [(2, 2, 0, 1), (3, 3, 2, 1), (3, 4, 0, 0)]
theorem sumsL_words : sumsL.map insWord = [1058, 1331, 67] := by decide
/-- The guest ahead of its steps, and behind each. -/
def sumsM (A B : Int) : Nat → Mach
  | 0 => ⟨[A, B, 0, 0, 0, 0, 0, 0], 0, 0, false, false, -1, 0, 0, [1058, 1331, 67] ++ List.replicate 253 0, [], 0, -1⟩
  | 1 => ⟨[A, B, foldF (A + B), 0, 0, 0, 0, 0], 1, 0, false, false, -1, 1, 0, [1058, 1331, 67] ++ List.replicate 253 0, [], 0, -1⟩
  | 2 => ⟨[A, B, foldF (A + B), foldF (foldF (A + B) - B), 0, 0, 0, 0], 2, 0, false, false, -1, 2, 0, [1058, 1331, 67] ++ List.replicate 253 0, [], 0, -1⟩
  | _ => ⟨[A, B, foldF (A + B), foldF (foldF (A + B) - B), foldF (A - A), 0, 0, 0], 3, 0, false, false, -1, 3, 0, [1058, 1331, 67] ++ List.replicate 253 0, [], 0, -1⟩
theorem sumsM_0 (a b : Int) : guestM [a, b] (sumsL.map insWord) 2 = sumsM (regF a) (regF b) 0 := by rw [sumsL_words]; rfl
theorem sums_1 (A B : Int) : (sumsM A B 0).step false [] 0 = (sumsM A B 1, -1) := by
  rw [step_quiet rfl rfl, run_at 0 1058 0 rfl rfl (by decide) (by decide) rfl (by decide)]
  rfl
theorem sums_2 (A B : Int) : (sumsM A B 1).step false [] 0 = (sumsM A B 2, -1) := by
  rw [step_quiet rfl rfl, run_at 1 1331 0 rfl rfl (by decide) (by decide) rfl (by decide)]
  rfl
theorem sums_3 (A B : Int) : (sumsM A B 2).step false [] 0 = (sumsM A B 3, -1) := by
  rw [step_quiet rfl rfl, run_at 2 67 0 rfl rfl (by decide) (by decide) rfl (by decide)]
  rfl
theorem sums_step (A B : Int) (k : Nat) (h : k < 3) : (sumsM A B k).step false [] 0 = (sumsM A B (k + 1), -1) := by
  rcases k with _ | _ | _ | k
  · exact sums_1 A B
  · exact sums_2 A B
  · exact sums_3 A B
  · omega

theorem sums_count (A B : Int) (k : Nat) (h : k ≤ 3) : (sumsM A B k).count = k := by
  rcases k with _ | _ | _ | _ | k
  · rfl
  · rfl
  · rfl
  · rfl
  · omega
theorem sums_may (a b : Int) (k : Nat) (h : k ≤ 3) : MayP (sumsM (regF a) (regF b) k) := by
  induction k with
  | zero => rw [← sumsM_0]; exact guestM_may _ _ _ (by rw [sumsL_words]; decide)
  | succ k ih =>
    have e := sums_step (regF a) (regF b) k (by omega)
    have := (ih (by omega)).step false (blk := []) rfl (Or.inl rfl) (v := 0) (by decide) (by rw [sums_count _ _ _ (by omega)]; omega)
    rwa [e] at this

set_option maxHeartbeats 4000000 in
theorem Sums_any (a b : Int) (w : World) (ha : (Lit.int .i64 a).wf = true) (hb : (Lit.int .i64 b).wf = true) :
    Calls Try.prog 6 #[.int .i64 a, .int .i64 b] w fun e w' => e = .returned (.bool true) ∧ Below w.heap.size w w' := by
  have HWF : Hid (∀ i, i < [a, b].length → -9223372036854775808 ≤ [a, b].getD i 0 ∧ [a, b].getD i 0 ≤ 9223372036854775807) := fun i hi => by
    have := i64_bd ha
    have := i64_bd hb
    rcases i with _ | _ | i
    · assumption
    · assumption
    · simp at hi; omega
  obtain ⟨A, eA⟩ : ∃ A, A = regF a := ⟨_, rfl⟩
  obtain ⟨B, eB⟩ : ∃ B, B = regF b := ⟨_, rfl⟩
  have HG : Hid (guestM [a, b] (sumsL.map insWord) [a, b].length = sumsM A B 0) := by show _ = _; rw [eA, eB]; exact sumsM_0 a b
  have HM : Hid (∀ k, k ≤ 3 → MayP (sumsM A B k)) := fun k hk => by rw [eA, eB]; exact sums_may a b k hk
  have HD : Hid (foldF (foldF (A + B) - B) = A ∧ foldF (A - A) = 0) := by
    have h1 := wordB_iff.1 (regF_word a)
    rw [← eA] at h1
    show _ ∧ _
    refine ⟨foldF_of h1.1 h1.2 ?_, ?_⟩
    · unfold foldF; omega
    · rw [Int.sub_self]; decide
  clear eA eB ha hb
  go_enter Try.func6, Try.ntmps6
  go_wp2_with fail
  refine (cpuTells_any _).mono ?_
  rintro e w0 ⟨rfl, hb0⟩
  have HB0 : Hid (Below w.heap.size w w0) := hb0
  clear hb0
  go_wp2_with fail
  have hbx := two_boxes (Below.refl (((w0.alloc (.cells ([a, b].map (Value.int .i64)).toArray 3)).alloc (.cells (insCells sumsL).toArray 34)).heap.size) ((w0.alloc (.cells ([a, b].map (Value.int .i64)).toArray 3)).alloc (.cells (insCells sumsL).toArray 34)))
  refine (guest_any _ _ [a, b] sumsL _ (IntsAt.of [a, b] hbx.1 (by simp)) (InsAt.of sumsL hbx.2.1 (by decide)) (by simp) HWF.out (by rw [sumsL_words]; decide)).mono ?_
  rw [HG.out]
  rintro e w1 ⟨rv, mv, ov, rfl, ho, hb1⟩
  have hbb : Below w.heap.size w w1 := HB0.out.trans ((hbx.2.2.trans (hb1.mono hbx.2.2.size)).mono HB0.out.size)
  have HN : Hid (BoxM (w1.alloc (.cells ((sumsM A B 0).cells rv mv ov) 24)) w1.heap.size rv mv ov (sumsM A B 0) ∧ Below w.heap.size w (w1.alloc (.cells ((sumsM A B 0).cells rv mv ov) 24)) ∧ w.heap.size ≤ w1.heap.size) := ⟨BoxM.new ho (HM.out 0 (by omega)), hbb.alloc hbb.size _, hbb.size⟩
  obtain ⟨g, c, rfl, -, hgl, hgc, -⟩ := ho.regs.opened (by show 0 < 8; decide)
  have r0 : w1.cell? ⟨g, 0, none⟩ = some (.int .i64 A) := hgc 0 (by show 0 < 8; decide)
  obtain ⟨B2, c2, rfl⟩ := ho.mem.shape
  obtain ⟨C2, c3, rfl⟩ := ho.out.shape
  have hgne : ¬ g = w1.heap.size := by omega
  clear hbx ho hb1 hbb hgc HB0 HWF HG
  rw [show (sumsM A B 0).regs.length = 8 from rfl, (HM.out 0 (by omega)).mem, show (sumsM A B 0).out.length = 0 from rfl] at HN ⊢
  simp only [Mach.cells, sumsM]
  go_wp2_with fail
  go_loopw [28] (fun i wr => ∃ k : Nat, k ≤ 3 ∧ i = .int .i64 k ∧ ∃ rv mv ov, Hid (BoxM wr w1.heap.size rv mv ov (sumsM A B k)) ∧ Hid (Below w.heap.size w wr)) (fun i _ => 3 - (intOf i).toNat)
  case atStart => exact ⟨0, by omega, rfl, _, _, _, HN.out.1, HN.out.2.1⟩
  case round =>
    clear r0
    obtain ⟨k, hk, rfl, rv, mv, ov, hA, hB⟩ := hrel
    obtain ⟨A1, c1, A2, c2, A3, c3, rfl, rfl, rfl⟩ := hA.out.dat.shape
    obtain ⟨⟨z0, z1, z2, z3, z4, z5, z6, z7, z8, z9, z10, z11⟩, zf, zl⟩ := twelve_cells hA.out.box
    by_cases hlt : k < 3
    · go_wp2_with fail
      refine (StepQ (sumsM A B k) (sumsM A B (k + 1)) false 0 (-1) _ _ _ wr hA.out.dat (HM.out k hk) (by decide) (by rw [sums_count _ _ _ hk]; omega) (sums_step A B k hlt)).mono ?_
      rintro e w5 ⟨D1, e1, D2, e2, D3, e3, rfl, ho, hb5⟩
      have hA5 := hA.out.below hb5
      have hne : ¬ w1.heap.size = w5.heap.size := by have := lt_of_block hA5.box; omega
      clear z0 z1 z2 z3 z4 z5 z6 z7 z8 z9 z10 z11 zf zl
      obtain ⟨⟨z0, z1, z2, z3, z4, z5, z6, z7, z8, z9, z10, z11⟩, zf, zl⟩ := twelve_cells hA5.box
      have HR : Hid (∀ o, BoxM _ w1.heap.size _ _ _ (sumsM A B (k + 1))) := fun o => hA5.put ho (HM.out (k + 1) (by omega)) o
      have HB5 : Hid (Below w.heap.size w w5) := hB.out.trans (hb5.mono hB.out.size)
      clear ho hb5 hA5 hA hB
      simp only [Mach.cells]
      go_wp2_with fail
      refine ⟨⟨k + 1, by omega, by go_num, _, _, _, HR.out _, ?_⟩, ?_⟩
      · exact (below_set12 HB5.out HN.out.2.2 _ _ _ _ _ _ _ _ _ _ _ _).alloc (by simpa using HB5.out.size) _
      · simp [intOf]; omega
    · obtain rfl : k = 3 := by omega
      obtain ⟨A1', c1', e1, -, hcell⟩ := hA.out.dat.regs
      simp only [Value.slice.injEq] at e1
      obtain ⟨rfl, -, rfl⟩ := e1
      obtain ⟨gb, go, rfl, hgb, hcc⟩ := hcell (by show 0 < 8; decide)
      have s3 : wr.cell? ⟨gb, go + 3, none⟩ = some (.int .i64 A) := by rw [hcc 3 (by show 3 < 8; decide)]; exact congrArg (fun x => some (Value.int .i64 x)) HD.out.1
      have s4 : wr.cell? ⟨gb, go + 4, none⟩ = some (.int .i64 0) := by rw [hcc 4 (by show 4 < 8; decide)]; exact congrArg (fun x => some (Value.int .i64 x)) HD.out.2
      rw [show (sumsM A B 3).regs.length = 8 from rfl] at z0
      simp only [sumsM] at z1 z2 z3 z4 z5 z6 z7 z10 z11
      clear hcc hcell hA
      go_wp2_with fail
      go_ret
      exact ⟨rfl, hB.out⟩

end Go.Proofs.Ytlcdefpdahjjead
