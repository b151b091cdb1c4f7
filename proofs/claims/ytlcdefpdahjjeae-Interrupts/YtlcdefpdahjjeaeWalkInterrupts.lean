/- The walk of the law Interrupts. -/
import Derived.Test.YtlcdefpdahjjeaeKStep
import Derived.Test.YtlcdefpdahjjeaeWalkPick
namespace Go.Proofs.Ytlcdefpdahjjeae
open Go.RowKit
set_option linter.unusedVariables false

abbrev intL : List Ins := [(15, 0, 0, 0), (15, 0, 0, 0), (15, 0, 0, 0), (15, 0, 0, 0), (15, 0, 0, 0), (12, 0, 0, 1), (15, 0, 0, 0), (15, 0, 0, 0), (13, 0, 0, 0)]
theorem intL_words : intL.map insWord = [15, 15, 15, 15, 15, 1036, 15, 15, 13] := by decide
def intMem : List Int := [15, 15, 15, 15, 15, 1036, 15, 15, 13] ++ List.replicate 247 0
def ltB (k i : Nat) : Bool := decide (k < i)
/-- The guest ahead of its steps, and behind each; an interrupt comes with step k. -/
def intM (k : Nat) : Nat → Mach
  | 0 => ⟨[0, 0, 0, 0, 0, 0, 0, 0], 0, 0, false, false, -1, 0, 0, intMem, [], 0, -1⟩
  | 1 => ⟨[0, 0, 0, 0, 0, 0, 0, 0], 1, 0, false, ltB k 1, -1, 1, 0, intMem, [], 0, -1⟩
  | 2 => ⟨[0, 0, 0, 0, 0, 0, 0, 0], 2, 0, false, ltB k 2, -1, 2, 0, intMem, [], 0, -1⟩
  | 3 => ⟨[0, 0, 0, 0, 0, 0, 0, 0], 3, 0, false, ltB k 3, -1, 3, 0, intMem, [], 0, -1⟩
  | 4 => ⟨[0, 0, 0, 0, 0, 0, 0, 0], 4, 0, false, ltB k 4, -1, 4, 0, intMem, [], 0, -1⟩
  | 5 => ⟨[0, 0, 0, 0, 0, 0, 0, 0], 5, 0, false, ltB k 5, -1, 5, 0, intMem, [], 0, -1⟩
  | 6 => ⟨[0, 0, 0, 0, 0, 0, 0, 0], 6, 0, true, true, -1, 6, 0, intMem, [], 0, -1⟩
  | 7 => ⟨[0, 0, 0, 0, 0, 0, 0, 0], 6, 6, true, false, -1, 7, 0, intMem, [], 0, -1⟩
  | _ => ⟨[0, 0, 0, 0, 0, 0, 0, 0], 7, 6, true, false, -1, 8, 0, intMem, [], 0, -1⟩
theorem intM_0 (k : Nat) : guestM [] (intL.map insWord) 0 = intM k 0 := by rw [intL_words]; rfl
theorem int_step (k i : Nat) (hk : k < 5) (hi : i < 8) : (intM k i).step ((i : Int) == (k : Int)) [] 0 = (intM k (i + 1), -1) := by
  rcases k with _ | _ | _ | _ | _ | k
  · rcases i with _ | _ | _ | _ | _ | _ | _ | _ | i <;> first | rfl | omega
  · rcases i with _ | _ | _ | _ | _ | _ | _ | _ | i <;> first | rfl | omega
  · rcases i with _ | _ | _ | _ | _ | _ | _ | _ | i <;> first | rfl | omega
  · rcases i with _ | _ | _ | _ | _ | _ | _ | _ | i <;> first | rfl | omega
  · rcases i with _ | _ | _ | _ | _ | _ | _ | _ | i <;> first | rfl | omega
  · omega
theorem int_count (k i : Nat) (h : i ≤ 8) : (intM k i).count = i := by
  rcases i with _ | _ | _ | _ | _ | _ | _ | _ | _ | i <;> first | rfl | omega
theorem int_may (k i : Nat) (hk : k < 5) (h : i ≤ 8) : MayP (intM k i) := by
  induction i with
  | zero => rw [← intM_0]; exact guestM_may _ _ _ (by rw [intL_words]; decide)
  | succ i ih =>
    have e := int_step k i hk (by omega)
    have := (ih (by omega)).step ((i : Int) == (k : Int)) (blk := []) rfl (Or.inl rfl) (v := 0) (by decide) (by rw [int_count _ _ (by omega)]; omega)
    rwa [e] at this

set_option maxHeartbeats 8000000 in
theorem Interrupts_any (n : Int) (w : World) (hn : (Lit.int .i64 n).wf = true) :
    Calls Try.prog 3 #[.int .i64 n] w fun e w' => e = .returned (.bool true) ∧ Below w.heap.size w w' := by
  obtain ⟨k, hk, HPK⟩ : ∃ k : Nat, k < 5 ∧ Hid (∀ W, Calls Try.prog 6 #[.int .i64 n, .int .i64 5] W fun e w' => e = .returned (.int .i64 (k : Int)) ∧ w' = W) := by
    have hb := pickF_bd n (m := 5) (by decide)
    obtain ⟨k, e⟩ := Int.eq_ofNat_of_zero_le hb.1
    exact ⟨k, by omega, fun W => by rw [← e]; exact picked_any n 5 W hn (by decide) (by decide)⟩
  have HM : Hid (∀ i, i ≤ 8 → MayP (intM k i)) := fun i hi => int_may k i hk hi
  have HS : Hid (∀ i, i < 8 → (intM k i).step ((i : Int) == (k : Int)) [] 0 = (intM k (i + 1), -1)) := fun i hi => int_step k i hk hi
  have HG : Hid (guestM [] (intL.map insWord) ([] : List Int).length = intM k 0) := intM_0 k
  clear hn hk
  go_enter Try.func3, Try.ntmps3
  go_wp2_with fail
  refine (HPK.out _).mono ?_
  rintro e w0 ⟨rfl, rfl⟩
  clear HPK
  go_wp2_with fail
  have hbx := two_boxes (Below.refl (((w0.alloc (.cells #[.int .i64 15, .int .i64 0, .int .i64 0, .int .i64 0] 24)).alloc (.cells (insCells intL).toArray 24)).heap.size) ((w0.alloc (.cells #[.int .i64 15, .int .i64 0, .int .i64 0, .int .i64 0] 24)).alloc (.cells (insCells intL).toArray 24)))
  refine (guest_any _ _ [] intL _ ⟨none, 0, rfl, by simp, fun h => absurd h (by simp)⟩ (InsAt.of intL hbx.2.1 (by decide)) (by simp) (fun i hi => absurd hi (by simp)) (by rw [intL_words]; decide)).mono ?_
  rw [HG.out]
  rintro e w1 ⟨rv, mv, ov, rfl, ho, hb1⟩
  have hbb : Below w0.heap.size w0 w1 := hbx.2.2.trans (hb1.mono hbx.2.2.size)
  have hN := BoxM.new ho (HM.out 0 (by omega))
  obtain ⟨A1, c1, A2, c2, A3, c3, rfl, rfl, rfl⟩ := ho.shape
  rw [(HM.out 0 (by omega)).regs, (HM.out 0 (by omega)).mem, show (intM k 0).out.length = 0 from rfl] at hN ⊢
  have HN : Hid (BoxM (w1.alloc (.cells ((intM k 0).cells (.slice A1 8 c1) (.slice A2 256 c2) (.slice A3 0 c3)) 27)) w1.heap.size (.slice A1 8 c1) (.slice A2 256 c2) (.slice A3 0 c3) (intM k 0) ∧ Below w0.heap.size w0 (w1.alloc (.cells ((intM k 0).cells (.slice A1 8 c1) (.slice A2 256 c2) (.slice A3 0 c3)) 27)) ∧ w0.heap.size ≤ w1.heap.size) := ⟨hN, hbb.alloc hbb.size _, hbb.size⟩
  clear hbx ho hb1 hbb HG hN
  simp only [Mach.cells, intM]
  go_wp2_with fail
  go_loopw [28] (fun s wr => ∃ i : Nat, i ≤ 8 ∧ s = .int .i64 i ∧ ∃ rv mv ov, Hid (BoxM wr w1.heap.size rv mv ov (intM k i)) ∧ Hid (Below w0.heap.size w0 wr)) (fun s _ => 8 - (intOf s).toNat)
  case atStart => exact ⟨0, by omega, rfl, _, _, _, HN.out.1, HN.out.2.1⟩
  case round =>
    obtain ⟨i, hi, rfl, rv, mv, ov, hA, hB⟩ := hrel
    obtain ⟨A1, c1, A2, c2, A3, c3, rfl, rfl, rfl⟩ := hA.out.dat.shape
    have hA' := hA.out
    rw [(HM.out i hi).regs, (HM.out i hi).mem] at hA'
    by_cases hlt : i < 8
    · have hst := HS.out i hlt
      have hm1 := HM.out (i + 1) (by omega)
      have hm0 := HM.out i hi
      have hct := int_count k i hi
      clear hA
      rcases i with _ | _ | _ | _ | _ | _ | _ | _ | i
      case succ.succ.succ.succ.succ.succ.succ.succ => omega
      all_goals
        obtain ⟨⟨z0, z1, z2, z3, z4, z5, z6, z7, z8, z9, z10, z11⟩, zf, zl⟩ := twelve_cells hA'.box
        have HA : Hid (BoxM wr w1.heap.size _ _ _ _ ∧ MayP _ ∧ MayP _) := ⟨hA', hm0, hm1⟩
        have HST : Hid (_ = _) := hst
        clear hA' hst hm0 hm1 hct
        simp only [intM] at z1 z2 z3 z4 z5 z6 z7 z8 z9 z10 z11
        go_wp2_with fail
        refine (StepQ _ _ _ 0 (-1) _ _ _ wr HA.out.1.dat HA.out.2.1 (by decide) (by simp only [intM]; decide) HST.out).mono ?_
        rintro e w5 ⟨D1, e1, D2, e2, D3, e3, rfl, ho, hb5⟩
        have hA5 := HA.out.1.below hb5
        have hne : ¬ w1.heap.size = w5.heap.size := by have := lt_of_block hA5.box; omega
        clear z0 z1 z2 z3 z4 z5 z6 z7 z8 z9 z10 z11 zf zl
        obtain ⟨⟨z0, z1, z2, z3, z4, z5, z6, z7, z8, z9, z10, z11⟩, zf, zl⟩ := twelve_cells hA5.box
        have HR : Hid (∀ o, BoxM _ w1.heap.size _ _ _ _) := fun o => hA5.put ho HA.out.2.2 o
        have HB5 : Hid (Below w0.heap.size w0 w5) := hB.out.trans (hb5.mono hB.out.size)
        clear ho hb5 hA5 HA hB HST
        simp only [Mach.cells, intM]
        go_wp2_with fail
        refine ⟨⟨_, by omega, by go_num, _, _, _, HR.out _, ?_⟩, ?_⟩
        · exact (below_set12 HB5.out HN.out.2.2 _ _ _ _ _ _ _ _ _ _ _ _).alloc (by simpa using HB5.out.size) _
        · simp [intOf]
    · obtain rfl : i = 8 := by omega
      obtain ⟨⟨z0, z1, z2, z3, z4, z5, z6, z7, z8, z9, z10, z11⟩, zf, zl⟩ := twelve_cells hA'.box
      simp only [intM] at z1 z2 z3 z4 z5 z6 z7 z8 z9 z10 z11
      clear hA hA'
      go_wp2_with fail
      go_ret
      exact ⟨rfl, hB.out⟩

end Go.Proofs.Ytlcdefpdahjjeae
