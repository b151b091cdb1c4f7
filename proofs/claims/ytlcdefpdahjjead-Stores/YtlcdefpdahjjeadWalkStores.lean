/- The walk of the law Stores. -/
import Derived.Test.YtlcdefpdahjjeadKStep
import Derived.Test.YtlcdefpdahjjeadWalkPick
namespace Go.Proofs.Ytlcdefpdahjjead
open Go.RowKit
set_option linter.unusedVariables false

abbrev storesL : List Ins := [(6, 1, 0, 0), (5, 2, 0, 0)]
theorem storesL_words : storesL.map insWord = [22, 37] := by decide
/-- The memory of the guest. -/
def stMem : List Int := [22, 37] ++ List.replicate 254 0
theorem stMem_len : stMem.length = 256 := by simp only [stMem, List.length_append, List.length_replicate]; rfl
/-- The guest ahead of its steps. -/
def stM (K V : Int) : Mach := ⟨[K, V, 0, 0, 0, 0, 0, 0], 0, 0, false, false, -1, 0, 0, stMem, [], 0, -1⟩
theorem stM_0 (k v : Int) : guestM [k, v] (storesL.map insWord) 2 = stM (regF k) (regF v) := by rw [storesL_words]; rfl
theorem exec_6 (m : Mach) (a k n v : Int) : m.exec 6 a k n v = if m.meantE (m.reg k + n) true = 0 then (({ m with mem := m.mem.set (m.meantK (m.reg k + n) true).toNat (m.reg a) } : Mach).go (m.pc + 1), m.meantK (m.reg k + n) true) else (m.ends (m.meantE (m.reg k + n) true), -1) := rfl
theorem exec_5 (m : Mach) (a k n v : Int) : m.exec 5 a k n v = if m.meantE (m.reg k + n) false = 0 then ((m.setReg a (m.mem.getD (m.meantK (m.reg k + n) false).toNat 0)).go (m.pc + 1), -1) else (m.ends (m.meantE (m.reg k + n) false), -1) := rfl
theorem meant_plain {m : Mach} (ht : m.table = -1) {x : Int} {wr : Bool} (h0 : 0 ≤ x) (h1 : x ≤ 255) : m.meantE x wr = 0 ∧ m.meantK x wr = x := by
  have e1 : m.meantE x wr = 0 := by simp [Mach.meantE, inB_yes h0 h1, ht]
  exact ⟨e1, by simp [Mach.meantK, e1, ht]⟩
theorem meant_bad {m : Mach} {x : Int} {wr : Bool} (h : ¬ (0 ≤ x ∧ x ≤ 255)) : m.meantE x wr = 3 := by simp [Mach.meantE, inB_no h]

theorem stores_bad {K : Int} (V : Int) (h : 256 ≤ K) : (stM K V).step false [] 0 = ({ stM K V with count := 1, fin := 3 }, -1) := by
  rw [step_quiet rfl rfl, run_at 0 22 0 rfl rfl (by decide) (by decide) rfl (by decide)]
  show (stM K V).counted.exec 6 1 0 0 0 = _
  have e : (stM K V).counted.meantE ((stM K V).counted.reg 0 + 0) true = 3 := meant_bad (by show ¬ (0 ≤ K + 0 ∧ K + 0 ≤ 255); omega)
  rw [exec_6, e]
  rfl
/-- The guest behind the store. -/
def stM1 (K V : Int) : Mach := ⟨[K, V, 0, 0, 0, 0, 0, 0], 1, 0, false, false, -1, 1, 0, stMem.set K.toNat V, [], 0, -1⟩
theorem stores_ok {K : Int} (V : Int) (h0 : 0 ≤ K) (h1 : K ≤ 255) : (stM K V).step false [] 0 = (stM1 K V, K) := by
  rw [step_quiet rfl rfl, run_at 0 22 0 rfl rfl (by decide) (by decide) rfl (by decide)]
  show (stM K V).counted.exec 6 1 0 0 0 = _
  have e := meant_plain (m := (stM K V).counted) (wr := true) rfl (x := (stM K V).counted.reg 0 + 0) (by show 0 ≤ K + 0; omega) (by show K + 0 ≤ 255; omega)
  have e2 : (stM K V).counted.reg 0 + 0 = K := by show K + 0 = K; omega
  rw [exec_6, if_pos e.1, e.2, e2]
  rfl
theorem loads_ok {K V : Int} (h0 : 2 ≤ K) (h1 : K ≤ 255) : (stM1 K V).step false [] 0 = (⟨[K, V, V, 0, 0, 0, 0, 0], 2, 0, false, false, -1, 2, 0, stMem.set K.toNat V, [], 0, -1⟩, -1) := by
  have g1 : (stMem.set K.toNat V).getD 1 0 = 37 := by
    rw [getD_set _ _ _ _ _ (by rw [stMem_len]; omega), if_neg (by omega)]; rfl
  have g2 : (stMem.set K.toNat V).getD K.toNat 0 = V := by
    rw [getD_set _ _ _ _ _ (by rw [stMem_len]; omega), if_pos rfl]
  rw [step_quiet rfl rfl, run_at 1 37 0 rfl rfl (by decide) (by decide) g1 (by decide)]
  show (stM1 K V).counted.exec 5 2 0 0 0 = _
  have e := meant_plain (m := (stM1 K V).counted) (wr := false) rfl (x := (stM1 K V).counted.reg 0 + 0) (by show 0 ≤ K + 0; omega) (by show K + 0 ≤ 255; omega)
  have e2 : (stM1 K V).counted.reg 0 + 0 = K := by show K + 0 = K; omega
  rw [exec_5, if_pos e.1, e.2, e2, show (stM1 K V).counted.mem.getD K.toNat 0 = V from g2]
  rfl
theorem regF_small {x : Int} (h0 : 0 ≤ x) (h1 : x ≤ 1000000) : regF x = x := by
  unfold regF
  rw [Int.tmod_eq_of_lt h0 (by omega), foldF_id (by omega) (by omega)]
theorem stM_may (k v : Int) : MayP (stM (regF k) (regF v)) := by rw [← stM_0]; exact guestM_may _ _ _ (by rw [storesL_words]; decide)

theorem wf_two {a b : Int} (ha : -9223372036854775808 ≤ a ∧ a ≤ 9223372036854775807) (hb : -9223372036854775808 ≤ b ∧ b ≤ 9223372036854775807) : ∀ i, i < [a, b].length → -9223372036854775808 ≤ [a, b].getD i 0 ∧ [a, b].getD i 0 ≤ 9223372036854775807 := fun i hi => by
  rcases i with _ | _ | i
  · exact ha
  · exact hb
  · simp at hi; omega

set_option maxHeartbeats 4000000 in
theorem Stores_any (a v : Int) (w : World) (ha : (Lit.int .i64 a).wf = true) (hv : (Lit.int .i64 v).wf = true) :
    Calls Try.prog 7 #[.int .i64 a, .int .i64 v] w fun e w' => e = .returned (.bool true) ∧ Below w.heap.size w w' := by
  obtain ⟨K, eK⟩ : ∃ K, K = pickF a 300 := ⟨_, rfl⟩
  have hK := pickF_bd a (m := 300) (by decide)
  rw [← eK] at hK
  have HPK : Hid (∀ W, Calls Try.prog 19 #[.int .i64 a, .int .i64 300] W fun e w' => e = .returned (.int .i64 K) ∧ w' = W) := fun W => by rw [eK]; exact picked_any a 300 W ha (by decide) (by decide)
  obtain ⟨V, eV⟩ : ∃ V, V = regF v := ⟨_, rfl⟩
  have HG : Hid (guestM [K, v] (storesL.map insWord) [K, v].length = stM K V) := by
    show _ = _
    have := stM_0 K v
    rw [regF_small hK.1 (by omega), ← eV] at this
    exact this
  have HM : Hid (MayP (stM K V)) := by
    have := stM_may K v
    rwa [regF_small hK.1 (by omega), ← eV] at this
  have HWF : Hid (∀ i, i < [K, v].length → -9223372036854775808 ≤ [K, v].getD i 0 ∧ [K, v].getD i 0 ≤ 9223372036854775807) := wf_two ⟨by omega, by omega⟩ (i64_bd hv)
  obtain ⟨k0, k1⟩ := hK
  clear eK eV ha hv
  go_enter Try.func7, Try.ntmps7
  go_wp2_with fail
  refine (cpuTells_any _).mono ?_
  rintro e w0 ⟨rfl, hb0⟩
  have HB0 : Hid (Below w.heap.size w w0) := hb0
  clear hb0
  go_wp2_with fail
  refine (HPK.out _).mono ?_
  rintro e w0 ⟨rfl, rfl⟩
  clear HPK
  go_wp2_with fail
  have hbx := two_boxes (Below.refl (((w0.alloc (.cells ([K, v].map (Value.int .i64)).toArray 3)).alloc (.cells (insCells storesL).toArray 34)).heap.size) ((w0.alloc (.cells ([K, v].map (Value.int .i64)).toArray 3)).alloc (.cells (insCells storesL).toArray 34)))
  refine (guest_any _ _ [K, v] storesL _ (IntsAt.of [K, v] hbx.1 (by simp)) (InsAt.of storesL hbx.2.1 (by decide)) (by simp) HWF.out (by rw [storesL_words]; decide)).mono ?_
  rw [HG.out]
  rintro e w1 ⟨rv, mv, ov, rfl, ho, hb1⟩
  have hbb : Below w.heap.size w w1 := HB0.out.trans ((hbx.2.2.trans (hb1.mono hbx.2.2.size)).mono HB0.out.size)
  have hN := BoxM.new ho HM.out
  obtain ⟨g, c, rfl, -, hgl, hgc, -⟩ := ho.regs.opened (by show 0 < 8; decide)
  have r1 : w1.cell? ⟨g, 1, none⟩ = some (.int .i64 V) := hgc 1 (by show 1 < 8; decide)
  obtain ⟨B2, c2, rfl⟩ := ho.mem.shape
  obtain ⟨C2, c3, rfl⟩ := ho.out.shape
  rw [show (stM K V).regs.length = 8 from rfl, HM.out.mem, show (stM K V).out.length = 0 from rfl] at hN ⊢
  have HN : Hid (BoxM (w1.alloc (.cells ((stM K V).cells (.slice (some ⟨g, 0, none⟩) 8 c) (.slice B2 256 c2) (.slice C2 0 c3)) 24)) w1.heap.size (.slice (some ⟨g, 0, none⟩) 8 c) (.slice B2 256 c2) (.slice C2 0 c3) (stM K V) ∧ Below w.heap.size w (w1.alloc (.cells ((stM K V).cells (.slice (some ⟨g, 0, none⟩) 8 c) (.slice B2 256 c2) (.slice C2 0 c3)) 24)) ∧ w.heap.size ≤ w1.heap.size ∧ w1.cell? ⟨g, 1, none⟩ = some (.int .i64 V) ∧ g < w1.heap.size) := ⟨hN, hbb.alloc hbb.size _, hbb.size, r1, hgl⟩
  clear hbx ho hb1 hbb hgc HB0 HWF HG hN r1 hgl
  simp only [Mach.cells, stM]
  go_wp2_with fail
  by_cases hk : K < 256
  case neg =>
    refine (StepQ (stM K V) _ false 0 (-1) _ _ _ _ HN.out.1.dat HM.out (by decide) (by show (0 : Int) < _; decide) (stores_bad V (by omega))).mono ?_
    rintro e w5 ⟨D1, e1, D2, e2, D3, e3, rfl, ho, hb5⟩
    have HB5 : Hid (Below w.heap.size w w5) := HN.out.2.1.trans (hb5.mono HN.out.2.1.size)
    clear ho hb5 HN
    simp only [Mach.cells, stM]
    go_wp2_with fail
    go_ret
    exact ⟨rfl, HB5.out.alloc HB5.out.size _⟩
  case pos =>
    have hM1 : MayP (stM1 K V) := by
      have := HM.out.step false (blk := []) rfl (Or.inl rfl) (v := 0) (by decide) (by show (0 : Int) < _; decide)
      rwa [stores_ok V k0 (by omega)] at this
    refine (StepQ (stM K V) (stM1 K V) false 0 K _ _ _ _ HN.out.1.dat HM.out (by decide) (by show (0 : Int) < _; decide) (stores_ok V k0 (by omega))).mono ?_
    rintro e w5 ⟨D1, e1, D2, e2, D3, e3, rfl, ho, hb5⟩
    have hN5 := BoxM.new ho hM1
    rw [show (stM1 K V).regs.length = 8 from rfl, hM1.mem, show (stM1 K V).out.length = 0 from rfl] at hN5 ⊢
    have HB5 : Hid (Below w.heap.size w w5) := HN.out.2.1.trans (hb5.mono HN.out.2.1.size)
    have hm5 := HN.out.1.below hb5
    obtain ⟨⟨z0, -, -, -, -, -, -, -, -, -, -, -⟩, -, zl⟩ := twelve_cells hm5.box
    have hr5 : w5.cell? ⟨g, 1, none⟩ = some (.int .i64 V) := by
      rw [(((below_alloc w1 _).trans (hb5.mono (by simp))) : Below w1.heap.size w1 w5).cell (p := ⟨g, 1, none⟩) HN.out.2.2.2.2]; exact HN.out.2.2.2.1
    have HZ : Hid (w5.cell? ⟨w1.heap.size, 0, none⟩ = some (.slice (some ⟨g, 0, none⟩) 8 c) ∧ w5.cell? ⟨g, 1, none⟩ = some (.int .i64 V) ∧ w1.heap.size < w5.heap.size ∧ g < w5.heap.size) := ⟨z0, hr5, zl, by have := HN.out.2.2.2.2; omega⟩
    have HN5 : Hid (BoxM (w5.alloc (.cells ((stM1 K V).cells (.slice D1 8 e1) (.slice D2 256 e2) (.slice D3 0 e3)) 24)) w5.heap.size (.slice D1 8 e1) (.slice D2 256 e2) (.slice D3 0 e3) (stM1 K V) ∧ MayP (stM1 K V)) := ⟨hN5, hM1⟩
    clear ho hb5 HN hN5 hM1 hm5 z0 zl hr5
    simp only [Mach.cells, stM1]
    go_wp2_with fail
    by_cases hk2 : K < 2
    · obtain ⟨m2, kk, hs⟩ : ∃ m2 kk, (stM1 K V).step false [] 0 = (m2, kk) := ⟨_, _, (Prod.eta _).symm⟩
      refine (StepQ (stM1 K V) m2 false 0 kk _ _ _ _ HN5.out.1.dat HN5.out.2 (by decide) (by show (1 : Int) < _; decide) hs).mono ?_
      clear hs
      rintro e w7 ⟨F1, f1, F2, f2, F3, f3, rfl, ho, hb7⟩
      have HB7 : Hid (Below w.heap.size w w7) := (HB5.out.alloc HB5.out.size _).trans (hb7.mono (by simp; have := HB5.out.size; omega))
      clear ho hb7 HN5 HZ HB5
      simp only [Mach.cells]
      go_wp2_with fail
      go_ret
      exact ⟨rfl, HB7.out.alloc HB7.out.size _⟩
    · refine (StepQ (stM1 K V) _ false 0 (-1) _ _ _ _ HN5.out.1.dat HN5.out.2 (by decide) (by show (1 : Int) < _; decide) (loads_ok (by omega) (by omega))).mono ?_
      rintro e w7 ⟨F1, f1, F2, f2, F3, f3, rfl, ho, hb7⟩
      have hB57 : Below w5.heap.size w5 w7 := (below_alloc _ _).trans (hb7.mono (by simp))
      have HB7 : Hid (Below w.heap.size w w7) := HB5.out.trans (hB57.mono HB5.out.size)
      obtain ⟨g2, d2, eF, -, hg2, hgc2, -⟩ := ho.regs.opened (by show 0 < 8; decide)
      simp only [Value.slice.injEq] at eF
      obtain ⟨rfl, -, rfl⟩ := eF
      have t0 := (hB57.cell (p := ⟨w1.heap.size, 0, none⟩) HZ.out.2.2.1).trans HZ.out.1
      have t1 := (hB57.cell (p := ⟨g, 1, none⟩) HZ.out.2.2.2).trans HZ.out.2.1
      have t2 : w7.cell? ⟨g2, 2, none⟩ = some (.int .i64 V) := hgc2 2 (by show 2 < 8; decide)
      have l1 : w1.heap.size < w7.heap.size := Nat.lt_of_lt_of_le HZ.out.2.2.1 hB57.size
      have l2 : g < w7.heap.size := Nat.lt_of_lt_of_le HZ.out.2.2.2 hB57.size
      have n1 : ¬ w1.heap.size = w7.heap.size := by have := HZ.out.2.2.1; have := hB57.size; omega
      have n2 : ¬ g = w7.heap.size := by have := HZ.out.2.2.2; have := hB57.size; omega
      have n3 : ¬ g2 = w7.heap.size := by omega
      clear ho hb7 HN5 HZ HB5 hgc2 hB57
      simp only [Mach.cells]
      go_wp2_with fail
      generalize hW9 : w7.alloc _ = W9
      have u0 : W9.cell? ⟨w1.heap.size, 0, none⟩ = some (.slice (some ⟨g, 0, none⟩) 8 c) := by rw [← hW9, (below_alloc w7 _).cell (p := ⟨w1.heap.size, 0, none⟩) l1]; exact t0
      have u1 : W9.cell? ⟨g, 1, none⟩ = some (.int .i64 V) := by rw [← hW9, (below_alloc w7 _).cell (p := ⟨g, 1, none⟩) l2]; exact t1
      have u2 : W9.cell? ⟨g2, 2, none⟩ = some (.int .i64 V) := by rw [← hW9, (below_alloc w7 _).cell (p := ⟨g2, 2, none⟩) hg2]; exact t2
      have u3 : W9.cell? ⟨w7.heap.size, 0, none⟩ = some (.slice (some ⟨g2, 0, none⟩) 8 f1) := by rw [← hW9]; exact (twelve_cells (Go.Deep.blk_alloc_new _ _)).1.1
      have HB9 : Hid (Below w.heap.size w W9) := by show Below _ _ _; rw [← hW9]; exact HB7.out.alloc HB7.out.size _
      clear hW9 t0 t1 t2 n1 n2 n3
      go_quiet (fail)
      go_wp2_with fail
      go_ret
      exact ⟨rfl, below_drewN HB9.out _⟩

end Go.Proofs.Ytlcdefpdahjjead
