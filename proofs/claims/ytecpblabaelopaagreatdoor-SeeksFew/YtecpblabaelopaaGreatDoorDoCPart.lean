/- Contracts of cpu.doNext, by operator: Ld, St, In, Out, Map. -/
import Derived.Test.YtecpblabaelopaaGreatDoorStepIPart
import Derived.Test.YtecpblabaelopaaGreatDoorStepBPart
namespace Go.Proofs.YtecpblabaelopaaGreatDoor
open Go.RowKit
set_option maxRecDepth 100000
set_option linter.unusedVariables false

theorem exec_Ld {m : Mach} (hf : m.fin = 0) (a k n value : Int) : ((m.loaded a k n).fin = 0 ∧ m.exec 5 a k n value = ({ m.loaded a k n with pc := foldF (m.pc + 1) }, -1)) ∨ ((m.loaded a k n).fin ≠ 0 ∧ m.exec 5 a k n value = (m.loaded a k n, -1)) := by
  by_cases h : m.meantE (m.reg k + n) false = 0
  · refine Or.inl ⟨?_, ?_⟩ <;> simp [Mach.loaded, h, Mach.setReg, hf, Mach.exec, Mach.go]
  · refine Or.inr ⟨?_, ?_⟩ <;> simp [Mach.loaded, h, Mach.ends, Mach.exec]
theorem exec_St {m : Mach} (hf : m.fin = 0) (a k n value : Int) : ((m.stored a k n).fin = 0 ∧ m.exec 6 a k n value = ({ m.stored a k n with pc := foldF (m.pc + 1) }, m.wrote k n)) ∨ ((m.stored a k n).fin ≠ 0 ∧ m.exec 6 a k n value = (m.stored a k n, m.wrote k n)) := by
  by_cases h : m.meantE (m.reg k + n) true = 0
  · refine Or.inl ⟨?_, ?_⟩ <;> simp [Mach.stored, Mach.wrote, h, hf, Mach.exec, Mach.go]
  · refine Or.inr ⟨?_, ?_⟩ <;> simp [Mach.stored, Mach.wrote, h, Mach.ends, Mach.exec]
theorem exec_In {m : Mach} (hf : m.fin = 0) (a k n value : Int) : ((m.inned a n value).fin = 0 ∧ m.exec 10 a k n value = ({ m.inned a n value with pc := foldF (m.pc + 1) }, -1)) ∨ ((m.inned a n value).fin ≠ 0 ∧ m.exec 10 a k n value = (m.inned a n value, -1)) := by
  by_cases h : n = 0 ∨ n = 1
  · refine Or.inl ⟨?_, ?_⟩ <;> simp [Mach.inned, h, Mach.setReg, hf, Mach.exec, Mach.go]
  · by_cases h2 : n = 2
    · refine Or.inl ⟨?_, ?_⟩ <;> simp [Mach.inned, h2, Mach.setReg, hf, Mach.exec, Mach.go]
    · refine Or.inr ⟨?_, ?_⟩ <;> simp [Mach.inned, h, h2, Mach.ends, Mach.exec]
theorem exec_Out {m : Mach} (hf : m.fin = 0) (a k n value : Int) : ((m.outed a n).fin = 0 ∧ m.exec 11 a k n value = ({ m.outed a n with pc := foldF (m.pc + 1) }, -1)) ∨ ((m.outed a n).fin ≠ 0 ∧ m.exec 11 a k n value = (m.outed a n, -1)) := by
  by_cases h : n = 3
  · by_cases h2 : m.out.length < 200
    · refine Or.inl ⟨?_, ?_⟩ <;> simp [Mach.outed, h, h2, hf, Mach.exec, Mach.go]
    · refine Or.inl ⟨?_, ?_⟩ <;> simp [Mach.outed, h, h2, hf, Mach.exec, Mach.go]
  · by_cases h4 : n = 4
    · cases h5 : inB (m.reg a) 0 15 with
      | true =>
        have h6 := inB_iff.1 h5
        by_cases h7 : m.want = -1
        · refine Or.inl ⟨?_, ?_⟩ <;> simp [Mach.outed, Mach.asked, h4, h5, h6, h7, hf, Mach.exec, Mach.go]
        · refine Or.inl ⟨?_, ?_⟩ <;> simp [Mach.outed, Mach.asked, h4, h5, h6, h7, hf, Mach.exec, Mach.go]
      | false =>
        have h6 : ¬ (0 ≤ m.reg a ∧ m.reg a ≤ 15) := fun hh => by rw [inB_iff.2 hh] at h5; exact absurd h5 (by decide)
        refine Or.inr ⟨?_, ?_⟩
        · simp [Mach.outed, Mach.asked, h4, h5]
        · simp only [Mach.outed, Mach.asked, h4, h5, Mach.exec, Mach.ends]
          simp [h6]
    · refine Or.inr ⟨?_, ?_⟩ <;> simp [Mach.outed, h, h4, Mach.ends, Mach.exec]
theorem exec_Map {m : Mach} (hf : m.fin = 0) (a k n value : Int) : ((m.tabled (m.reg a)).fin = 0 ∧ m.exec 14 a k n value = ({ m.tabled (m.reg a) with pc := foldF (m.pc + 1) }, -1)) ∨ ((m.tabled (m.reg a)).fin ≠ 0 ∧ m.exec 14 a k n value = (m.tabled (m.reg a), -1)) := by
  cases h5 : inB (m.reg a) (-1) 15 with
  | true =>
    have h6 := inB_iff.1 h5
    refine Or.inl ⟨?_, ?_⟩ <;> simp [Mach.tabled, h5, h6, hf, Mach.exec, Mach.go]
  | false =>
    have h6 : ¬ (-1 ≤ m.reg a ∧ m.reg a ≤ 15) := fun hh => by rw [inB_iff.2 hh] at h5; exact absurd h5 (by decide)
    refine Or.inr ⟨?_, ?_⟩
    · simp [Mach.tabled, h5]
    · simp only [Mach.tabled, h5, Mach.exec, Mach.ends]
      simp [h6]

set_option maxRecDepth 100000 in
set_option maxHeartbeats 4000000 in
theorem doNext_5 (lo b : Nat) (rv mv ov : Value) (m : Mach) (a k n value : Int) (w : World) (h : AtP w lo b rv mv ov m) (hlo : lo ≤ w.heap.size) (hm : MayP m) (hf : m.fin = 0) (ha : 0 ≤ a ∧ a ≤ 7) (hk : 0 ≤ k ∧ k ≤ 7) (hn : -1048576 ≤ n ∧ n ≤ 1048575)
    (hnr : 5 = (2 : Int) ∨ 5 = (3 : Int) → 0 ≤ n ∧ n ≤ 7)
    (hx : Calls Tryz.prog 113 #[ptr b] w fun e w' => e = .returned (.tuple #[.agg #[.int .i64 5, .int .i64 a, .int .i64 k, .int .i64 n], .int .i64 0]) ∧ Below w.heap.size w w') :
    Calls Tryz.prog 80 #[ptr b, .int .i64 value] w fun e w' => e = .returned (.int .i64 (m.exec 5 a k n value).2) ∧ (∃ ov', AtP w' lo b rv mv ov' (m.exec 5 a k n value).1) ∧ Below lo w w' := by
  obtain ⟨R, eR⟩ : ∃ R, R = m.exec 5 a k n value := ⟨_, rfl⟩
  rw [← eR]
  obtain ⟨g, c, rfl, -, -, -⟩ := h.regs_at hm.regs
  obtain ⟨p1, p2⟩ := wordB_iff.1 hm.pc
  have HX : Hid (Calls Tryz.prog 113 #[ptr b] w fun e w' => e = .returned (.tuple #[.agg #[.int .i64 5, .int .i64 a, .int .i64 k, .int .i64 n], .int .i64 0]) ∧ Below w.heap.size w w') := hx
  have HM : Hid (MayP m) := hm
  have HF : Hid (m.fin = 0) := hf
  have HH : Hid (AtP w lo b (.slice (some ⟨g, 0, none⟩) m.regs.length c) mv ov m ∧ lo ≤ w.heap.size) := ⟨h, hlo⟩
  have HBD : Hid ((0 ≤ a ∧ a ≤ 7) ∧ (0 ≤ k ∧ k ≤ 7) ∧ (-1048576 ≤ n ∧ n ≤ 1048575)) := ⟨ha, hk, hn⟩
  have HNR : Hid (5 = (2 : Int) ∨ 5 = (3 : Int) → 0 ≤ n ∧ n ≤ 7) := hnr
  have ER : Hid (R = m.exec 5 a k n value) := eR
  obtain ⟨a0, a7⟩ := ha
  obtain ⟨k0, k7⟩ := hk
  obtain ⟨n0, n7⟩ := hn
  have ab : a < (m.regs.length : Int) := by have := hm.regs; omega
  have kb : k < (m.regs.length : Int) := by have := hm.regs; omega
  clear hx h hm eR hnr
  go_enter Tryz.func80, Tryz.ntmps80
  go_wp2_with fail
  refine HX.out.mono ?_
  rintro e w1 ⟨rfl, hb1⟩
  clear HX
  have h1 := HH.out.1.below hb1
  have H1 : Hid (AtP w1 lo b (.slice (some ⟨g, 0, none⟩) m.regs.length c) mv ov m ∧ Below lo w w1 ∧ lo ≤ w1.heap.size) := ⟨h1, hb1.mono HH.out.2, Nat.le_trans HH.out.2 hb1.size⟩
  obtain ⟨⟨z0, z1, z2, z3, z4, z5, z6, z7, z8, z9, z10, z11⟩, zf, zl⟩ := twelve_cells h1.box
  rw [hf] at z7
  have hne : ¬ b = w1.heap.size := by omega
  clear hf HH hb1 h1
  have HC := exec_Ld (m := m) HF.out a k n value
  rw [← ER.out] at HC
  have HC : Hid (((m.loaded a k n).fin = 0 ∧ R = ({ m.loaded a k n with pc := foldF (m.pc + 1) }, -1)) ∨ ((m.loaded a k n).fin ≠ 0 ∧ R = (m.loaded a k n, -1))) := HC
  go_wp2_with fail
  refine (load_any lo b _ _ _ m 5 a k n _ (H1.out.1.below (below_alloc _ _)) (by simp; have := H1.out.2.2; omega) HM.out ⟨a0, a7⟩ ⟨k0, k7⟩ ⟨n0, n7⟩).mono ?_
  rintro e w5 ⟨rfl, hA, hB⟩
  have HA : Hid (AtP w5 lo b (.slice (some ⟨g, 0, none⟩) m.regs.length c) mv ov (m.loaded a k n) ∧ Below lo w w5) := ⟨hA, H1.out.2.1.trans (((below_alloc _ _).mono H1.out.2.2).trans hB)⟩
  clear z0 z1 z2 z3 z4 z5 z6 z7 z8 z9 z10 z11 zf zl hne hA hB
  obtain ⟨M2, e2⟩ : ∃ M2, M2 = m.loaded a k n := ⟨_, rfl⟩
  rw [← e2] at HA HC
  clear e2
  obtain ⟨⟨z0, z1, z2, z3, z4, z5, z6, z7, z8, z9, z10, z11⟩, zf, zl⟩ := twelve_cells HA.out.1.box
  by_cases hf2 : M2.fin = 0
  · rw [hf2] at z7
    have HR : Hid (R = ({ M2 with pc := foldF (m.pc + 1) }, -1)) := by
      rcases HC.out with ⟨_, e⟩ | ⟨e, _⟩
      · exact e
      · exact absurd hf2 e
    clear hf2 HC
    go_wp2_with fail
    refine (Fold_same _ _ (by omega) (by omega)).mono ?_
    rintro e w9 ⟨rfl, rfl⟩
    go_wp2_with fail
    go_ret
    rw [HR.out]
    exact ⟨rfl, ⟨_, (HA.out.1.setPc (foldF (m.pc + 1))).1⟩, HA.out.2.trans (HA.out.1.setPc (foldF (m.pc + 1))).2⟩
  · have HR : Hid (R = (M2, -1)) := by
      rcases HC.out with ⟨e, _⟩ | ⟨_, e⟩
      · exact absurd e hf2
      · exact e
    have d2 : (M2.fin == 0) = false := by simpa using hf2
    clear hf2 HC
    go_wp2_with fail
    go_ret
    rw [HR.out]
    exact ⟨rfl, ⟨_, HA.out.1⟩, HA.out.2⟩

set_option maxRecDepth 100000 in
set_option maxHeartbeats 4000000 in
theorem doNext_6 (lo b : Nat) (rv mv ov : Value) (m : Mach) (a k n value : Int) (w : World) (h : AtP w lo b rv mv ov m) (hlo : lo ≤ w.heap.size) (hm : MayP m) (hf : m.fin = 0) (ha : 0 ≤ a ∧ a ≤ 7) (hk : 0 ≤ k ∧ k ≤ 7) (hn : -1048576 ≤ n ∧ n ≤ 1048575)
    (hnr : 6 = (2 : Int) ∨ 6 = (3 : Int) → 0 ≤ n ∧ n ≤ 7)
    (hx : Calls Tryz.prog 113 #[ptr b] w fun e w' => e = .returned (.tuple #[.agg #[.int .i64 6, .int .i64 a, .int .i64 k, .int .i64 n], .int .i64 0]) ∧ Below w.heap.size w w') :
    Calls Tryz.prog 80 #[ptr b, .int .i64 value] w fun e w' => e = .returned (.int .i64 (m.exec 6 a k n value).2) ∧ (∃ ov', AtP w' lo b rv mv ov' (m.exec 6 a k n value).1) ∧ Below lo w w' := by
  obtain ⟨R, eR⟩ : ∃ R, R = m.exec 6 a k n value := ⟨_, rfl⟩
  rw [← eR]
  obtain ⟨g, c, rfl, -, -, -⟩ := h.regs_at hm.regs
  obtain ⟨p1, p2⟩ := wordB_iff.1 hm.pc
  have HX : Hid (Calls Tryz.prog 113 #[ptr b] w fun e w' => e = .returned (.tuple #[.agg #[.int .i64 6, .int .i64 a, .int .i64 k, .int .i64 n], .int .i64 0]) ∧ Below w.heap.size w w') := hx
  have HM : Hid (MayP m) := hm
  have HF : Hid (m.fin = 0) := hf
  have HH : Hid (AtP w lo b (.slice (some ⟨g, 0, none⟩) m.regs.length c) mv ov m ∧ lo ≤ w.heap.size) := ⟨h, hlo⟩
  have HBD : Hid ((0 ≤ a ∧ a ≤ 7) ∧ (0 ≤ k ∧ k ≤ 7) ∧ (-1048576 ≤ n ∧ n ≤ 1048575)) := ⟨ha, hk, hn⟩
  have HNR : Hid (6 = (2 : Int) ∨ 6 = (3 : Int) → 0 ≤ n ∧ n ≤ 7) := hnr
  have ER : Hid (R = m.exec 6 a k n value) := eR
  obtain ⟨a0, a7⟩ := ha
  obtain ⟨k0, k7⟩ := hk
  obtain ⟨n0, n7⟩ := hn
  have ab : a < (m.regs.length : Int) := by have := hm.regs; omega
  have kb : k < (m.regs.length : Int) := by have := hm.regs; omega
  clear hx h hm eR hnr
  go_enter Tryz.func80, Tryz.ntmps80
  go_wp2_with fail
  refine HX.out.mono ?_
  rintro e w1 ⟨rfl, hb1⟩
  clear HX
  have h1 := HH.out.1.below hb1
  have H1 : Hid (AtP w1 lo b (.slice (some ⟨g, 0, none⟩) m.regs.length c) mv ov m ∧ Below lo w w1 ∧ lo ≤ w1.heap.size) := ⟨h1, hb1.mono HH.out.2, Nat.le_trans HH.out.2 hb1.size⟩
  obtain ⟨⟨z0, z1, z2, z3, z4, z5, z6, z7, z8, z9, z10, z11⟩, zf, zl⟩ := twelve_cells h1.box
  rw [hf] at z7
  have hne : ¬ b = w1.heap.size := by omega
  clear hf HH hb1 h1
  have HC := exec_St (m := m) HF.out a k n value
  rw [← ER.out] at HC
  have HC : Hid (((m.stored a k n).fin = 0 ∧ R = ({ m.stored a k n with pc := foldF (m.pc + 1) }, m.wrote k n)) ∨ ((m.stored a k n).fin ≠ 0 ∧ R = (m.stored a k n, m.wrote k n))) := HC
  go_wp2_with fail
  refine (store_any lo b _ _ _ m 6 a k n _ (H1.out.1.below (below_alloc _ _)) (by simp; have := H1.out.2.2; omega) HM.out ⟨a0, a7⟩ ⟨k0, k7⟩ ⟨n0, n7⟩).mono ?_
  rintro e w5 ⟨rfl, hA, hB⟩
  have HA : Hid (AtP w5 lo b (.slice (some ⟨g, 0, none⟩) m.regs.length c) mv ov (m.stored a k n) ∧ Below lo w w5) := ⟨hA, H1.out.2.1.trans (((below_alloc _ _).mono H1.out.2.2).trans hB)⟩
  clear z0 z1 z2 z3 z4 z5 z6 z7 z8 z9 z10 z11 zf zl hne hA hB
  obtain ⟨M2, e2⟩ : ∃ M2, M2 = m.stored a k n := ⟨_, rfl⟩
  rw [← e2] at HA HC
  clear e2
  obtain ⟨V, eV⟩ : ∃ V, V = m.wrote k n := ⟨_, rfl⟩
  rw [← eV] at HC ⊢
  clear eV
  obtain ⟨⟨z0, z1, z2, z3, z4, z5, z6, z7, z8, z9, z10, z11⟩, zf, zl⟩ := twelve_cells HA.out.1.box
  by_cases hf2 : M2.fin = 0
  · rw [hf2] at z7
    have HR : Hid (R = ({ M2 with pc := foldF (m.pc + 1) }, V)) := by
      rcases HC.out with ⟨_, e⟩ | ⟨e, _⟩
      · exact e
      · exact absurd hf2 e
    clear hf2 HC
    go_wp2_with fail
    refine (Fold_same _ _ (by omega) (by omega)).mono ?_
    rintro e w9 ⟨rfl, rfl⟩
    go_wp2_with fail
    go_ret
    rw [HR.out]
    exact ⟨rfl, ⟨_, (HA.out.1.setPc (foldF (m.pc + 1))).1⟩, HA.out.2.trans (HA.out.1.setPc (foldF (m.pc + 1))).2⟩
  · have HR : Hid (R = (M2, V)) := by
      rcases HC.out with ⟨e, _⟩ | ⟨_, e⟩
      · exact absurd e hf2
      · exact e
    have d2 : (M2.fin == 0) = false := by simpa using hf2
    clear hf2 HC
    go_wp2_with fail
    go_ret
    rw [HR.out]
    exact ⟨rfl, ⟨_, HA.out.1⟩, HA.out.2⟩

set_option maxRecDepth 100000 in
set_option maxHeartbeats 4000000 in
theorem doNext_10 (lo b : Nat) (rv mv ov : Value) (m : Mach) (a k n value : Int) (w : World) (h : AtP w lo b rv mv ov m) (hlo : lo ≤ w.heap.size) (hm : MayP m) (hf : m.fin = 0) (ha : 0 ≤ a ∧ a ≤ 7) (hk : 0 ≤ k ∧ k ≤ 7) (hn : -1048576 ≤ n ∧ n ≤ 1048575)
    (hnr : 10 = (2 : Int) ∨ 10 = (3 : Int) → 0 ≤ n ∧ n ≤ 7)
    (hx : Calls Tryz.prog 113 #[ptr b] w fun e w' => e = .returned (.tuple #[.agg #[.int .i64 10, .int .i64 a, .int .i64 k, .int .i64 n], .int .i64 0]) ∧ Below w.heap.size w w') :
    Calls Tryz.prog 80 #[ptr b, .int .i64 value] w fun e w' => e = .returned (.int .i64 (m.exec 10 a k n value).2) ∧ (∃ ov', AtP w' lo b rv mv ov' (m.exec 10 a k n value).1) ∧ Below lo w w' := by
  obtain ⟨R, eR⟩ : ∃ R, R = m.exec 10 a k n value := ⟨_, rfl⟩
  rw [← eR]
  obtain ⟨g, c, rfl, -, -, -⟩ := h.regs_at hm.regs
  obtain ⟨p1, p2⟩ := wordB_iff.1 hm.pc
  have HX : Hid (Calls Tryz.prog 113 #[ptr b] w fun e w' => e = .returned (.tuple #[.agg #[.int .i64 10, .int .i64 a, .int .i64 k, .int .i64 n], .int .i64 0]) ∧ Below w.heap.size w w') := hx
  have HM : Hid (MayP m) := hm
  have HF : Hid (m.fin = 0) := hf
  have HH : Hid (AtP w lo b (.slice (some ⟨g, 0, none⟩) m.regs.length c) mv ov m ∧ lo ≤ w.heap.size) := ⟨h, hlo⟩
  have HBD : Hid ((0 ≤ a ∧ a ≤ 7) ∧ (0 ≤ k ∧ k ≤ 7) ∧ (-1048576 ≤ n ∧ n ≤ 1048575)) := ⟨ha, hk, hn⟩
  have HNR : Hid (10 = (2 : Int) ∨ 10 = (3 : Int) → 0 ≤ n ∧ n ≤ 7) := hnr
  have ER : Hid (R = m.exec 10 a k n value) := eR
  obtain ⟨a0, a7⟩ := ha
  obtain ⟨k0, k7⟩ := hk
  obtain ⟨n0, n7⟩ := hn
  have ab : a < (m.regs.length : Int) := by have := hm.regs; omega
  have kb : k < (m.regs.length : Int) := by have := hm.regs; omega
  clear hx h hm eR hnr
  go_enter Tryz.func80, Tryz.ntmps80
  go_wp2_with fail
  refine HX.out.mono ?_
  rintro e w1 ⟨rfl, hb1⟩
  clear HX
  have h1 := HH.out.1.below hb1
  have H1 : Hid (AtP w1 lo b (.slice (some ⟨g, 0, none⟩) m.regs.length c) mv ov m ∧ Below lo w w1 ∧ lo ≤ w1.heap.size) := ⟨h1, hb1.mono HH.out.2, Nat.le_trans HH.out.2 hb1.size⟩
  obtain ⟨⟨z0, z1, z2, z3, z4, z5, z6, z7, z8, z9, z10, z11⟩, zf, zl⟩ := twelve_cells h1.box
  rw [hf] at z7
  have hne : ¬ b = w1.heap.size := by omega
  clear hf HH hb1 h1
  have HC := exec_In (m := m) HF.out a k n value
  rw [← ER.out] at HC
  have HC : Hid (((m.inned a n value).fin = 0 ∧ R = ({ m.inned a n value with pc := foldF (m.pc + 1) }, -1)) ∨ ((m.inned a n value).fin ≠ 0 ∧ R = (m.inned a n value, -1))) := HC
  go_wp2_with fail
  refine (in_any lo b _ _ _ m 10 a k n value _ (H1.out.1.below (below_alloc _ _)) (by simp; have := H1.out.2.2; omega) HM.out ⟨a0, a7⟩).mono ?_
  rintro e w5 ⟨rfl, hA, hB⟩
  have HA : Hid (AtP w5 lo b (.slice (some ⟨g, 0, none⟩) m.regs.length c) mv ov (m.inned a n value) ∧ Below lo w w5) := ⟨hA, H1.out.2.1.trans (((below_alloc _ _).mono H1.out.2.2).trans hB)⟩
  clear z0 z1 z2 z3 z4 z5 z6 z7 z8 z9 z10 z11 zf zl hne hA hB
  obtain ⟨M2, e2⟩ : ∃ M2, M2 = m.inned a n value := ⟨_, rfl⟩
  rw [← e2] at HA HC
  clear e2
  obtain ⟨⟨z0, z1, z2, z3, z4, z5, z6, z7, z8, z9, z10, z11⟩, zf, zl⟩ := twelve_cells HA.out.1.box
  by_cases hf2 : M2.fin = 0
  · rw [hf2] at z7
    have HR : Hid (R = ({ M2 with pc := foldF (m.pc + 1) }, -1)) := by
      rcases HC.out with ⟨_, e⟩ | ⟨e, _⟩
      · exact e
      · exact absurd hf2 e
    clear hf2 HC
    go_wp2_with fail
    refine (Fold_same _ _ (by omega) (by omega)).mono ?_
    rintro e w9 ⟨rfl, rfl⟩
    go_wp2_with fail
    go_ret
    rw [HR.out]
    exact ⟨rfl, ⟨_, (HA.out.1.setPc (foldF (m.pc + 1))).1⟩, HA.out.2.trans (HA.out.1.setPc (foldF (m.pc + 1))).2⟩
  · have HR : Hid (R = (M2, -1)) := by
      rcases HC.out with ⟨e, _⟩ | ⟨_, e⟩
      · exact absurd e hf2
      · exact e
    have d2 : (M2.fin == 0) = false := by simpa using hf2
    clear hf2 HC
    go_wp2_with fail
    go_ret
    rw [HR.out]
    exact ⟨rfl, ⟨_, HA.out.1⟩, HA.out.2⟩

set_option maxRecDepth 100000 in
set_option maxHeartbeats 4000000 in
theorem doNext_11 (lo b : Nat) (rv mv ov : Value) (m : Mach) (a k n value : Int) (w : World) (h : AtP w lo b rv mv ov m) (hlo : lo ≤ w.heap.size) (hm : MayP m) (hf : m.fin = 0) (ha : 0 ≤ a ∧ a ≤ 7) (hk : 0 ≤ k ∧ k ≤ 7) (hn : -1048576 ≤ n ∧ n ≤ 1048575)
    (hnr : 11 = (2 : Int) ∨ 11 = (3 : Int) → 0 ≤ n ∧ n ≤ 7)
    (hx : Calls Tryz.prog 113 #[ptr b] w fun e w' => e = .returned (.tuple #[.agg #[.int .i64 11, .int .i64 a, .int .i64 k, .int .i64 n], .int .i64 0]) ∧ Below w.heap.size w w') :
    Calls Tryz.prog 80 #[ptr b, .int .i64 value] w fun e w' => e = .returned (.int .i64 (m.exec 11 a k n value).2) ∧ (∃ ov', AtP w' lo b rv mv ov' (m.exec 11 a k n value).1) ∧ Below lo w w' := by
  obtain ⟨R, eR⟩ : ∃ R, R = m.exec 11 a k n value := ⟨_, rfl⟩
  rw [← eR]
  obtain ⟨g, c, rfl, -, -, -⟩ := h.regs_at hm.regs
  obtain ⟨p1, p2⟩ := wordB_iff.1 hm.pc
  have HX : Hid (Calls Tryz.prog 113 #[ptr b] w fun e w' => e = .returned (.tuple #[.agg #[.int .i64 11, .int .i64 a, .int .i64 k, .int .i64 n], .int .i64 0]) ∧ Below w.heap.size w w') := hx
  have HM : Hid (MayP m) := hm
  have HF : Hid (m.fin = 0) := hf
  have HH : Hid (AtP w lo b (.slice (some ⟨g, 0, none⟩) m.regs.length c) mv ov m ∧ lo ≤ w.heap.size) := ⟨h, hlo⟩
  have HBD : Hid ((0 ≤ a ∧ a ≤ 7) ∧ (0 ≤ k ∧ k ≤ 7) ∧ (-1048576 ≤ n ∧ n ≤ 1048575)) := ⟨ha, hk, hn⟩
  have HNR : Hid (11 = (2 : Int) ∨ 11 = (3 : Int) → 0 ≤ n ∧ n ≤ 7) := hnr
  have ER : Hid (R = m.exec 11 a k n value) := eR
  obtain ⟨a0, a7⟩ := ha
  obtain ⟨k0, k7⟩ := hk
  obtain ⟨n0, n7⟩ := hn
  have ab : a < (m.regs.length : Int) := by have := hm.regs; omega
  have kb : k < (m.regs.length : Int) := by have := hm.regs; omega
  clear hx h hm eR hnr
  go_enter Tryz.func80, Tryz.ntmps80
  go_wp2_with fail
  refine HX.out.mono ?_
  rintro e w1 ⟨rfl, hb1⟩
  clear HX
  have h1 := HH.out.1.below hb1
  have H1 : Hid (AtP w1 lo b (.slice (some ⟨g, 0, none⟩) m.regs.length c) mv ov m ∧ Below lo w w1 ∧ lo ≤ w1.heap.size) := ⟨h1, hb1.mono HH.out.2, Nat.le_trans HH.out.2 hb1.size⟩
  obtain ⟨⟨z0, z1, z2, z3, z4, z5, z6, z7, z8, z9, z10, z11⟩, zf, zl⟩ := twelve_cells h1.box
  rw [hf] at z7
  have hne : ¬ b = w1.heap.size := by omega
  clear hf HH hb1 h1
  have HC := exec_Out (m := m) HF.out a k n value
  rw [← ER.out] at HC
  have HC : Hid (((m.outed a n).fin = 0 ∧ R = ({ m.outed a n with pc := foldF (m.pc + 1) }, -1)) ∨ ((m.outed a n).fin ≠ 0 ∧ R = (m.outed a n, -1))) := HC
  go_wp2_with fail
  refine (out_any lo b _ _ _ m 11 a k n _ (H1.out.1.below (below_alloc _ _)) (by simp; have := H1.out.2.2; omega) HM.out ⟨a0, a7⟩).mono ?_
  rintro e w5 ⟨rfl, ⟨ov5, hA⟩, hB⟩
  have HA : Hid (AtP w5 lo b (.slice (some ⟨g, 0, none⟩) m.regs.length c) mv ov5 (m.outed a n) ∧ Below lo w w5) := ⟨hA, H1.out.2.1.trans (((below_alloc _ _).mono H1.out.2.2).trans hB)⟩
  clear z0 z1 z2 z3 z4 z5 z6 z7 z8 z9 z10 z11 zf zl hne hA hB
  obtain ⟨M2, e2⟩ : ∃ M2, M2 = m.outed a n := ⟨_, rfl⟩
  rw [← e2] at HA HC
  clear e2
  obtain ⟨⟨z0, z1, z2, z3, z4, z5, z6, z7, z8, z9, z10, z11⟩, zf, zl⟩ := twelve_cells HA.out.1.box
  by_cases hf2 : M2.fin = 0
  · rw [hf2] at z7
    have HR : Hid (R = ({ M2 with pc := foldF (m.pc + 1) }, -1)) := by
      rcases HC.out with ⟨_, e⟩ | ⟨e, _⟩
      · exact e
      · exact absurd hf2 e
    clear hf2 HC
    go_wp2_with fail
    refine (Fold_same _ _ (by omega) (by omega)).mono ?_
    rintro e w9 ⟨rfl, rfl⟩
    go_wp2_with fail
    go_ret
    rw [HR.out]
    exact ⟨rfl, ⟨_, (HA.out.1.setPc (foldF (m.pc + 1))).1⟩, HA.out.2.trans (HA.out.1.setPc (foldF (m.pc + 1))).2⟩
  · have HR : Hid (R = (M2, -1)) := by
      rcases HC.out with ⟨e, _⟩ | ⟨_, e⟩
      · exact absurd e hf2
      · exact e
    have d2 : (M2.fin == 0) = false := by simpa using hf2
    clear hf2 HC
    go_wp2_with fail
    go_ret
    rw [HR.out]
    exact ⟨rfl, ⟨_, HA.out.1⟩, HA.out.2⟩

end Go.Proofs.YtecpblabaelopaaGreatDoor

/- Contracts of cpu.doNext, by operator: Jz, Jn, Jmp. -/

namespace Go.Proofs.YtecpblabaelopaaGreatDoor
open Go.RowKit
set_option maxRecDepth 100000
set_option linter.unusedVariables false

set_option maxRecDepth 100000 in
set_option maxHeartbeats 4000000 in
theorem doNext_7 (lo b : Nat) (rv mv ov : Value) (m : Mach) (a k n value : Int) (w : World) (h : AtP w lo b rv mv ov m) (hlo : lo ≤ w.heap.size) (hm : MayP m) (hf : m.fin = 0) (ha : 0 ≤ a ∧ a ≤ 7) (hk : 0 ≤ k ∧ k ≤ 7) (hn : -1048576 ≤ n ∧ n ≤ 1048575)
    (hnr : 7 = (2 : Int) ∨ 7 = (3 : Int) → 0 ≤ n ∧ n ≤ 7)
    (hx : Calls Tryz.prog 113 #[ptr b] w fun e w' => e = .returned (.tuple #[.agg #[.int .i64 7, .int .i64 a, .int .i64 k, .int .i64 n], .int .i64 0]) ∧ Below w.heap.size w w') :
    Calls Tryz.prog 80 #[ptr b, .int .i64 value] w fun e w' => e = .returned (.int .i64 (m.exec 7 a k n value).2) ∧ (∃ ov', AtP w' lo b rv mv ov' (m.exec 7 a k n value).1) ∧ Below lo w w' := by
  obtain ⟨R, eR⟩ : ∃ R, R = m.exec 7 a k n value := ⟨_, rfl⟩
  rw [← eR]
  obtain ⟨g, c, rfl, -, -, -⟩ := h.regs_at hm.regs
  obtain ⟨p1, p2⟩ := wordB_iff.1 hm.pc
  have HX : Hid (Calls Tryz.prog 113 #[ptr b] w fun e w' => e = .returned (.tuple #[.agg #[.int .i64 7, .int .i64 a, .int .i64 k, .int .i64 n], .int .i64 0]) ∧ Below w.heap.size w w') := hx
  have HM : Hid (MayP m) := hm
  have HF : Hid (m.fin = 0) := hf
  have HH : Hid (AtP w lo b (.slice (some ⟨g, 0, none⟩) m.regs.length c) mv ov m ∧ lo ≤ w.heap.size) := ⟨h, hlo⟩
  have HBD : Hid ((0 ≤ a ∧ a ≤ 7) ∧ (0 ≤ k ∧ k ≤ 7) ∧ (-1048576 ≤ n ∧ n ≤ 1048575)) := ⟨ha, hk, hn⟩
  have HNR : Hid (7 = (2 : Int) ∨ 7 = (3 : Int) → 0 ≤ n ∧ n ≤ 7) := hnr
  have ER : Hid (R = m.exec 7 a k n value) := eR
  obtain ⟨a0, a7⟩ := ha
  obtain ⟨k0, k7⟩ := hk
  obtain ⟨n0, n7⟩ := hn
  have ab : a < (m.regs.length : Int) := by have := hm.regs; omega
  have kb : k < (m.regs.length : Int) := by have := hm.regs; omega
  clear hx h hm eR hnr
  go_enter Tryz.func80, Tryz.ntmps80
  go_wp2_with fail
  refine HX.out.mono ?_
  rintro e w1 ⟨rfl, hb1⟩
  clear HX
  have h1 := HH.out.1.below hb1
  have H1 : Hid (AtP w1 lo b (.slice (some ⟨g, 0, none⟩) m.regs.length c) mv ov m ∧ Below lo w w1 ∧ lo ≤ w1.heap.size) := ⟨h1, hb1.mono HH.out.2, Nat.le_trans HH.out.2 hb1.size⟩
  obtain ⟨⟨z0, z1, z2, z3, z4, z5, z6, z7, z8, z9, z10, z11⟩, zf, zl⟩ := twelve_cells h1.box
  rw [hf] at z7
  have hne : ¬ b = w1.heap.size := by omega
  clear hf HH hb1 h1
  go_wp2_with fail
  rw [show w1.alloc (.cells #[.int .i64 7, .int .i64 a, .int .i64 k, .int .i64 n] 103) = w1.alloc (.cells #[.int .i64 7, .int .i64 a, .int .i64 k, .int .i64 n] 103) from rfl]
  have hx := Go.Deep.blk_alloc_new w1 (.cells #[.int .i64 7, .int .i64 a, .int .i64 k, .int .i64 n] 103)
  have hb2 := below_alloc w1 (.cells #[.int .i64 7, .int .i64 a, .int .i64 k, .int .i64 n] 103)
  have h2 := H1.out.1.below hb2
  have H2 : Hid (AtP _ lo b (.slice (some ⟨g, 0, none⟩) m.regs.length c) mv ov m ∧ Below lo w _ ∧ lo ≤ _) := ⟨h2, H1.out.2.1.trans (hb2.mono H1.out.2.2), Nat.le_trans H1.out.2.2 hb2.size⟩
  generalize w1.alloc (.cells #[.int .i64 7, .int .i64 a, .int .i64 k, .int .i64 n] 103) = W at hx hb2 h2 H2 ⊢
  clear z0 z1 z2 z3 z4 z5 z6 z7 z8 z9 z10 z11 zf zl hne
  obtain ⟨⟨z0, z1, z2, z3, z4, z5, z6, z7, z8, z9, z10, z11⟩, zf, zl⟩ := twelve_cells h2.box
  rw [HF.out] at z7
  obtain ⟨x0, x1, x2, x3, xf, xl⟩ := four_cells hx
  obtain ⟨q3, q4, q5⟩ := h2.reg_cell HM.out.regs a0 a7
  have gb : ¬ b = g := h2.ne_regs
  have gb2 : ¬ g = b := fun e => gb e.symm
  clear hx hb2 h2
  obtain ⟨x, ex⟩ : ∃ x, x = m.reg a := ⟨_, rfl⟩
  rw [← ex] at q3
  have EX : Hid (x = m.reg a) := ex
  clear ex
  have HJ : Hid (∀ y, Calls Tryz.prog 117 #[.int .i64 7, .int .i64 x] (W.drewN y) fun e w' => e = .returned (.bool (jumpB 7 x)) ∧ w' = W.drewN y) := fun y => jumps_any 7 x _
  cases cj : jumpB 7 x with
  | true =>
    rw [cj] at HJ
    have HR : Hid (R = (({ m with pc := foldF (m.pc + n) } : Mach), -1)) := by
      show _ = _
      rw [ER.out]
      have e := EX.out
      simp [jumpB] at cj
      subst cj
      simp [Mach.exec, Mach.go, ← e]
    go_quiet ((go_at_call 117; exact Calls.quiet_of_same (HJ.out _)))
    clear HJ cj
    go_wp2_with fail
    go_quiet (fail)
    go_wp2_with fail
    refine (Fold_same _ _ (by omega) (by omega)).mono ?_
    rintro e w9 ⟨rfl, rfl⟩
    go_wp2_with fail
    go_ret
    rw [HR.out]
    exact ⟨rfl, ⟨_, ((H2.out.1.below (below_drewN (Below.refl _ _) _)).setPc (foldF (m.pc + n))).1⟩, (below_drewN H2.out.2.1 _).trans ((H2.out.1.below (below_drewN (Below.refl _ _) _)).setPc (foldF (m.pc + n))).2⟩
  | false =>
    rw [cj] at HJ
    have HR : Hid (R = (({ m with pc := foldF (m.pc + 1) } : Mach), -1)) := by
      show _ = _
      rw [ER.out]
      have e := EX.out
      simp [jumpB] at cj
      have cj2 : ¬ x = 0 := by omega
      simp [Mach.exec, Mach.go, ← e, cj2]
    go_quiet ((go_at_call 117; exact Calls.quiet_of_same (HJ.out _)))
    clear HJ cj
    go_wp2_with fail
    refine (Fold_same _ _ (by omega) (by omega)).mono ?_
    rintro e w9 ⟨rfl, rfl⟩
    go_wp2_with fail
    go_ret
    rw [HR.out]
    exact ⟨rfl, ⟨_, ((H2.out.1.below (below_drewN (Below.refl _ _) _)).setPc (foldF (m.pc + 1))).1⟩, (below_drewN H2.out.2.1 _).trans ((H2.out.1.below (below_drewN (Below.refl _ _) _)).setPc (foldF (m.pc + 1))).2⟩

set_option maxRecDepth 100000 in
set_option maxHeartbeats 4000000 in
theorem doNext_8 (lo b : Nat) (rv mv ov : Value) (m : Mach) (a k n value : Int) (w : World) (h : AtP w lo b rv mv ov m) (hlo : lo ≤ w.heap.size) (hm : MayP m) (hf : m.fin = 0) (ha : 0 ≤ a ∧ a ≤ 7) (hk : 0 ≤ k ∧ k ≤ 7) (hn : -1048576 ≤ n ∧ n ≤ 1048575)
    (hnr : 8 = (2 : Int) ∨ 8 = (3 : Int) → 0 ≤ n ∧ n ≤ 7)
    (hx : Calls Tryz.prog 113 #[ptr b] w fun e w' => e = .returned (.tuple #[.agg #[.int .i64 8, .int .i64 a, .int .i64 k, .int .i64 n], .int .i64 0]) ∧ Below w.heap.size w w') :
    Calls Tryz.prog 80 #[ptr b, .int .i64 value] w fun e w' => e = .returned (.int .i64 (m.exec 8 a k n value).2) ∧ (∃ ov', AtP w' lo b rv mv ov' (m.exec 8 a k n value).1) ∧ Below lo w w' := by
  obtain ⟨R, eR⟩ : ∃ R, R = m.exec 8 a k n value := ⟨_, rfl⟩
  rw [← eR]
  obtain ⟨g, c, rfl, -, -, -⟩ := h.regs_at hm.regs
  obtain ⟨p1, p2⟩ := wordB_iff.1 hm.pc
  have HX : Hid (Calls Tryz.prog 113 #[ptr b] w fun e w' => e = .returned (.tuple #[.agg #[.int .i64 8, .int .i64 a, .int .i64 k, .int .i64 n], .int .i64 0]) ∧ Below w.heap.size w w') := hx
  have HM : Hid (MayP m) := hm
  have HF : Hid (m.fin = 0) := hf
  have HH : Hid (AtP w lo b (.slice (some ⟨g, 0, none⟩) m.regs.length c) mv ov m ∧ lo ≤ w.heap.size) := ⟨h, hlo⟩
  have HBD : Hid ((0 ≤ a ∧ a ≤ 7) ∧ (0 ≤ k ∧ k ≤ 7) ∧ (-1048576 ≤ n ∧ n ≤ 1048575)) := ⟨ha, hk, hn⟩
  have HNR : Hid (8 = (2 : Int) ∨ 8 = (3 : Int) → 0 ≤ n ∧ n ≤ 7) := hnr
  have ER : Hid (R = m.exec 8 a k n value) := eR
  obtain ⟨a0, a7⟩ := ha
  obtain ⟨k0, k7⟩ := hk
  obtain ⟨n0, n7⟩ := hn
  have ab : a < (m.regs.length : Int) := by have := hm.regs; omega
  have kb : k < (m.regs.length : Int) := by have := hm.regs; omega
  clear hx h hm eR hnr
  go_enter Tryz.func80, Tryz.ntmps80
  go_wp2_with fail
  refine HX.out.mono ?_
  rintro e w1 ⟨rfl, hb1⟩
  clear HX
  have h1 := HH.out.1.below hb1
  have H1 : Hid (AtP w1 lo b (.slice (some ⟨g, 0, none⟩) m.regs.length c) mv ov m ∧ Below lo w w1 ∧ lo ≤ w1.heap.size) := ⟨h1, hb1.mono HH.out.2, Nat.le_trans HH.out.2 hb1.size⟩
  obtain ⟨⟨z0, z1, z2, z3, z4, z5, z6, z7, z8, z9, z10, z11⟩, zf, zl⟩ := twelve_cells h1.box
  rw [hf] at z7
  have hne : ¬ b = w1.heap.size := by omega
  clear hf HH hb1 h1
  go_wp2_with fail
  rw [show w1.alloc (.cells #[.int .i64 8, .int .i64 a, .int .i64 k, .int .i64 n] 103) = w1.alloc (.cells #[.int .i64 8, .int .i64 a, .int .i64 k, .int .i64 n] 103) from rfl]
  have hx := Go.Deep.blk_alloc_new w1 (.cells #[.int .i64 8, .int .i64 a, .int .i64 k, .int .i64 n] 103)
  have hb2 := below_alloc w1 (.cells #[.int .i64 8, .int .i64 a, .int .i64 k, .int .i64 n] 103)
  have h2 := H1.out.1.below hb2
  have H2 : Hid (AtP _ lo b (.slice (some ⟨g, 0, none⟩) m.regs.length c) mv ov m ∧ Below lo w _ ∧ lo ≤ _) := ⟨h2, H1.out.2.1.trans (hb2.mono H1.out.2.2), Nat.le_trans H1.out.2.2 hb2.size⟩
  generalize w1.alloc (.cells #[.int .i64 8, .int .i64 a, .int .i64 k, .int .i64 n] 103) = W at hx hb2 h2 H2 ⊢
  clear z0 z1 z2 z3 z4 z5 z6 z7 z8 z9 z10 z11 zf zl hne
  obtain ⟨⟨z0, z1, z2, z3, z4, z5, z6, z7, z8, z9, z10, z11⟩, zf, zl⟩ := twelve_cells h2.box
  rw [HF.out] at z7
  obtain ⟨x0, x1, x2, x3, xf, xl⟩ := four_cells hx
  obtain ⟨q3, q4, q5⟩ := h2.reg_cell HM.out.regs a0 a7
  have gb : ¬ b = g := h2.ne_regs
  have gb2 : ¬ g = b := fun e => gb e.symm
  clear hx hb2 h2
  obtain ⟨x, ex⟩ : ∃ x, x = m.reg a := ⟨_, rfl⟩
  rw [← ex] at q3
  have EX : Hid (x = m.reg a) := ex
  clear ex
  have HJ : Hid (∀ y, Calls Tryz.prog 117 #[.int .i64 8, .int .i64 x] (W.drewN y) fun e w' => e = .returned (.bool (jumpB 8 x)) ∧ w' = W.drewN y) := fun y => jumps_any 8 x _
  cases cj : jumpB 8 x with
  | true =>
    rw [cj] at HJ
    have HR : Hid (R = (({ m with pc := foldF (m.pc + n) } : Mach), -1)) := by
      show _ = _
      rw [ER.out]
      have e := EX.out
      simp [jumpB] at cj
      skip
      simp [Mach.exec, Mach.go, ← e, cj]
    go_quiet ((go_at_call 117; exact Calls.quiet_of_same (HJ.out _)))
    clear HJ cj
    go_wp2_with fail
    go_quiet (fail)
    go_wp2_with fail
    refine (Fold_same _ _ (by omega) (by omega)).mono ?_
    rintro e w9 ⟨rfl, rfl⟩
    go_wp2_with fail
    go_ret
    rw [HR.out]
    exact ⟨rfl, ⟨_, ((H2.out.1.below (below_drewN (Below.refl _ _) _)).setPc (foldF (m.pc + n))).1⟩, (below_drewN H2.out.2.1 _).trans ((H2.out.1.below (below_drewN (Below.refl _ _) _)).setPc (foldF (m.pc + n))).2⟩
  | false =>
    rw [cj] at HJ
    have HR : Hid (R = (({ m with pc := foldF (m.pc + 1) } : Mach), -1)) := by
      show _ = _
      rw [ER.out]
      have e := EX.out
      simp [jumpB] at cj
      have cj2 : ¬ x < 0 := by omega
      simp [Mach.exec, Mach.go, ← e, cj2]
    go_quiet ((go_at_call 117; exact Calls.quiet_of_same (HJ.out _)))
    clear HJ cj
    go_wp2_with fail
    refine (Fold_same _ _ (by omega) (by omega)).mono ?_
    rintro e w9 ⟨rfl, rfl⟩
    go_wp2_with fail
    go_ret
    rw [HR.out]
    exact ⟨rfl, ⟨_, ((H2.out.1.below (below_drewN (Below.refl _ _) _)).setPc (foldF (m.pc + 1))).1⟩, (below_drewN H2.out.2.1 _).trans ((H2.out.1.below (below_drewN (Below.refl _ _) _)).setPc (foldF (m.pc + 1))).2⟩

set_option maxRecDepth 100000 in
set_option maxHeartbeats 4000000 in
theorem doNext_9 (lo b : Nat) (rv mv ov : Value) (m : Mach) (a k n value : Int) (w : World) (h : AtP w lo b rv mv ov m) (hlo : lo ≤ w.heap.size) (hm : MayP m) (hf : m.fin = 0) (ha : 0 ≤ a ∧ a ≤ 7) (hk : 0 ≤ k ∧ k ≤ 7) (hn : -1048576 ≤ n ∧ n ≤ 1048575)
    (hnr : 9 = (2 : Int) ∨ 9 = (3 : Int) → 0 ≤ n ∧ n ≤ 7)
    (hx : Calls Tryz.prog 113 #[ptr b] w fun e w' => e = .returned (.tuple #[.agg #[.int .i64 9, .int .i64 a, .int .i64 k, .int .i64 n], .int .i64 0]) ∧ Below w.heap.size w w') :
    Calls Tryz.prog 80 #[ptr b, .int .i64 value] w fun e w' => e = .returned (.int .i64 (m.exec 9 a k n value).2) ∧ (∃ ov', AtP w' lo b rv mv ov' (m.exec 9 a k n value).1) ∧ Below lo w w' := by
  obtain ⟨R, eR⟩ : ∃ R, R = m.exec 9 a k n value := ⟨_, rfl⟩
  rw [← eR]
  obtain ⟨g, c, rfl, -, -, -⟩ := h.regs_at hm.regs
  obtain ⟨p1, p2⟩ := wordB_iff.1 hm.pc
  have HX : Hid (Calls Tryz.prog 113 #[ptr b] w fun e w' => e = .returned (.tuple #[.agg #[.int .i64 9, .int .i64 a, .int .i64 k, .int .i64 n], .int .i64 0]) ∧ Below w.heap.size w w') := hx
  have HM : Hid (MayP m) := hm
  have HF : Hid (m.fin = 0) := hf
  have HH : Hid (AtP w lo b (.slice (some ⟨g, 0, none⟩) m.regs.length c) mv ov m ∧ lo ≤ w.heap.size) := ⟨h, hlo⟩
  have HBD : Hid ((0 ≤ a ∧ a ≤ 7) ∧ (0 ≤ k ∧ k ≤ 7) ∧ (-1048576 ≤ n ∧ n ≤ 1048575)) := ⟨ha, hk, hn⟩
  have HNR : Hid (9 = (2 : Int) ∨ 9 = (3 : Int) → 0 ≤ n ∧ n ≤ 7) := hnr
  have ER : Hid (R = m.exec 9 a k n value) := eR
  obtain ⟨a0, a7⟩ := ha
  obtain ⟨k0, k7⟩ := hk
  obtain ⟨n0, n7⟩ := hn
  have ab : a < (m.regs.length : Int) := by have := hm.regs; omega
  have kb : k < (m.regs.length : Int) := by have := hm.regs; omega
  clear hx h hm eR hnr
  go_enter Tryz.func80, Tryz.ntmps80
  go_wp2_with fail
  refine HX.out.mono ?_
  rintro e w1 ⟨rfl, hb1⟩
  clear HX
  have h1 := HH.out.1.below hb1
  have H1 : Hid (AtP w1 lo b (.slice (some ⟨g, 0, none⟩) m.regs.length c) mv ov m ∧ Below lo w w1 ∧ lo ≤ w1.heap.size) := ⟨h1, hb1.mono HH.out.2, Nat.le_trans HH.out.2 hb1.size⟩
  obtain ⟨⟨z0, z1, z2, z3, z4, z5, z6, z7, z8, z9, z10, z11⟩, zf, zl⟩ := twelve_cells h1.box
  rw [hf] at z7
  have hne : ¬ b = w1.heap.size := by omega
  clear hf HH hb1 h1
  go_wp2_with fail
  rw [show w1.alloc (.cells #[.int .i64 9, .int .i64 a, .int .i64 k, .int .i64 n] 103) = w1.alloc (.cells #[.int .i64 9, .int .i64 a, .int .i64 k, .int .i64 n] 103) from rfl]
  have hx := Go.Deep.blk_alloc_new w1 (.cells #[.int .i64 9, .int .i64 a, .int .i64 k, .int .i64 n] 103)
  have hb2 := below_alloc w1 (.cells #[.int .i64 9, .int .i64 a, .int .i64 k, .int .i64 n] 103)
  have h2 := H1.out.1.below hb2
  have H2 : Hid (AtP _ lo b (.slice (some ⟨g, 0, none⟩) m.regs.length c) mv ov m ∧ Below lo w _ ∧ lo ≤ _) := ⟨h2, H1.out.2.1.trans (hb2.mono H1.out.2.2), Nat.le_trans H1.out.2.2 hb2.size⟩
  generalize w1.alloc (.cells #[.int .i64 9, .int .i64 a, .int .i64 k, .int .i64 n] 103) = W at hx hb2 h2 H2 ⊢
  clear z0 z1 z2 z3 z4 z5 z6 z7 z8 z9 z10 z11 zf zl hne
  obtain ⟨⟨z0, z1, z2, z3, z4, z5, z6, z7, z8, z9, z10, z11⟩, zf, zl⟩ := twelve_cells h2.box
  rw [HF.out] at z7
  obtain ⟨x0, x1, x2, x3, xf, xl⟩ := four_cells hx
  obtain ⟨q3, q4, q5⟩ := h2.reg_cell HM.out.regs a0 a7
  have gb : ¬ b = g := h2.ne_regs
  have gb2 : ¬ g = b := fun e => gb e.symm
  clear hx hb2 h2
  obtain ⟨x, ex⟩ : ∃ x, x = m.reg a := ⟨_, rfl⟩
  rw [← ex] at q3
  have EX : Hid (x = m.reg a) := ex
  clear ex
  have HJ : Hid (∀ y, Calls Tryz.prog 117 #[.int .i64 9, .int .i64 x] (W.drewN y) fun e w' => e = .returned (.bool (jumpB 9 x)) ∧ w' = W.drewN y) := fun y => jumps_any 9 x _
  cases cj : jumpB 9 x with
  | true =>
    rw [cj] at HJ
    have HR : Hid (R = (({ m with pc := foldF (m.pc + n) } : Mach), -1)) := by
      show _ = _
      rw [ER.out]
      have e := EX.out
      clear cj
      skip
      simp [Mach.exec, Mach.go]
    go_quiet ((go_at_call 117; exact Calls.quiet_of_same (HJ.out _)))
    clear HJ cj
    go_wp2_with fail
    go_quiet (fail)
    go_wp2_with fail
    refine (Fold_same _ _ (by omega) (by omega)).mono ?_
    rintro e w9 ⟨rfl, rfl⟩
    go_wp2_with fail
    go_ret
    rw [HR.out]
    exact ⟨rfl, ⟨_, ((H2.out.1.below (below_drewN (Below.refl _ _) _)).setPc (foldF (m.pc + n))).1⟩, (below_drewN H2.out.2.1 _).trans ((H2.out.1.below (below_drewN (Below.refl _ _) _)).setPc (foldF (m.pc + n))).2⟩
  | false => exact absurd cj (by simp [jumpB])

end Go.Proofs.YtecpblabaelopaaGreatDoor
