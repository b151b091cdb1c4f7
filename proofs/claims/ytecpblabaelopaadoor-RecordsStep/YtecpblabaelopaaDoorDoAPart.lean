/- Contracts of cpu.doNext, by operator: Halt, Li, Ei, Iret, Nop. -/
import Derived.Test.YtecpblabaelopaaDoorInfoPart
namespace Go.Proofs.YtecpblabaelopaaDoor
open Go.RowKit
set_option maxRecDepth 100000
set_option linter.unusedVariables false

set_option maxRecDepth 100000 in
set_option maxHeartbeats 4000000 in
theorem doNext_0 (lo b : Nat) (rv mv ov : Value) (m : Mach) (a k n value : Int) (w : World) (h : AtP w lo b rv mv ov m) (hlo : lo ≤ w.heap.size) (hm : MayP m) (hf : m.fin = 0) (ha : 0 ≤ a ∧ a ≤ 7) (hk : 0 ≤ k ∧ k ≤ 7) (hn : -1048576 ≤ n ∧ n ≤ 1048575)
    (hnr : 0 = (2 : Int) ∨ 0 = (3 : Int) → 0 ≤ n ∧ n ≤ 7)
    (hx : Calls Tryd.prog 59 #[ptr b] w fun e w' => e = .returned (.tuple #[.agg #[.int .i64 0, .int .i64 a, .int .i64 k, .int .i64 n], .int .i64 0]) ∧ Below w.heap.size w w') :
    Calls Tryd.prog 35 #[ptr b, .int .i64 value] w fun e w' => e = .returned (.int .i64 (m.exec 0 a k n value).2) ∧ (∃ ov', AtP w' lo b rv mv ov' (m.exec 0 a k n value).1) ∧ Below lo w w' := by
  obtain ⟨R, eR⟩ : ∃ R, R = m.exec 0 a k n value := ⟨_, rfl⟩
  rw [← eR]
  obtain ⟨g, c, rfl, -, -, -⟩ := h.regs_at hm.regs
  obtain ⟨p1, p2⟩ := wordB_iff.1 hm.pc
  have HX : Hid (Calls Tryd.prog 59 #[ptr b] w fun e w' => e = .returned (.tuple #[.agg #[.int .i64 0, .int .i64 a, .int .i64 k, .int .i64 n], .int .i64 0]) ∧ Below w.heap.size w w') := hx
  have HM : Hid (MayP m) := hm
  have HF : Hid (m.fin = 0) := hf
  have HH : Hid (AtP w lo b (.slice (some ⟨g, 0, none⟩) m.regs.length c) mv ov m ∧ lo ≤ w.heap.size) := ⟨h, hlo⟩
  have HBD : Hid ((0 ≤ a ∧ a ≤ 7) ∧ (0 ≤ k ∧ k ≤ 7) ∧ (-1048576 ≤ n ∧ n ≤ 1048575)) := ⟨ha, hk, hn⟩
  have HNR : Hid (0 = (2 : Int) ∨ 0 = (3 : Int) → 0 ≤ n ∧ n ≤ 7) := hnr
  have ER : Hid (R = m.exec 0 a k n value) := eR
  obtain ⟨a0, a7⟩ := ha
  obtain ⟨k0, k7⟩ := hk
  obtain ⟨n0, n7⟩ := hn
  have ab : a < (m.regs.length : Int) := by have := hm.regs; omega
  have kb : k < (m.regs.length : Int) := by have := hm.regs; omega
  clear hx h hm eR hnr
  go_enter Tryd.func35, Tryd.ntmps35
  go_wp2_with fail
  refine HX.out.mono ?_
  rintro e w1 ⟨rfl, hb1⟩
  clear HX
  have h1 := HH.out.1.below hb1
  have H1 : Hid (AtP w1 lo b (.slice (some ⟨g, 0, none⟩) m.regs.length c) mv ov m ∧ Below lo w w1 ∧ lo ≤ w1.heap.size) := ⟨h1, hb1.mono HH.out.2, Nat.le_trans HH.out.2 hb1.size⟩
  obtain ⟨⟨z0, z1, z2, z3, z4, z5, z6, z7, z8, z9, z10, z11⟩, zf, zl⟩ := twelve_cells h1.box
  rw [hf] at z7
  have hne : ¬ b = w1.heap.size := by omega
  clear hf HH hb1 h1
  go_wp2_with fail
  go_ret
  rw [show R = (({ m with fin := 1 } : Mach), -1) from ER.out]
  exact ⟨rfl, ⟨_, (H1.out.1.setFin 1).1.below (below_alloc _ _)⟩, H1.out.2.1.trans ((H1.out.1.setFin 1).2.trans ((below_alloc _ _).mono (by simpa using H1.out.2.2)))⟩

set_option maxRecDepth 100000 in
set_option maxHeartbeats 4000000 in
theorem doNext_1 (lo b : Nat) (rv mv ov : Value) (m : Mach) (a k n value : Int) (w : World) (h : AtP w lo b rv mv ov m) (hlo : lo ≤ w.heap.size) (hm : MayP m) (hf : m.fin = 0) (ha : 0 ≤ a ∧ a ≤ 7) (hk : 0 ≤ k ∧ k ≤ 7) (hn : -1048576 ≤ n ∧ n ≤ 1048575)
    (hnr : 1 = (2 : Int) ∨ 1 = (3 : Int) → 0 ≤ n ∧ n ≤ 7)
    (hx : Calls Tryd.prog 59 #[ptr b] w fun e w' => e = .returned (.tuple #[.agg #[.int .i64 1, .int .i64 a, .int .i64 k, .int .i64 n], .int .i64 0]) ∧ Below w.heap.size w w') :
    Calls Tryd.prog 35 #[ptr b, .int .i64 value] w fun e w' => e = .returned (.int .i64 (m.exec 1 a k n value).2) ∧ (∃ ov', AtP w' lo b rv mv ov' (m.exec 1 a k n value).1) ∧ Below lo w w' := by
  obtain ⟨R, eR⟩ : ∃ R, R = m.exec 1 a k n value := ⟨_, rfl⟩
  rw [← eR]
  obtain ⟨g, c, rfl, -, -, -⟩ := h.regs_at hm.regs
  obtain ⟨p1, p2⟩ := wordB_iff.1 hm.pc
  have HX : Hid (Calls Tryd.prog 59 #[ptr b] w fun e w' => e = .returned (.tuple #[.agg #[.int .i64 1, .int .i64 a, .int .i64 k, .int .i64 n], .int .i64 0]) ∧ Below w.heap.size w w') := hx
  have HM : Hid (MayP m) := hm
  have HF : Hid (m.fin = 0) := hf
  have HH : Hid (AtP w lo b (.slice (some ⟨g, 0, none⟩) m.regs.length c) mv ov m ∧ lo ≤ w.heap.size) := ⟨h, hlo⟩
  have HBD : Hid ((0 ≤ a ∧ a ≤ 7) ∧ (0 ≤ k ∧ k ≤ 7) ∧ (-1048576 ≤ n ∧ n ≤ 1048575)) := ⟨ha, hk, hn⟩
  have HNR : Hid (1 = (2 : Int) ∨ 1 = (3 : Int) → 0 ≤ n ∧ n ≤ 7) := hnr
  have ER : Hid (R = m.exec 1 a k n value) := eR
  obtain ⟨a0, a7⟩ := ha
  obtain ⟨k0, k7⟩ := hk
  obtain ⟨n0, n7⟩ := hn
  have ab : a < (m.regs.length : Int) := by have := hm.regs; omega
  have kb : k < (m.regs.length : Int) := by have := hm.regs; omega
  clear hx h hm eR hnr
  go_enter Tryd.func35, Tryd.ntmps35
  go_wp2_with fail
  refine HX.out.mono ?_
  rintro e w1 ⟨rfl, hb1⟩
  clear HX
  have h1 := HH.out.1.below hb1
  have H1 : Hid (AtP w1 lo b (.slice (some ⟨g, 0, none⟩) m.regs.length c) mv ov m ∧ Below lo w w1 ∧ lo ≤ w1.heap.size) := ⟨h1, hb1.mono HH.out.2, Nat.le_trans HH.out.2 hb1.size⟩
  obtain ⟨⟨z0, z1, z2, z3, z4, z5, z6, z7, z8, z9, z10, z11⟩, zf, zl⟩ := twelve_cells h1.box
  rw [hf] at z7
  have hne : ¬ b = w1.heap.size := by omega
  clear hf HH hb1 h1
  go_wp2_with fail
  rw [show w1.alloc (.cells #[.int .i64 1, .int .i64 a, .int .i64 k, .int .i64 n] 75) = w1.alloc (.cells #[.int .i64 1, .int .i64 a, .int .i64 k, .int .i64 n] 75) from rfl]
  have hx := Go.Deep.blk_alloc_new w1 (.cells #[.int .i64 1, .int .i64 a, .int .i64 k, .int .i64 n] 75)
  have hb2 := below_alloc w1 (.cells #[.int .i64 1, .int .i64 a, .int .i64 k, .int .i64 n] 75)
  have h2 := H1.out.1.below hb2
  have H2 : Hid (AtP _ lo b (.slice (some ⟨g, 0, none⟩) m.regs.length c) mv ov m ∧ Below lo w _ ∧ lo ≤ _) := ⟨h2, H1.out.2.1.trans (hb2.mono H1.out.2.2), Nat.le_trans H1.out.2.2 hb2.size⟩
  generalize w1.alloc (.cells #[.int .i64 1, .int .i64 a, .int .i64 k, .int .i64 n] 75) = W at hx hb2 h2 H2 ⊢
  clear z0 z1 z2 z3 z4 z5 z6 z7 z8 z9 z10 z11 zf zl hne
  obtain ⟨⟨z0, z1, z2, z3, z4, z5, z6, z7, z8, z9, z10, z11⟩, zf, zl⟩ := twelve_cells h2.box
  rw [HF.out] at z7
  obtain ⟨x0, x1, x2, x3, xf, xl⟩ := four_cells hx
  obtain ⟨q3, q4, q5⟩ := h2.reg_cell HM.out.regs a0 a7
  have gb : ¬ b = g := h2.ne_regs
  have gb2 : ¬ g = b := fun e => gb e.symm
  clear hx hb2 h2
  go_still_tail 9, (by kernel_rfl)
  go_wp2_with fail
  refine (Fold_same _ _ (by omega) (by omega)).mono ?_
  rintro e w9 ⟨rfl, rfl⟩
  go_wp2_with fail
  go_ret
  rw [show R = (({ m with regs := m.regs.set a.toNat n, pc := foldF (m.pc + 1) } : Mach), -1) from ER.out]
  have r1 := H2.out.1.drew.putReg a.toNat n
  have r2 := r1.1.setPc (foldF (m.pc + 1))
  exact ⟨rfl, ⟨_, r2.1⟩, (H2.out.2.1.drew).trans (r1.2.trans r2.2)⟩

set_option maxRecDepth 100000 in
set_option maxHeartbeats 4000000 in
theorem doNext_12 (lo b : Nat) (rv mv ov : Value) (m : Mach) (a k n value : Int) (w : World) (h : AtP w lo b rv mv ov m) (hlo : lo ≤ w.heap.size) (hm : MayP m) (hf : m.fin = 0) (ha : 0 ≤ a ∧ a ≤ 7) (hk : 0 ≤ k ∧ k ≤ 7) (hn : -1048576 ≤ n ∧ n ≤ 1048575)
    (hnr : 12 = (2 : Int) ∨ 12 = (3 : Int) → 0 ≤ n ∧ n ≤ 7)
    (hx : Calls Tryd.prog 59 #[ptr b] w fun e w' => e = .returned (.tuple #[.agg #[.int .i64 12, .int .i64 a, .int .i64 k, .int .i64 n], .int .i64 0]) ∧ Below w.heap.size w w') :
    Calls Tryd.prog 35 #[ptr b, .int .i64 value] w fun e w' => e = .returned (.int .i64 (m.exec 12 a k n value).2) ∧ (∃ ov', AtP w' lo b rv mv ov' (m.exec 12 a k n value).1) ∧ Below lo w w' := by
  obtain ⟨R, eR⟩ : ∃ R, R = m.exec 12 a k n value := ⟨_, rfl⟩
  rw [← eR]
  obtain ⟨g, c, rfl, -, -, -⟩ := h.regs_at hm.regs
  obtain ⟨p1, p2⟩ := wordB_iff.1 hm.pc
  have HX : Hid (Calls Tryd.prog 59 #[ptr b] w fun e w' => e = .returned (.tuple #[.agg #[.int .i64 12, .int .i64 a, .int .i64 k, .int .i64 n], .int .i64 0]) ∧ Below w.heap.size w w') := hx
  have HM : Hid (MayP m) := hm
  have HF : Hid (m.fin = 0) := hf
  have HH : Hid (AtP w lo b (.slice (some ⟨g, 0, none⟩) m.regs.length c) mv ov m ∧ lo ≤ w.heap.size) := ⟨h, hlo⟩
  have HBD : Hid ((0 ≤ a ∧ a ≤ 7) ∧ (0 ≤ k ∧ k ≤ 7) ∧ (-1048576 ≤ n ∧ n ≤ 1048575)) := ⟨ha, hk, hn⟩
  have HNR : Hid (12 = (2 : Int) ∨ 12 = (3 : Int) → 0 ≤ n ∧ n ≤ 7) := hnr
  have ER : Hid (R = m.exec 12 a k n value) := eR
  obtain ⟨a0, a7⟩ := ha
  obtain ⟨k0, k7⟩ := hk
  obtain ⟨n0, n7⟩ := hn
  have ab : a < (m.regs.length : Int) := by have := hm.regs; omega
  have kb : k < (m.regs.length : Int) := by have := hm.regs; omega
  clear hx h hm eR hnr
  go_enter Tryd.func35, Tryd.ntmps35
  go_wp2_with fail
  refine HX.out.mono ?_
  rintro e w1 ⟨rfl, hb1⟩
  clear HX
  have h1 := HH.out.1.below hb1
  have H1 : Hid (AtP w1 lo b (.slice (some ⟨g, 0, none⟩) m.regs.length c) mv ov m ∧ Below lo w w1 ∧ lo ≤ w1.heap.size) := ⟨h1, hb1.mono HH.out.2, Nat.le_trans HH.out.2 hb1.size⟩
  obtain ⟨⟨z0, z1, z2, z3, z4, z5, z6, z7, z8, z9, z10, z11⟩, zf, zl⟩ := twelve_cells h1.box
  rw [hf] at z7
  have hne : ¬ b = w1.heap.size := by omega
  clear hf HH hb1 h1
  go_wp2_with fail
  refine (Fold_same _ _ (by omega) (by omega)).mono ?_
  rintro e w9 ⟨rfl, rfl⟩
  go_wp2_with fail
  go_ret
  rw [show R = (({ m with ints := n == 1, pc := foldF (m.pc + 1) } : Mach), -1) from ER.out]
  have r1 := H1.out.1.setInts (n == 1)
  have r2 := r1.1.setPc (foldF (m.pc + 1))
  exact ⟨rfl, ⟨_, r2.1.below (below_alloc _ _)⟩, H1.out.2.1.trans ((r1.2.trans r2.2).trans ((below_alloc _ _).mono (by simpa using H1.out.2.2)))⟩

set_option maxRecDepth 100000 in
set_option maxHeartbeats 4000000 in
theorem doNext_13 (lo b : Nat) (rv mv ov : Value) (m : Mach) (a k n value : Int) (w : World) (h : AtP w lo b rv mv ov m) (hlo : lo ≤ w.heap.size) (hm : MayP m) (hf : m.fin = 0) (ha : 0 ≤ a ∧ a ≤ 7) (hk : 0 ≤ k ∧ k ≤ 7) (hn : -1048576 ≤ n ∧ n ≤ 1048575)
    (hnr : 13 = (2 : Int) ∨ 13 = (3 : Int) → 0 ≤ n ∧ n ≤ 7)
    (hx : Calls Tryd.prog 59 #[ptr b] w fun e w' => e = .returned (.tuple #[.agg #[.int .i64 13, .int .i64 a, .int .i64 k, .int .i64 n], .int .i64 0]) ∧ Below w.heap.size w w') :
    Calls Tryd.prog 35 #[ptr b, .int .i64 value] w fun e w' => e = .returned (.int .i64 (m.exec 13 a k n value).2) ∧ (∃ ov', AtP w' lo b rv mv ov' (m.exec 13 a k n value).1) ∧ Below lo w w' := by
  obtain ⟨R, eR⟩ : ∃ R, R = m.exec 13 a k n value := ⟨_, rfl⟩
  rw [← eR]
  obtain ⟨g, c, rfl, -, -, -⟩ := h.regs_at hm.regs
  obtain ⟨p1, p2⟩ := wordB_iff.1 hm.pc
  have HX : Hid (Calls Tryd.prog 59 #[ptr b] w fun e w' => e = .returned (.tuple #[.agg #[.int .i64 13, .int .i64 a, .int .i64 k, .int .i64 n], .int .i64 0]) ∧ Below w.heap.size w w') := hx
  have HM : Hid (MayP m) := hm
  have HF : Hid (m.fin = 0) := hf
  have HH : Hid (AtP w lo b (.slice (some ⟨g, 0, none⟩) m.regs.length c) mv ov m ∧ lo ≤ w.heap.size) := ⟨h, hlo⟩
  have HBD : Hid ((0 ≤ a ∧ a ≤ 7) ∧ (0 ≤ k ∧ k ≤ 7) ∧ (-1048576 ≤ n ∧ n ≤ 1048575)) := ⟨ha, hk, hn⟩
  have HNR : Hid (13 = (2 : Int) ∨ 13 = (3 : Int) → 0 ≤ n ∧ n ≤ 7) := hnr
  have ER : Hid (R = m.exec 13 a k n value) := eR
  obtain ⟨a0, a7⟩ := ha
  obtain ⟨k0, k7⟩ := hk
  obtain ⟨n0, n7⟩ := hn
  have ab : a < (m.regs.length : Int) := by have := hm.regs; omega
  have kb : k < (m.regs.length : Int) := by have := hm.regs; omega
  clear hx h hm eR hnr
  go_enter Tryd.func35, Tryd.ntmps35
  go_wp2_with fail
  refine HX.out.mono ?_
  rintro e w1 ⟨rfl, hb1⟩
  clear HX
  have h1 := HH.out.1.below hb1
  have H1 : Hid (AtP w1 lo b (.slice (some ⟨g, 0, none⟩) m.regs.length c) mv ov m ∧ Below lo w w1 ∧ lo ≤ w1.heap.size) := ⟨h1, hb1.mono HH.out.2, Nat.le_trans HH.out.2 hb1.size⟩
  obtain ⟨⟨z0, z1, z2, z3, z4, z5, z6, z7, z8, z9, z10, z11⟩, zf, zl⟩ := twelve_cells h1.box
  rw [hf] at z7
  have hne : ¬ b = w1.heap.size := by omega
  clear hf HH hb1 h1
  obtain ⟨b1, b2⟩ := wordB_iff.1 HM.out.back
  go_wp2_with fail
  refine (Fold_same _ _ (by omega) (by omega)).mono ?_
  rintro e w9 ⟨rfl, rfl⟩
  go_wp2_with fail
  go_ret
  rw [show R = (({ m with ints := true, pc := foldF m.back } : Mach), -1) from ER.out]
  have r1 := H1.out.1.setInts true
  have r2 := r1.1.setPc (foldF m.back)
  exact ⟨rfl, ⟨_, r2.1.below (below_alloc _ _)⟩, H1.out.2.1.trans ((r1.2.trans r2.2).trans ((below_alloc _ _).mono (by simpa using H1.out.2.2)))⟩

set_option maxRecDepth 100000 in
set_option maxHeartbeats 4000000 in
theorem doNext_15 (lo b : Nat) (rv mv ov : Value) (m : Mach) (a k n value : Int) (w : World) (h : AtP w lo b rv mv ov m) (hlo : lo ≤ w.heap.size) (hm : MayP m) (hf : m.fin = 0) (ha : 0 ≤ a ∧ a ≤ 7) (hk : 0 ≤ k ∧ k ≤ 7) (hn : -1048576 ≤ n ∧ n ≤ 1048575)
    (hnr : 15 = (2 : Int) ∨ 15 = (3 : Int) → 0 ≤ n ∧ n ≤ 7)
    (hx : Calls Tryd.prog 59 #[ptr b] w fun e w' => e = .returned (.tuple #[.agg #[.int .i64 15, .int .i64 a, .int .i64 k, .int .i64 n], .int .i64 0]) ∧ Below w.heap.size w w') :
    Calls Tryd.prog 35 #[ptr b, .int .i64 value] w fun e w' => e = .returned (.int .i64 (m.exec 15 a k n value).2) ∧ (∃ ov', AtP w' lo b rv mv ov' (m.exec 15 a k n value).1) ∧ Below lo w w' := by
  obtain ⟨R, eR⟩ : ∃ R, R = m.exec 15 a k n value := ⟨_, rfl⟩
  rw [← eR]
  obtain ⟨g, c, rfl, -, -, -⟩ := h.regs_at hm.regs
  obtain ⟨p1, p2⟩ := wordB_iff.1 hm.pc
  have HX : Hid (Calls Tryd.prog 59 #[ptr b] w fun e w' => e = .returned (.tuple #[.agg #[.int .i64 15, .int .i64 a, .int .i64 k, .int .i64 n], .int .i64 0]) ∧ Below w.heap.size w w') := hx
  have HM : Hid (MayP m) := hm
  have HF : Hid (m.fin = 0) := hf
  have HH : Hid (AtP w lo b (.slice (some ⟨g, 0, none⟩) m.regs.length c) mv ov m ∧ lo ≤ w.heap.size) := ⟨h, hlo⟩
  have HBD : Hid ((0 ≤ a ∧ a ≤ 7) ∧ (0 ≤ k ∧ k ≤ 7) ∧ (-1048576 ≤ n ∧ n ≤ 1048575)) := ⟨ha, hk, hn⟩
  have HNR : Hid (15 = (2 : Int) ∨ 15 = (3 : Int) → 0 ≤ n ∧ n ≤ 7) := hnr
  have ER : Hid (R = m.exec 15 a k n value) := eR
  obtain ⟨a0, a7⟩ := ha
  obtain ⟨k0, k7⟩ := hk
  obtain ⟨n0, n7⟩ := hn
  have ab : a < (m.regs.length : Int) := by have := hm.regs; omega
  have kb : k < (m.regs.length : Int) := by have := hm.regs; omega
  clear hx h hm eR hnr
  go_enter Tryd.func35, Tryd.ntmps35
  go_wp2_with fail
  refine HX.out.mono ?_
  rintro e w1 ⟨rfl, hb1⟩
  clear HX
  have h1 := HH.out.1.below hb1
  have H1 : Hid (AtP w1 lo b (.slice (some ⟨g, 0, none⟩) m.regs.length c) mv ov m ∧ Below lo w w1 ∧ lo ≤ w1.heap.size) := ⟨h1, hb1.mono HH.out.2, Nat.le_trans HH.out.2 hb1.size⟩
  obtain ⟨⟨z0, z1, z2, z3, z4, z5, z6, z7, z8, z9, z10, z11⟩, zf, zl⟩ := twelve_cells h1.box
  rw [hf] at z7
  have hne : ¬ b = w1.heap.size := by omega
  clear hf HH hb1 h1
  go_wp2_with fail
  refine (Fold_same _ _ (by omega) (by omega)).mono ?_
  rintro e w9 ⟨rfl, rfl⟩
  go_wp2_with fail
  go_ret
  rw [show R = (({ m with pc := foldF (m.pc + 1) } : Mach), -1) from ER.out]
  have r2 := H1.out.1.setPc (foldF (m.pc + 1))
  exact ⟨rfl, ⟨_, r2.1.below (below_alloc _ _)⟩, H1.out.2.1.trans (r2.2.trans ((below_alloc _ _).mono (by simpa using H1.out.2.2)))⟩

end Go.Proofs.YtecpblabaelopaaDoor

/- Contracts of cpu.doNext, by operator: Add, Sub, Addi. -/

namespace Go.Proofs.YtecpblabaelopaaDoor
open Go.RowKit
set_option maxRecDepth 100000
set_option linter.unusedVariables false

set_option maxRecDepth 100000 in
set_option maxHeartbeats 4000000 in
theorem doNext_2 (lo b : Nat) (rv mv ov : Value) (m : Mach) (a k n value : Int) (w : World) (h : AtP w lo b rv mv ov m) (hlo : lo ≤ w.heap.size) (hm : MayP m) (hf : m.fin = 0) (ha : 0 ≤ a ∧ a ≤ 7) (hk : 0 ≤ k ∧ k ≤ 7) (hn : -1048576 ≤ n ∧ n ≤ 1048575)
    (hnr : 2 = (2 : Int) ∨ 2 = (3 : Int) → 0 ≤ n ∧ n ≤ 7)
    (hx : Calls Tryd.prog 59 #[ptr b] w fun e w' => e = .returned (.tuple #[.agg #[.int .i64 2, .int .i64 a, .int .i64 k, .int .i64 n], .int .i64 0]) ∧ Below w.heap.size w w') :
    Calls Tryd.prog 35 #[ptr b, .int .i64 value] w fun e w' => e = .returned (.int .i64 (m.exec 2 a k n value).2) ∧ (∃ ov', AtP w' lo b rv mv ov' (m.exec 2 a k n value).1) ∧ Below lo w w' := by
  obtain ⟨R, eR⟩ : ∃ R, R = m.exec 2 a k n value := ⟨_, rfl⟩
  rw [← eR]
  obtain ⟨g, c, rfl, -, -, -⟩ := h.regs_at hm.regs
  obtain ⟨p1, p2⟩ := wordB_iff.1 hm.pc
  have HX : Hid (Calls Tryd.prog 59 #[ptr b] w fun e w' => e = .returned (.tuple #[.agg #[.int .i64 2, .int .i64 a, .int .i64 k, .int .i64 n], .int .i64 0]) ∧ Below w.heap.size w w') := hx
  have HM : Hid (MayP m) := hm
  have HF : Hid (m.fin = 0) := hf
  have HH : Hid (AtP w lo b (.slice (some ⟨g, 0, none⟩) m.regs.length c) mv ov m ∧ lo ≤ w.heap.size) := ⟨h, hlo⟩
  have HBD : Hid ((0 ≤ a ∧ a ≤ 7) ∧ (0 ≤ k ∧ k ≤ 7) ∧ (-1048576 ≤ n ∧ n ≤ 1048575)) := ⟨ha, hk, hn⟩
  have HNR : Hid (2 = (2 : Int) ∨ 2 = (3 : Int) → 0 ≤ n ∧ n ≤ 7) := hnr
  have ER : Hid (R = m.exec 2 a k n value) := eR
  obtain ⟨a0, a7⟩ := ha
  obtain ⟨k0, k7⟩ := hk
  obtain ⟨n0, n7⟩ := hn
  have ab : a < (m.regs.length : Int) := by have := hm.regs; omega
  have kb : k < (m.regs.length : Int) := by have := hm.regs; omega
  clear hx h hm eR hnr
  go_enter Tryd.func35, Tryd.ntmps35
  go_wp2_with fail
  refine HX.out.mono ?_
  rintro e w1 ⟨rfl, hb1⟩
  clear HX
  have h1 := HH.out.1.below hb1
  have H1 : Hid (AtP w1 lo b (.slice (some ⟨g, 0, none⟩) m.regs.length c) mv ov m ∧ Below lo w w1 ∧ lo ≤ w1.heap.size) := ⟨h1, hb1.mono HH.out.2, Nat.le_trans HH.out.2 hb1.size⟩
  obtain ⟨⟨z0, z1, z2, z3, z4, z5, z6, z7, z8, z9, z10, z11⟩, zf, zl⟩ := twelve_cells h1.box
  rw [hf] at z7
  have hne : ¬ b = w1.heap.size := by omega
  clear hf HH hb1 h1
  go_wp2_with fail
  rw [show w1.alloc (.cells #[.int .i64 2, .int .i64 a, .int .i64 k, .int .i64 n] 75) = w1.alloc (.cells #[.int .i64 2, .int .i64 a, .int .i64 k, .int .i64 n] 75) from rfl]
  have hx := Go.Deep.blk_alloc_new w1 (.cells #[.int .i64 2, .int .i64 a, .int .i64 k, .int .i64 n] 75)
  have hb2 := below_alloc w1 (.cells #[.int .i64 2, .int .i64 a, .int .i64 k, .int .i64 n] 75)
  have h2 := H1.out.1.below hb2
  have H2 : Hid (AtP _ lo b (.slice (some ⟨g, 0, none⟩) m.regs.length c) mv ov m ∧ Below lo w _ ∧ lo ≤ _) := ⟨h2, H1.out.2.1.trans (hb2.mono H1.out.2.2), Nat.le_trans H1.out.2.2 hb2.size⟩
  generalize w1.alloc (.cells #[.int .i64 2, .int .i64 a, .int .i64 k, .int .i64 n] 75) = W at hx hb2 h2 H2 ⊢
  clear z0 z1 z2 z3 z4 z5 z6 z7 z8 z9 z10 z11 zf zl hne
  obtain ⟨⟨z0, z1, z2, z3, z4, z5, z6, z7, z8, z9, z10, z11⟩, zf, zl⟩ := twelve_cells h2.box
  rw [HF.out] at z7
  obtain ⟨x0, x1, x2, x3, xf, xl⟩ := four_cells hx
  obtain ⟨q1, q4, q5⟩ := h2.reg_cell HM.out.regs k0 k7
  obtain ⟨q2, q4, q5⟩ := h2.reg_cell HM.out.regs (HNR.out (by decide)).1 (HNR.out (by decide)).2
  obtain ⟨q3, q4, q5⟩ := h2.reg_cell HM.out.regs a0 a7
  have gb : ¬ b = g := h2.ne_regs
  have gb2 : ¬ g = b := fun e => gb e.symm
  clear hx hb2 h2
  obtain ⟨u1, u2⟩ := wordB_iff.1 (reg_word HM.out ⟨k0, k7⟩)
  obtain ⟨v1, v2⟩ := wordB_iff.1 (reg_word HM.out (HNR.out (by decide)))
  have nn := (HNR.out (by decide)).1
  have nb : n < (m.regs.length : Int) := by have := HM.out.regs; have := (HNR.out (by decide)).2; omega
  obtain ⟨u, eu⟩ : ∃ u, u = m.reg k := ⟨_, rfl⟩
  obtain ⟨v, ev⟩ : ∃ v, v = m.reg n := ⟨_, rfl⟩
  rw [← eu] at q1 u1 u2
  rw [← ev] at q2 v1 v2
  have EU : Hid (u = m.reg k ∧ v = m.reg n) := ⟨eu, ev⟩
  clear eu ev
  have hwr : IntKind.i64.wrap (u + v) = u + v := IntWalk.i64_in _ (by omega)
  go_still_tail 25, (by kernel_rfl)
  still_call (Fold_same _ _ (by omega) (by omega))
  repeat still_step
  refine wpStill_nil ?_
  go_wp2_with fail
  refine (Fold_same _ _ (by omega) (by omega)).mono ?_
  rintro e w9 ⟨rfl, rfl⟩
  go_wp2_with fail
  go_ret
  rw [show R = (({ m with regs := m.regs.set a.toNat (foldF (u + v)), pc := foldF (m.pc + 1) } : Mach), -1) by rw [EU.out.1, EU.out.2]; exact ER.out]
  have r1 := H2.out.1.drew.putReg a.toNat (foldF (u + v))
  have r2 := r1.1.setPc (foldF (m.pc + 1))
  exact ⟨rfl, ⟨_, r2.1⟩, (H2.out.2.1.drew).trans (r1.2.trans r2.2)⟩

set_option maxRecDepth 100000 in
set_option maxHeartbeats 4000000 in
theorem doNext_3 (lo b : Nat) (rv mv ov : Value) (m : Mach) (a k n value : Int) (w : World) (h : AtP w lo b rv mv ov m) (hlo : lo ≤ w.heap.size) (hm : MayP m) (hf : m.fin = 0) (ha : 0 ≤ a ∧ a ≤ 7) (hk : 0 ≤ k ∧ k ≤ 7) (hn : -1048576 ≤ n ∧ n ≤ 1048575)
    (hnr : 3 = (2 : Int) ∨ 3 = (3 : Int) → 0 ≤ n ∧ n ≤ 7)
    (hx : Calls Tryd.prog 59 #[ptr b] w fun e w' => e = .returned (.tuple #[.agg #[.int .i64 3, .int .i64 a, .int .i64 k, .int .i64 n], .int .i64 0]) ∧ Below w.heap.size w w') :
    Calls Tryd.prog 35 #[ptr b, .int .i64 value] w fun e w' => e = .returned (.int .i64 (m.exec 3 a k n value).2) ∧ (∃ ov', AtP w' lo b rv mv ov' (m.exec 3 a k n value).1) ∧ Below lo w w' := by
  obtain ⟨R, eR⟩ : ∃ R, R = m.exec 3 a k n value := ⟨_, rfl⟩
  rw [← eR]
  obtain ⟨g, c, rfl, -, -, -⟩ := h.regs_at hm.regs
  obtain ⟨p1, p2⟩ := wordB_iff.1 hm.pc
  have HX : Hid (Calls Tryd.prog 59 #[ptr b] w fun e w' => e = .returned (.tuple #[.agg #[.int .i64 3, .int .i64 a, .int .i64 k, .int .i64 n], .int .i64 0]) ∧ Below w.heap.size w w') := hx
  have HM : Hid (MayP m) := hm
  have HF : Hid (m.fin = 0) := hf
  have HH : Hid (AtP w lo b (.slice (some ⟨g, 0, none⟩) m.regs.length c) mv ov m ∧ lo ≤ w.heap.size) := ⟨h, hlo⟩
  have HBD : Hid ((0 ≤ a ∧ a ≤ 7) ∧ (0 ≤ k ∧ k ≤ 7) ∧ (-1048576 ≤ n ∧ n ≤ 1048575)) := ⟨ha, hk, hn⟩
  have HNR : Hid (3 = (2 : Int) ∨ 3 = (3 : Int) → 0 ≤ n ∧ n ≤ 7) := hnr
  have ER : Hid (R = m.exec 3 a k n value) := eR
  obtain ⟨a0, a7⟩ := ha
  obtain ⟨k0, k7⟩ := hk
  obtain ⟨n0, n7⟩ := hn
  have ab : a < (m.regs.length : Int) := by have := hm.regs; omega
  have kb : k < (m.regs.length : Int) := by have := hm.regs; omega
  clear hx h hm eR hnr
  go_enter Tryd.func35, Tryd.ntmps35
  go_wp2_with fail
  refine HX.out.mono ?_
  rintro e w1 ⟨rfl, hb1⟩
  clear HX
  have h1 := HH.out.1.below hb1
  have H1 : Hid (AtP w1 lo b (.slice (some ⟨g, 0, none⟩) m.regs.length c) mv ov m ∧ Below lo w w1 ∧ lo ≤ w1.heap.size) := ⟨h1, hb1.mono HH.out.2, Nat.le_trans HH.out.2 hb1.size⟩
  obtain ⟨⟨z0, z1, z2, z3, z4, z5, z6, z7, z8, z9, z10, z11⟩, zf, zl⟩ := twelve_cells h1.box
  rw [hf] at z7
  have hne : ¬ b = w1.heap.size := by omega
  clear hf HH hb1 h1
  go_wp2_with fail
  rw [show w1.alloc (.cells #[.int .i64 3, .int .i64 a, .int .i64 k, .int .i64 n] 75) = w1.alloc (.cells #[.int .i64 3, .int .i64 a, .int .i64 k, .int .i64 n] 75) from rfl]
  have hx := Go.Deep.blk_alloc_new w1 (.cells #[.int .i64 3, .int .i64 a, .int .i64 k, .int .i64 n] 75)
  have hb2 := below_alloc w1 (.cells #[.int .i64 3, .int .i64 a, .int .i64 k, .int .i64 n] 75)
  have h2 := H1.out.1.below hb2
  have H2 : Hid (AtP _ lo b (.slice (some ⟨g, 0, none⟩) m.regs.length c) mv ov m ∧ Below lo w _ ∧ lo ≤ _) := ⟨h2, H1.out.2.1.trans (hb2.mono H1.out.2.2), Nat.le_trans H1.out.2.2 hb2.size⟩
  generalize w1.alloc (.cells #[.int .i64 3, .int .i64 a, .int .i64 k, .int .i64 n] 75) = W at hx hb2 h2 H2 ⊢
  clear z0 z1 z2 z3 z4 z5 z6 z7 z8 z9 z10 z11 zf zl hne
  obtain ⟨⟨z0, z1, z2, z3, z4, z5, z6, z7, z8, z9, z10, z11⟩, zf, zl⟩ := twelve_cells h2.box
  rw [HF.out] at z7
  obtain ⟨x0, x1, x2, x3, xf, xl⟩ := four_cells hx
  obtain ⟨q1, q4, q5⟩ := h2.reg_cell HM.out.regs k0 k7
  obtain ⟨q2, q4, q5⟩ := h2.reg_cell HM.out.regs (HNR.out (by decide)).1 (HNR.out (by decide)).2
  obtain ⟨q3, q4, q5⟩ := h2.reg_cell HM.out.regs a0 a7
  have gb : ¬ b = g := h2.ne_regs
  have gb2 : ¬ g = b := fun e => gb e.symm
  clear hx hb2 h2
  obtain ⟨u1, u2⟩ := wordB_iff.1 (reg_word HM.out ⟨k0, k7⟩)
  obtain ⟨v1, v2⟩ := wordB_iff.1 (reg_word HM.out (HNR.out (by decide)))
  have nn := (HNR.out (by decide)).1
  have nb : n < (m.regs.length : Int) := by have := HM.out.regs; have := (HNR.out (by decide)).2; omega
  obtain ⟨u, eu⟩ : ∃ u, u = m.reg k := ⟨_, rfl⟩
  obtain ⟨v, ev⟩ : ∃ v, v = m.reg n := ⟨_, rfl⟩
  rw [← eu] at q1 u1 u2
  rw [← ev] at q2 v1 v2
  have EU : Hid (u = m.reg k ∧ v = m.reg n) := ⟨eu, ev⟩
  clear eu ev
  have hwr : IntKind.i64.wrap (u - v) = u - v := IntWalk.i64_in _ (by omega)
  go_still_tail 25, (by kernel_rfl)
  still_call (Fold_same _ _ (by omega) (by omega))
  repeat still_step
  refine wpStill_nil ?_
  go_wp2_with fail
  refine (Fold_same _ _ (by omega) (by omega)).mono ?_
  rintro e w9 ⟨rfl, rfl⟩
  go_wp2_with fail
  go_ret
  rw [show R = (({ m with regs := m.regs.set a.toNat (foldF (u - v)), pc := foldF (m.pc + 1) } : Mach), -1) by rw [EU.out.1, EU.out.2]; exact ER.out]
  have r1 := H2.out.1.drew.putReg a.toNat (foldF (u - v))
  have r2 := r1.1.setPc (foldF (m.pc + 1))
  exact ⟨rfl, ⟨_, r2.1⟩, (H2.out.2.1.drew).trans (r1.2.trans r2.2)⟩

set_option maxRecDepth 100000 in
set_option maxHeartbeats 4000000 in
theorem doNext_4 (lo b : Nat) (rv mv ov : Value) (m : Mach) (a k n value : Int) (w : World) (h : AtP w lo b rv mv ov m) (hlo : lo ≤ w.heap.size) (hm : MayP m) (hf : m.fin = 0) (ha : 0 ≤ a ∧ a ≤ 7) (hk : 0 ≤ k ∧ k ≤ 7) (hn : -1048576 ≤ n ∧ n ≤ 1048575)
    (hnr : 4 = (2 : Int) ∨ 4 = (3 : Int) → 0 ≤ n ∧ n ≤ 7)
    (hx : Calls Tryd.prog 59 #[ptr b] w fun e w' => e = .returned (.tuple #[.agg #[.int .i64 4, .int .i64 a, .int .i64 k, .int .i64 n], .int .i64 0]) ∧ Below w.heap.size w w') :
    Calls Tryd.prog 35 #[ptr b, .int .i64 value] w fun e w' => e = .returned (.int .i64 (m.exec 4 a k n value).2) ∧ (∃ ov', AtP w' lo b rv mv ov' (m.exec 4 a k n value).1) ∧ Below lo w w' := by
  obtain ⟨R, eR⟩ : ∃ R, R = m.exec 4 a k n value := ⟨_, rfl⟩
  rw [← eR]
  obtain ⟨g, c, rfl, -, -, -⟩ := h.regs_at hm.regs
  obtain ⟨p1, p2⟩ := wordB_iff.1 hm.pc
  have HX : Hid (Calls Tryd.prog 59 #[ptr b] w fun e w' => e = .returned (.tuple #[.agg #[.int .i64 4, .int .i64 a, .int .i64 k, .int .i64 n], .int .i64 0]) ∧ Below w.heap.size w w') := hx
  have HM : Hid (MayP m) := hm
  have HF : Hid (m.fin = 0) := hf
  have HH : Hid (AtP w lo b (.slice (some ⟨g, 0, none⟩) m.regs.length c) mv ov m ∧ lo ≤ w.heap.size) := ⟨h, hlo⟩
  have HBD : Hid ((0 ≤ a ∧ a ≤ 7) ∧ (0 ≤ k ∧ k ≤ 7) ∧ (-1048576 ≤ n ∧ n ≤ 1048575)) := ⟨ha, hk, hn⟩
  have HNR : Hid (4 = (2 : Int) ∨ 4 = (3 : Int) → 0 ≤ n ∧ n ≤ 7) := hnr
  have ER : Hid (R = m.exec 4 a k n value) := eR
  obtain ⟨a0, a7⟩ := ha
  obtain ⟨k0, k7⟩ := hk
  obtain ⟨n0, n7⟩ := hn
  have ab : a < (m.regs.length : Int) := by have := hm.regs; omega
  have kb : k < (m.regs.length : Int) := by have := hm.regs; omega
  clear hx h hm eR hnr
  go_enter Tryd.func35, Tryd.ntmps35
  go_wp2_with fail
  refine HX.out.mono ?_
  rintro e w1 ⟨rfl, hb1⟩
  clear HX
  have h1 := HH.out.1.below hb1
  have H1 : Hid (AtP w1 lo b (.slice (some ⟨g, 0, none⟩) m.regs.length c) mv ov m ∧ Below lo w w1 ∧ lo ≤ w1.heap.size) := ⟨h1, hb1.mono HH.out.2, Nat.le_trans HH.out.2 hb1.size⟩
  obtain ⟨⟨z0, z1, z2, z3, z4, z5, z6, z7, z8, z9, z10, z11⟩, zf, zl⟩ := twelve_cells h1.box
  rw [hf] at z7
  have hne : ¬ b = w1.heap.size := by omega
  clear hf HH hb1 h1
  go_wp2_with fail
  rw [show w1.alloc (.cells #[.int .i64 4, .int .i64 a, .int .i64 k, .int .i64 n] 75) = w1.alloc (.cells #[.int .i64 4, .int .i64 a, .int .i64 k, .int .i64 n] 75) from rfl]
  have hx := Go.Deep.blk_alloc_new w1 (.cells #[.int .i64 4, .int .i64 a, .int .i64 k, .int .i64 n] 75)
  have hb2 := below_alloc w1 (.cells #[.int .i64 4, .int .i64 a, .int .i64 k, .int .i64 n] 75)
  have h2 := H1.out.1.below hb2
  have H2 : Hid (AtP _ lo b (.slice (some ⟨g, 0, none⟩) m.regs.length c) mv ov m ∧ Below lo w _ ∧ lo ≤ _) := ⟨h2, H1.out.2.1.trans (hb2.mono H1.out.2.2), Nat.le_trans H1.out.2.2 hb2.size⟩
  generalize w1.alloc (.cells #[.int .i64 4, .int .i64 a, .int .i64 k, .int .i64 n] 75) = W at hx hb2 h2 H2 ⊢
  clear z0 z1 z2 z3 z4 z5 z6 z7 z8 z9 z10 z11 zf zl hne
  obtain ⟨⟨z0, z1, z2, z3, z4, z5, z6, z7, z8, z9, z10, z11⟩, zf, zl⟩ := twelve_cells h2.box
  rw [HF.out] at z7
  obtain ⟨x0, x1, x2, x3, xf, xl⟩ := four_cells hx
  obtain ⟨q1, q4, q5⟩ := h2.reg_cell HM.out.regs k0 k7
  obtain ⟨q3, q4, q5⟩ := h2.reg_cell HM.out.regs a0 a7
  have gb : ¬ b = g := h2.ne_regs
  have gb2 : ¬ g = b := fun e => gb e.symm
  clear hx hb2 h2
  obtain ⟨u1, u2⟩ := wordB_iff.1 (reg_word HM.out ⟨k0, k7⟩)
  obtain ⟨u, eu⟩ : ∃ u, u = m.reg k := ⟨_, rfl⟩
  rw [← eu] at q1 u1 u2
  have EU : Hid (u = m.reg k) := eu
  clear eu
  have hwr : IntKind.i64.wrap (u + n) = u + n := IntWalk.i64_in _ (by omega)
  go_still_tail 19, (by kernel_rfl)
  still_call (Fold_same _ _ (by omega) (by omega))
  repeat still_step
  refine wpStill_nil ?_
  go_wp2_with fail
  refine (Fold_same _ _ (by omega) (by omega)).mono ?_
  rintro e w9 ⟨rfl, rfl⟩
  go_wp2_with fail
  go_ret
  rw [show R = (({ m with regs := m.regs.set a.toNat (foldF (u + n)), pc := foldF (m.pc + 1) } : Mach), -1) by rw [EU.out]; exact ER.out]
  have r1 := H2.out.1.drew.putReg a.toNat (foldF (u + n))
  have r2 := r1.1.setPc (foldF (m.pc + 1))
  exact ⟨rfl, ⟨_, r2.1⟩, (H2.out.2.1.drew).trans (r1.2.trans r2.2)⟩

end Go.Proofs.YtecpblabaelopaaDoor
