/- Contract of cpu.doNext: Map. -/
import Derived.Test.YtecpblabaelopaaGreatDoorStepIPart
import Derived.Test.YtecpblabaelopaaGreatDoorStepBPart
import Derived.Test.YtecpblabaelopaaGreatDoorDoCPart
import Derived.Test.YtecpblabaelopaaGreatDoorHoBPart
import Derived.Test.YtecpblabaelopaaGreatDoorSpcFPart
import Derived.Test.YtecpblabaelopaaGreatDoorCpuMPart
namespace Go.Proofs.YtecpblabaelopaaGreatDoor
open Go.RowKit
set_option maxRecDepth 100000
set_option linter.unusedVariables false

set_option maxRecDepth 100000 in
set_option maxHeartbeats 4000000 in
theorem doNext_14 (lo b : Nat) (rv mv ov : Value) (m : Mach) (a k n value : Int) (w : World) (h : AtP w lo b rv mv ov m) (hlo : lo ≤ w.heap.size) (hm : MayP m) (hf : m.fin = 0) (ha : 0 ≤ a ∧ a ≤ 7) (hk : 0 ≤ k ∧ k ≤ 7) (hn : -1048576 ≤ n ∧ n ≤ 1048575)
    (hnr : 14 = (2 : Int) ∨ 14 = (3 : Int) → 0 ≤ n ∧ n ≤ 7)
    (hx : Calls Tryz.prog 113 #[ptr b] w fun e w' => e = .returned (.tuple #[.agg #[.int .i64 14, .int .i64 a, .int .i64 k, .int .i64 n], .int .i64 0]) ∧ Below w.heap.size w w') :
    Calls Tryz.prog 80 #[ptr b, .int .i64 value] w fun e w' => e = .returned (.int .i64 (m.exec 14 a k n value).2) ∧ (∃ ov', AtP w' lo b rv mv ov' (m.exec 14 a k n value).1) ∧ Below lo w w' := by
  obtain ⟨R, eR⟩ : ∃ R, R = m.exec 14 a k n value := ⟨_, rfl⟩
  rw [← eR]
  obtain ⟨g, c, rfl, -, -, -⟩ := h.regs_at hm.regs
  obtain ⟨p1, p2⟩ := wordB_iff.1 hm.pc
  have HX : Hid (Calls Tryz.prog 113 #[ptr b] w fun e w' => e = .returned (.tuple #[.agg #[.int .i64 14, .int .i64 a, .int .i64 k, .int .i64 n], .int .i64 0]) ∧ Below w.heap.size w w') := hx
  have HM : Hid (MayP m) := hm
  have HF : Hid (m.fin = 0) := hf
  have HH : Hid (AtP w lo b (.slice (some ⟨g, 0, none⟩) m.regs.length c) mv ov m ∧ lo ≤ w.heap.size) := ⟨h, hlo⟩
  have HBD : Hid ((0 ≤ a ∧ a ≤ 7) ∧ (0 ≤ k ∧ k ≤ 7) ∧ (-1048576 ≤ n ∧ n ≤ 1048575)) := ⟨ha, hk, hn⟩
  have HNR : Hid (14 = (2 : Int) ∨ 14 = (3 : Int) → 0 ≤ n ∧ n ≤ 7) := hnr
  have ER : Hid (R = m.exec 14 a k n value) := eR
  obtain ⟨a0, a7⟩ := ha
  obtain ⟨k0, k7⟩ := hk
  obtain ⟨n0, n7⟩ := hn
  have ab : a < (m.regs.length : Int) := by have := hm.regs; omega
  have kb : k < (m.regs.length : Int) := by have := hm.regs; omega
  clear hx h hm eR hnr
  go_enter Tryz.func80, Tryz.ntmps80
  go_wp2_with fail
  refine HX.out.mono ?_
  rintro e w1 ⟨rfl, hb1⟩
  clear HX
  have h1 := HH.out.1.below hb1
  have H1 : Hid (AtP w1 lo b (.slice (some ⟨g, 0, none⟩) m.regs.length c) mv ov m ∧ Below lo w w1 ∧ lo ≤ w1.heap.size) := ⟨h1, hb1.mono HH.out.2, Nat.le_trans HH.out.2 hb1.size⟩
  obtain ⟨⟨z0, z1, z2, z3, z4, z5, z6, z7, z8, z9, z10, z11⟩, zf, zl⟩ := twelve_cells h1.box
  rw [hf] at z7
  have hne : ¬ b = w1.heap.size := by omega
  clear hf HH hb1 h1
  have HC := exec_Map (m := m) HF.out a k n value
  rw [← ER.out] at HC
  have HC : Hid (((m.tabled (m.reg a)).fin = 0 ∧ R = ({ m.tabled (m.reg a) with pc := foldF (m.pc + 1) }, -1)) ∨ ((m.tabled (m.reg a)).fin ≠ 0 ∧ R = (m.tabled (m.reg a), -1))) := HC
  go_wp2_with fail
  rw [show w1.alloc (.cells #[.int .i64 14, .int .i64 a, .int .i64 k, .int .i64 n] 103) = w1.alloc (.cells #[.int .i64 14, .int .i64 a, .int .i64 k, .int .i64 n] 103) from rfl]
  have hx := Go.Deep.blk_alloc_new w1 (.cells #[.int .i64 14, .int .i64 a, .int .i64 k, .int .i64 n] 103)
  have hb2 := below_alloc w1 (.cells #[.int .i64 14, .int .i64 a, .int .i64 k, .int .i64 n] 103)
  have h2 := H1.out.1.below hb2
  have H2 : Hid (AtP _ lo b (.slice (some ⟨g, 0, none⟩) m.regs.length c) mv ov m ∧ Below lo w _ ∧ lo ≤ _) := ⟨h2, H1.out.2.1.trans (hb2.mono H1.out.2.2), Nat.le_trans H1.out.2.2 hb2.size⟩
  generalize w1.alloc (.cells #[.int .i64 14, .int .i64 a, .int .i64 k, .int .i64 n] 103) = W at hx hb2 h2 H2 ⊢
  clear z0 z1 z2 z3 z4 z5 z6 z7 z8 z9 z10 z11 zf zl hne
  obtain ⟨⟨z0, z1, z2, z3, z4, z5, z6, z7, z8, z9, z10, z11⟩, zf, zl⟩ := twelve_cells h2.box
  rw [HF.out] at z7
  obtain ⟨x0, x1, x2, x3, xf, xl⟩ := four_cells hx
  obtain ⟨q3, q4, q5⟩ := h2.reg_cell HM.out.regs a0 a7
  have gb : ¬ b = g := h2.ne_regs
  have gb2 : ¬ g = b := fun e => gb e.symm
  clear hx hb2 h2
  obtain ⟨x, ex⟩ : ∃ x, x = m.reg a := ⟨_, rfl⟩
  rw [← ex] at q3 HC
  clear ex
  go_still_tail 9, (by kernel_rfl)
  go_wp2_with fail
  refine (setTable_any lo b _ _ _ m x _ H2.out.1.drew H2.out.2.2).mono ?_
  rintro e w5 ⟨rfl, hA, hB⟩
  have HA : Hid (AtP w5 lo b (.slice (some ⟨g, 0, none⟩) m.regs.length c) mv ov (m.tabled x) ∧ Below lo w w5) := ⟨hA, H2.out.2.1.trans (((Below.refl _ _).drew).trans hB)⟩
  clear z0 z1 z2 z3 z4 z5 z6 z7 z8 z9 z10 z11 zf zl hA hB x0 x1 x2 x3 xf xl q3 q4 q5
  obtain ⟨M2, e2⟩ : ∃ M2, M2 = m.tabled x := ⟨_, rfl⟩
  rw [← e2] at HA HC
  clear e2
  obtain ⟨⟨z0, z1, z2, z3, z4, z5, z6, z7, z8, z9, z10, z11⟩, zf, zl⟩ := twelve_cells HA.out.1.box
  by_cases hf2 : M2.fin = 0
  · rw [hf2] at z7
    have HR : Hid (R = ({ M2 with pc := foldF (m.pc + 1) }, -1)) := by
      rcases HC.out with ⟨_, e⟩ | ⟨e, _⟩
      · exact e
      · exact absurd hf2 e
    clear hf2 HC
    go_wp2_with fail
    refine (Fold_same _ _ (by omega) (by omega)).mono ?_
    rintro e w9 ⟨rfl, rfl⟩
    go_wp2_with fail
    go_ret
    rw [HR.out]
    exact ⟨rfl, ⟨_, (HA.out.1.setPc (foldF (m.pc + 1))).1⟩, HA.out.2.trans (HA.out.1.setPc (foldF (m.pc + 1))).2⟩
  · have HR : Hid (R = (M2, -1)) := by
      rcases HC.out with ⟨e, _⟩ | ⟨_, e⟩
      · exact absurd e hf2
      · exact e
    have d2 : (M2.fin == 0) = false := by simpa using hf2
    clear hf2 HC
    go_wp2_with fail
    go_ret
    rw [HR.out]
    exact ⟨rfl, ⟨_, HA.out.1⟩, HA.out.2⟩

end Go.Proofs.YtecpblabaelopaaGreatDoor

/- Contract of cpu.doNext: the guest does what comes next. -/

namespace Go.Proofs.YtecpblabaelopaaGreatDoor
open Go.RowKit
set_option maxRecDepth 100000

set_option maxRecDepth 100000 in
set_option maxHeartbeats 1000000 in
theorem doNext_end (lo b : Nat) (rv mv ov : Value) (m : Mach) (value E : Int) (w : World) (h : AtP w lo b rv mv ov m) (hlo : lo ≤ w.heap.size) (hE : E ≠ 0)
    (hx : Calls Tryz.prog 113 #[ptr b] w fun e w' => e = .returned (.tuple #[.agg zeroI, .int .i64 E]) ∧ Below w.heap.size w w') :
    Calls Tryz.prog 80 #[ptr b, .int .i64 value] w fun e w' => e = .returned (.int .i64 (-1)) ∧ (∃ ov', AtP w' lo b rv mv ov' (m.ends E)) ∧ Below lo w w' := by
  have HX : Hid (Calls Tryz.prog 113 #[ptr b] w fun e w' => e = .returned (.tuple #[.agg zeroI, .int .i64 E]) ∧ Below w.heap.size w w') := hx
  have HH : Hid (AtP w lo b rv mv ov m ∧ lo ≤ w.heap.size) := ⟨h, hlo⟩
  have d0 : (E != 0) = true := by simpa using hE
  clear hx h hE
  go_enter Tryz.func80, Tryz.ntmps80
  go_wp2_with fail
  refine HX.out.mono ?_
  rintro e w1 ⟨rfl, hb1⟩
  clear HX
  have h1 := HH.out.1.below hb1
  have H1 : Hid (AtP w1 lo b rv mv ov m ∧ Below lo w w1 ∧ lo ≤ w1.heap.size) := ⟨h1, hb1.mono HH.out.2, Nat.le_trans HH.out.2 hb1.size⟩
  obtain ⟨⟨z0, z1, z2, z3, z4, z5, z6, z7, z8, z9, z10, z11⟩, zf, zl⟩ := twelve_cells h1.box
  have hne : ¬ b = w1.heap.size := by omega
  clear HH hb1 h1
  go_wp2_with fail
  go_ret
  exact ⟨rfl, ⟨_, (H1.out.1.setFin E).1.below (below_alloc _ _)⟩, H1.out.2.1.trans ((H1.out.1.setFin E).2.trans ((below_alloc _ _).mono (by simpa using H1.out.2.2)))⟩

theorem doNext_any (lo b : Nat) (rv mv ov : Value) (m : Mach) (value : Int) (w : World) (h : AtP w lo b rv mv ov m) (hlo : lo ≤ w.heap.size) (hm : MayP m) (hf : m.fin = 0) :
    Calls Tryz.prog 80 #[ptr b, .int .i64 value] w fun e w' => e = .returned (.int .i64 (m.run1 value).2) ∧ (∃ ov', AtP w' lo b rv mv ov' (m.run1 value).1) ∧ Below lo w w' := by
  by_cases hE : m.meantE m.pc false = 0
  · by_cases hD : decNo m.nextX = 0
    · have hx := next_ok lo b rv mv ov m w h hm hE hD
      have hr : m.run1 value = m.exec (m.nextX % 16) (m.nextX / 16 % 8) (m.nextX / 128 % 8) (m.nextX / 1024) value := by simp [Mach.run1, Mach.nextE, hE, hD]
      rw [hr]
      obtain ⟨b0, b1, b2, b3⟩ := instrNo_bd hD
      have b4 : m.nextX % 16 = 2 ∨ m.nextX % 16 = 3 → 0 ≤ m.nextX / 1024 ∧ m.nextX / 1024 ≤ 7 := fun ho => instrNo_reg hD ho
      unfold instrA at hx
      revert hx b4 b0
      generalize m.nextX % 16 = op
      intro hx b0 b4
      rcases (by omega : op = 0 ∨ op = 1 ∨ op = 2 ∨ op = 3 ∨ op = 4 ∨ op = 5 ∨ op = 6 ∨ op = 7 ∨ op = 8 ∨ op = 9 ∨ op = 10 ∨ op = 11 ∨ op = 12 ∨ op = 13 ∨ op = 14 ∨ op = 15) with rfl | rfl | rfl | rfl | rfl | rfl | rfl | rfl | rfl | rfl | rfl | rfl | rfl | rfl | rfl | rfl
      · exact doNext_0 lo b rv mv ov m _ _ _ value w h hlo hm hf b1 b2 b3 b4 hx
      · exact doNext_1 lo b rv mv ov m _ _ _ value w h hlo hm hf b1 b2 b3 b4 hx
      · exact doNext_2 lo b rv mv ov m _ _ _ value w h hlo hm hf b1 b2 b3 b4 hx
      · exact doNext_3 lo b rv mv ov m _ _ _ value w h hlo hm hf b1 b2 b3 b4 hx
      · exact doNext_4 lo b rv mv ov m _ _ _ value w h hlo hm hf b1 b2 b3 b4 hx
      · exact doNext_5 lo b rv mv ov m _ _ _ value w h hlo hm hf b1 b2 b3 b4 hx
      · exact doNext_6 lo b rv mv ov m _ _ _ value w h hlo hm hf b1 b2 b3 b4 hx
      · exact doNext_7 lo b rv mv ov m _ _ _ value w h hlo hm hf b1 b2 b3 b4 hx
      · exact doNext_8 lo b rv mv ov m _ _ _ value w h hlo hm hf b1 b2 b3 b4 hx
      · exact doNext_9 lo b rv mv ov m _ _ _ value w h hlo hm hf b1 b2 b3 b4 hx
      · exact doNext_10 lo b rv mv ov m _ _ _ value w h hlo hm hf b1 b2 b3 b4 hx
      · exact doNext_11 lo b rv mv ov m _ _ _ value w h hlo hm hf b1 b2 b3 b4 hx
      · exact doNext_12 lo b rv mv ov m _ _ _ value w h hlo hm hf b1 b2 b3 b4 hx
      · exact doNext_13 lo b rv mv ov m _ _ _ value w h hlo hm hf b1 b2 b3 b4 hx
      · exact doNext_14 lo b rv mv ov m _ _ _ value w h hlo hm hf b1 b2 b3 b4 hx
      · exact doNext_15 lo b rv mv ov m _ _ _ value w h hlo hm hf b1 b2 b3 b4 hx
    · have hr : m.run1 value = (m.ends 2, -1) := by simp [Mach.run1, Mach.nextE, hE, hD]
      rw [hr]
      exact doNext_end lo b rv mv ov m value 2 w h hlo (by decide) (next_code lo b rv mv ov m w h hm hE hD)
  · have hN : m.nextE = m.meantE m.pc false := by simp [Mach.nextE, hE]
    have hr : m.run1 value = (m.ends m.nextE, -1) := by simp [Mach.run1, hN, hE]
    rw [hr]
    exact doNext_end lo b rv mv ov m value m.nextE w h hlo (by rw [hN]; exact hE) (next_at lo b rv mv ov m w h hm hE)

end Go.Proofs.YtecpblabaelopaaGreatDoor

/- Contract of cpu.copyWords: new memory that holds the same numbers. -/

namespace Go.Proofs.YtecpblabaelopaaGreatDoor
open Go.RowKit

set_option maxHeartbeats 1000000 in
theorem cpuWords_some (v : Value) (l : List Int) (w : World) (h : IntsAt w v l) :
    Calls Tryz.prog 110 #[v] w fun e w' => ∃ v', e = .returned v' ∧ OwnI w' w.heap.size v' l ∧ Below w.heap.size w w' := by
  obtain ⟨A, c, rfl, hl, hc⟩ := h
  have hmk := run_make_row' (P := Tryz.prog) 24 3 (.int .i64 0) 8 Tryz.underlying24 infoInt rfl .i64 .i64 l.length (by omega) (by omega)
  have hsi : (Tryz.prog.info? 3).map (·.size) = some 1 := by kernel_rfl
  have H1 := made_at w l.length
  have H3 := copy_src (g := w.heap.size) (.cells (madeCells #[Value.int .i64 0] l.length) 3) hc
  have H6 := below_alloc w (.cells (madeCells #[Value.int .i64 0] l.length) 3)
  have HC : Hid (_ ∧ _ ∧ _) := ⟨H1, H3, H6⟩
  clear H1 H3 H6 hc
  go_enter Tryz.func110, Tryz.ntmps110
  go_wp2_with (refine wpList_copy_splice rfl (.tmp 7) (.tmp 8) 24 24 rfl 3 Tryz.underlying24 hsi (some ⟨w.heap.size, 0, none⟩) A l.length l.length l.length c rfl rfl w.heap.size 0 (madeCells #[Value.int .i64 0] l.length).toList 3 HC.out.1 (l.map (Value.int .i64)) (by simp) HC.out.2.1 (by simp [size_madeCells]) (ints_oneCell _ _) w.heap.size w HC.out.2.2 (Nat.le_refl _) ?_)
  intro w2 hg2 hb2
  go_wp2
  go_ret
  refine ⟨_, rfl, OwnI.made (Nat.le_refl _) hl ?_, hb2⟩
  rw [hg2.out, splice_all l _ rfl]

theorem cpuWords_any (v : Value) (l : List Int) (w : World) (h : IntsAt w v l) :
    Calls Tryz.prog 110 #[v] w fun e w' => ∃ A c, e = .returned (.slice A l.length c) ∧ OwnI w' w.heap.size (.slice A l.length c) l ∧ Below w.heap.size w w' :=
  (cpuWords_some v l w h).mono fun e w' ⟨v', he, ho, hb⟩ => by
    obtain ⟨A, c, rfl⟩ := ho.shape
    exact ⟨A, c, he, ho, hb⟩

end Go.Proofs.YtecpblabaelopaaGreatDoor

/- Contract of cpu.Copy: the same guest in new memory. -/

namespace Go.Proofs.YtecpblabaelopaaGreatDoor
open Go.RowKit
set_option maxRecDepth 100000

set_option maxHeartbeats 4000000 in
theorem CpuCopy_own (m : Mach) (rv mv ov : Value) (w : World) (ha : MachAt w rv mv ov m) :
    Calls Tryz.prog 78 #[.agg (m.cells rv mv ov)] w fun e w' => ∃ rv' mv' ov', e = .returned (.agg (m.cells rv' mv' ov')) ∧ OwnM w' w.heap.size rv' mv' ov' m ∧ Below w.heap.size w w' := by
  obtain ⟨r, p, k, i, t, a, n, f, m, o, y, q⟩ := m
  have H1 : Hid (IntsAt w rv r) := ha.regs
  have H2 : Hid (IntsAt w mv m) := ha.mem
  have H3 : Hid (IntsAt w ov o) := ha.out
  clear ha
  simp only [Mach.cells]
  obtain ⟨b0, b1, b2⟩ := two_boxes (Below.refl (((w.alloc (.cells #[rv, .int .i64 p, .int .i64 k, .bool i, .bool t, .int .i64 a, .int .i64 n, .int .i64 f, mv, ov, .int .i64 y, .int .i64 q] 37)).alloc (.cells zeroM 37)).heap.size) ((w.alloc (.cells #[rv, .int .i64 p, .int .i64 k, .bool i, .bool t, .int .i64 a, .int .i64 n, .int .i64 f, mv, ov, .int .i64 y, .int .i64 q] 37)).alloc (.cells zeroM 37)))
  obtain ⟨W0, hW0⟩ : ∃ W0, W0 = ((w.alloc (.cells #[rv, .int .i64 p, .int .i64 k, .bool i, .bool t, .int .i64 a, .int .i64 n, .int .i64 f, mv, ov, .int .i64 y, .int .i64 q] 37)).alloc (.cells zeroM 37)) := ⟨_, rfl⟩
  have HW0 : Hid (W0 = ((w.alloc (.cells #[rv, .int .i64 p, .int .i64 k, .bool i, .bool t, .int .i64 a, .int .i64 n, .int .i64 f, mv, ov, .int .i64 y, .int .i64 q] 37)).alloc (.cells zeroM 37))) := hW0
  rw [← hW0] at b0 b1 b2
  clear hW0
  have B0 : Hid (W0.heap[w.heap.size]? = _ ∧ W0.heap[w.heap.size + 1]? = _ ∧ Below w.heap.size w W0) := ⟨b0, b1, b2⟩
  clear b0 b1 b2
  go_enter Tryz.func78, Tryz.ntmps78
  go_wp2_with fail
  rw [← HW0.out]
  refine (cpuWords_any rv r _ (H1.out.below B0.out.2.2)).mono ?_
  rintro e w1 ⟨A1, d1, rfl, ho1, hb1⟩
  clear H1 HW0
  have O1 : Hid (W0.heap.size ≤ w1.heap.size) := hb1.size
  obtain ⟨c0, c1, c2, c3, c4⟩ := copy_one (i := 0) B0.out.2.2 B0.out.1 B0.out.2.1 hb1 ho1
  obtain ⟨⟨z0, z1, z2, z3, z4, z5, z6, z7, z8, z9, z10, z11⟩, zf, zl⟩ := twelve_cells c0
  have C1 : Hid (_ ∧ _ ∧ _ ∧ _) := ⟨c1, c2, c3, c4⟩
  clear c0 c1 c2 c3 c4 ho1 hb1
  go_wp2_with fail
  clear z0 z1 z2 z3 z4 z5 z6 z7 z8 z9 z10 z11 zf zl
  refine (cpuWords_any mv m _ (H2.out.below C1.out.2.2.1)).mono ?_
  rintro e w2 ⟨A2, d2, rfl, ho2, hb2⟩
  clear H2
  have O2 : Hid (OwnI w2 W0.heap.size (.slice A1 r.length d1) r ∧ Apart (.slice A1 r.length d1) (.slice A2 m.length d2)) := ⟨C1.out.2.2.2.below hb2, apart_new C1.out.2.2.2 ho2 (Nat.le_refl _)⟩
  obtain ⟨c0, c1, c2, c3, c4⟩ := copy_one (i := 8) C1.out.2.2.1 C1.out.1 C1.out.2.1 hb2 ho2
  obtain ⟨⟨z0, z1, z2, z3, z4, z5, z6, z7, z8, z9, z10, z11⟩, zf, zl⟩ := twelve_cells c0
  have C2 : Hid (_ ∧ _ ∧ _ ∧ _) := ⟨c1, c2, c3, c4⟩
  have D2 : Hid (OwnI _ _ _ _) := O2.out.1.otherType (a := ⟨w.heap.size, 8, none⟩) c0 (by decide) (.slice A2 m.length d2)
  clear c0 c1 c2 c3 c4 ho2 hb2
  go_wp2_with fail
  clear z0 z1 z2 z3 z4 z5 z6 z7 z8 z9 z10 z11 zf zl
  refine (cpuWords_any ov o _ (H3.out.below C2.out.2.2.1)).mono ?_
  rintro e w3 ⟨A3, d3, rfl, ho3, hb3⟩
  clear H3
  have O3 : Hid (OwnI w3 w.heap.size (.slice A1 r.length d1) r ∧ OwnI w3 w.heap.size (.slice A2 m.length d2) m ∧ Apart (.slice A1 r.length d1) (.slice A3 o.length d3) ∧ Apart (.slice A2 m.length d2) (.slice A3 o.length d3)) :=
    ⟨ownsRow_mono (D2.out.below hb3) B0.out.2.2.size, ownsRow_mono (C2.out.2.2.2.below hb3) C1.out.2.2.1.size, apart_new D2.out ho3 (Nat.le_refl _), apart_new C2.out.2.2.2 ho3 (Nat.le_refl _)⟩
  obtain ⟨c0, c1, c2, c3, c4⟩ := copy_one (i := 9) C2.out.2.2.1 C2.out.1 C2.out.2.1 hb3 ho3
  obtain ⟨⟨z0, z1, z2, z3, z4, z5, z6, z7, z8, z9, z10, z11⟩, zf, zl⟩ := twelve_cells c0
  have cy : w3.heap[w.heap.size + 1]? = some (.cells zeroM 37 (0, 0)) := by rw [hb3.block _ (lt_of_block C2.out.2.1)]; exact C2.out.2.1
  obtain ⟨⟨y0, y1, y2, y3, y4, y5, y6, y7, y8, y9, y10, y11⟩, yf, yl⟩ := twelve_cells cy
  have HM : Hid (OwnM w3 w.heap.size (.slice A1 r.length d1) (.slice A2 m.length d2) (.slice A3 o.length d3) ⟨r, p, k, i, t, a, n, f, m, o, y, q⟩) :=
    ⟨O3.out.1, O3.out.2.1, ownsRow_mono ho3 C2.out.2.2.1.size, O2.out.2, O3.out.2.2.1, O3.out.2.2.2⟩
  have HB : Hid (IsBox w3 w.heap.size ∧ IsBox (w3.setCell ⟨w.heap.size, 9, none⟩ (.slice A3 o.length d3)) (w.heap.size + 1) ∧ Below w.heap.size w (w3.setCell ⟨w.heap.size, 9, none⟩ (.slice A3 o.length d3))) := ⟨⟨_, c0⟩, ⟨_, c2⟩, c3⟩
  clear c0 c1 c2 c3 c4 cy ho3 hb3 O3 O2 D2 C2 C1 O1 B0
  go_wp2_with fail
  refine bodyPost_ret (v := .agg #[.slice A1 r.length d1, .int .i64 p, .int .i64 k, .bool i, .bool t, .int .i64 a, .int .i64 n, .int .i64 f, .slice A2 m.length d2, .slice A3 o.length d3, .int .i64 y, .int .i64 q]) (by simp [results, Tryz.results78, go_sem, y0, y1, y2, y3, y4, y5, y6, y7, y8, y9, y10, y11]) rfl ?_
  exact ⟨_, _, _, rfl, (HM.out.box HB.out.1 9 _).set12 HB.out.2.1 _ _ _ _ _ _ _ _ _ _ _ _, below_set12 HB.out.2.2 (by omega) _ _ _ _ _ _ _ _ _ _ _ _⟩

theorem CpuCopy_any (m : Mach) (rv mv ov : Value) (w : World) (ha : MachAt w rv mv ov m) :
    Calls Tryz.prog 78 #[.agg (m.cells rv mv ov)] w fun e w' => ∃ A c B c' C c'', e = .returned (.agg (m.cells (.slice A m.regs.length c) (.slice B m.mem.length c') (.slice C m.out.length c''))) ∧ OwnM w' w.heap.size (.slice A m.regs.length c) (.slice B m.mem.length c') (.slice C m.out.length c'') m ∧ Below w.heap.size w w' :=
  (CpuCopy_own m rv mv ov w ha).mono fun e w' ⟨rv', mv', ov', he, ho, hb⟩ => by
    obtain ⟨A, c, B, c', C, c'', rfl, rfl, rfl⟩ := ho.shape
    exact ⟨A, c, B, c', C, c'', he, ho, hb⟩

end Go.Proofs.YtecpblabaelopaaGreatDoor

/- Contracts of cpu.checkStep and Step. -/

namespace Go.Proofs.YtecpblabaelopaaGreatDoor
open Go.RowKit
set_option maxRecDepth 100000
set_option linter.unusedVariables false

def stepNo (m : Mach) (blk : List Int) (value : Int) : Int :=
  if !m.may then 8 else if decide (blk.length ≠ 0) && decide (blk.length ≠ 16) then 1 else if !allB blk || !wordB value || m.count == 1099511627776 then 2 else 0

set_option maxHeartbeats 2000000 in
theorem checkStep_any (m : Mach) (rv mv ov : Value) (B : Option Addr) (cb : Nat) (blk : List Int) (value : Int) (w : World) (ha : MachAt w rv mv ov m) (hb : IntsAt w (.slice B blk.length cb) blk) :
    Calls Tryz.prog 77 #[.agg (m.cells rv mv ov), .slice B blk.length cb, .int .i64 value] w fun e w' => e = .returned (.int .i64 (stepNo m blk value)) ∧ Below w.heap.size w w' := by
  obtain ⟨N, eN⟩ : ∃ N, N = stepNo m blk value := ⟨_, rfl⟩
  rw [← eN]
  have hcm := CheckMachine_no m rv mv ov (w.alloc (.cells (m.cells rv mv ov) 37)) (ha.below (below_alloc _ _))
  have HB : Hid (IntsAt w (.slice B blk.length cb) blk) := hb
  have hx := Go.Deep.blk_alloc_new w (.cells (m.cells rv mv ov) 37)
  have hbw := below_alloc w (.cells (m.cells rv mv ov) 37)
  obtain ⟨W, hW⟩ : ∃ W, W = w.alloc (.cells (m.cells rv mv ov) 37) := ⟨_, rfl⟩
  rw [← hW] at hx hbw hcm
  have HX : Hid (W.heap[w.heap.size]? = some (.cells (m.cells rv mv ov) 37 (0, 0)) ∧ Below w.heap.size w W) := ⟨hx, hbw⟩
  have HW : Hid (W = w.alloc (.cells (m.cells rv mv ov) 37)) := hW
  obtain ⟨A1, c1, A2, c2, A3, c3, rfl, rfl, rfl⟩ := ha.shape
  clear hb hx hbw hW ha
  cases g0 : m.may with
  | false =>
    have HN : Hid (8 = N) := by show _ = _; rw [eN]; simp [stepNo, g0]
    rw [show mayNoM m = 8 by simp [mayNoM, g0]] at hcm
    have HC : Hid (Calls Tryz.prog 109 #[.agg (m.cells (.slice A1 m.regs.length c1) (.slice A2 m.mem.length c2) (.slice A3 m.out.length c3))] W fun e w' => e = .returned (.int .i64 8) ∧ Below W.heap.size W w') := hcm
    clear hcm g0 eN
    simp only [Mach.cells] at *
    go_enter Tryz.func77, Tryz.ntmps77
    go_wp2_with fail
    rw [← HW.out]
    refine HC.out.mono ?_
    rintro e w1 ⟨rfl, hb1⟩
    have HB1 : Hid (Below w.heap.size w w1) := HX.out.2.trans (hb1.mono HX.out.2.size)
    clear hb1 HC
    go_wp2_with fail
    go_ret
    exact ⟨ret_int HN.out, HB1.out⟩
  | true =>
  rw [show mayNoM m = 0 by simp [mayNoM, g0]] at hcm
  have HC : Hid (Calls Tryz.prog 109 #[.agg (m.cells (.slice A1 m.regs.length c1) (.slice A2 m.mem.length c2) (.slice A3 m.out.length c3))] W fun e w' => e = .returned (.int .i64 0) ∧ Below W.heap.size W w') := hcm
  have EN : Hid (N = if decide (blk.length ≠ 0) && decide (blk.length ≠ 16) then 1 else if !allB blk || !wordB value || m.count == 1099511627776 then 2 else 0) := by show _ = _; rw [eN]; simp only [stepNo, g0]; rfl
  clear hcm g0 eN
  by_cases l0 : blk.length = 0
  case' pos => have d0 : ((blk.length : Int) != 0) = false := by simp [l0]
  case' neg => have d0 : ((blk.length : Int) != 0) = true := by simp [l0]
  case neg =>
    by_cases l1 : blk.length = 16
    case neg =>
      have d1 : ((blk.length : Int) != 16) = true := by simp; omega
      have HN : Hid (1 = N) := by show _ = _; rw [EN.out]; simp [l0, l1]
      clear EN l0 l1
      simp only [Mach.cells] at *
      go_enter Tryz.func77, Tryz.ntmps77
      go_wp2_with fail
      rw [← HW.out]
      refine HC.out.mono ?_
      rintro e w1 ⟨rfl, hb1⟩
      have HB1 : Hid (Below w.heap.size w w1) := HX.out.2.trans (hb1.mono HX.out.2.size)
      clear hb1 HC
      go_wp2_with fail
      go_ret
      exact ⟨ret_int HN.out, HB1.out⟩
    have d1 : ((blk.length : Int) != 16) = false := by simp [l1]
    have EM : Hid (N = if !allB blk || !wordB value || m.count == 1099511627776 then 2 else 0) := by show _ = _; rw [EN.out]; simp [l1]
    clear EN l0 l1
    simp only [Mach.cells] at *
    go_enter Tryz.func77, Tryz.ntmps77
    go_wp2_with fail
    rw [← HW.out]
    refine HC.out.mono ?_
    rintro e w1 ⟨rfl, hb1⟩
    obtain ⟨hx1, hbb1⟩ := box_below HX.out.1 HX.out.2 hb1
    have HX1 : Hid (_ ∧ Below w.heap.size w w1) := ⟨hx1, hbb1⟩
    clear hb1 HC HX HW hx1 hbb1
    go_wp2_with fail
    refine (haveNoWord_any _ blk _ (HB.out.below HX1.out.2)).mono ?_
    cases g1 : allB blk with
    | false =>
      rintro e w2 ⟨rfl, hb2⟩
      have HN : Hid (2 = N) := by show _ = _; rw [EM.out, g1]; rfl
      have HB2 : Hid (Below w.heap.size w w2) := HX1.out.2.trans (hb2.mono HX1.out.2.size)
      clear hb2 g1 EM
      go_wp2_with fail
      go_ret
      exact ⟨ret_int HN.out, HB2.out⟩
    | true =>
    rintro e w2 ⟨rfl, hb2⟩
    obtain ⟨hx2, hbb2⟩ := box_below HX1.out.1 HX1.out.2 hb2
    have HX2 : Hid (_ ∧ Below w.heap.size w w2) := ⟨hx2, hbb2⟩
    have G1 : Hid (allB blk = true) := g1
    clear hb2 HX1 hx2 hbb2 g1
    go_wp2_with fail
    refine (isNoWord_any _).mono ?_
    rintro e w3 ⟨p, q, rfl, hc, hb3⟩
    obtain ⟨hx3, hbb3⟩ := box_below HX2.out.1 HX2.out.2 hb3
    have HC : Hid (CloAt w3 p q (-1099511627776) 1099511627776) := hc
    obtain ⟨⟨z0, z1, z2, z3, z4, z5, z6, z7, z8, z9, z10, z11⟩, zf, zl⟩ := twelve_cells hx3
    have HB3 : Hid (Below w.heap.size w w3) := hbb3
    clear hc hb3 HX2 hx3 hbb3
    go_wp2_with fail
    refine (word_clo value p q _ HC.out).mono ?_
    cases g2 : wordB value with
    | false =>
      rintro e w3 ⟨rfl, rfl⟩
      have HN : Hid (2 = N) := by show _ = _; rw [EM.out, G1.out, g2]; rfl
      clear g2 EM
      go_wp2_with fail
      go_ret
      exact ⟨ret_int HN.out, HB3.out⟩
    | true =>
    rintro e w3 ⟨rfl, rfl⟩
    have G2 : Hid (wordB value = true) := g2
    clear g2
    cases g3 : m.count == 1099511627776 with
    | true =>
      have HN : Hid (2 = N) := by show _ = _; rw [EM.out, G1.out, G2.out, g3]; rfl
      clear EM
      go_wp2_with fail
      go_ret
      exact ⟨ret_int HN.out, HB3.out⟩
    | false =>
      have HN : Hid (0 = N) := by show _ = _; rw [EM.out, G1.out, G2.out, g3]; rfl
      clear EM
      go_wp2_with fail
      go_ret
      exact ⟨ret_int HN.out, HB3.out⟩
  have EM : Hid (N = if !allB blk || !wordB value || m.count == 1099511627776 then 2 else 0) := by show _ = _; rw [EN.out]; simp [l0]
  clear EN l0
  simp only [Mach.cells] at *
  go_enter Tryz.func77, Tryz.ntmps77
  go_wp2_with fail
  rw [← HW.out]
  refine HC.out.mono ?_
  rintro e w1 ⟨rfl, hb1⟩
  obtain ⟨hx1, hbb1⟩ := box_below HX.out.1 HX.out.2 hb1
  have HX1 : Hid (_ ∧ Below w.heap.size w w1) := ⟨hx1, hbb1⟩
  clear hb1 HC HX HW hx1 hbb1
  go_wp2_with fail
  refine (haveNoWord_any _ blk _ (HB.out.below HX1.out.2)).mono ?_
  cases g1 : allB blk with
  | false =>
    rintro e w2 ⟨rfl, hb2⟩
    have HN : Hid (2 = N) := by show _ = _; rw [EM.out, g1]; rfl
    have HB2 : Hid (Below w.heap.size w w2) := HX1.out.2.trans (hb2.mono HX1.out.2.size)
    clear hb2 g1 EM
    go_wp2_with fail
    go_ret
    exact ⟨ret_int HN.out, HB2.out⟩
  | true =>
  rintro e w2 ⟨rfl, hb2⟩
  obtain ⟨hx2, hbb2⟩ := box_below HX1.out.1 HX1.out.2 hb2
  have HX2 : Hid (_ ∧ Below w.heap.size w w2) := ⟨hx2, hbb2⟩
  have G1 : Hid (allB blk = true) := g1
  clear hb2 HX1 hx2 hbb2 g1
  go_wp2_with fail
  refine (isNoWord_any _).mono ?_
  rintro e w3 ⟨p, q, rfl, hc, hb3⟩
  obtain ⟨hx3, hbb3⟩ := box_below HX2.out.1 HX2.out.2 hb3
  have HC : Hid (CloAt w3 p q (-1099511627776) 1099511627776) := hc
  obtain ⟨⟨z0, z1, z2, z3, z4, z5, z6, z7, z8, z9, z10, z11⟩, zf, zl⟩ := twelve_cells hx3
  have HB3 : Hid (Below w.heap.size w w3) := hbb3
  clear hc hb3 HX2 hx3 hbb3
  go_wp2_with fail
  refine (word_clo value p q _ HC.out).mono ?_
  cases g2 : wordB value with
  | false =>
    rintro e w3 ⟨rfl, rfl⟩
    have HN : Hid (2 = N) := by show _ = _; rw [EM.out, G1.out, g2]; rfl
    clear g2 EM
    go_wp2_with fail
    go_ret
    exact ⟨ret_int HN.out, HB3.out⟩
  | true =>
  rintro e w3 ⟨rfl, rfl⟩
  have G2 : Hid (wordB value = true) := g2
  clear g2
  cases g3 : m.count == 1099511627776 with
  | true =>
    have HN : Hid (2 = N) := by show _ = _; rw [EM.out, G1.out, G2.out, g3]; rfl
    clear EM
    go_wp2_with fail
    go_ret
    exact ⟨ret_int HN.out, HB3.out⟩
  | false =>
    have HN : Hid (0 = N) := by show _ = _; rw [EM.out, G1.out, G2.out, g3]; rfl
    clear EM
    go_wp2_with fail
    go_ret
    exact ⟨ret_int HN.out, HB3.out⟩

end Go.Proofs.YtecpblabaelopaaGreatDoor

/- Contract of cpu.comeAhead: an interrupt, and a block, ahead of an instruction. -/

namespace Go.Proofs.YtecpblabaelopaaGreatDoor
open Go.RowKit

set_option maxHeartbeats 1000000 in
theorem comeAhead_any (lo b : Nat) (rv mv ov : Value) (m : Mach) (irq : Bool) (B : Option Addr) (cb : Nat) (blk : List Int) (w : World) (h : AtP w lo b rv mv ov m) (hb : ∀ w', Below lo w w' → IntsAt w' (.slice B blk.length cb) blk)
    (hm : m.mem.length = 256) (hw : -1 ≤ m.want ∧ m.want ≤ 15) (hl : blk.length = 0 ∨ blk.length = 16) :
    Calls Tryz.prog 79 #[ptr b, .bool irq, .slice B blk.length cb] w fun e w' => e = .returned (.tuple #[]) ∧ AtP w' lo b rv mv ov (m.told irq blk).enter ∧ Below lo w w' := by
  have H : Hid (AtP w lo b rv mv ov m ∧ ∀ w', Below lo w w' → IntsAt w' (.slice B blk.length cb) blk) := ⟨h, hb⟩
  have HM : Hid (m.mem.length = 256 ∧ (-1 ≤ m.want ∧ m.want ≤ 15) ∧ (blk.length = 0 ∨ blk.length = 16)) := ⟨hm, hw, hl⟩
  obtain ⟨⟨z0, z1, z2, z3, z4, z5, z6, z7, z8, z9, z10, z11⟩, zf, zl⟩ := twelve_cells h.box
  clear h hb hm hw hl
  cases irq with
  | false =>
    have HT : Hid ((m : Mach).taken blk = m.told false blk) := by show _ = _; rw [told_taken]; simp
    go_enter Tryz.func79, Tryz.ntmps79
    go_wp2_with fail
    refine (takeBlock_any lo b rv mv ov m B cb blk w H.out.1 (H.out.2 _ (Below.refl _ _)) HM.out.1 HM.out.2.1 HM.out.2.2).mono ?_
    rintro e w4 ⟨rfl, h4, hb4⟩
    rw [HT.out] at h4
    have H4 : Hid (AtP w4 lo b rv mv ov (m.told false blk) ∧ Below lo w w4) := ⟨h4, hb4⟩
    clear h4 hb4 z0 z1 z2 z3 z4 z5 z6 z7 z8 z9 z10 z11 zf zl
    go_wp2_with fail
    refine (letIn_any lo b _ _ _ _ _ H4.out.1).mono ?_
    rintro e w5 ⟨rfl, h5, hb5⟩
    have H5 : Hid (AtP w5 lo b rv mv ov (m.told false blk).enter ∧ Below lo w w5) := ⟨h5, H4.out.2.trans hb5⟩
    clear h5 hb5
    go_wp2_with fail
    first | go_end0 | refine bodyPost_ret (results_none rfl _ _ _) rfl ?_
    exact ⟨rfl, H5.out⟩
  | true =>
    have HT : Hid (({ m with wait := true } : Mach).taken blk = m.told true blk) := by show _ = _; rw [told_taken]; simp
    have HS : Hid (AtP (w.setCell ⟨b, 4, none⟩ (.bool true)) lo b rv mv ov { m with wait := true } ∧ Below lo w (w.setCell ⟨b, 4, none⟩ (.bool true))) := H.out.1.setWait true
    go_enter Tryz.func79, Tryz.ntmps79
    go_wp2_with fail
    refine (takeBlock_any lo b rv mv ov { m with wait := true } B cb blk _ HS.out.1 (H.out.2 _ HS.out.2) HM.out.1 HM.out.2.1 HM.out.2.2).mono ?_
    rintro e w4 ⟨rfl, h4, hb4⟩
    rw [HT.out] at h4
    have H4 : Hid (AtP w4 lo b rv mv ov (m.told true blk) ∧ Below lo w w4) := ⟨h4, HS.out.2.trans hb4⟩
    clear h4 hb4 z0 z1 z2 z3 z4 z5 z6 z7 z8 z9 z10 z11 zf zl
    go_wp2_with fail
    refine (letIn_any lo b _ _ _ _ _ H4.out.1).mono ?_
    rintro e w5 ⟨rfl, h5, hb5⟩
    have H5 : Hid (AtP w5 lo b rv mv ov (m.told true blk).enter ∧ Below lo w w5) := ⟨h5, H4.out.2.trans hb5⟩
    clear h5 hb5
    go_wp2_with fail
    first | go_end0 | refine bodyPost_ret (results_none rfl _ _ _) rfl ?_
    exact ⟨rfl, H5.out⟩

end Go.Proofs.YtecpblabaelopaaGreatDoor

/- Contract of cpu.Step. -/

namespace Go.Proofs.YtecpblabaelopaaGreatDoor
open Go.RowKit
set_option maxRecDepth 100000
set_option linter.unusedVariables false

set_option maxHeartbeats 4000000 in
theorem Step_ok (m : Mach) (rv mv ov : Value) (irq : Bool) (B : Option Addr) (cb : Nat) (blk : List Int) (value : Int) (w : World) (ha : MachAt w rv mv ov m) (hb : IntsAt w (.slice B blk.length cb) blk) (hm : MayP m) (hab : allB blk = true) (hl : blk.length = 0 ∨ blk.length = 16) (hct : m.count < 1099511627776) (hno : stepNo m blk value = 0) :
    Calls Tryz.prog 48 #[.agg (m.cells rv mv ov), .bool irq, .slice B blk.length cb, .int .i64 value] w fun e w' => ∃ rv' mv' ov', e = .returned (.tuple #[.agg ((m.step irq blk value).1.cells rv' mv' ov'), .int .i64 (m.step irq blk value).2, .int .i64 0]) ∧ OwnM w' w.heap.size rv' mv' ov' (m.step irq blk value).1 ∧ Below w.heap.size w w' := by
  obtain ⟨b0, b1, b2⟩ := two_boxes (Below.refl (((w.alloc (.cells (m.cells rv mv ov) 37)).alloc (.cells zeroM 37)).heap.size) ((w.alloc (.cells (m.cells rv mv ov) 37)).alloc (.cells zeroM 37)))
  have hcs := checkStep_any m rv mv ov B cb blk value ((w.alloc (.cells (m.cells rv mv ov) 37)).alloc (.cells zeroM 37)) (ha.below b2) (hb.below b2)
  obtain ⟨W, hW⟩ : ∃ W, W = (w.alloc (.cells (m.cells rv mv ov) 37)).alloc (.cells zeroM 37) := ⟨_, rfl⟩
  rw [← hW] at b0 b1 b2 hcs
  have HW : Hid (W = (w.alloc (.cells (m.cells rv mv ov) 37)).alloc (.cells zeroM 37)) := hW
  have HX : Hid (W.heap[w.heap.size]? = some (.cells (m.cells rv mv ov) 37 (0, 0)) ∧ W.heap[w.heap.size + 1]? = some (.cells zeroM 37 (0, 0)) ∧ Below w.heap.size w W) := ⟨b0, b1, b2⟩
  rw [hno] at hcs
  have HA : Hid (∀ w', Below w.heap.size w w' → MachAt w' rv mv ov m ∧ IntsAt w' (.slice B blk.length cb) blk) := fun w' hb' => ⟨ha.below hb', hb.below hb'⟩
  have HM : Hid (MayP m ∧ allB blk = true ∧ (blk.length = 0 ∨ blk.length = 16) ∧ m.count < 1099511627776) := ⟨hm, hab, hl, hct⟩
  obtain ⟨A1, c1, A2, c2, A3, c3, rfl, rfl, rfl⟩ := ha.shape
  have HC : Hid (Calls Tryz.prog 77 #[.agg (m.cells (.slice A1 m.regs.length c1) (.slice A2 m.mem.length c2) (.slice A3 m.out.length c3)), .slice B blk.length cb, .int .i64 value] W fun e w' => e = .returned (.int .i64 0) ∧ Below W.heap.size W w') := hcs
  have HCP : Hid (∀ w', Below w.heap.size w w' → Calls Tryz.prog 78 #[.agg (m.cells (.slice A1 m.regs.length c1) (.slice A2 m.mem.length c2) (.slice A3 m.out.length c3))] w' fun e w'' => ∃ A c B c' C c'', e = .returned (.agg (m.cells (.slice A m.regs.length c) (.slice B m.mem.length c') (.slice C m.out.length c''))) ∧ OwnM w'' w'.heap.size (.slice A m.regs.length c) (.slice B m.mem.length c') (.slice C m.out.length c'') m ∧ Below w'.heap.size w' w'') := fun w' hb' => CpuCopy_any m _ _ _ w' (ha.below hb')
  obtain ⟨R, eR⟩ : ∃ R, R = m.step irq blk value := ⟨_, rfl⟩
  rw [← eR]
  have ER : Hid (R = m.step irq blk value) := eR
  clear hb ha b0 b1 b2 hcs hW hno eR hm hab hl hct
  simp only [Mach.cells] at HW HX HC HCP ⊢
  go_enter Tryz.func48, Tryz.ntmps48
  go_wp2_with fail
  rw [← HW.out]
  refine HC.out.mono ?_
  rintro e w1 ⟨rfl, hb1⟩
  obtain ⟨hx1, hbb1⟩ := box_below HX.out.1 HX.out.2.2 hb1
  obtain ⟨hy1, -⟩ := box_below HX.out.2.1 HX.out.2.2 hb1
  have HX1 : Hid (w1.heap[w.heap.size + 1]? = some (.cells zeroM 37 (0, 0)) ∧ Below w.heap.size w w1) := ⟨hy1, hbb1⟩
  obtain ⟨⟨z0, z1, z2, z3, z4, z5, z6, z7, z8, z9, z10, z11⟩, zf, zl⟩ := twelve_cells hx1
  clear hb1 HC HX HW hx1 hy1 hbb1
  go_wp2_with fail
  refine (HCP.out _ HX1.out.2).mono ?_
  rintro e w2 ⟨D1, e1, D2, e2, D3, e3, rfl, ho2, hb2⟩
  obtain ⟨hy2, hbb2⟩ := box_below HX1.out.1 HX1.out.2 hb2
  have HO : Hid (OwnM w2 w1.heap.size (.slice D1 m.regs.length e1) (.slice D2 m.mem.length e2) (.slice D3 m.out.length e3) m ∧ Below w1.heap.size w1 w2 ∧ w.heap.size + 1 < w1.heap.size ∧ w.heap.size ≤ w1.heap.size) := ⟨ho2, hb2, lt_of_block HX1.out.1, HX1.out.2.size⟩
  have hpl : w.heap.size + 1 < w2.heap.size := lt_of_block hy2
  clear z0 z1 z2 z3 z4 z5 z6 z7 z8 z9 z10 z11 zf zl hb2 hbb2 ho2 HCP
  by_cases hf : m.fin = 0
  case neg =>
    have HR : Hid (R = (m, -1)) := by show _ = _; rw [ER.out]; simp [Mach.step, hf]
    have d0 : (m.fin != 0) = true := by simpa using hf
    obtain ⟨⟨y0, y1, y2, y3, y4, y5, y6, y7, y8, y9, y10, y11⟩, yf, yl⟩ := twelve_cells hy2
    have hne : ¬ w.heap.size + 1 = w2.heap.size := by omega
    have HY : Hid (IsBox w2 (w.heap.size + 1)) := ⟨_, hy2⟩
    clear hf hy2
    go_wp2_with fail
    refine bodyPost_ret (v := .tuple #[.agg #[.slice D1 m.regs.length e1, .int .i64 m.pc, .int .i64 m.back, .bool m.ints, .bool m.wait, .int .i64 m.table, .int .i64 m.count, .int .i64 m.fin, .slice D2 m.mem.length e2, .slice D3 m.out.length e3, .int .i64 m.ready, .int .i64 m.want], .int .i64 (-1), .int .i64 0]) (by simp [results, Tryz.results48, go_sem, y0, y1, y2, y3, y4, y5, y6, y7, y8, y9, y10, y11, yl]) rfl ?_
    rw [HR.out]
    refine ⟨.slice D1 m.regs.length e1, .slice D2 m.mem.length e2, .slice D3 m.out.length e3, rfl, ?_, ?_⟩
    · exact ((HO.out.1.mono HO.out.2.2.2).set12 HY.out _ _ _ _ _ _ _ _ _ _ _ _).below (below_alloc _ _)
    · exact (below_set12 (HX1.out.2.trans (HO.out.2.1.mono HO.out.2.2.2)) (by omega) _ _ _ _ _ _ _ _ _ _ _ _).alloc (by simp; omega) _
  case pos =>
  have d0 : (m.fin != 0) = false := by simp [hf]
  have HF : Hid (m.fin = 0) := hf
  clear hf hy2
  go_wp2_with fail
  refine (comeAhead_any w1.heap.size w2.heap.size (.slice D1 m.regs.length e1) (.slice D2 m.mem.length e2) (.slice D3 m.out.length e3) m irq B cb blk _ ⟨Go.Deep.blk_alloc_new _ _, (HO.out.1.below (below_alloc _ _)).of rfl rfl rfl, HO.out.2.1.size⟩ (fun w' hb' => (HA.out _ (((HX1.out.2.trans (HO.out.2.1.mono HO.out.2.2.2)).alloc (by omega) _).trans (hb'.mono HX1.out.2.size))).2) HM.out.1.mem HM.out.1.want HM.out.2.2.1).mono ?_
  rintro e w5 ⟨rfl, h5, hb5⟩
  have HB5 : Hid (Below w1.heap.size w1 w5) := (HO.out.2.1.alloc HO.out.2.1.size _).trans hb5
  have hm5 : MayP (m.told irq blk).enter := (HM.out.1.told irq HM.out.2.1 HM.out.2.2.1).enter
  have hc5 : (m.told irq blk).enter.count = m.count ∧ (m.told irq blk).enter.fin = 0 := by
    rw [(enter_count _).1, (enter_count _).2, (told_count _ _ _).1, (told_count _ _ _).2]; exact ⟨rfl, HF.out⟩
  have ER2 : Hid (R = ((m.told irq blk).enter.counted).run1 value) := by show _ = _; rw [ER.out]; unfold Mach.step; rw [if_pos HF.out]
  obtain ⟨M5, eM⟩ : ∃ M5, M5 = (m.told irq blk).enter := ⟨_, rfl⟩
  rw [← eM] at h5 hm5 hc5 ER2
  have H5 : Hid (AtP w5 w1.heap.size w2.heap.size (.slice D1 m.regs.length e1) (.slice D2 m.mem.length e2) (.slice D3 m.out.length e3) M5 ∧ MayP M5 ∧ M5.count < 1099511627776 ∧ M5.fin = 0) := ⟨h5, hm5, by have := HM.out.2.2.2; omega, hc5.2⟩
  obtain ⟨⟨z0, z1, z2, z3, z4, z5, z6, z7, z8, z9, z10, z11⟩, zf, zl⟩ := twelve_cells h5.box
  have k1 : M5.count < 1099511627776 := H5.out.2.2.1
  have k0 : 0 ≤ M5.count := hm5.count.1
  clear h5 hb5 hm5 hc5 eM HO HA
  go_wp2_with fail
  refine (doNext_any w1.heap.size w2.heap.size _ _ _ M5.counted value _ (H5.out.1.setCount (M5.count + 1)).1 (Nat.le_trans HB5.out.size (by simp)) (H5.out.2.1.counted k1) H5.out.2.2.2).mono ?_
  rintro e w7 ⟨rfl, ⟨ov7, h7⟩, hb7⟩
  have HB7 : Hid (Below w1.heap.size w1 w7) := (HB5.out.trans (H5.out.1.setCount (M5.count + 1)).2).trans hb7
  rw [← ER2.out] at h7 ⊢
  obtain ⟨C7, c7, rfl⟩ := h7.own.out.shape
  have hy7 : w7.heap[w.heap.size + 1]? = some (.cells zeroM 37 (0, 0)) := by rw [HB7.out.block _ (lt_of_block HX1.out.1)]; exact HX1.out.1
  clear z0 z1 z2 z3 z4 z5 z6 z7 z8 z9 z10 z11 zf zl
  obtain ⟨⟨z0, z1, z2, z3, z4, z5, z6, z7, z8, z9, z10, z11⟩, zf, zl⟩ := twelve_cells h7.box
  obtain ⟨⟨y0, y1, y2, y3, y4, y5, y6, y7, y8, y9, y10, y11⟩, yf, yl⟩ := twelve_cells hy7
  have H7 : Hid (OwnM w7 w.heap.size (.slice D1 m.regs.length e1) (.slice D2 m.mem.length e2) (.slice C7 R.1.out.length c7) R.1 ∧ IsBox w7 (w.heap.size + 1) ∧ Below w.heap.size w w7) := ⟨h7.own.mono HX1.out.2.size, ⟨_, hy7⟩, HX1.out.2.trans (HB7.out.mono HX1.out.2.size)⟩
  clear h7 hb7 hy7 HB7 HB5 ER2 H5 HX1 k0 k1
  go_wp2_with fail
  refine bodyPost_ret (v := .tuple #[.agg #[.slice D1 m.regs.length e1, .int .i64 R.1.pc, .int .i64 R.1.back, .bool R.1.ints, .bool R.1.wait, .int .i64 R.1.table, .int .i64 R.1.count, .int .i64 R.1.fin, .slice D2 m.mem.length e2, .slice C7 R.1.out.length c7, .int .i64 R.1.ready, .int .i64 R.1.want], .int .i64 R.2, .int .i64 0]) (by simp [results, Tryz.results48, go_sem, y0, y1, y2, y3, y4, y5, y6, y7, y8, y9, y10, y11]) rfl ?_
  refine ⟨.slice D1 m.regs.length e1, .slice D2 m.mem.length e2, .slice C7 R.1.out.length c7, rfl, ?_, ?_⟩
  · exact H7.out.1.set12 H7.out.2.1 _ _ _ _ _ _ _ _ _ _ _ _
  · exact below_set12 H7.out.2.2 (by omega) _ _ _ _ _ _ _ _ _ _ _ _

end Go.Proofs.YtecpblabaelopaaGreatDoor
