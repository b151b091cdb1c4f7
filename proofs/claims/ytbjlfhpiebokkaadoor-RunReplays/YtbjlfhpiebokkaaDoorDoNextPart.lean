/- Contract of cpu.doNext: the guest does what comes next. -/
import Derived.Test.YtbjlfhpiebokkaaDoorDoAPart
import Derived.Test.YtbjlfhpiebokkaaDoorDoCPart
import Derived.Test.YtbjlfhpiebokkaaDoorDoDPart
import Derived.Test.YtbjlfhpiebokkaaDoorCopyLawPart
import Derived.Test.YtbjlfhpiebokkaaDoorCloPart
namespace Go.Proofs.YtbjlfhpiebokkaaDoor
open Go.RowKit
set_option maxRecDepth 100000

set_option maxRecDepth 100000 in
set_option maxHeartbeats 1000000 in
theorem doNext_end (lo b : Nat) (rv mv ov : Value) (m : Mach) (value E : Int) (w : World) (h : AtP w lo b rv mv ov m) (hlo : lo ≤ w.heap.size) (hE : E ≠ 0)
    (hx : Calls Tryd.prog 84 #[ptr b] w fun e w' => e = .returned (.tuple #[.agg zeroI, .int .i64 E]) ∧ Below w.heap.size w w') :
    Calls Tryd.prog 51 #[ptr b, .int .i64 value] w fun e w' => e = .returned (.int .i64 (-1)) ∧ (∃ ov', AtP w' lo b rv mv ov' (m.ends E)) ∧ Below lo w w' := by
  have HX : Hid (Calls Tryd.prog 84 #[ptr b] w fun e w' => e = .returned (.tuple #[.agg zeroI, .int .i64 E]) ∧ Below w.heap.size w w') := hx
  have HH : Hid (AtP w lo b rv mv ov m ∧ lo ≤ w.heap.size) := ⟨h, hlo⟩
  have d0 : (E != 0) = true := by simpa using hE
  clear hx h hE
  go_enter Tryd.func51, Tryd.ntmps51
  go_wp2_with fail
  refine HX.out.mono ?_
  rintro e w1 ⟨rfl, hb1⟩
  clear HX
  have h1 := HH.out.1.below hb1
  have H1 : Hid (AtP w1 lo b rv mv ov m ∧ Below lo w w1 ∧ lo ≤ w1.heap.size) := ⟨h1, hb1.mono HH.out.2, Nat.le_trans HH.out.2 hb1.size⟩
  obtain ⟨⟨z0, z1, z2, z3, z4, z5, z6, z7, z8, z9, z10, z11⟩, zf, zl⟩ := twelve_cells h1.box
  have hne : ¬ b = w1.heap.size := by omega
  clear HH hb1 h1
  go_wp2_with fail
  go_ret
  exact ⟨rfl, ⟨_, (H1.out.1.setFin E).1.below (below_alloc _ _)⟩, H1.out.2.1.trans ((H1.out.1.setFin E).2.trans ((below_alloc _ _).mono (by simpa using H1.out.2.2)))⟩

theorem doNext_any (lo b : Nat) (rv mv ov : Value) (m : Mach) (value : Int) (w : World) (h : AtP w lo b rv mv ov m) (hlo : lo ≤ w.heap.size) (hm : MayP m) (hf : m.fin = 0) :
    Calls Tryd.prog 51 #[ptr b, .int .i64 value] w fun e w' => e = .returned (.int .i64 (m.run1 value).2) ∧ (∃ ov', AtP w' lo b rv mv ov' (m.run1 value).1) ∧ Below lo w w' := by
  by_cases hE : m.meantE m.pc false = 0
  · by_cases hD : decNo m.nextX = 0
    · have hx := next_ok lo b rv mv ov m w h hm hE hD
      have hr : m.run1 value = m.exec (m.nextX % 16) (m.nextX / 16 % 8) (m.nextX / 128 % 8) (m.nextX / 1024) value := by simp [Mach.run1, Mach.nextE, hE, hD]
      rw [hr]
      obtain ⟨b0, b1, b2, b3⟩ := instrNo_bd hD
      have b4 : m.nextX % 16 = 2 ∨ m.nextX % 16 = 3 → 0 ≤ m.nextX / 1024 ∧ m.nextX / 1024 ≤ 7 := fun ho => instrNo_reg hD ho
      unfold instrA at hx
      revert hx b4 b0
      generalize m.nextX % 16 = op
      intro hx b0 b4
      rcases (by omega : op = 0 ∨ op = 1 ∨ op = 2 ∨ op = 3 ∨ op = 4 ∨ op = 5 ∨ op = 6 ∨ op = 7 ∨ op = 8 ∨ op = 9 ∨ op = 10 ∨ op = 11 ∨ op = 12 ∨ op = 13 ∨ op = 14 ∨ op = 15) with rfl | rfl | rfl | rfl | rfl | rfl | rfl | rfl | rfl | rfl | rfl | rfl | rfl | rfl | rfl | rfl
      · exact doNext_0 lo b rv mv ov m _ _ _ value w h hlo hm hf b1 b2 b3 b4 hx
      · exact doNext_1 lo b rv mv ov m _ _ _ value w h hlo hm hf b1 b2 b3 b4 hx
      · exact doNext_2 lo b rv mv ov m _ _ _ value w h hlo hm hf b1 b2 b3 b4 hx
      · exact doNext_3 lo b rv mv ov m _ _ _ value w h hlo hm hf b1 b2 b3 b4 hx
      · exact doNext_4 lo b rv mv ov m _ _ _ value w h hlo hm hf b1 b2 b3 b4 hx
      · exact doNext_5 lo b rv mv ov m _ _ _ value w h hlo hm hf b1 b2 b3 b4 hx
      · exact doNext_6 lo b rv mv ov m _ _ _ value w h hlo hm hf b1 b2 b3 b4 hx
      · exact doNext_7 lo b rv mv ov m _ _ _ value w h hlo hm hf b1 b2 b3 b4 hx
      · exact doNext_8 lo b rv mv ov m _ _ _ value w h hlo hm hf b1 b2 b3 b4 hx
      · exact doNext_9 lo b rv mv ov m _ _ _ value w h hlo hm hf b1 b2 b3 b4 hx
      · exact doNext_10 lo b rv mv ov m _ _ _ value w h hlo hm hf b1 b2 b3 b4 hx
      · exact doNext_11 lo b rv mv ov m _ _ _ value w h hlo hm hf b1 b2 b3 b4 hx
      · exact doNext_12 lo b rv mv ov m _ _ _ value w h hlo hm hf b1 b2 b3 b4 hx
      · exact doNext_13 lo b rv mv ov m _ _ _ value w h hlo hm hf b1 b2 b3 b4 hx
      · exact doNext_14 lo b rv mv ov m _ _ _ value w h hlo hm hf b1 b2 b3 b4 hx
      · exact doNext_15 lo b rv mv ov m _ _ _ value w h hlo hm hf b1 b2 b3 b4 hx
    · have hr : m.run1 value = (m.ends 2, -1) := by simp [Mach.run1, Mach.nextE, hE, hD]
      rw [hr]
      exact doNext_end lo b rv mv ov m value 2 w h hlo (by decide) (next_code lo b rv mv ov m w h hm hE hD)
  · have hN : m.nextE = m.meantE m.pc false := by simp [Mach.nextE, hE]
    have hr : m.run1 value = (m.ends m.nextE, -1) := by simp [Mach.run1, hN, hE]
    rw [hr]
    exact doNext_end lo b rv mv ov m value m.nextE w h hlo (by rw [hN]; exact hE) (next_at lo b rv mv ov m w h hm hE)

end Go.Proofs.YtbjlfhpiebokkaaDoor

/- Contract of cpu.copyWords: new memory that holds the same numbers. -/

namespace Go.Proofs.YtbjlfhpiebokkaaDoor
open Go.RowKit

set_option maxHeartbeats 1000000 in
theorem cpuWords_some (v : Value) (l : List Int) (w : World) (h : IntsAt w v l) :
    Calls Tryd.prog 81 #[v] w fun e w' => ∃ v', e = .returned v' ∧ OwnI w' w.heap.size v' l ∧ Below w.heap.size w w' := by
  obtain ⟨A, c, rfl, hl, hc⟩ := h
  have hmk := run_make_row' (P := Tryd.prog) 22 3 (.int .i64 0) 8 Tryd.underlying22 infoInt rfl .i64 .i64 l.length (by omega) (by omega)
  have hsi : (Tryd.prog.info? 3).map (·.size) = some 1 := by kernel_rfl
  have H1 := made_at w l.length
  have H3 := copy_src (g := w.heap.size) (.cells (madeCells #[Value.int .i64 0] l.length) 3) hc
  have H6 := below_alloc w (.cells (madeCells #[Value.int .i64 0] l.length) 3)
  have HC : Hid (_ ∧ _ ∧ _) := ⟨H1, H3, H6⟩
  clear H1 H3 H6 hc
  go_enter Tryd.func81, Tryd.ntmps81
  go_wp2_with (refine wpList_copy_splice rfl (.tmp 7) (.tmp 8) 22 22 rfl 3 Tryd.underlying22 hsi (some ⟨w.heap.size, 0, none⟩) A l.length l.length l.length c rfl rfl w.heap.size 0 (madeCells #[Value.int .i64 0] l.length).toList 3 HC.out.1 (l.map (Value.int .i64)) (by simp) HC.out.2.1 (by simp [size_madeCells]) (ints_oneCell _ _) w.heap.size w HC.out.2.2 (Nat.le_refl _) ?_)
  intro w2 hg2 hb2
  go_wp2
  go_ret
  refine ⟨_, rfl, OwnI.made (Nat.le_refl _) hl ?_, hb2⟩
  rw [hg2.out, splice_all l _ rfl]

theorem cpuWords_any (v : Value) (l : List Int) (w : World) (h : IntsAt w v l) :
    Calls Tryd.prog 81 #[v] w fun e w' => ∃ A c, e = .returned (.slice A l.length c) ∧ OwnI w' w.heap.size (.slice A l.length c) l ∧ Below w.heap.size w w' :=
  (cpuWords_some v l w h).mono fun e w' ⟨v', he, ho, hb⟩ => by
    obtain ⟨A, c, rfl⟩ := ho.shape
    exact ⟨A, c, he, ho, hb⟩

end Go.Proofs.YtbjlfhpiebokkaaDoor

/- Contract of cpu.Copy: the same guest in new memory. -/

namespace Go.Proofs.YtbjlfhpiebokkaaDoor
open Go.RowKit
set_option maxRecDepth 100000

set_option maxHeartbeats 4000000 in
theorem CpuCopy_own (m : Mach) (rv mv ov : Value) (w : World) (ha : MachAt w rv mv ov m) :
    Calls Tryd.prog 49 #[.agg (m.cells rv mv ov)] w fun e w' => ∃ rv' mv' ov', e = .returned (.agg (m.cells rv' mv' ov')) ∧ OwnM w' w.heap.size rv' mv' ov' m ∧ Below w.heap.size w w' := by
  obtain ⟨r, p, k, i, t, a, n, f, m, o, y, q⟩ := m
  have H1 : Hid (IntsAt w rv r) := ha.regs
  have H2 : Hid (IntsAt w mv m) := ha.mem
  have H3 : Hid (IntsAt w ov o) := ha.out
  clear ha
  simp only [Mach.cells]
  obtain ⟨b0, b1, b2⟩ := two_boxes (Below.refl (((w.alloc (.cells #[rv, .int .i64 p, .int .i64 k, .bool i, .bool t, .int .i64 a, .int .i64 n, .int .i64 f, mv, ov, .int .i64 y, .int .i64 q] 30)).alloc (.cells zeroM 30)).heap.size) ((w.alloc (.cells #[rv, .int .i64 p, .int .i64 k, .bool i, .bool t, .int .i64 a, .int .i64 n, .int .i64 f, mv, ov, .int .i64 y, .int .i64 q] 30)).alloc (.cells zeroM 30)))
  obtain ⟨W0, hW0⟩ : ∃ W0, W0 = ((w.alloc (.cells #[rv, .int .i64 p, .int .i64 k, .bool i, .bool t, .int .i64 a, .int .i64 n, .int .i64 f, mv, ov, .int .i64 y, .int .i64 q] 30)).alloc (.cells zeroM 30)) := ⟨_, rfl⟩
  have HW0 : Hid (W0 = ((w.alloc (.cells #[rv, .int .i64 p, .int .i64 k, .bool i, .bool t, .int .i64 a, .int .i64 n, .int .i64 f, mv, ov, .int .i64 y, .int .i64 q] 30)).alloc (.cells zeroM 30))) := hW0
  rw [← hW0] at b0 b1 b2
  clear hW0
  have B0 : Hid (W0.heap[w.heap.size]? = _ ∧ W0.heap[w.heap.size + 1]? = _ ∧ Below w.heap.size w W0) := ⟨b0, b1, b2⟩
  clear b0 b1 b2
  go_enter Tryd.func49, Tryd.ntmps49
  go_wp2_with fail
  rw [← HW0.out]
  refine (cpuWords_any rv r _ (H1.out.below B0.out.2.2)).mono ?_
  rintro e w1 ⟨A1, d1, rfl, ho1, hb1⟩
  clear H1 HW0
  have O1 : Hid (W0.heap.size ≤ w1.heap.size) := hb1.size
  obtain ⟨c0, c1, c2, c3, c4⟩ := copy_one (i := 0) B0.out.2.2 B0.out.1 B0.out.2.1 hb1 ho1
  obtain ⟨⟨z0, z1, z2, z3, z4, z5, z6, z7, z8, z9, z10, z11⟩, zf, zl⟩ := twelve_cells c0
  have C1 : Hid (_ ∧ _ ∧ _ ∧ _) := ⟨c1, c2, c3, c4⟩
  clear c0 c1 c2 c3 c4 ho1 hb1
  go_wp2_with fail
  clear z0 z1 z2 z3 z4 z5 z6 z7 z8 z9 z10 z11 zf zl
  refine (cpuWords_any mv m _ (H2.out.below C1.out.2.2.1)).mono ?_
  rintro e w2 ⟨A2, d2, rfl, ho2, hb2⟩
  clear H2
  have O2 : Hid (OwnI w2 W0.heap.size (.slice A1 r.length d1) r ∧ Apart (.slice A1 r.length d1) (.slice A2 m.length d2)) := ⟨C1.out.2.2.2.below hb2, apart_new C1.out.2.2.2 ho2 (Nat.le_refl _)⟩
  obtain ⟨c0, c1, c2, c3, c4⟩ := copy_one (i := 8) C1.out.2.2.1 C1.out.1 C1.out.2.1 hb2 ho2
  obtain ⟨⟨z0, z1, z2, z3, z4, z5, z6, z7, z8, z9, z10, z11⟩, zf, zl⟩ := twelve_cells c0
  have C2 : Hid (_ ∧ _ ∧ _ ∧ _) := ⟨c1, c2, c3, c4⟩
  have D2 : Hid (OwnI _ _ _ _) := O2.out.1.otherType (a := ⟨w.heap.size, 8, none⟩) c0 (by decide) (.slice A2 m.length d2)
  clear c0 c1 c2 c3 c4 ho2 hb2
  go_wp2_with fail
  clear z0 z1 z2 z3 z4 z5 z6 z7 z8 z9 z10 z11 zf zl
  refine (cpuWords_any ov o _ (H3.out.below C2.out.2.2.1)).mono ?_
  rintro e w3 ⟨A3, d3, rfl, ho3, hb3⟩
  clear H3
  have O3 : Hid (OwnI w3 w.heap.size (.slice A1 r.length d1) r ∧ OwnI w3 w.heap.size (.slice A2 m.length d2) m ∧ Apart (.slice A1 r.length d1) (.slice A3 o.length d3) ∧ Apart (.slice A2 m.length d2) (.slice A3 o.length d3)) :=
    ⟨ownsRow_mono (D2.out.below hb3) B0.out.2.2.size, ownsRow_mono (C2.out.2.2.2.below hb3) C1.out.2.2.1.size, apart_new D2.out ho3 (Nat.le_refl _), apart_new C2.out.2.2.2 ho3 (Nat.le_refl _)⟩
  obtain ⟨c0, c1, c2, c3, c4⟩ := copy_one (i := 9) C2.out.2.2.1 C2.out.1 C2.out.2.1 hb3 ho3
  obtain ⟨⟨z0, z1, z2, z3, z4, z5, z6, z7, z8, z9, z10, z11⟩, zf, zl⟩ := twelve_cells c0
  have cy : w3.heap[w.heap.size + 1]? = some (.cells zeroM 30 (0, 0)) := by rw [hb3.block _ (lt_of_block C2.out.2.1)]; exact C2.out.2.1
  obtain ⟨⟨y0, y1, y2, y3, y4, y5, y6, y7, y8, y9, y10, y11⟩, yf, yl⟩ := twelve_cells cy
  have HM : Hid (OwnM w3 w.heap.size (.slice A1 r.length d1) (.slice A2 m.length d2) (.slice A3 o.length d3) ⟨r, p, k, i, t, a, n, f, m, o, y, q⟩) :=
    ⟨O3.out.1, O3.out.2.1, ownsRow_mono ho3 C2.out.2.2.1.size, O2.out.2, O3.out.2.2.1, O3.out.2.2.2⟩
  have HB : Hid (IsBox w3 w.heap.size ∧ IsBox (w3.setCell ⟨w.heap.size, 9, none⟩ (.slice A3 o.length d3)) (w.heap.size + 1) ∧ Below w.heap.size w (w3.setCell ⟨w.heap.size, 9, none⟩ (.slice A3 o.length d3))) := ⟨⟨_, c0⟩, ⟨_, c2⟩, c3⟩
  clear c0 c1 c2 c3 c4 cy ho3 hb3 O3 O2 D2 C2 C1 O1 B0
  go_wp2_with fail
  refine bodyPost_ret (v := .agg #[.slice A1 r.length d1, .int .i64 p, .int .i64 k, .bool i, .bool t, .int .i64 a, .int .i64 n, .int .i64 f, .slice A2 m.length d2, .slice A3 o.length d3, .int .i64 y, .int .i64 q]) (by simp [results, Tryd.results49, go_sem, y0, y1, y2, y3, y4, y5, y6, y7, y8, y9, y10, y11]) rfl ?_
  exact ⟨_, _, _, rfl, (HM.out.box HB.out.1 9 _).set12 HB.out.2.1 _ _ _ _ _ _ _ _ _ _ _ _, below_set12 HB.out.2.2 (by omega) _ _ _ _ _ _ _ _ _ _ _ _⟩

theorem CpuCopy_any (m : Mach) (rv mv ov : Value) (w : World) (ha : MachAt w rv mv ov m) :
    Calls Tryd.prog 49 #[.agg (m.cells rv mv ov)] w fun e w' => ∃ A c B c' C c'', e = .returned (.agg (m.cells (.slice A m.regs.length c) (.slice B m.mem.length c') (.slice C m.out.length c''))) ∧ OwnM w' w.heap.size (.slice A m.regs.length c) (.slice B m.mem.length c') (.slice C m.out.length c'') m ∧ Below w.heap.size w w' :=
  (CpuCopy_own m rv mv ov w ha).mono fun e w' ⟨rv', mv', ov', he, ho, hb⟩ => by
    obtain ⟨A, c, B, c', C, c'', rfl, rfl, rfl⟩ := ho.shape
    exact ⟨A, c, B, c', C, c'', he, ho, hb⟩

end Go.Proofs.YtbjlfhpiebokkaaDoor

/- Contracts of cpu.checkStep and Step. -/

namespace Go.Proofs.YtbjlfhpiebokkaaDoor
open Go.RowKit
set_option maxRecDepth 100000
set_option linter.unusedVariables false

def stepNo (m : Mach) (blk : List Int) (value : Int) : Int :=
  if !m.may then 8 else if decide (blk.length ≠ 0) && decide (blk.length ≠ 16) then 1 else if !allB blk || !wordB value || m.count == 1099511627776 then 2 else 0

set_option maxHeartbeats 2000000 in
theorem checkStep_any (m : Mach) (rv mv ov : Value) (B : Option Addr) (cb : Nat) (blk : List Int) (value : Int) (w : World) (ha : MachAt w rv mv ov m) (hb : IntsAt w (.slice B blk.length cb) blk) :
    Calls Tryd.prog 48 #[.agg (m.cells rv mv ov), .slice B blk.length cb, .int .i64 value] w fun e w' => e = .returned (.int .i64 (stepNo m blk value)) ∧ Below w.heap.size w w' := by
  obtain ⟨N, eN⟩ : ∃ N, N = stepNo m blk value := ⟨_, rfl⟩
  rw [← eN]
  have hcm := CheckMachine_no m rv mv ov (w.alloc (.cells (m.cells rv mv ov) 30)) (ha.below (below_alloc _ _))
  have HB : Hid (IntsAt w (.slice B blk.length cb) blk) := hb
  have hx := Go.Deep.blk_alloc_new w (.cells (m.cells rv mv ov) 30)
  have hbw := below_alloc w (.cells (m.cells rv mv ov) 30)
  obtain ⟨W, hW⟩ : ∃ W, W = w.alloc (.cells (m.cells rv mv ov) 30) := ⟨_, rfl⟩
  rw [← hW] at hx hbw hcm
  have HX : Hid (W.heap[w.heap.size]? = some (.cells (m.cells rv mv ov) 30 (0, 0)) ∧ Below w.heap.size w W) := ⟨hx, hbw⟩
  have HW : Hid (W = w.alloc (.cells (m.cells rv mv ov) 30)) := hW
  obtain ⟨A1, c1, A2, c2, A3, c3, rfl, rfl, rfl⟩ := ha.shape
  clear hb hx hbw hW ha
  cases g0 : m.may with
  | false =>
    have HN : Hid (8 = N) := by show _ = _; rw [eN]; simp [stepNo, g0]
    rw [show mayNoM m = 8 by simp [mayNoM, g0]] at hcm
    have HC : Hid (Calls Tryd.prog 18 #[.agg (m.cells (.slice A1 m.regs.length c1) (.slice A2 m.mem.length c2) (.slice A3 m.out.length c3))] W fun e w' => e = .returned (.int .i64 8) ∧ Below W.heap.size W w') := hcm
    clear hcm g0 eN
    simp only [Mach.cells] at *
    go_enter Tryd.func48, Tryd.ntmps48
    go_wp2_with fail
    rw [← HW.out]
    refine HC.out.mono ?_
    rintro e w1 ⟨rfl, hb1⟩
    have HB1 : Hid (Below w.heap.size w w1) := HX.out.2.trans (hb1.mono HX.out.2.size)
    clear hb1 HC
    go_wp2_with fail
    go_ret
    exact ⟨ret_int HN.out, HB1.out⟩
  | true =>
  rw [show mayNoM m = 0 by simp [mayNoM, g0]] at hcm
  have HC : Hid (Calls Tryd.prog 18 #[.agg (m.cells (.slice A1 m.regs.length c1) (.slice A2 m.mem.length c2) (.slice A3 m.out.length c3))] W fun e w' => e = .returned (.int .i64 0) ∧ Below W.heap.size W w') := hcm
  have EN : Hid (N = if decide (blk.length ≠ 0) && decide (blk.length ≠ 16) then 1 else if !allB blk || !wordB value || m.count == 1099511627776 then 2 else 0) := by show _ = _; rw [eN]; simp only [stepNo, g0]; rfl
  clear hcm g0 eN
  by_cases l0 : blk.length = 0
  case' pos => have d0 : ((blk.length : Int) != 0) = false := by simp [l0]
  case' neg => have d0 : ((blk.length : Int) != 0) = true := by simp [l0]
  case neg =>
    by_cases l1 : blk.length = 16
    case neg =>
      have d1 : ((blk.length : Int) != 16) = true := by simp; omega
      have HN : Hid (1 = N) := by show _ = _; rw [EN.out]; simp [l0, l1]
      clear EN l0 l1
      simp only [Mach.cells] at *
      go_enter Tryd.func48, Tryd.ntmps48
      go_wp2_with fail
      rw [← HW.out]
      refine HC.out.mono ?_
      rintro e w1 ⟨rfl, hb1⟩
      have HB1 : Hid (Below w.heap.size w w1) := HX.out.2.trans (hb1.mono HX.out.2.size)
      clear hb1 HC
      go_wp2_with fail
      go_ret
      exact ⟨ret_int HN.out, HB1.out⟩
    have d1 : ((blk.length : Int) != 16) = false := by simp [l1]
    have EM : Hid (N = if !allB blk || !wordB value || m.count == 1099511627776 then 2 else 0) := by show _ = _; rw [EN.out]; simp [l1]
    clear EN l0 l1
    simp only [Mach.cells] at *
    go_enter Tryd.func48, Tryd.ntmps48
    go_wp2_with fail
    rw [← HW.out]
    refine HC.out.mono ?_
    rintro e w1 ⟨rfl, hb1⟩
    obtain ⟨hx1, hbb1⟩ := box_below HX.out.1 HX.out.2 hb1
    have HX1 : Hid (_ ∧ Below w.heap.size w w1) := ⟨hx1, hbb1⟩
    clear hb1 HC HX HW hx1 hbb1
    go_wp2_with fail
    refine (haveNoWord_any _ blk _ (HB.out.below HX1.out.2)).mono ?_
    cases g1 : allB blk with
    | false =>
      rintro e w2 ⟨rfl, hb2⟩
      have HN : Hid (2 = N) := by show _ = _; rw [EM.out, g1]; rfl
      have HB2 : Hid (Below w.heap.size w w2) := HX1.out.2.trans (hb2.mono HX1.out.2.size)
      clear hb2 g1 EM
      go_wp2_with fail
      go_ret
      exact ⟨ret_int HN.out, HB2.out⟩
    | true =>
    rintro e w2 ⟨rfl, hb2⟩
    obtain ⟨hx2, hbb2⟩ := box_below HX1.out.1 HX1.out.2 hb2
    have HX2 : Hid (_ ∧ Below w.heap.size w w2) := ⟨hx2, hbb2⟩
    have G1 : Hid (allB blk = true) := g1
    clear hb2 HX1 hx2 hbb2 g1
    go_wp2_with fail
    refine (isNoWord_any _).mono ?_
    rintro e w3 ⟨p, q, rfl, hc, hb3⟩
    obtain ⟨hx3, hbb3⟩ := box_below HX2.out.1 HX2.out.2 hb3
    have HC : Hid (CloAt w3 p q (-1099511627776) 1099511627776) := hc
    obtain ⟨⟨z0, z1, z2, z3, z4, z5, z6, z7, z8, z9, z10, z11⟩, zf, zl⟩ := twelve_cells hx3
    have HB3 : Hid (Below w.heap.size w w3) := hbb3
    clear hc hb3 HX2 hx3 hbb3
    go_wp2_with fail
    refine (word_clo value p q _ HC.out).mono ?_
    cases g2 : wordB value with
    | false =>
      rintro e w3 ⟨rfl, rfl⟩
      have HN : Hid (2 = N) := by show _ = _; rw [EM.out, G1.out, g2]; rfl
      clear g2 EM
      go_wp2_with fail
      go_ret
      exact ⟨ret_int HN.out, HB3.out⟩
    | true =>
    rintro e w3 ⟨rfl, rfl⟩
    have G2 : Hid (wordB value = true) := g2
    clear g2
    cases g3 : m.count == 1099511627776 with
    | true =>
      have HN : Hid (2 = N) := by show _ = _; rw [EM.out, G1.out, G2.out, g3]; rfl
      clear EM
      go_wp2_with fail
      go_ret
      exact ⟨ret_int HN.out, HB3.out⟩
    | false =>
      have HN : Hid (0 = N) := by show _ = _; rw [EM.out, G1.out, G2.out, g3]; rfl
      clear EM
      go_wp2_with fail
      go_ret
      exact ⟨ret_int HN.out, HB3.out⟩
  have EM : Hid (N = if !allB blk || !wordB value || m.count == 1099511627776 then 2 else 0) := by show _ = _; rw [EN.out]; simp [l0]
  clear EN l0
  simp only [Mach.cells] at *
  go_enter Tryd.func48, Tryd.ntmps48
  go_wp2_with fail
  rw [← HW.out]
  refine HC.out.mono ?_
  rintro e w1 ⟨rfl, hb1⟩
  obtain ⟨hx1, hbb1⟩ := box_below HX.out.1 HX.out.2 hb1
  have HX1 : Hid (_ ∧ Below w.heap.size w w1) := ⟨hx1, hbb1⟩
  clear hb1 HC HX HW hx1 hbb1
  go_wp2_with fail
  refine (haveNoWord_any _ blk _ (HB.out.below HX1.out.2)).mono ?_
  cases g1 : allB blk with
  | false =>
    rintro e w2 ⟨rfl, hb2⟩
    have HN : Hid (2 = N) := by show _ = _; rw [EM.out, g1]; rfl
    have HB2 : Hid (Below w.heap.size w w2) := HX1.out.2.trans (hb2.mono HX1.out.2.size)
    clear hb2 g1 EM
    go_wp2_with fail
    go_ret
    exact ⟨ret_int HN.out, HB2.out⟩
  | true =>
  rintro e w2 ⟨rfl, hb2⟩
  obtain ⟨hx2, hbb2⟩ := box_below HX1.out.1 HX1.out.2 hb2
  have HX2 : Hid (_ ∧ Below w.heap.size w w2) := ⟨hx2, hbb2⟩
  have G1 : Hid (allB blk = true) := g1
  clear hb2 HX1 hx2 hbb2 g1
  go_wp2_with fail
  refine (isNoWord_any _).mono ?_
  rintro e w3 ⟨p, q, rfl, hc, hb3⟩
  obtain ⟨hx3, hbb3⟩ := box_below HX2.out.1 HX2.out.2 hb3
  have HC : Hid (CloAt w3 p q (-1099511627776) 1099511627776) := hc
  obtain ⟨⟨z0, z1, z2, z3, z4, z5, z6, z7, z8, z9, z10, z11⟩, zf, zl⟩ := twelve_cells hx3
  have HB3 : Hid (Below w.heap.size w w3) := hbb3
  clear hc hb3 HX2 hx3 hbb3
  go_wp2_with fail
  refine (word_clo value p q _ HC.out).mono ?_
  cases g2 : wordB value with
  | false =>
    rintro e w3 ⟨rfl, rfl⟩
    have HN : Hid (2 = N) := by show _ = _; rw [EM.out, G1.out, g2]; rfl
    clear g2 EM
    go_wp2_with fail
    go_ret
    exact ⟨ret_int HN.out, HB3.out⟩
  | true =>
  rintro e w3 ⟨rfl, rfl⟩
  have G2 : Hid (wordB value = true) := g2
  clear g2
  cases g3 : m.count == 1099511627776 with
  | true =>
    have HN : Hid (2 = N) := by show _ = _; rw [EM.out, G1.out, G2.out, g3]; rfl
    clear EM
    go_wp2_with fail
    go_ret
    exact ⟨ret_int HN.out, HB3.out⟩
  | false =>
    have HN : Hid (0 = N) := by show _ = _; rw [EM.out, G1.out, G2.out, g3]; rfl
    clear EM
    go_wp2_with fail
    go_ret
    exact ⟨ret_int HN.out, HB3.out⟩

end Go.Proofs.YtbjlfhpiebokkaaDoor
