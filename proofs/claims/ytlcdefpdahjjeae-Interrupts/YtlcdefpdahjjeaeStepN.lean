/- Contract of cpu.next: the instruction that comes next. -/
import Derived.Test.YtlcdefpdahjjeaeStepM
namespace Go.Proofs.Ytlcdefpdahjjeae
open Go.RowKit

theorem instr_box {w w1 : World} (hb1 : Below (w.alloc (.cells zeroI 24)).heap.size (w.alloc (.cells zeroI 24)) w1) : w1.heap[w.heap.size]? = some (.cells zeroI 24 (0, 0)) ∧ Below w.heap.size w w1 :=
  ⟨box_kept hb1, (below_alloc _ _).trans (hb1.mono (by simp))⟩

set_option maxHeartbeats 2000000 in
/-- There is none. -/
theorem next_at (lo b : Nat) (rv mv ov : Value) (m : Mach) (w : World) (h : AtP w lo b rv mv ov m) (hm : MayP m) (hE : m.meantE m.pc false ≠ 0) :
    Calls Try.prog 27 #[ptr b] w fun e w' => e = .returned (.tuple #[.agg zeroI, .int .i64 m.nextE]) ∧ Below w.heap.size w w' := by
  have HM : Hid (∀ W, Below w.heap.size w W → Calls Try.prog 37 #[ptr b, .int .i64 m.pc, .int .i64 32] W fun e w' => e = .returned (.tuple #[.int .i64 (m.meantK m.pc false), .int .i64 (m.meantE m.pc false)]) ∧ Below W.heap.size W w') := fun W hb => meantC_any lo b rv mv ov m m.pc 32 false W (h.below hb) hm.mem hm.table (Or.inl ⟨rfl, rfl⟩)
  have HE : Hid (m.nextE = m.meantE m.pc false) := by show _ = _; simp [Mach.nextE, hE]
  rw [HE.out]
  clear HE
  have d1 : (m.meantE m.pc false != 0) = true := by simpa using hE
  obtain ⟨⟨z0, z1, z2, z3, z4, z5, z6, z7, z8, z9, z10, z11⟩, zf, zl⟩ := twelve_cells (h.below (below_alloc w (.cells zeroI 24))).box
  clear hE h hm
  revert HM d1
  generalize m.meantE m.pc false = E
  generalize m.meantK m.pc false = K
  intro HM d1
  go_enter Try.func27, Try.ntmps27
  go_wp2_with fail
  clear z0 z1 z2 z3 z4 z5 z6 z7 z8 z9 z10 z11 zf zl
  refine (HM.out _ (below_alloc _ _)).mono ?_
  rintro e w1 ⟨rfl, hb1⟩
  obtain ⟨hy, hb⟩ := instr_box hb1
  obtain ⟨y0, y1, y2, y3, yf, yl⟩ := four_cells hy
  clear hb1 hy HM
  go_wp2_with fail
  refine bodyPost_ret (v := .tuple #[.agg zeroI, .int .i64 E]) (by simp [results, Try.results27, go_sem, y0, y1, y2, y3]) rfl ?_
  first
    | exact ⟨rfl, hb⟩
    | exact ⟨rfl, (((hb.setCell (by simp) _).setCell (by simp) _).setCell (by simp) _).setCell (by simp) _⟩

set_option maxHeartbeats 2000000 in
theorem next_code (lo b : Nat) (rv mv ov : Value) (m : Mach) (w : World) (h : AtP w lo b rv mv ov m) (hm : MayP m) (hE : m.meantE m.pc false = 0) (hD : decNo m.nextX ≠ 0) :
    Calls Try.prog 27 #[ptr b] w fun e w' => e = .returned (.tuple #[.agg zeroI, .int .i64 2]) ∧ Below w.heap.size w w' := by
  have HM : Hid (∀ W, Below w.heap.size w W → Calls Try.prog 37 #[ptr b, .int .i64 m.pc, .int .i64 32] W fun e w' => e = .returned (.tuple #[.int .i64 (m.meantK m.pc false), .int .i64 0]) ∧ Below W.heap.size W w') := fun W hb => by
    have := meantC_any lo b rv mv ov m m.pc 32 false W (h.below hb) hm.mem hm.table (Or.inl ⟨rfl, rfl⟩)
    rwa [hE] at this
  obtain ⟨k1, k2⟩ := meant_bd hE
  obtain ⟨x1, x2⟩ := nextX_bd hm hE
  have HI : Hid (∀ W, Calls Try.prog 38 #[.int .i64 m.nextX] W fun e w' => e = .returned (.tuple #[.agg zeroI, .int .i64 (decNo m.nextX)]) ∧ Below W.heap.size W w') := fun W => by
    have := CpuDecode_any m.nextX W ⟨by omega, by omega⟩
    rwa [show decI m.nextX = .agg zeroI by simp [decI, hD]] at this
  have hl := hm.mem
  obtain ⟨g, c, rfl, hg1, hg2, hcell, -⟩ := h.own.mem.opened (by omega)
  have h1 : w.cell? ⟨g, (m.meantK m.pc false).toNat, none⟩ = some (.int .i64 m.nextX) := hcell _ (by omega)
  have H1 : Hid (w.cell? ⟨g, (m.meantK m.pc false).toNat, none⟩ = some (.int .i64 m.nextX) ∧ g < w.heap.size) := ⟨h1, hg2⟩
  have k3 : m.meantK m.pc false < (m.mem.length : Int) := by omega
  have H : Hid (AtP w lo b rv (.slice (some ⟨g, 0, none⟩) m.mem.length c) ov m) := h
  clear hcell hl k2 h hm hE x1 x2 h1 hg1 hg2
  have d1 : (decNo m.nextX != 0) = true := by simpa using hD
  clear hD
  revert d1; revert k3; revert H1; revert HI; revert k1; revert HM
  generalize m.meantK m.pc false = K
  generalize decNo m.nextX = N
  generalize m.nextX = x
  intro HM k1 HI H1 k3 d1
  obtain ⟨⟨z0, z1, z2, z3, z4, z5, z6, z7, z8, z9, z10, z11⟩, zf, zl⟩ := twelve_cells (H.out.below (below_alloc w (.cells zeroI 24))).box
  go_enter Try.func27, Try.ntmps27
  go_wp2_with fail
  clear z0 z1 z2 z3 z4 z5 z6 z7 z8 z9 z10 z11 zf zl
  refine (HM.out _ (below_alloc _ _)).mono ?_
  rintro e w1 ⟨rfl, hb1⟩
  obtain ⟨hy, hb⟩ := instr_box hb1
  obtain ⟨⟨z0, z1, z2, z3, z4, z5, z6, z7, z8, z9, z10, z11⟩, zf, zl⟩ := twelve_cells (H.out.below hb).box
  have h1 := (hb.cell (p := ⟨g, K.toNat, none⟩) H1.out.2).trans H1.out.1
  have HY : Hid (w1.heap[w.heap.size]? = some (.cells zeroI 24 (0, 0))) := hy
  clear hb1 hy HM H1
  go_wp2_with fail
  clear z0 z1 z2 z3 z4 z5 z6 z7 z8 z9 z10 z11 zf zl
  refine (HI.out _).mono ?_
  rintro e w2 ⟨rfl, hb2⟩
  have hb3 : Below w.heap.size w w2 := hb.trans (hb2.mono hb.size)
  have hy : w2.heap[w.heap.size]? = some (.cells zeroI 24 (0, 0)) := by rw [hb2.block _ (lt_of_block HY.out)]; exact HY.out
  obtain ⟨y0, y1, y2, y3, yf, yl⟩ := four_cells hy
  clear hb2 hy HY HI hb h1
  go_wp2_with fail
  refine bodyPost_ret (v := .tuple #[.agg zeroI, .int .i64 2]) (by simp [results, Try.results27, go_sem, y0, y1, y2, y3, yl]) rfl ?_
  exact ⟨rfl, ((((hb3.setCell (by simp) _).setCell (by simp) _).setCell (by simp) _).setCell (by simp) _).alloc (by simpa using hb3.size) _⟩

set_option maxHeartbeats 2000000 in
theorem next_ok (lo b : Nat) (rv mv ov : Value) (m : Mach) (w : World) (h : AtP w lo b rv mv ov m) (hm : MayP m) (hE : m.meantE m.pc false = 0) (hD : decNo m.nextX = 0) :
    Calls Try.prog 27 #[ptr b] w fun e w' => e = .returned (.tuple #[.agg (instrA m.nextX), .int .i64 0]) ∧ Below w.heap.size w w' := by
  have HM : Hid (∀ W, Below w.heap.size w W → Calls Try.prog 37 #[ptr b, .int .i64 m.pc, .int .i64 32] W fun e w' => e = .returned (.tuple #[.int .i64 (m.meantK m.pc false), .int .i64 0]) ∧ Below W.heap.size W w') := fun W hb => by
    have := meantC_any lo b rv mv ov m m.pc 32 false W (h.below hb) hm.mem hm.table (Or.inl ⟨rfl, rfl⟩)
    rwa [hE] at this
  obtain ⟨k1, k2⟩ := meant_bd hE
  obtain ⟨x1, x2⟩ := nextX_bd hm hE
  have HI : Hid (∀ W, Calls Try.prog 38 #[.int .i64 m.nextX] W fun e w' => e = .returned (.tuple #[.agg (instrA m.nextX), .int .i64 0]) ∧ Below W.heap.size W w') := fun W => by
    have := CpuDecode_any m.nextX W ⟨by omega, by omega⟩
    rwa [show decI m.nextX = .agg (instrA m.nextX) by simp [decI, hD], hD] at this
  have hl := hm.mem
  obtain ⟨g, c, rfl, hg1, hg2, hcell, -⟩ := h.own.mem.opened (by omega)
  have h1 : w.cell? ⟨g, (m.meantK m.pc false).toNat, none⟩ = some (.int .i64 m.nextX) := hcell _ (by omega)
  have H1 : Hid (w.cell? ⟨g, (m.meantK m.pc false).toNat, none⟩ = some (.int .i64 m.nextX) ∧ g < w.heap.size) := ⟨h1, hg2⟩
  have k3 : m.meantK m.pc false < (m.mem.length : Int) := by omega
  have H : Hid (AtP w lo b rv (.slice (some ⟨g, 0, none⟩) m.mem.length c) ov m) := h
  clear hcell hl k2 h hm hE x1 x2 h1 hg1 hg2
  clear hD
  revert k3; revert H1; revert HI; revert k1; revert HM
  generalize m.meantK m.pc false = K
  generalize m.nextX = x
  intro HM k1 HI H1 k3
  obtain ⟨⟨z0, z1, z2, z3, z4, z5, z6, z7, z8, z9, z10, z11⟩, zf, zl⟩ := twelve_cells (H.out.below (below_alloc w (.cells zeroI 24))).box
  go_enter Try.func27, Try.ntmps27
  go_wp2_with fail
  clear z0 z1 z2 z3 z4 z5 z6 z7 z8 z9 z10 z11 zf zl
  refine (HM.out _ (below_alloc _ _)).mono ?_
  rintro e w1 ⟨rfl, hb1⟩
  obtain ⟨hy, hb⟩ := instr_box hb1
  obtain ⟨⟨z0, z1, z2, z3, z4, z5, z6, z7, z8, z9, z10, z11⟩, zf, zl⟩ := twelve_cells (H.out.below hb).box
  have h1 := (hb.cell (p := ⟨g, K.toNat, none⟩) H1.out.2).trans H1.out.1
  have HY : Hid (w1.heap[w.heap.size]? = some (.cells zeroI 24 (0, 0))) := hy
  clear hb1 hy HM H1
  go_wp2_with fail
  clear z0 z1 z2 z3 z4 z5 z6 z7 z8 z9 z10 z11 zf zl
  refine (HI.out _).mono ?_
  rintro e w2 ⟨rfl, hb2⟩
  have hb3 : Below w.heap.size w w2 := hb.trans (hb2.mono hb.size)
  have hy : w2.heap[w.heap.size]? = some (.cells zeroI 24 (0, 0)) := by rw [hb2.block _ (lt_of_block HY.out)]; exact HY.out
  obtain ⟨y0, y1, y2, y3, yf, yl⟩ := four_cells hy
  clear hb2 hy HY HI hb h1
  go_wp2_with fail
  refine bodyPost_ret (v := .tuple #[.agg (instrA x), .int .i64 0]) (by simp [results, Try.results27, go_sem, y0, y1, y2, y3, yl]) rfl ?_
  exact ⟨rfl, ((((hb3.setCell (by simp) _).setCell (by simp) _).setCell (by simp) _).setCell (by simp) _).alloc (by simpa using hb3.size) _⟩

end Go.Proofs.Ytlcdefpdahjjeae
