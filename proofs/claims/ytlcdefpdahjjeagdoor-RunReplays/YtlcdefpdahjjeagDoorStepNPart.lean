/- Contract of cpu.next: the instruction that comes next. -/
import Derived.Test.YtlcdefpdahjjeagDoorCpuCodePart
import Derived.Test.YtlcdefpdahjjeagDoorStepSPart
namespace Go.Proofs.YtlcdefpdahjjeagDoor
open Go.RowKit

theorem instr_box {w w1 : World} (hb1 : Below (w.alloc (.cells zeroI 85)).heap.size (w.alloc (.cells zeroI 85)) w1) : w1.heap[w.heap.size]? = some (.cells zeroI 85 (0, 0)) ∧ Below w.heap.size w w1 :=
  ⟨box_kept hb1, (below_alloc _ _).trans (hb1.mono (by simp))⟩

set_option maxHeartbeats 2000000 in
/-- There is none. -/
theorem next_at (lo b : Nat) (rv mv ov : Value) (m : Mach) (w : World) (h : AtP w lo b rv mv ov m) (hm : MayP m) (hE : m.meantE m.pc false ≠ 0) :
    Calls Tryd.prog 88 #[ptr b] w fun e w' => e = .returned (.tuple #[.agg zeroI, .int .i64 m.nextE]) ∧ Below w.heap.size w w' := by
  have HM : Hid (∀ W, Below w.heap.size w W → Calls Tryd.prog 113 #[ptr b, .int .i64 m.pc, .int .i64 32] W fun e w' => e = .returned (.tuple #[.int .i64 (m.meantK m.pc false), .int .i64 (m.meantE m.pc false)]) ∧ Below W.heap.size W w') := fun W hb => meantC_any lo b rv mv ov m m.pc 32 false W (h.below hb) hm.mem hm.table (Or.inl ⟨rfl, rfl⟩)
  have HE : Hid (m.nextE = m.meantE m.pc false) := by show _ = _; simp [Mach.nextE, hE]
  rw [HE.out]
  clear HE
  have d1 : (m.meantE m.pc false != 0) = true := by simpa using hE
  obtain ⟨⟨z0, z1, z2, z3, z4, z5, z6, z7, z8, z9, z10, z11⟩, zf, zl⟩ := twelve_cells (h.below (below_alloc w (.cells zeroI 85))).box
  clear hE h hm
  revert HM d1
  generalize m.meantE m.pc false = E
  generalize m.meantK m.pc false = K
  intro HM d1
  go_enter Tryd.func88, Tryd.ntmps88
  go_wp2_with fail
  clear z0 z1 z2 z3 z4 z5 z6 z7 z8 z9 z10 z11 zf zl
  refine (HM.out _ (below_alloc _ _)).mono ?_
  rintro e w1 ⟨rfl, hb1⟩
  obtain ⟨hy, hb⟩ := instr_box hb1
  obtain ⟨y0, y1, y2, y3, yf, yl⟩ := four_cells hy
  clear hb1 hy HM
  go_wp2_with fail
  refine bodyPost_ret (v := .tuple #[.agg zeroI, .int .i64 E]) (by simp [results, Tryd.results88, go_sem, y0, y1, y2, y3]) rfl ?_
  first
    | exact ⟨rfl, hb⟩
    | exact ⟨rfl, (((hb.setCell (by simp) _).setCell (by simp) _).setCell (by simp) _).setCell (by simp) _⟩

set_option maxHeartbeats 2000000 in
theorem next_code (lo b : Nat) (rv mv ov : Value) (m : Mach) (w : World) (h : AtP w lo b rv mv ov m) (hm : MayP m) (hE : m.meantE m.pc false = 0) (hD : decNo m.nextX ≠ 0) :
    Calls Tryd.prog 88 #[ptr b] w fun e w' => e = .returned (.tuple #[.agg zeroI, .int .i64 2]) ∧ Below w.heap.size w w' := by
  have HM : Hid (∀ W, Below w.heap.size w W → Calls Tryd.prog 113 #[ptr b, .int .i64 m.pc, .int .i64 32] W fun e w' => e = .returned (.tuple #[.int .i64 (m.meantK m.pc false), .int .i64 0]) ∧ Below W.heap.size W w') := fun W hb => by
    have := meantC_any lo b rv mv ov m m.pc 32 false W (h.below hb) hm.mem hm.table (Or.inl ⟨rfl, rfl⟩)
    rwa [hE] at this
  obtain ⟨k1, k2⟩ := meant_bd hE
  obtain ⟨x1, x2⟩ := nextX_bd hm hE
  have HI : Hid (∀ W, Calls Tryd.prog 114 #[.int .i64 m.nextX] W fun e w' => e = .returned (.tuple #[.agg zeroI, .int .i64 (decNo m.nextX)]) ∧ Below W.heap.size W w') := fun W => by
    have := CpuDecode_any m.nextX W ⟨by omega, by omega⟩
    rwa [show decI m.nextX = .agg zeroI by simp [decI, hD]] at this
  have hl := hm.mem
  obtain ⟨g, c, rfl, hg1, hg2, hcell, -⟩ := h.own.mem.opened (by omega)
  have h1 : w.cell? ⟨g, (m.meantK m.pc false).toNat, none⟩ = some (.int .i64 m.nextX) := hcell _ (by omega)
  have H1 : Hid (w.cell? ⟨g, (m.meantK m.pc false).toNat, none⟩ = some (.int .i64 m.nextX) ∧ g < w.heap.size) := ⟨h1, hg2⟩
  have k3 : m.meantK m.pc false < (m.mem.length : Int) := by omega
  have H : Hid (AtP w lo b rv (.slice (some ⟨g, 0, none⟩) m.mem.length c) ov m) := h
  clear hcell hl k2 h hm hE x1 x2 h1 hg1 hg2
  have d1 : (decNo m.nextX != 0) = true := by simpa using hD
  clear hD
  revert d1; revert k3; revert H1; revert HI; revert k1; revert HM
  generalize m.meantK m.pc false = K
  generalize decNo m.nextX = N
  generalize m.nextX = x
  intro HM k1 HI H1 k3 d1
  obtain ⟨⟨z0, z1, z2, z3, z4, z5, z6, z7, z8, z9, z10, z11⟩, zf, zl⟩ := twelve_cells (H.out.below (below_alloc w (.cells zeroI 85))).box
  go_enter Tryd.func88, Tryd.ntmps88
  go_wp2_with fail
  clear z0 z1 z2 z3 z4 z5 z6 z7 z8 z9 z10 z11 zf zl
  refine (HM.out _ (below_alloc _ _)).mono ?_
  rintro e w1 ⟨rfl, hb1⟩
  obtain ⟨hy, hb⟩ := instr_box hb1
  obtain ⟨⟨z0, z1, z2, z3, z4, z5, z6, z7, z8, z9, z10, z11⟩, zf, zl⟩ := twelve_cells (H.out.below hb).box
  have h1 := (hb.cell (p := ⟨g, K.toNat, none⟩) H1.out.2).trans H1.out.1
  have HY : Hid (w1.heap[w.heap.size]? = some (.cells zeroI 85 (0, 0))) := hy
  clear hb1 hy HM H1
  go_wp2_with fail
  clear z0 z1 z2 z3 z4 z5 z6 z7 z8 z9 z10 z11 zf zl
  refine (HI.out _).mono ?_
  rintro e w2 ⟨rfl, hb2⟩
  have hb3 : Below w.heap.size w w2 := hb.trans (hb2.mono hb.size)
  have hy : w2.heap[w.heap.size]? = some (.cells zeroI 85 (0, 0)) := by rw [hb2.block _ (lt_of_block HY.out)]; exact HY.out
  obtain ⟨y0, y1, y2, y3, yf, yl⟩ := four_cells hy
  clear hb2 hy HY HI hb h1
  go_wp2_with fail
  refine bodyPost_ret (v := .tuple #[.agg zeroI, .int .i64 2]) (by simp [results, Tryd.results88, go_sem, y0, y1, y2, y3, yl]) rfl ?_
  exact ⟨rfl, ((((hb3.setCell (by simp) _).setCell (by simp) _).setCell (by simp) _).setCell (by simp) _).alloc (by simpa using hb3.size) _⟩

set_option maxHeartbeats 2000000 in
theorem next_ok (lo b : Nat) (rv mv ov : Value) (m : Mach) (w : World) (h : AtP w lo b rv mv ov m) (hm : MayP m) (hE : m.meantE m.pc false = 0) (hD : decNo m.nextX = 0) :
    Calls Tryd.prog 88 #[ptr b] w fun e w' => e = .returned (.tuple #[.agg (instrA m.nextX), .int .i64 0]) ∧ Below w.heap.size w w' := by
  have HM : Hid (∀ W, Below w.heap.size w W → Calls Tryd.prog 113 #[ptr b, .int .i64 m.pc, .int .i64 32] W fun e w' => e = .returned (.tuple #[.int .i64 (m.meantK m.pc false), .int .i64 0]) ∧ Below W.heap.size W w') := fun W hb => by
    have := meantC_any lo b rv mv ov m m.pc 32 false W (h.below hb) hm.mem hm.table (Or.inl ⟨rfl, rfl⟩)
    rwa [hE] at this
  obtain ⟨k1, k2⟩ := meant_bd hE
  obtain ⟨x1, x2⟩ := nextX_bd hm hE
  have HI : Hid (∀ W, Calls Tryd.prog 114 #[.int .i64 m.nextX] W fun e w' => e = .returned (.tuple #[.agg (instrA m.nextX), .int .i64 0]) ∧ Below W.heap.size W w') := fun W => by
    have := CpuDecode_any m.nextX W ⟨by omega, by omega⟩
    rwa [show decI m.nextX = .agg (instrA m.nextX) by simp [decI, hD], hD] at this
  have hl := hm.mem
  obtain ⟨g, c, rfl, hg1, hg2, hcell, -⟩ := h.own.mem.opened (by omega)
  have h1 : w.cell? ⟨g, (m.meantK m.pc false).toNat, none⟩ = some (.int .i64 m.nextX) := hcell _ (by omega)
  have H1 : Hid (w.cell? ⟨g, (m.meantK m.pc false).toNat, none⟩ = some (.int .i64 m.nextX) ∧ g < w.heap.size) := ⟨h1, hg2⟩
  have k3 : m.meantK m.pc false < (m.mem.length : Int) := by omega
  have H : Hid (AtP w lo b rv (.slice (some ⟨g, 0, none⟩) m.mem.length c) ov m) := h
  clear hcell hl k2 h hm hE x1 x2 h1 hg1 hg2
  clear hD
  revert k3; revert H1; revert HI; revert k1; revert HM
  generalize m.meantK m.pc false = K
  generalize m.nextX = x
  intro HM k1 HI H1 k3
  obtain ⟨⟨z0, z1, z2, z3, z4, z5, z6, z7, z8, z9, z10, z11⟩, zf, zl⟩ := twelve_cells (H.out.below (below_alloc w (.cells zeroI 85))).box
  go_enter Tryd.func88, Tryd.ntmps88
  go_wp2_with fail
  clear z0 z1 z2 z3 z4 z5 z6 z7 z8 z9 z10 z11 zf zl
  refine (HM.out _ (below_alloc _ _)).mono ?_
  rintro e w1 ⟨rfl, hb1⟩
  obtain ⟨hy, hb⟩ := instr_box hb1
  obtain ⟨⟨z0, z1, z2, z3, z4, z5, z6, z7, z8, z9, z10, z11⟩, zf, zl⟩ := twelve_cells (H.out.below hb).box
  have h1 := (hb.cell (p := ⟨g, K.toNat, none⟩) H1.out.2).trans H1.out.1
  have HY : Hid (w1.heap[w.heap.size]? = some (.cells zeroI 85 (0, 0))) := hy
  clear hb1 hy HM H1
  go_wp2_with fail
  clear z0 z1 z2 z3 z4 z5 z6 z7 z8 z9 z10 z11 zf zl
  refine (HI.out _).mono ?_
  rintro e w2 ⟨rfl, hb2⟩
  have hb3 : Below w.heap.size w w2 := hb.trans (hb2.mono hb.size)
  have hy : w2.heap[w.heap.size]? = some (.cells zeroI 85 (0, 0)) := by rw [hb2.block _ (lt_of_block HY.out)]; exact HY.out
  obtain ⟨y0, y1, y2, y3, yf, yl⟩ := four_cells hy
  clear hb2 hy HY HI hb h1
  go_wp2_with fail
  refine bodyPost_ret (v := .tuple #[.agg (instrA x), .int .i64 0]) (by simp [results, Tryd.results88, go_sem, y0, y1, y2, y3, yl]) rfl ?_
  exact ⟨rfl, ((((hb3.setCell (by simp) _).setCell (by simp) _).setCell (by simp) _).setCell (by simp) _).alloc (by simpa using hb3.size) _⟩

end Go.Proofs.YtlcdefpdahjjeagDoor

/- Contracts of cpu.askBlock, letIn. -/

namespace Go.Proofs.YtlcdefpdahjjeagDoor
open Go.RowKit

set_option maxHeartbeats 400000 in
theorem askBlock_any (lo b : Nat) (rv mv ov : Value) (m : Mach) (x : Int) (w : World) (h : AtP w lo b rv mv ov m) (hlo : lo ≤ w.heap.size) :
    Calls Tryd.prog 115 #[ptr b, .int .i64 x] w fun e w' => e = .returned (.tuple #[]) ∧ AtP w' lo b rv mv ov (m.asked x) ∧ Below lo w w' := by
  have H : Hid (AtP w lo b rv mv ov m) := h
  cases c : inB x 0 15 with
  | false =>
    have HT : Hid (m.asked x = { m with fin := 3 }) := by show _ = _; simp [Mach.asked, c]
    rw [HT.out]
    clear h HT
    go_enter Tryd.func115, Tryd.ntmps115
    go_wp2_with fail
    refine (outside_any _ _ _).mono ?_
    rintro e w1 ⟨p, q, rfl, hc, hb⟩
    have HC : Hid (CloAt w1 p q 0 15) := hc
    have h1 := H.out.below hb
    have HB : Hid (Below lo w w1) := hb.mono hlo
    obtain ⟨⟨z0, z1, z2, z3, z4, z5, z6, z7, z8, z9, z10, z11⟩, zf, zl⟩ := twelve_cells h1.box
    have H1 : Hid (AtP w1 lo b rv mv ov m) := h1
    clear hc hb h1
    go_wp2_with (go_at_call 82; refine (clo_any _ 0 15 _ _ _ HC.out).mono ?_; rw [c]; rintro e w1 ⟨rfl, rfl⟩)
    first | go_end0 | refine bodyPost_ret (results_none rfl _ _ _) rfl ?_
    exact ⟨rfl, (H1.out.setFin 3).1, HB.out.trans ((H1.out.setFin 3).2)⟩
  | true =>
  cases c2 : m.want == -1 with
  | false =>
    have HT : Hid (m.asked x = m) := by show _ = _; simp only [Mach.asked, c, c2]; rfl
    rw [HT.out]
    clear h HT
    go_enter Tryd.func115, Tryd.ntmps115
    go_wp2_with fail
    refine (outside_any _ _ _).mono ?_
    rintro e w1 ⟨p, q, rfl, hc, hb⟩
    have HC : Hid (CloAt w1 p q 0 15) := hc
    have h1 := H.out.below hb
    have HB : Hid (Below lo w w1) := hb.mono hlo
    obtain ⟨⟨z0, z1, z2, z3, z4, z5, z6, z7, z8, z9, z10, z11⟩, zf, zl⟩ := twelve_cells h1.box
    have H1 : Hid (AtP w1 lo b rv mv ov m) := h1
    clear hc hb h1
    go_wp2_with (go_at_call 82; refine (clo_any _ 0 15 _ _ _ HC.out).mono ?_; rw [c]; rintro e w1 ⟨rfl, rfl⟩)
    first | go_end0 | refine bodyPost_ret (results_none rfl _ _ _) rfl ?_
    exact ⟨rfl, H1.out, HB.out⟩
  | true =>
    have HT : Hid (m.asked x = { m with want := x, ready := 0 }) := by show _ = _; simp only [Mach.asked, c, c2]; rfl
    rw [HT.out]
    clear h HT
    go_enter Tryd.func115, Tryd.ntmps115
    go_wp2_with fail
    refine (outside_any _ _ _).mono ?_
    rintro e w1 ⟨p, q, rfl, hc, hb⟩
    have HC : Hid (CloAt w1 p q 0 15) := hc
    have h1 := H.out.below hb
    have HB : Hid (Below lo w w1) := hb.mono hlo
    obtain ⟨⟨z0, z1, z2, z3, z4, z5, z6, z7, z8, z9, z10, z11⟩, zf, zl⟩ := twelve_cells h1.box
    have H1 : Hid (AtP w1 lo b rv mv ov m) := h1
    clear hc hb h1
    go_wp2_with (go_at_call 82; refine (clo_any _ 0 15 _ _ _ HC.out).mono ?_; rw [c]; rintro e w1 ⟨rfl, rfl⟩)
    first | go_end0 | refine bodyPost_ret (results_none rfl _ _ _) rfl ?_
    exact ⟨rfl, ((H1.out.setWant x).1.setReady 0).1, (HB.out.trans (H1.out.setWant x).2).trans ((H1.out.setWant x).1.setReady 0).2⟩

set_option maxHeartbeats 400000 in
theorem letIn_any (lo b : Nat) (rv mv ov : Value) (m : Mach) (w : World) (h : AtP w lo b rv mv ov m) :
    Calls Tryd.prog 87 #[ptr b] w fun e w' => e = .returned (.tuple #[]) ∧ AtP w' lo b rv mv ov m.enter ∧ Below lo w w' := by
  have H : Hid (AtP w lo b rv mv ov m) := h
  obtain ⟨⟨z0, z1, z2, z3, z4, z5, z6, z7, z8, z9, z10, z11⟩, zf, zl⟩ := twelve_cells h.box
  cases c : m.wait with
  | false =>
    have HT : Hid (m.enter = m) := by show _ = _; simp [Mach.enter, c]
    rw [HT.out]
    rw [c] at z4
    clear h HT
    go_enter Tryd.func87, Tryd.ntmps87
    go_wp2_with fail
    first | go_end0 | refine bodyPost_ret (results_none rfl _ _ _) rfl ?_
    exact ⟨rfl, H.out, Below.refl _ _⟩
  | true =>
  cases c2 : m.ints with
  | false =>
    have HT : Hid (m.enter = m) := by show _ = _; simp [Mach.enter, c2]
    rw [HT.out]
    rw [c] at z4
    rw [c2] at z3
    clear h HT
    go_enter Tryd.func87, Tryd.ntmps87
    go_wp2_with fail
    first | go_end0 | refine bodyPost_ret (results_none rfl _ _ _) rfl ?_
    exact ⟨rfl, H.out, Below.refl _ _⟩
  | true =>
    have HT : Hid (m.enter = { m with wait := false, ints := false, back := m.pc, pc := 8 }) := by show _ = _; simp [Mach.enter, c, c2]
    rw [HT.out]
    rw [c] at z4
    rw [c2] at z3
    have a1 := h.setWait false
    have a2 := a1.1.setInts false
    have a3 := a2.1.setBack m.pc
    have a4 := a3.1.setPc 8
    have HA : Hid (AtP _ lo b rv mv ov _ ∧ Below lo w _) := ⟨a4.1, ((a1.2.trans a2.2).trans a3.2).trans a4.2⟩
    clear h HT a1 a2 a3 a4
    go_enter Tryd.func87, Tryd.ntmps87
    go_wp2_with fail
    first | go_end0 | refine bodyPost_ret (results_none rfl _ _ _) rfl ?_
    exact ⟨rfl, HA.out⟩

end Go.Proofs.YtlcdefpdahjjeagDoor
