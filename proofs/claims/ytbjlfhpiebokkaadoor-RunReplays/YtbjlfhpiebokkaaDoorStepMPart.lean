/- Contracts of cpu.meant and next: the word that an address means; the instruction that comes next. -/
import Derived.Test.YtbjlfhpiebokkaaDoorToldPart
import Derived.Test.YtbjlfhpiebokkaaDoorCpuCheckPart
namespace Go.Proofs.YtbjlfhpiebokkaaDoor
open Go.RowKit

theorem meantE_lea {m : Mach} {at' lea : Int} {write : Bool} (hlea : (lea = 32 ∧ write = false) ∨ (lea = 48 ∧ write = true)) (h0 : inB at' 0 255 = true) (h1 : (m.table == -1) = false) :
    m.meantE at' write = if !inB (m.page at') lea 63 then 4 else 0 := by
  rcases hlea with ⟨rfl, rfl⟩ | ⟨rfl, rfl⟩
  · simp only [Mach.meantE, h0, h1]
    cases inB (m.page at') 32 63 <;> rfl
  · simp only [Mach.meantE, h0, h1]
    cases c : inB (m.page at') 32 63 with
    | false =>
      have : inB (m.page at') 48 63 = false := by
        apply inB_no
        intro h
        rw [inB_yes (by omega) h.2] at c
        exact absurd c (by decide)
      rw [this]; rfl
    | true =>
      have := inB_iff.1 c
      by_cases d : m.page at' < 48
      · rw [inB_no (lo := 48) (by omega), decide_eq_true d]; rfl
      · rw [inB_yes (lo := 48) (by omega) this.2, decide_eq_false d]; rfl

set_option maxHeartbeats 2000000 in
theorem meantC_any (lo b : Nat) (rv mv ov : Value) (m : Mach) (at' lea : Int) (write : Bool) (w : World) (h : AtP w lo b rv mv ov m) (hl : m.mem.length = 256) (ht : -1 ≤ m.table ∧ m.table ≤ 15)
    (hlea : (lea = 32 ∧ write = false) ∨ (lea = 48 ∧ write = true)) :
    Calls Tryd.prog 111 #[ptr b, .int .i64 at', .int .i64 lea] w fun e w' => e = .returned (.tuple #[.int .i64 (m.meantK at' write), .int .i64 (m.meantE at' write)]) ∧ Below w.heap.size w w' := by
  cases g0 : inB at' 0 255 with
  | false =>
    have HE : Hid (3 = m.meantE at' write) := by show _ = _; simp [Mach.meantE, g0]
    have HK : Hid (0 = m.meantK at' write) := by show _ = _; simp [Mach.meantK, ← HE.out]
    clear hl ht h hlea
    go_enter Tryd.func111, Tryd.ntmps111
    go_wp2_with fail
    refine (outside_any _ _ _).mono ?_
    rintro e w1 ⟨p, q, rfl, hc, hb⟩
    have HC : Hid (CloAt w1 p q 0 255) := hc
    have HB : Hid (Below w.heap.size w w1) := hb
    clear hc hb
    go_wp2_with (go_at_call 78; refine (clo_any _ 0 255 _ _ _ HC.out).mono ?_; rw [g0]; rintro e w1 ⟨rfl, rfl⟩)
    go_ret2
    exact ⟨ret_two HK.out HE.out, HB.out⟩
  | true =>
  obtain ⟨a1, a2⟩ := inB_iff.1 g0
  cases g1 : m.table == -1 with
  | true =>
    have HE : Hid (0 = m.meantE at' write) := by show _ = _; simp only [Mach.meantE, g0, g1]; rfl
    have HK : Hid (at' = m.meantK at' write) := by show _ = _; simp only [Mach.meantK, ← HE.out, g1]; rfl
    have H : Hid (AtP w lo b rv mv ov m) := h
    clear hl ht h hlea
    go_enter Tryd.func111, Tryd.ntmps111
    go_wp2_with fail
    refine (outside_any _ _ _).mono ?_
    rintro e w1 ⟨p, q, rfl, hc, hb⟩
    have HC : Hid (CloAt w1 p q 0 255) := hc
    have HB : Hid (Below w.heap.size w w1) := hb
    obtain ⟨⟨z0, z1, z2, z3, z4, z5, z6, z7, z8, z9, z10, z11⟩, zf, zl⟩ := twelve_cells (H.out.below hb).box
    clear hc hb
    go_wp2_with (go_at_call 78; refine (clo_any _ 0 255 _ _ _ HC.out).mono ?_; rw [g0]; rintro e w1 ⟨rfl, rfl⟩)
    go_ret2
    exact ⟨ret_two HK.out HE.out, HB.out⟩
  | false =>
  have t0 : 0 ≤ m.table := by
    have : m.table ≠ -1 := by simpa using g1
    omega
  have hE := meantE_lea (m := m) hlea g0 g1
  have hK : m.meantK at' write = (if m.meantE at' write = 0 then 16 * (m.page at' % 16) + at' % 16 else 0) := by simp only [Mach.meantK, g1]; rfl
  obtain ⟨g, c, rfl, hg1, hg2, hcell, -⟩ := h.own.mem.opened (by omega)
  have H : Hid (AtP w lo b rv (.slice (some ⟨g, 0, none⟩) m.mem.length c) ov m) := h
  have h1 : w.cell? ⟨g, (m.table * 16 + at' / 16).toNat, none⟩ = some (.int .i64 (m.page at')) := by
    rw [hcell _ (by omega)]; unfold Mach.page; rw [show m.table * 16 + at' / 16 = 16 * m.table + at' / 16 by omega]
  have H1 : Hid (w.cell? ⟨g, (m.table * 16 + at' / 16).toNat, none⟩ = some (.int .i64 (m.page at')) ∧ g < w.heap.size) := ⟨h1, hg2⟩
  clear h1 hcell hg1 hg2
  obtain ⟨E, eE⟩ : ∃ E, E = m.meantE at' write := ⟨_, rfl⟩
  obtain ⟨K, eK⟩ : ∃ K, K = m.meantK at' write := ⟨_, rfl⟩
  rw [← eE, ← eK]
  rw [← eE] at hE
  rw [← eK, ← eE] at hK
  have HE : Hid (E = if !inB (m.page at') lea 63 then 4 else 0) := hE
  have HK : Hid (K = (if E = 0 then 16 * (m.page at' % 16) + at' % 16 else 0)) := hK
  have x0 : inB (m.page at') lea 63 = true → 32 ≤ m.page at' ∧ m.page at' ≤ 63 := fun hi => by have := inB_iff.1 hi; rcases hlea with ⟨rfl, -⟩ | ⟨rfl, -⟩ <;> omega
  clear hK hE eE eK h hlea
  revert x0 HK HE H1
  generalize m.page at' = x
  intro H1 HE HK x0
  have hj2 : m.table * 16 + at' / 16 < (m.mem.length : Int) := by omega
  have hj3 : 0 ≤ m.table * 16 + at' / 16 := by omega
  obtain ⟨-, t2⟩ := ht
  clear hl
  cases g2 : inB x lea 63 with
  | false =>
    have FE : Hid (4 = E) := by show _ = _; rw [HE.out, g2]; rfl
    have FK : Hid (0 = K) := by show _ = _; rw [HK.out, ← FE.out]; rfl
    clear HE HK x0
    go_enter Tryd.func111, Tryd.ntmps111
    go_wp2_with fail
    refine (outside_any _ _ _).mono ?_
    rintro e w1 ⟨p, q, rfl, hc, hb⟩
    have HC : Hid (CloAt w1 p q 0 255) := hc
    have HB : Hid (Below w.heap.size w w1) := hb
    obtain ⟨⟨z0, z1, z2, z3, z4, z5, z6, z7, z8, z9, z10, z11⟩, zf, zl⟩ := twelve_cells (H.out.below hb).box
    have h1 := (hb.cell (p := ⟨g, (m.table * 16 + at' / 16).toNat, none⟩) H1.out.2).trans H1.out.1
    clear hc hb
    go_wp2_with (go_at_call 78; refine (clo_any _ 0 255 _ _ _ HC.out).mono ?_; rw [g0]; rintro e w1 ⟨rfl, rfl⟩)
    go_quiet (fail)
    go_wp2_with fail
    refine (outside_any _ _ _).mono ?_
    rintro e w3 ⟨p3, q3, rfl, hc3, hb3⟩
    have HC3 : Hid (CloAt w3 p3 q3 lea 63) := hc3
    have HB3 : Hid (Below w.heap.size w w3) := HB.out.trans ((below_drewN (Below.refl _ _) _).trans hb3 |>.mono HB.out.size)
    clear hc3 hb3 z0 z1 z2 z3 z4 z5 z6 z7 z8 z9 z10 z11 zf zl h1
    go_wp2_with (go_at_call 78; refine (clo_any _ lea 63 _ _ _ HC3.out).mono ?_; rw [g2]; rintro e w1 ⟨rfl, rfl⟩)
    go_ret2
    exact ⟨ret_two FK.out FE.out, HB3.out⟩
  | true =>
    obtain ⟨x1, x2⟩ := x0 g2
    have FE : Hid (0 = E) := by show _ = _; rw [HE.out, g2]; rfl
    have FK : Hid (x % 16 * 16 + at' % 16 = K) := by show _ = _; rw [HK.out, ← FE.out]; simp; omega
    clear HE HK x0
    go_enter Tryd.func111, Tryd.ntmps111
    go_wp2_with fail
    refine (outside_any _ _ _).mono ?_
    rintro e w1 ⟨p, q, rfl, hc, hb⟩
    have HC : Hid (CloAt w1 p q 0 255) := hc
    have HB : Hid (Below w.heap.size w w1) := hb
    obtain ⟨⟨z0, z1, z2, z3, z4, z5, z6, z7, z8, z9, z10, z11⟩, zf, zl⟩ := twelve_cells (H.out.below hb).box
    have h1 := (hb.cell (p := ⟨g, (m.table * 16 + at' / 16).toNat, none⟩) H1.out.2).trans H1.out.1
    clear hc hb
    go_wp2_with (go_at_call 78; refine (clo_any _ 0 255 _ _ _ HC.out).mono ?_; rw [g0]; rintro e w1 ⟨rfl, rfl⟩)
    go_quiet (fail)
    go_wp2_with fail
    refine (outside_any _ _ _).mono ?_
    rintro e w3 ⟨p3, q3, rfl, hc3, hb3⟩
    have HC3 : Hid (CloAt w3 p3 q3 lea 63) := hc3
    have HB3 : Hid (Below w.heap.size w w3) := HB.out.trans ((below_drewN (Below.refl _ _) _).trans hb3 |>.mono HB.out.size)
    clear hc3 hb3 z0 z1 z2 z3 z4 z5 z6 z7 z8 z9 z10 z11 zf zl h1
    go_wp2_with (go_at_call 78; refine (clo_any _ lea 63 _ _ _ HC3.out).mono ?_; rw [g2]; rintro e w1 ⟨rfl, rfl⟩)
    go_ret2
    exact ⟨ret_two FK.out FE.out, HB3.out⟩

end Go.Proofs.YtbjlfhpiebokkaaDoor

/- Contract of cpu.next: the instruction that comes next. -/

namespace Go.Proofs.YtbjlfhpiebokkaaDoor
open Go.RowKit

theorem instr_box {w w1 : World} (hb1 : Below (w.alloc (.cells zeroI 83)).heap.size (w.alloc (.cells zeroI 83)) w1) : w1.heap[w.heap.size]? = some (.cells zeroI 83 (0, 0)) ∧ Below w.heap.size w w1 :=
  ⟨box_kept hb1, (below_alloc _ _).trans (hb1.mono (by simp))⟩

set_option maxHeartbeats 2000000 in
theorem next_at (lo b : Nat) (rv mv ov : Value) (m : Mach) (w : World) (h : AtP w lo b rv mv ov m) (hm : MayP m) (hE : m.meantE m.pc false ≠ 0) :
    Calls Tryd.prog 84 #[ptr b] w fun e w' => e = .returned (.tuple #[.agg zeroI, .int .i64 m.nextE]) ∧ Below w.heap.size w w' := by
  have HM : Hid (∀ W, Below w.heap.size w W → Calls Tryd.prog 111 #[ptr b, .int .i64 m.pc, .int .i64 32] W fun e w' => e = .returned (.tuple #[.int .i64 (m.meantK m.pc false), .int .i64 (m.meantE m.pc false)]) ∧ Below W.heap.size W w') := fun W hb => meantC_any lo b rv mv ov m m.pc 32 false W (h.below hb) hm.mem hm.table (Or.inl ⟨rfl, rfl⟩)
  have HE : Hid (m.nextE = m.meantE m.pc false) := by show _ = _; simp [Mach.nextE, hE]
  rw [HE.out]
  clear HE
  have d1 : (m.meantE m.pc false != 0) = true := by simpa using hE
  obtain ⟨⟨z0, z1, z2, z3, z4, z5, z6, z7, z8, z9, z10, z11⟩, zf, zl⟩ := twelve_cells (h.below (below_alloc w (.cells zeroI 83))).box
  clear hE h hm
  revert HM d1
  generalize m.meantE m.pc false = E
  generalize m.meantK m.pc false = K
  intro HM d1
  go_enter Tryd.func84, Tryd.ntmps84
  go_wp2_with fail
  clear z0 z1 z2 z3 z4 z5 z6 z7 z8 z9 z10 z11 zf zl
  refine (HM.out _ (below_alloc _ _)).mono ?_
  rintro e w1 ⟨rfl, hb1⟩
  obtain ⟨hy, hb⟩ := instr_box hb1
  obtain ⟨y0, y1, y2, y3, yf, yl⟩ := four_cells hy
  clear hb1 hy HM
  go_wp2_with fail
  refine bodyPost_ret (v := .tuple #[.agg zeroI, .int .i64 E]) (by simp [results, Tryd.results84, go_sem, y0, y1, y2, y3]) rfl ?_
  first
    | exact ⟨rfl, hb⟩
    | exact ⟨rfl, (((hb.setCell (by simp) _).setCell (by simp) _).setCell (by simp) _).setCell (by simp) _⟩

set_option maxHeartbeats 2000000 in
theorem next_code (lo b : Nat) (rv mv ov : Value) (m : Mach) (w : World) (h : AtP w lo b rv mv ov m) (hm : MayP m) (hE : m.meantE m.pc false = 0) (hD : decNo m.nextX ≠ 0) :
    Calls Tryd.prog 84 #[ptr b] w fun e w' => e = .returned (.tuple #[.agg zeroI, .int .i64 2]) ∧ Below w.heap.size w w' := by
  have HM : Hid (∀ W, Below w.heap.size w W → Calls Tryd.prog 111 #[ptr b, .int .i64 m.pc, .int .i64 32] W fun e w' => e = .returned (.tuple #[.int .i64 (m.meantK m.pc false), .int .i64 0]) ∧ Below W.heap.size W w') := fun W hb => by
    have := meantC_any lo b rv mv ov m m.pc 32 false W (h.below hb) hm.mem hm.table (Or.inl ⟨rfl, rfl⟩)
    rwa [hE] at this
  obtain ⟨k1, k2⟩ := meant_bd hE
  obtain ⟨x1, x2⟩ := nextX_bd hm hE
  have HI : Hid (∀ W, Calls Tryd.prog 112 #[.int .i64 m.nextX] W fun e w' => e = .returned (.tuple #[.agg zeroI, .int .i64 (decNo m.nextX)]) ∧ Below W.heap.size W w') := fun W => by
    have := CpuDecode_any m.nextX W ⟨by omega, by omega⟩
    rwa [show decI m.nextX = .agg zeroI by simp [decI, hD]] at this
  have hl := hm.mem
  obtain ⟨g, c, rfl, hg1, hg2, hcell, -⟩ := h.own.mem.opened (by omega)
  have h1 : w.cell? ⟨g, (m.meantK m.pc false).toNat, none⟩ = some (.int .i64 m.nextX) := hcell _ (by omega)
  have H1 : Hid (w.cell? ⟨g, (m.meantK m.pc false).toNat, none⟩ = some (.int .i64 m.nextX) ∧ g < w.heap.size) := ⟨h1, hg2⟩
  have k3 : m.meantK m.pc false < (m.mem.length : Int) := by omega
  have H : Hid (AtP w lo b rv (.slice (some ⟨g, 0, none⟩) m.mem.length c) ov m) := h
  clear hcell hl k2 h hm hE x1 x2 h1 hg1 hg2
  have d1 : (decNo m.nextX != 0) = true := by simpa using hD
  clear hD
  revert d1; revert k3; revert H1; revert HI; revert k1; revert HM
  generalize m.meantK m.pc false = K
  generalize decNo m.nextX = N
  generalize m.nextX = x
  intro HM k1 HI H1 k3 d1
  obtain ⟨⟨z0, z1, z2, z3, z4, z5, z6, z7, z8, z9, z10, z11⟩, zf, zl⟩ := twelve_cells (H.out.below (below_alloc w (.cells zeroI 83))).box
  go_enter Tryd.func84, Tryd.ntmps84
  go_wp2_with fail
  clear z0 z1 z2 z3 z4 z5 z6 z7 z8 z9 z10 z11 zf zl
  refine (HM.out _ (below_alloc _ _)).mono ?_
  rintro e w1 ⟨rfl, hb1⟩
  obtain ⟨hy, hb⟩ := instr_box hb1
  obtain ⟨⟨z0, z1, z2, z3, z4, z5, z6, z7, z8, z9, z10, z11⟩, zf, zl⟩ := twelve_cells (H.out.below hb).box
  have h1 := (hb.cell (p := ⟨g, K.toNat, none⟩) H1.out.2).trans H1.out.1
  have HY : Hid (w1.heap[w.heap.size]? = some (.cells zeroI 83 (0, 0))) := hy
  clear hb1 hy HM H1
  go_wp2_with fail
  clear z0 z1 z2 z3 z4 z5 z6 z7 z8 z9 z10 z11 zf zl
  refine (HI.out _).mono ?_
  rintro e w2 ⟨rfl, hb2⟩
  have hb3 : Below w.heap.size w w2 := hb.trans (hb2.mono hb.size)
  have hy : w2.heap[w.heap.size]? = some (.cells zeroI 83 (0, 0)) := by rw [hb2.block _ (lt_of_block HY.out)]; exact HY.out
  obtain ⟨y0, y1, y2, y3, yf, yl⟩ := four_cells hy
  clear hb2 hy HY HI hb h1
  go_wp2_with fail
  refine bodyPost_ret (v := .tuple #[.agg zeroI, .int .i64 2]) (by simp [results, Tryd.results84, go_sem, y0, y1, y2, y3, yl]) rfl ?_
  exact ⟨rfl, ((((hb3.setCell (by simp) _).setCell (by simp) _).setCell (by simp) _).setCell (by simp) _).alloc (by simpa using hb3.size) _⟩

set_option maxHeartbeats 2000000 in
theorem next_ok (lo b : Nat) (rv mv ov : Value) (m : Mach) (w : World) (h : AtP w lo b rv mv ov m) (hm : MayP m) (hE : m.meantE m.pc false = 0) (hD : decNo m.nextX = 0) :
    Calls Tryd.prog 84 #[ptr b] w fun e w' => e = .returned (.tuple #[.agg (instrA m.nextX), .int .i64 0]) ∧ Below w.heap.size w w' := by
  have HM : Hid (∀ W, Below w.heap.size w W → Calls Tryd.prog 111 #[ptr b, .int .i64 m.pc, .int .i64 32] W fun e w' => e = .returned (.tuple #[.int .i64 (m.meantK m.pc false), .int .i64 0]) ∧ Below W.heap.size W w') := fun W hb => by
    have := meantC_any lo b rv mv ov m m.pc 32 false W (h.below hb) hm.mem hm.table (Or.inl ⟨rfl, rfl⟩)
    rwa [hE] at this
  obtain ⟨k1, k2⟩ := meant_bd hE
  obtain ⟨x1, x2⟩ := nextX_bd hm hE
  have HI : Hid (∀ W, Calls Tryd.prog 112 #[.int .i64 m.nextX] W fun e w' => e = .returned (.tuple #[.agg (instrA m.nextX), .int .i64 0]) ∧ Below W.heap.size W w') := fun W => by
    have := CpuDecode_any m.nextX W ⟨by omega, by omega⟩
    rwa [show decI m.nextX = .agg (instrA m.nextX) by simp [decI, hD], hD] at this
  have hl := hm.mem
  obtain ⟨g, c, rfl, hg1, hg2, hcell, -⟩ := h.own.mem.opened (by omega)
  have h1 : w.cell? ⟨g, (m.meantK m.pc false).toNat, none⟩ = some (.int .i64 m.nextX) := hcell _ (by omega)
  have H1 : Hid (w.cell? ⟨g, (m.meantK m.pc false).toNat, none⟩ = some (.int .i64 m.nextX) ∧ g < w.heap.size) := ⟨h1, hg2⟩
  have k3 : m.meantK m.pc false < (m.mem.length : Int) := by omega
  have H : Hid (AtP w lo b rv (.slice (some ⟨g, 0, none⟩) m.mem.length c) ov m) := h
  clear hcell hl k2 h hm hE x1 x2 h1 hg1 hg2
  clear hD
  revert k3; revert H1; revert HI; revert k1; revert HM
  generalize m.meantK m.pc false = K
  generalize m.nextX = x
  intro HM k1 HI H1 k3
  obtain ⟨⟨z0, z1, z2, z3, z4, z5, z6, z7, z8, z9, z10, z11⟩, zf, zl⟩ := twelve_cells (H.out.below (below_alloc w (.cells zeroI 83))).box
  go_enter Tryd.func84, Tryd.ntmps84
  go_wp2_with fail
  clear z0 z1 z2 z3 z4 z5 z6 z7 z8 z9 z10 z11 zf zl
  refine (HM.out _ (below_alloc _ _)).mono ?_
  rintro e w1 ⟨rfl, hb1⟩
  obtain ⟨hy, hb⟩ := instr_box hb1
  obtain ⟨⟨z0, z1, z2, z3, z4, z5, z6, z7, z8, z9, z10, z11⟩, zf, zl⟩ := twelve_cells (H.out.below hb).box
  have h1 := (hb.cell (p := ⟨g, K.toNat, none⟩) H1.out.2).trans H1.out.1
  have HY : Hid (w1.heap[w.heap.size]? = some (.cells zeroI 83 (0, 0))) := hy
  clear hb1 hy HM H1
  go_wp2_with fail
  clear z0 z1 z2 z3 z4 z5 z6 z7 z8 z9 z10 z11 zf zl
  refine (HI.out _).mono ?_
  rintro e w2 ⟨rfl, hb2⟩
  have hb3 : Below w.heap.size w w2 := hb.trans (hb2.mono hb.size)
  have hy : w2.heap[w.heap.size]? = some (.cells zeroI 83 (0, 0)) := by rw [hb2.block _ (lt_of_block HY.out)]; exact HY.out
  obtain ⟨y0, y1, y2, y3, yf, yl⟩ := four_cells hy
  clear hb2 hy HY HI hb h1
  go_wp2_with fail
  refine bodyPost_ret (v := .tuple #[.agg (instrA x), .int .i64 0]) (by simp [results, Tryd.results84, go_sem, y0, y1, y2, y3, yl]) rfl ?_
  exact ⟨rfl, ((((hb3.setCell (by simp) _).setCell (by simp) _).setCell (by simp) _).setCell (by simp) _).alloc (by simpa using hb3.size) _⟩

end Go.Proofs.YtbjlfhpiebokkaaDoor
