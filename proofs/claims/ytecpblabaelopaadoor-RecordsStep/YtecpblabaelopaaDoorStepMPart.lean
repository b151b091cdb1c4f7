/- Contracts of cpu.meant and next: the word that an address means; the instruction that comes next. -/
import Derived.Test.YtecpblabaelopaaDoorCloPart
import Derived.Test.YtecpblabaelopaaDoorBasePart
import Derived.StillTailTactics
namespace Go.Proofs.YtecpblabaelopaaDoor
open Go.RowKit

/-- How the guest ends at an address, by the least word of a table that will do. -/
theorem meantE_lea {m : Mach} {at' lea : Int} {write : Bool} (hlea : (lea = 32 ∧ write = false) ∨ (lea = 48 ∧ write = true)) (h0 : inB at' 0 255 = true) (h1 : (m.table == -1) = false) :
    m.meantE at' write = if !inB (m.page at') lea 63 then 4 else 0 := by
  rcases hlea with ⟨rfl, rfl⟩ | ⟨rfl, rfl⟩
  · simp only [Mach.meantE, h0, h1]
    cases inB (m.page at') 32 63 <;> rfl
  · simp only [Mach.meantE, h0, h1]
    cases c : inB (m.page at') 32 63 with
    | false =>
      have : inB (m.page at') 48 63 = false := by
        apply inB_no
        intro h
        rw [inB_yes (by omega) h.2] at c
        exact absurd c (by decide)
      rw [this]; rfl
    | true =>
      have := inB_iff.1 c
      by_cases d : m.page at' < 48
      · rw [inB_no (lo := 48) (by omega), decide_eq_true d]; rfl
      · rw [inB_yes (lo := 48) (by omega) this.2, decide_eq_false d]; rfl

set_option maxHeartbeats 2000000 in
theorem meantC_any (lo b : Nat) (rv mv ov : Value) (m : Mach) (at' lea : Int) (write : Bool) (w : World) (h : AtP w lo b rv mv ov m) (hl : m.mem.length = 256) (ht : -1 ≤ m.table ∧ m.table ≤ 15)
    (hlea : (lea = 32 ∧ write = false) ∨ (lea = 48 ∧ write = true)) :
    Calls Tryd.prog 81 #[ptr b, .int .i64 at', .int .i64 lea] w fun e w' => e = .returned (.tuple #[.int .i64 (m.meantK at' write), .int .i64 (m.meantE at' write)]) ∧ Below w.heap.size w w' := by
  cases g0 : inB at' 0 255 with
  | false =>
    have HE : Hid (3 = m.meantE at' write) := by show _ = _; simp [Mach.meantE, g0]
    have HK : Hid (0 = m.meantK at' write) := by show _ = _; simp [Mach.meantK, ← HE.out]
    clear hl ht h hlea
    go_enter Tryd.func81, Tryd.ntmps81
    go_wp2_with fail
    refine (outside_any _ _ _).mono ?_
    rintro e w1 ⟨p, q, rfl, hc, hb⟩
    have HC : Hid (CloAt w1 p q 0 255) := hc
    have HB : Hid (Below w.heap.size w w1) := hb
    clear hc hb
    go_wp2_with (go_at_call 43; refine (clo_any _ 0 255 _ _ _ HC.out).mono ?_; rw [g0]; rintro e w1 ⟨rfl, rfl⟩)
    go_ret2
    exact ⟨ret_two HK.out HE.out, HB.out⟩
  | true =>
  obtain ⟨a1, a2⟩ := inB_iff.1 g0
  cases g1 : m.table == -1 with
  | true =>
    have HE : Hid (0 = m.meantE at' write) := by show _ = _; simp only [Mach.meantE, g0, g1]; rfl
    have HK : Hid (at' = m.meantK at' write) := by show _ = _; simp only [Mach.meantK, ← HE.out, g1]; rfl
    have H : Hid (AtP w lo b rv mv ov m) := h
    clear hl ht h hlea
    go_enter Tryd.func81, Tryd.ntmps81
    go_wp2_with fail
    refine (outside_any _ _ _).mono ?_
    rintro e w1 ⟨p, q, rfl, hc, hb⟩
    have HC : Hid (CloAt w1 p q 0 255) := hc
    have HB : Hid (Below w.heap.size w w1) := hb
    obtain ⟨⟨z0, z1, z2, z3, z4, z5, z6, z7, z8, z9, z10, z11⟩, zf, zl⟩ := twelve_cells (H.out.below hb).box
    clear hc hb
    go_wp2_with (go_at_call 43; refine (clo_any _ 0 255 _ _ _ HC.out).mono ?_; rw [g0]; rintro e w1 ⟨rfl, rfl⟩)
    go_ret2
    exact ⟨ret_two HK.out HE.out, HB.out⟩
  | false =>
  have t0 : 0 ≤ m.table := by
    have : m.table ≠ -1 := by simpa using g1
    omega
  have hE := meantE_lea (m := m) hlea g0 g1
  have hK : m.meantK at' write = (if m.meantE at' write = 0 then 16 * (m.page at' % 16) + at' % 16 else 0) := by simp only [Mach.meantK, g1]; rfl
  obtain ⟨g, c, rfl, hg1, hg2, hcell, -⟩ := h.own.mem.opened (by omega)
  have H : Hid (AtP w lo b rv (.slice (some ⟨g, 0, none⟩) m.mem.length c) ov m) := h
  have h1 : w.cell? ⟨g, (m.table * 16 + at' / 16).toNat, none⟩ = some (.int .i64 (m.page at')) := by
    rw [hcell _ (by omega)]; unfold Mach.page; rw [show m.table * 16 + at' / 16 = 16 * m.table + at' / 16 by omega]
  have H1 : Hid (w.cell? ⟨g, (m.table * 16 + at' / 16).toNat, none⟩ = some (.int .i64 (m.page at')) ∧ g < w.heap.size) := ⟨h1, hg2⟩
  clear h1 hcell hg1 hg2
  obtain ⟨E, eE⟩ : ∃ E, E = m.meantE at' write := ⟨_, rfl⟩
  obtain ⟨K, eK⟩ : ∃ K, K = m.meantK at' write := ⟨_, rfl⟩
  rw [← eE, ← eK]
  rw [← eE] at hE
  rw [← eK, ← eE] at hK
  have HE : Hid (E = if !inB (m.page at') lea 63 then 4 else 0) := hE
  have HK : Hid (K = (if E = 0 then 16 * (m.page at' % 16) + at' % 16 else 0)) := hK
  have x0 : inB (m.page at') lea 63 = true → 32 ≤ m.page at' ∧ m.page at' ≤ 63 := fun hi => by have := inB_iff.1 hi; rcases hlea with ⟨rfl, -⟩ | ⟨rfl, -⟩ <;> omega
  clear hK hE eE eK h hlea
  revert x0 HK HE H1
  generalize m.page at' = x
  intro H1 HE HK x0
  have hj2 : m.table * 16 + at' / 16 < (m.mem.length : Int) := by omega
  have hj3 : 0 ≤ m.table * 16 + at' / 16 := by omega
  obtain ⟨-, t2⟩ := ht
  clear hl
  cases g2 : inB x lea 63 with
  | false =>
    have FE : Hid (4 = E) := by show _ = _; rw [HE.out, g2]; rfl
    have FK : Hid (0 = K) := by show _ = _; rw [HK.out, ← FE.out]; rfl
    clear HE HK x0
    go_enter Tryd.func81, Tryd.ntmps81
    go_wp2_with fail
    refine (outside_any _ _ _).mono ?_
    rintro e w1 ⟨p, q, rfl, hc, hb⟩
    have HC : Hid (CloAt w1 p q 0 255) := hc
    have HB : Hid (Below w.heap.size w w1) := hb
    obtain ⟨⟨z0, z1, z2, z3, z4, z5, z6, z7, z8, z9, z10, z11⟩, zf, zl⟩ := twelve_cells (H.out.below hb).box
    have h1 := (hb.cell (p := ⟨g, (m.table * 16 + at' / 16).toNat, none⟩) H1.out.2).trans H1.out.1
    clear hc hb
    go_wp2_with (go_at_call 43; refine (clo_any _ 0 255 _ _ _ HC.out).mono ?_; rw [g0]; rintro e w1 ⟨rfl, rfl⟩)
    go_quiet (fail)
    go_wp2_with fail
    refine (outside_any _ _ _).mono ?_
    rintro e w3 ⟨p3, q3, rfl, hc3, hb3⟩
    have HC3 : Hid (CloAt w3 p3 q3 lea 63) := hc3
    have HB3 : Hid (Below w.heap.size w w3) := HB.out.trans ((below_drewN (Below.refl _ _) _).trans hb3 |>.mono HB.out.size)
    clear hc3 hb3 z0 z1 z2 z3 z4 z5 z6 z7 z8 z9 z10 z11 zf zl h1
    go_wp2_with (go_at_call 43; refine (clo_any _ lea 63 _ _ _ HC3.out).mono ?_; rw [g2]; rintro e w1 ⟨rfl, rfl⟩)
    go_ret2
    exact ⟨ret_two FK.out FE.out, HB3.out⟩
  | true =>
    obtain ⟨x1, x2⟩ := x0 g2
    have FE : Hid (0 = E) := by show _ = _; rw [HE.out, g2]; rfl
    have FK : Hid (x % 16 * 16 + at' % 16 = K) := by show _ = _; rw [HK.out, ← FE.out]; simp; omega
    clear HE HK x0
    go_enter Tryd.func81, Tryd.ntmps81
    go_wp2_with fail
    refine (outside_any _ _ _).mono ?_
    rintro e w1 ⟨p, q, rfl, hc, hb⟩
    have HC : Hid (CloAt w1 p q 0 255) := hc
    have HB : Hid (Below w.heap.size w w1) := hb
    obtain ⟨⟨z0, z1, z2, z3, z4, z5, z6, z7, z8, z9, z10, z11⟩, zf, zl⟩ := twelve_cells (H.out.below hb).box
    have h1 := (hb.cell (p := ⟨g, (m.table * 16 + at' / 16).toNat, none⟩) H1.out.2).trans H1.out.1
    clear hc hb
    go_wp2_with (go_at_call 43; refine (clo_any _ 0 255 _ _ _ HC.out).mono ?_; rw [g0]; rintro e w1 ⟨rfl, rfl⟩)
    go_quiet (fail)
    go_wp2_with fail
    refine (outside_any _ _ _).mono ?_
    rintro e w3 ⟨p3, q3, rfl, hc3, hb3⟩
    have HC3 : Hid (CloAt w3 p3 q3 lea 63) := hc3
    have HB3 : Hid (Below w.heap.size w w3) := HB.out.trans ((below_drewN (Below.refl _ _) _).trans hb3 |>.mono HB.out.size)
    clear hc3 hb3 z0 z1 z2 z3 z4 z5 z6 z7 z8 z9 z10 z11 zf zl h1
    go_wp2_with (go_at_call 43; refine (clo_any _ lea 63 _ _ _ HC3.out).mono ?_; rw [g2]; rintro e w1 ⟨rfl, rfl⟩)
    go_ret2
    exact ⟨ret_two FK.out FE.out, HB3.out⟩

end Go.Proofs.YtecpblabaelopaaDoor

/- Contract of cpu.next: the instruction that comes next. -/

namespace Go.Proofs.YtecpblabaelopaaDoor
open Go.RowKit

theorem instr_box {w w1 : World} (hb1 : Below (w.alloc (.cells zeroI 75)).heap.size (w.alloc (.cells zeroI 75)) w1) : w1.heap[w.heap.size]? = some (.cells zeroI 75 (0, 0)) ∧ Below w.heap.size w w1 :=
  ⟨box_kept hb1, (below_alloc _ _).trans (hb1.mono (by simp))⟩

set_option maxHeartbeats 2000000 in
/-- There is none. -/
theorem next_at (lo b : Nat) (rv mv ov : Value) (m : Mach) (w : World) (h : AtP w lo b rv mv ov m) (hm : MayP m) (hE : m.meantE m.pc false ≠ 0) :
    Calls Tryd.prog 59 #[ptr b] w fun e w' => e = .returned (.tuple #[.agg zeroI, .int .i64 m.nextE]) ∧ Below w.heap.size w w' := by
  have HM : Hid (∀ W, Below w.heap.size w W → Calls Tryd.prog 81 #[ptr b, .int .i64 m.pc, .int .i64 32] W fun e w' => e = .returned (.tuple #[.int .i64 (m.meantK m.pc false), .int .i64 (m.meantE m.pc false)]) ∧ Below W.heap.size W w') := fun W hb => meantC_any lo b rv mv ov m m.pc 32 false W (h.below hb) hm.mem hm.table (Or.inl ⟨rfl, rfl⟩)
  have HE : Hid (m.nextE = m.meantE m.pc false) := by show _ = _; simp [Mach.nextE, hE]
  rw [HE.out]
  clear HE
  have d1 : (m.meantE m.pc false != 0) = true := by simpa using hE
  obtain ⟨⟨z0, z1, z2, z3, z4, z5, z6, z7, z8, z9, z10, z11⟩, zf, zl⟩ := twelve_cells (h.below (below_alloc w (.cells zeroI 75))).box
  clear hE h hm
  revert HM d1
  generalize m.meantE m.pc false = E
  generalize m.meantK m.pc false = K
  intro HM d1
  go_enter Tryd.func59, Tryd.ntmps59
  go_wp2_with fail
  clear z0 z1 z2 z3 z4 z5 z6 z7 z8 z9 z10 z11 zf zl
  refine (HM.out _ (below_alloc _ _)).mono ?_
  rintro e w1 ⟨rfl, hb1⟩
  obtain ⟨hy, hb⟩ := instr_box hb1
  obtain ⟨y0, y1, y2, y3, yf, yl⟩ := four_cells hy
  clear hb1 hy HM
  go_wp2_with fail
  refine bodyPost_ret (v := .tuple #[.agg zeroI, .int .i64 E]) (by simp [results, Tryd.results59, go_sem, y0, y1, y2, y3]) rfl ?_
  first
    | exact ⟨rfl, hb⟩
    | exact ⟨rfl, (((hb.setCell (by simp) _).setCell (by simp) _).setCell (by simp) _).setCell (by simp) _⟩

set_option maxHeartbeats 2000000 in
theorem next_code (lo b : Nat) (rv mv ov : Value) (m : Mach) (w : World) (h : AtP w lo b rv mv ov m) (hm : MayP m) (hE : m.meantE m.pc false = 0) (hD : decNo m.nextX ≠ 0) :
    Calls Tryd.prog 59 #[ptr b] w fun e w' => e = .returned (.tuple #[.agg zeroI, .int .i64 2]) ∧ Below w.heap.size w w' := by
  have HM : Hid (∀ W, Below w.heap.size w W → Calls Tryd.prog 81 #[ptr b, .int .i64 m.pc, .int .i64 32] W fun e w' => e = .returned (.tuple #[.int .i64 (m.meantK m.pc false), .int .i64 0]) ∧ Below W.heap.size W w') := fun W hb => by
    have := meantC_any lo b rv mv ov m m.pc 32 false W (h.below hb) hm.mem hm.table (Or.inl ⟨rfl, rfl⟩)
    rwa [hE] at this
  obtain ⟨k1, k2⟩ := meant_bd hE
  obtain ⟨x1, x2⟩ := nextX_bd hm hE
  have HI : Hid (∀ W, Calls Tryd.prog 82 #[.int .i64 m.nextX] W fun e w' => e = .returned (.tuple #[.agg zeroI, .int .i64 (decNo m.nextX)]) ∧ Below W.heap.size W w') := fun W => by
    have := CpuDecode_any m.nextX W ⟨by omega, by omega⟩
    rwa [show decI m.nextX = .agg zeroI by simp [decI, hD]] at this
  have hl := hm.mem
  obtain ⟨g, c, rfl, hg1, hg2, hcell, -⟩ := h.own.mem.opened (by omega)
  have h1 : w.cell? ⟨g, (m.meantK m.pc false).toNat, none⟩ = some (.int .i64 m.nextX) := hcell _ (by omega)
  have H1 : Hid (w.cell? ⟨g, (m.meantK m.pc false).toNat, none⟩ = some (.int .i64 m.nextX) ∧ g < w.heap.size) := ⟨h1, hg2⟩
  have k3 : m.meantK m.pc false < (m.mem.length : Int) := by omega
  have H : Hid (AtP w lo b rv (.slice (some ⟨g, 0, none⟩) m.mem.length c) ov m) := h
  clear hcell hl k2 h hm hE x1 x2 h1 hg1 hg2
  have d1 : (decNo m.nextX != 0) = true := by simpa using hD
  clear hD
  revert d1; revert k3; revert H1; revert HI; revert k1; revert HM
  generalize m.meantK m.pc false = K
  generalize decNo m.nextX = N
  generalize m.nextX = x
  intro HM k1 HI H1 k3 d1
  obtain ⟨⟨z0, z1, z2, z3, z4, z5, z6, z7, z8, z9, z10, z11⟩, zf, zl⟩ := twelve_cells (H.out.below (below_alloc w (.cells zeroI 75))).box
  go_enter Tryd.func59, Tryd.ntmps59
  go_wp2_with fail
  clear z0 z1 z2 z3 z4 z5 z6 z7 z8 z9 z10 z11 zf zl
  refine (HM.out _ (below_alloc _ _)).mono ?_
  rintro e w1 ⟨rfl, hb1⟩
  obtain ⟨hy, hb⟩ := instr_box hb1
  obtain ⟨⟨z0, z1, z2, z3, z4, z5, z6, z7, z8, z9, z10, z11⟩, zf, zl⟩ := twelve_cells (H.out.below hb).box
  have h1 := (hb.cell (p := ⟨g, K.toNat, none⟩) H1.out.2).trans H1.out.1
  have HY : Hid (w1.heap[w.heap.size]? = some (.cells zeroI 75 (0, 0))) := hy
  clear hb1 hy HM H1
  go_wp2_with fail
  clear z0 z1 z2 z3 z4 z5 z6 z7 z8 z9 z10 z11 zf zl
  refine (HI.out _).mono ?_
  rintro e w2 ⟨rfl, hb2⟩
  have hb3 : Below w.heap.size w w2 := hb.trans (hb2.mono hb.size)
  have hy : w2.heap[w.heap.size]? = some (.cells zeroI 75 (0, 0)) := by rw [hb2.block _ (lt_of_block HY.out)]; exact HY.out
  obtain ⟨y0, y1, y2, y3, yf, yl⟩ := four_cells hy
  clear hb2 hy HY HI hb h1
  go_wp2_with fail
  refine bodyPost_ret (v := .tuple #[.agg zeroI, .int .i64 2]) (by simp [results, Tryd.results59, go_sem, y0, y1, y2, y3, yl]) rfl ?_
  exact ⟨rfl, ((((hb3.setCell (by simp) _).setCell (by simp) _).setCell (by simp) _).setCell (by simp) _).alloc (by simpa using hb3.size) _⟩

set_option maxHeartbeats 2000000 in
theorem next_ok (lo b : Nat) (rv mv ov : Value) (m : Mach) (w : World) (h : AtP w lo b rv mv ov m) (hm : MayP m) (hE : m.meantE m.pc false = 0) (hD : decNo m.nextX = 0) :
    Calls Tryd.prog 59 #[ptr b] w fun e w' => e = .returned (.tuple #[.agg (instrA m.nextX), .int .i64 0]) ∧ Below w.heap.size w w' := by
  have HM : Hid (∀ W, Below w.heap.size w W → Calls Tryd.prog 81 #[ptr b, .int .i64 m.pc, .int .i64 32] W fun e w' => e = .returned (.tuple #[.int .i64 (m.meantK m.pc false), .int .i64 0]) ∧ Below W.heap.size W w') := fun W hb => by
    have := meantC_any lo b rv mv ov m m.pc 32 false W (h.below hb) hm.mem hm.table (Or.inl ⟨rfl, rfl⟩)
    rwa [hE] at this
  obtain ⟨k1, k2⟩ := meant_bd hE
  obtain ⟨x1, x2⟩ := nextX_bd hm hE
  have HI : Hid (∀ W, Calls Tryd.prog 82 #[.int .i64 m.nextX] W fun e w' => e = .returned (.tuple #[.agg (instrA m.nextX), .int .i64 0]) ∧ Below W.heap.size W w') := fun W => by
    have := CpuDecode_any m.nextX W ⟨by omega, by omega⟩
    rwa [show decI m.nextX = .agg (instrA m.nextX) by simp [decI, hD], hD] at this
  have hl := hm.mem
  obtain ⟨g, c, rfl, hg1, hg2, hcell, -⟩ := h.own.mem.opened (by omega)
  have h1 : w.cell? ⟨g, (m.meantK m.pc false).toNat, none⟩ = some (.int .i64 m.nextX) := hcell _ (by omega)
  have H1 : Hid (w.cell? ⟨g, (m.meantK m.pc false).toNat, none⟩ = some (.int .i64 m.nextX) ∧ g < w.heap.size) := ⟨h1, hg2⟩
  have k3 : m.meantK m.pc false < (m.mem.length : Int) := by omega
  have H : Hid (AtP w lo b rv (.slice (some ⟨g, 0, none⟩) m.mem.length c) ov m) := h
  clear hcell hl k2 h hm hE x1 x2 h1 hg1 hg2
  clear hD
  revert k3; revert H1; revert HI; revert k1; revert HM
  generalize m.meantK m.pc false = K
  generalize m.nextX = x
  intro HM k1 HI H1 k3
  obtain ⟨⟨z0, z1, z2, z3, z4, z5, z6, z7, z8, z9, z10, z11⟩, zf, zl⟩ := twelve_cells (H.out.below (below_alloc w (.cells zeroI 75))).box
  go_enter Tryd.func59, Tryd.ntmps59
  go_wp2_with fail
  clear z0 z1 z2 z3 z4 z5 z6 z7 z8 z9 z10 z11 zf zl
  refine (HM.out _ (below_alloc _ _)).mono ?_
  rintro e w1 ⟨rfl, hb1⟩
  obtain ⟨hy, hb⟩ := instr_box hb1
  obtain ⟨⟨z0, z1, z2, z3, z4, z5, z6, z7, z8, z9, z10, z11⟩, zf, zl⟩ := twelve_cells (H.out.below hb).box
  have h1 := (hb.cell (p := ⟨g, K.toNat, none⟩) H1.out.2).trans H1.out.1
  have HY : Hid (w1.heap[w.heap.size]? = some (.cells zeroI 75 (0, 0))) := hy
  clear hb1 hy HM H1
  go_wp2_with fail
  clear z0 z1 z2 z3 z4 z5 z6 z7 z8 z9 z10 z11 zf zl
  refine (HI.out _).mono ?_
  rintro e w2 ⟨rfl, hb2⟩
  have hb3 : Below w.heap.size w w2 := hb.trans (hb2.mono hb.size)
  have hy : w2.heap[w.heap.size]? = some (.cells zeroI 75 (0, 0)) := by rw [hb2.block _ (lt_of_block HY.out)]; exact HY.out
  obtain ⟨y0, y1, y2, y3, yf, yl⟩ := four_cells hy
  clear hb2 hy HY HI hb h1
  go_wp2_with fail
  refine bodyPost_ret (v := .tuple #[.agg (instrA x), .int .i64 0]) (by simp [results, Tryd.results59, go_sem, y0, y1, y2, y3, yl]) rfl ?_
  exact ⟨rfl, ((((hb3.setCell (by simp) _).setCell (by simp) _).setCell (by simp) _).setCell (by simp) _).alloc (by simpa using hb3.size) _⟩

end Go.Proofs.YtecpblabaelopaaDoor

/- Contracts of cpu.askBlock, letIn. -/

namespace Go.Proofs.YtecpblabaelopaaDoor
open Go.RowKit

set_option maxHeartbeats 400000 in
theorem askBlock_any (lo b : Nat) (rv mv ov : Value) (m : Mach) (x : Int) (w : World) (h : AtP w lo b rv mv ov m) (hlo : lo ≤ w.heap.size) :
    Calls Tryd.prog 83 #[ptr b, .int .i64 x] w fun e w' => e = .returned (.tuple #[]) ∧ AtP w' lo b rv mv ov (m.asked x) ∧ Below lo w w' := by
  have H : Hid (AtP w lo b rv mv ov m) := h
  cases c : inB x 0 15 with
  | false =>
    have HT : Hid (m.asked x = { m with fin := 3 }) := by show _ = _; simp [Mach.asked, c]
    rw [HT.out]
    clear h HT
    go_enter Tryd.func83, Tryd.ntmps83
    go_wp2_with fail
    refine (outside_any _ _ _).mono ?_
    rintro e w1 ⟨p, q, rfl, hc, hb⟩
    have HC : Hid (CloAt w1 p q 0 15) := hc
    have h1 := H.out.below hb
    have HB : Hid (Below lo w w1) := hb.mono hlo
    obtain ⟨⟨z0, z1, z2, z3, z4, z5, z6, z7, z8, z9, z10, z11⟩, zf, zl⟩ := twelve_cells h1.box
    have H1 : Hid (AtP w1 lo b rv mv ov m) := h1
    clear hc hb h1
    go_wp2_with (go_at_call 43; refine (clo_any _ 0 15 _ _ _ HC.out).mono ?_; rw [c]; rintro e w1 ⟨rfl, rfl⟩)
    first | go_end0 | refine bodyPost_ret (results_none rfl _ _ _) rfl ?_
    exact ⟨rfl, (H1.out.setFin 3).1, HB.out.trans ((H1.out.setFin 3).2)⟩
  | true =>
  cases c2 : m.want == -1 with
  | false =>
    have HT : Hid (m.asked x = m) := by show _ = _; simp only [Mach.asked, c, c2]; rfl
    rw [HT.out]
    clear h HT
    go_enter Tryd.func83, Tryd.ntmps83
    go_wp2_with fail
    refine (outside_any _ _ _).mono ?_
    rintro e w1 ⟨p, q, rfl, hc, hb⟩
    have HC : Hid (CloAt w1 p q 0 15) := hc
    have h1 := H.out.below hb
    have HB : Hid (Below lo w w1) := hb.mono hlo
    obtain ⟨⟨z0, z1, z2, z3, z4, z5, z6, z7, z8, z9, z10, z11⟩, zf, zl⟩ := twelve_cells h1.box
    have H1 : Hid (AtP w1 lo b rv mv ov m) := h1
    clear hc hb h1
    go_wp2_with (go_at_call 43; refine (clo_any _ 0 15 _ _ _ HC.out).mono ?_; rw [c]; rintro e w1 ⟨rfl, rfl⟩)
    first | go_end0 | refine bodyPost_ret (results_none rfl _ _ _) rfl ?_
    exact ⟨rfl, H1.out, HB.out⟩
  | true =>
    have HT : Hid (m.asked x = { m with want := x, ready := 0 }) := by show _ = _; simp only [Mach.asked, c, c2]; rfl
    rw [HT.out]
    clear h HT
    go_enter Tryd.func83, Tryd.ntmps83
    go_wp2_with fail
    refine (outside_any _ _ _).mono ?_
    rintro e w1 ⟨p, q, rfl, hc, hb⟩
    have HC : Hid (CloAt w1 p q 0 15) := hc
    have h1 := H.out.below hb
    have HB : Hid (Below lo w w1) := hb.mono hlo
    obtain ⟨⟨z0, z1, z2, z3, z4, z5, z6, z7, z8, z9, z10, z11⟩, zf, zl⟩ := twelve_cells h1.box
    have H1 : Hid (AtP w1 lo b rv mv ov m) := h1
    clear hc hb h1
    go_wp2_with (go_at_call 43; refine (clo_any _ 0 15 _ _ _ HC.out).mono ?_; rw [c]; rintro e w1 ⟨rfl, rfl⟩)
    first | go_end0 | refine bodyPost_ret (results_none rfl _ _ _) rfl ?_
    exact ⟨rfl, ((H1.out.setWant x).1.setReady 0).1, (HB.out.trans (H1.out.setWant x).2).trans ((H1.out.setWant x).1.setReady 0).2⟩

set_option maxHeartbeats 400000 in
theorem letIn_any (lo b : Nat) (rv mv ov : Value) (m : Mach) (w : World) (h : AtP w lo b rv mv ov m) :
    Calls Tryd.prog 58 #[ptr b] w fun e w' => e = .returned (.tuple #[]) ∧ AtP w' lo b rv mv ov m.enter ∧ Below lo w w' := by
  have H : Hid (AtP w lo b rv mv ov m) := h
  obtain ⟨⟨z0, z1, z2, z3, z4, z5, z6, z7, z8, z9, z10, z11⟩, zf, zl⟩ := twelve_cells h.box
  cases c : m.wait with
  | false =>
    have HT : Hid (m.enter = m) := by show _ = _; simp [Mach.enter, c]
    rw [HT.out]
    rw [c] at z4
    clear h HT
    go_enter Tryd.func58, Tryd.ntmps58
    go_wp2_with fail
    first | go_end0 | refine bodyPost_ret (results_none rfl _ _ _) rfl ?_
    exact ⟨rfl, H.out, Below.refl _ _⟩
  | true =>
  cases c2 : m.ints with
  | false =>
    have HT : Hid (m.enter = m) := by show _ = _; simp [Mach.enter, c2]
    rw [HT.out]
    rw [c] at z4
    rw [c2] at z3
    clear h HT
    go_enter Tryd.func58, Tryd.ntmps58
    go_wp2_with fail
    first | go_end0 | refine bodyPost_ret (results_none rfl _ _ _) rfl ?_
    exact ⟨rfl, H.out, Below.refl _ _⟩
  | true =>
    have HT : Hid (m.enter = { m with wait := false, ints := false, back := m.pc, pc := 8 }) := by show _ = _; simp [Mach.enter, c, c2]
    rw [HT.out]
    rw [c] at z4
    rw [c2] at z3
    have a1 := h.setWait false
    have a2 := a1.1.setInts false
    have a3 := a2.1.setBack m.pc
    have a4 := a3.1.setPc 8
    have HA : Hid (AtP _ lo b rv mv ov _ ∧ Below lo w _) := ⟨a4.1, ((a1.2.trans a2.2).trans a3.2).trans a4.2⟩
    clear h HT a1 a2 a3 a4
    go_enter Tryd.func58, Tryd.ntmps58
    go_wp2_with fail
    first | go_end0 | refine bodyPost_ret (results_none rfl _ _ _) rfl ?_
    exact ⟨rfl, HA.out⟩

end Go.Proofs.YtecpblabaelopaaDoor

/- Contract of cpu.Fold. -/

namespace Go.Proofs.YtecpblabaelopaaDoor
open Go.RowKit
set_option linter.unusedVariables false

set_option maxHeartbeats 400000 in
theorem Fold_same (n : Int) (w : World) (h1 : -9223372036854775808 ≤ n) (h2 : n ≤ 9223372036854775807) :
    Calls Tryd.prog 60 #[.int .i64 n] w fun e w' => e = .returned (.int .i64 (foldF n)) ∧ w' = w := by
  have HM := tmod_sign n 2199023255553
  have b1 : -2199023255553 ≤ n.tmod 2199023255553 := by omega
  have b2 : n.tmod 2199023255553 ≤ 2199023255553 := by omega
  by_cases c1 : 1099511627776 < n.tmod 2199023255553
  · have HF : Hid (n.tmod 2199023255553 - 2199023255553 = foldF n) := by show _ = _; unfold foldF; omega
    clear HM
    go_enter Tryd.func60, Tryd.ntmps60
    go_wp2
    go_ret
    exact ⟨ret_int HF.out, rfl⟩
  · by_cases c2 : n.tmod 2199023255553 < -1099511627776
    · have HF : Hid (n.tmod 2199023255553 + 2199023255553 = foldF n) := by show _ = _; unfold foldF; omega
      clear HM
      go_enter Tryd.func60, Tryd.ntmps60
      go_wp2
      go_ret
      exact ⟨ret_int HF.out, rfl⟩
    · have HF : Hid (n.tmod 2199023255553 = foldF n) := by show _ = _; unfold foldF; omega
      clear HM
      go_enter Tryd.func60, Tryd.ntmps60
      go_wp2
      go_ret
      exact ⟨ret_int HF.out, rfl⟩

theorem Fold_any (n : Int) (w : World) (h1 : -9223372036854775808 ≤ n) (h2 : n ≤ 9223372036854775807) :
    Calls Tryd.prog 60 #[.int .i64 n] w fun e w' => e = .returned (.int .i64 (foldF n)) ∧ Below w.heap.size w w' :=
  (Fold_same n w h1 h2).mono fun _ _ ⟨he, hw⟩ => ⟨he, by rw [hw]; exact Below.refl _ _⟩

end Go.Proofs.YtecpblabaelopaaDoor

/- Contracts of cpu.load and store. -/

namespace Go.Proofs.YtecpblabaelopaaDoor
open Go.RowKit
set_option maxRecDepth 100000

/-- An address that goes round is none's, folded or not. -/
theorem meantE_fold (m : Mach) (wr : Bool) {x : Int} (h1 : -1099512676352 ≤ x) (h2 : x ≤ 1099512676351) : m.meantE (foldF x) wr = m.meantE x wr ∧ m.meantK (foldF x) wr = m.meantK x wr := by
  by_cases h : -1099511627776 ≤ x ∧ x ≤ 1099511627776
  · rw [foldF_id h.1 h.2]; exact ⟨rfl, rfl⟩
  · have e1 : inB x 0 255 = false := inB_no (by omega)
    have e2 : inB (foldF x) 0 255 = false := inB_no (by unfold foldF; omega)
    have a1 : m.meantE x wr = 3 := by simp [Mach.meantE, e1]
    have a2 : m.meantE (foldF x) wr = 3 := by simp [Mach.meantE, e2]
    exact ⟨by rw [a1, a2], by simp [Mach.meantK, a1, a2]⟩

/-- What Ld does. -/
def Mach.loaded (m : Mach) (a k n : Int) : Mach := if m.meantE (m.reg k + n) false = 0 then m.setReg a (m.mem.getD (m.meantK (m.reg k + n) false).toNat 0) else m.ends (m.meantE (m.reg k + n) false)
/-- What St does. -/
def Mach.stored (m : Mach) (a k n : Int) : Mach := if m.meantE (m.reg k + n) true = 0 then { m with mem := m.mem.set (m.meantK (m.reg k + n) true).toNat (m.reg a) } else m.ends (m.meantE (m.reg k + n) true)
/-- The word that St writes. -/
def Mach.wrote (m : Mach) (k n : Int) : Int := if m.meantE (m.reg k + n) true = 0 then m.meantK (m.reg k + n) true else -1

/-- A register, as it lies in memory. -/
theorem AtP.regs_at {w : World} {lo b : Nat} {rv mv ov : Value} {m : Mach} (h : AtP w lo b rv mv ov m) (hr : m.regs.length = 8) : ∃ g c, rv = .slice (some ⟨g, 0, none⟩) m.regs.length c ∧ g < w.heap.size ∧ (∀ k : Int, 0 ≤ k → k ≤ 7 → w.cell? ⟨g, k.toNat, none⟩ = some (.int .i64 (m.reg k))) ∧ ∀ i, w.frozen? ⟨g, i, none⟩ = false := by
  obtain ⟨g, c, rfl, h1, h2, h3, h4⟩ := h.own.regs.opened (by omega)
  exact ⟨g, c, rfl, h2, fun k k0 k7 => h3 _ (by omega), h4⟩
theorem AtP.mem_at {w : World} {lo b : Nat} {rv mv ov : Value} {m : Mach} (h : AtP w lo b rv mv ov m) (hr : m.mem.length = 256) : ∃ g c, mv = .slice (some ⟨g, 0, none⟩) m.mem.length c ∧ g < w.heap.size ∧ (∀ k : Int, 0 ≤ k → k ≤ 255 → w.cell? ⟨g, k.toNat, none⟩ = some (.int .i64 (m.mem.getD k.toNat 0))) ∧ ∀ i, w.frozen? ⟨g, i, none⟩ = false := by
  obtain ⟨g, c, rfl, h1, h2, h3, h4⟩ := h.own.mem.opened (by omega)
  exact ⟨g, c, rfl, h2, fun k k0 k7 => h3 _ (by omega), h4⟩

theorem AtP.reg_cell {w : World} {lo b g l c : Nat} {mv ov : Value} {m : Mach} (h : AtP w lo b (.slice (some ⟨g, 0, none⟩) l c) mv ov m) (hr : m.regs.length = 8) {k : Int} (k0 : 0 ≤ k) (k7 : k ≤ 7) : w.cell? ⟨g, k.toNat, none⟩ = some (.int .i64 (m.reg k)) ∧ (∀ i, w.frozen? ⟨g, i, none⟩ = false) ∧ g < w.heap.size := by
  obtain ⟨g', c', e, h1, h2, h3⟩ := h.regs_at hr
  simp only [Value.slice.injEq, Option.some.injEq, Addr.mk.injEq] at e
  obtain ⟨⟨rfl, -, -⟩, -, -⟩ := e
  exact ⟨h2 k k0 k7, h3, h1⟩
theorem AtP.mem_cell {w : World} {lo b g l c : Nat} {rv ov : Value} {m : Mach} (h : AtP w lo b rv (.slice (some ⟨g, 0, none⟩) l c) ov m) (hr : m.mem.length = 256) {k : Int} (k0 : 0 ≤ k) (k7 : k ≤ 255) : w.cell? ⟨g, k.toNat, none⟩ = some (.int .i64 (m.mem.getD k.toNat 0)) ∧ (∀ i, w.frozen? ⟨g, i, none⟩ = false) ∧ g < w.heap.size := by
  obtain ⟨g', c', e, h1, h2, h3⟩ := h.mem_at hr
  simp only [Value.slice.injEq, Option.some.injEq, Addr.mk.injEq] at e
  obtain ⟨⟨rfl, -, -⟩, -, -⟩ := e
  exact ⟨h2 k k0 k7, h3, h1⟩

set_option maxHeartbeats 2000000 in
theorem load_any (lo b : Nat) (rv mv ov : Value) (m : Mach) (op a k n : Int) (w : World) (h : AtP w lo b rv mv ov m) (hlo : lo ≤ w.heap.size) (hm : MayP m) (ha : 0 ≤ a ∧ a ≤ 7) (hk : 0 ≤ k ∧ k ≤ 7) (hn : -1048576 ≤ n ∧ n ≤ 1048575) :
    Calls Tryd.prog 61 #[ptr b, .agg #[.int .i64 op, .int .i64 a, .int .i64 k, .int .i64 n]] w fun e w' => e = .returned (.tuple #[]) ∧ AtP w' lo b rv mv ov (m.loaded a k n) ∧ Below lo w w' := by
  obtain ⟨r1, r2⟩ := wordB_iff.1 (reg_word hm hk)
  obtain ⟨f1, f2⟩ := meantE_fold m false (x := m.reg k + n) (by omega) (by omega)
  obtain ⟨g, c, rfl, hg, hreg, hfz⟩ := h.regs_at hm.regs
  obtain ⟨g2, c2, rfl, hg2, hmem, hfz2⟩ := h.mem_at hm.mem
  have hx : (w.alloc (.cells #[.int .i64 op, .int .i64 a, .int .i64 k, .int .i64 n] 75)).heap[w.heap.size]? = some (.cells #[.int .i64 op, .int .i64 a, .int .i64 k, .int .i64 n] 75 (0, 0)) := Go.Deep.blk_alloc_new _ _
  have hb0 := below_alloc w (.cells #[.int .i64 op, .int .i64 a, .int .i64 k, .int .i64 n] 75)
  obtain ⟨W, hW⟩ : ∃ W, W = w.alloc (.cells #[.int .i64 op, .int .i64 a, .int .i64 k, .int .i64 n] 75) := ⟨_, rfl⟩
  rw [← hW] at hx hb0
  have HW : Hid (W = _) := hW
  clear hW
  have h1 := h.below hb0
  have HX : Hid (W.heap[w.heap.size]? = some (.cells #[.int .i64 op, .int .i64 a, .int .i64 k, .int .i64 n] 75 (0, 0))) := hx
  have HP : Hid (AtP W lo b (.slice (some ⟨g, 0, none⟩) m.regs.length c) (.slice (some ⟨g2, 0, none⟩) m.mem.length c2) ov m ∧ Below lo w W) := ⟨h1, hb0.mono hlo⟩
  have HM : Hid (∀ W', Below W.heap.size W W' → Calls Tryd.prog 81 #[ptr b, .int .i64 (foldF (m.reg k + n)), .int .i64 32] W' fun e w' => e = .returned (.tuple #[.int .i64 (m.meantK (m.reg k + n) false), .int .i64 (m.meantE (m.reg k + n) false)]) ∧ Below W'.heap.size W' w') := fun W' hb => by
    have := meantC_any lo b _ _ ov m (foldF (m.reg k + n)) 32 false W' (h1.below hb) hm.mem hm.table (Or.inl ⟨rfl, rfl⟩)
    rwa [f1, f2] at this
  obtain ⟨⟨z0, z1, z2, z3, z4, z5, z6, z7, z8, z9, z10, z11⟩, zf, zl⟩ := twelve_cells h1.box
  obtain ⟨x0, x1, x2, x3, xf, xl⟩ := four_cells hx
  have s0 := (hb0.cell (p := ⟨g, k.toNat, none⟩) hg).trans (hreg k hk.1 hk.2)
  have gl : g < W.heap.size := Nat.lt_of_lt_of_le hg hb0.size
  have HR : Hid (m.regs.length = 8 ∧ m.mem.length = 256) := ⟨hm.regs, hm.mem⟩
  have kb : k < (m.regs.length : Int) := by have := hm.regs; omega
  have HBD : Hid (m.meantE (m.reg k + n) false = 0 → 0 ≤ m.meantK (m.reg k + n) false ∧ m.meantK (m.reg k + n) false ≤ 255) := fun e => meant_bd e
  have ab : a < (m.regs.length : Int) := by have := hm.regs; omega
  obtain ⟨k0, k7⟩ := hk
  obtain ⟨a0, a7⟩ := ha
  obtain ⟨n0, n7⟩ := hn
  obtain ⟨R, eR⟩ : ∃ R, R = m.loaded a k n := ⟨_, rfl⟩
  have HRES : Hid (R = if m.meantE (m.reg k + n) false = 0 then m.setReg a (m.mem.getD (m.meantK (m.reg k + n) false).toNat 0) else m.ends (m.meantE (m.reg k + n) false)) := eR
  rw [← eR]
  clear eR hm f1 f2 h h1 hx hreg hmem hg2 hb0 hlo hfz hfz2
  revert HRES HBD HM
  generalize m.meantE (m.reg k + n) false = E
  generalize m.meantK (m.reg k + n) false = K
  revert r1 r2 s0
  generalize hv : m.reg k = v
  intro r1 r2 s0 HM HBD HRES
  clear hv
  have hwr : IntKind.i64.wrap (v + n) = v + n := IntWalk.i64_in _ (by omega)
  go_enter Tryd.func61, Tryd.ntmps61
  go_wp2_with fail
  rw [← HW.out]
  clear HW
  go_region_held3 (fun w' => w'.cell? ⟨b, 0, none⟩ = some (.slice (some ⟨g, 0, none⟩) m.regs.length c) ∧ w'.cell? ⟨w.heap.size, 2, none⟩ = some (.int .i64 k) ∧ w'.cell? ⟨w.heap.size, 3, none⟩ = some (.int .i64 n) ∧ w'.cell? ⟨g, k.toNat, none⟩ = some (.int .i64 v)) (go_keep)
    (first
      | (go_at_call 60; refine (Fold_same _ _ (by omega) (by omega)).mono ?_; rintro e w2 ⟨rfl, rfl⟩)
      | (go_at_call 81; refine (HM.out _ ((Below.refl _ W).drew)).mono ?_; rintro e w3 ⟨rfl, hb⟩; have hb' : Below W.heap.size W w3 := ((Below.refl _ W).drew).trans hb; have HB : Hid (Below W.heap.size W w3) := hb'; have t0 := (hb'.cell (p := ⟨b, 0, none⟩) zl).trans z0; have t2 := (hb'.cell (p := ⟨w.heap.size, 2, none⟩) xl).trans x2; have t3 := (hb'.cell (p := ⟨w.heap.size, 3, none⟩) xl).trans x3; have t4 := (hb'.cell (p := ⟨g, k.toNat, none⟩) gl).trans s0; clear hb hb'))
  have h3 := HP.out.1.below HB.out
  have HB3 : Hid (Below lo w w3) := HP.out.2.trans (HB.out.mono (Nat.le_trans HP.out.1.le (Nat.le_of_lt HP.out.1.lt)))
  have H3 : Hid (AtP w3 lo b (.slice (some ⟨g, 0, none⟩) m.regs.length c) (.slice (some ⟨g2, 0, none⟩) m.mem.length c2) ov m) := h3
  clear z0 z1 z2 z3 z4 z5 z6 z7 z8 z9 z10 z11 zf zl x0 x1 x2 x3 xf s0 t0 t2 t3 t4 hwr
  obtain ⟨⟨z0, z1, z2, z3, z4, z5, z6, z7, z8, z9, z10, z11⟩, zf, zl⟩ := twelve_cells h3.box
  have hx3 : w3.heap[w.heap.size]? = some (.cells #[.int .i64 op, .int .i64 a, .int .i64 k, .int .i64 n] 75 (0, 0)) := by rw [HB.out.block _ xl]; exact HX.out
  obtain ⟨x0, x1, x2, x3, xf, xl3⟩ := four_cells hx3
  clear hx3 HX HP HM xl gl HB
  by_cases hE : E = 0
  · obtain ⟨K0, K7⟩ := HBD.out hE
    have d0 : (E != 0) = false := by simp [hE]
    obtain ⟨q1, q2, -⟩ := h3.mem_cell HR.out.2 K0 K7
    obtain ⟨q3, q4, -⟩ := h3.reg_cell HR.out.1 a0 a7
    have Kb : K < (m.mem.length : Int) := by have := HR.out.2; omega
    have HE : Hid (E = 0) := hE
    obtain ⟨x, ex⟩ : ∃ x, x = m.mem.getD K.toNat 0 := ⟨_, rfl⟩
    rw [← ex] at q1
    have EX : Hid (x = m.mem.getD K.toNat 0) := ex
    clear h3 HBD HR q2 hE ex
    go_wp2_with fail
    go_still_tail 14, (by kernel_rfl)
    all_goals
      go_wp2_with fail
      first | go_end0 | refine bodyPost_ret (results_none rfl _ _ _) rfl ?_
      rw [show R = { m with regs := m.regs.set a.toNat x } by rw [HRES.out, if_pos HE.out, EX.out]; rfl]
      exact ⟨rfl, (H3.out.drew.putReg a.toNat x).1, (HB3.out.drew).trans (H3.out.drew.putReg a.toNat x).2⟩
  · have d0 : (E != 0) = true := by simpa using hE
    have HE : Hid (¬ E = 0) := hE
    clear h3 HBD HR hE
    go_wp2_with fail
    first | go_end0 | refine bodyPost_ret (results_none rfl _ _ _) rfl ?_
    rw [show R = { m with fin := E } by rw [HRES.out, if_neg HE.out]; rfl]
    exact ⟨rfl, (H3.out.setFin E).1, HB3.out.trans (H3.out.setFin E).2⟩

set_option maxHeartbeats 2000000 in
theorem store_any (lo b : Nat) (rv mv ov : Value) (m : Mach) (op a k n : Int) (w : World) (h : AtP w lo b rv mv ov m) (hlo : lo ≤ w.heap.size) (hm : MayP m) (ha : 0 ≤ a ∧ a ≤ 7) (hk : 0 ≤ k ∧ k ≤ 7) (hn : -1048576 ≤ n ∧ n ≤ 1048575) :
    Calls Tryd.prog 62 #[ptr b, .agg #[.int .i64 op, .int .i64 a, .int .i64 k, .int .i64 n]] w fun e w' => e = .returned (.int .i64 (m.wrote k n)) ∧ AtP w' lo b rv mv ov (m.stored a k n) ∧ Below lo w w' := by
  obtain ⟨r1, r2⟩ := wordB_iff.1 (reg_word hm hk)
  obtain ⟨f1, f2⟩ := meantE_fold m true (x := m.reg k + n) (by omega) (by omega)
  obtain ⟨g, c, rfl, hg, hreg, hfz⟩ := h.regs_at hm.regs
  obtain ⟨g2, c2, rfl, hg2, hmem, hfz2⟩ := h.mem_at hm.mem
  have hx : (w.alloc (.cells #[.int .i64 op, .int .i64 a, .int .i64 k, .int .i64 n] 75)).heap[w.heap.size]? = some (.cells #[.int .i64 op, .int .i64 a, .int .i64 k, .int .i64 n] 75 (0, 0)) := Go.Deep.blk_alloc_new _ _
  have hb0 := below_alloc w (.cells #[.int .i64 op, .int .i64 a, .int .i64 k, .int .i64 n] 75)
  obtain ⟨W, hW⟩ : ∃ W, W = w.alloc (.cells #[.int .i64 op, .int .i64 a, .int .i64 k, .int .i64 n] 75) := ⟨_, rfl⟩
  rw [← hW] at hx hb0
  have HW : Hid (W = _) := hW
  clear hW
  have h1 := h.below hb0
  have HX : Hid (W.heap[w.heap.size]? = some (.cells #[.int .i64 op, .int .i64 a, .int .i64 k, .int .i64 n] 75 (0, 0))) := hx
  have HP : Hid (AtP W lo b (.slice (some ⟨g, 0, none⟩) m.regs.length c) (.slice (some ⟨g2, 0, none⟩) m.mem.length c2) ov m ∧ Below lo w W) := ⟨h1, hb0.mono hlo⟩
  have HM : Hid (∀ W', Below W.heap.size W W' → Calls Tryd.prog 81 #[ptr b, .int .i64 (foldF (m.reg k + n)), .int .i64 48] W' fun e w' => e = .returned (.tuple #[.int .i64 (m.meantK (m.reg k + n) true), .int .i64 (m.meantE (m.reg k + n) true)]) ∧ Below W'.heap.size W' w') := fun W' hb => by
    have := meantC_any lo b _ _ ov m (foldF (m.reg k + n)) 48 true W' (h1.below hb) hm.mem hm.table (Or.inr ⟨rfl, rfl⟩)
    rwa [f1, f2] at this
  obtain ⟨⟨z0, z1, z2, z3, z4, z5, z6, z7, z8, z9, z10, z11⟩, zf, zl⟩ := twelve_cells h1.box
  obtain ⟨x0, x1, x2, x3, xf, xl⟩ := four_cells hx
  have s0 := (hb0.cell (p := ⟨g, k.toNat, none⟩) hg).trans (hreg k hk.1 hk.2)
  have gl : g < W.heap.size := Nat.lt_of_lt_of_le hg hb0.size
  have HR : Hid (m.regs.length = 8 ∧ m.mem.length = 256) := ⟨hm.regs, hm.mem⟩
  have kb : k < (m.regs.length : Int) := by have := hm.regs; omega
  have HBD : Hid (m.meantE (m.reg k + n) true = 0 → 0 ≤ m.meantK (m.reg k + n) true ∧ m.meantK (m.reg k + n) true ≤ 255) := fun e => meant_bd e
  have ab : a < (m.regs.length : Int) := by have := hm.regs; omega
  obtain ⟨k0, k7⟩ := hk
  obtain ⟨a0, a7⟩ := ha
  obtain ⟨n0, n7⟩ := hn
  obtain ⟨R, eR⟩ : ∃ R, R = m.stored a k n := ⟨_, rfl⟩
  have HRES : Hid (R = if m.meantE (m.reg k + n) true = 0 then { m with mem := m.mem.set (m.meantK (m.reg k + n) true).toNat (m.reg a) } else m.ends (m.meantE (m.reg k + n) true)) := eR
  obtain ⟨V, eV⟩ : ∃ V, V = m.wrote k n := ⟨_, rfl⟩
  have HWR : Hid (V = if m.meantE (m.reg k + n) true = 0 then m.meantK (m.reg k + n) true else -1) := eV
  rw [← eV]
  rw [← eR]
  clear eR eV hm f1 f2 h h1 hx hreg hmem hg2 hb0 hlo hfz hfz2
  revert HWR HRES HBD HM
  generalize m.meantE (m.reg k + n) true = E
  generalize m.meantK (m.reg k + n) true = K
  revert r1 r2 s0
  generalize hv : m.reg k = v
  intro r1 r2 s0 HM HBD HRES HWR
  clear hv
  have hwr : IntKind.i64.wrap (v + n) = v + n := IntWalk.i64_in _ (by omega)
  go_enter Tryd.func62, Tryd.ntmps62
  go_wp2_with fail
  rw [← HW.out]
  clear HW
  go_region_held3 (fun w' => w'.cell? ⟨b, 0, none⟩ = some (.slice (some ⟨g, 0, none⟩) m.regs.length c) ∧ w'.cell? ⟨w.heap.size, 2, none⟩ = some (.int .i64 k) ∧ w'.cell? ⟨w.heap.size, 3, none⟩ = some (.int .i64 n) ∧ w'.cell? ⟨g, k.toNat, none⟩ = some (.int .i64 v)) (go_keep)
    (first
      | (go_at_call 60; refine (Fold_same _ _ (by omega) (by omega)).mono ?_; rintro e w2 ⟨rfl, rfl⟩)
      | (go_at_call 81; refine (HM.out _ ((Below.refl _ W).drew)).mono ?_; rintro e w3 ⟨rfl, hb⟩; have hb' : Below W.heap.size W w3 := ((Below.refl _ W).drew).trans hb; have HB : Hid (Below W.heap.size W w3) := hb'; have t0 := (hb'.cell (p := ⟨b, 0, none⟩) zl).trans z0; have t2 := (hb'.cell (p := ⟨w.heap.size, 2, none⟩) xl).trans x2; have t3 := (hb'.cell (p := ⟨w.heap.size, 3, none⟩) xl).trans x3; have t4 := (hb'.cell (p := ⟨g, k.toNat, none⟩) gl).trans s0; clear hb hb'))
  have h3 := HP.out.1.below HB.out
  have HB3 : Hid (Below lo w w3) := HP.out.2.trans (HB.out.mono (Nat.le_trans HP.out.1.le (Nat.le_of_lt HP.out.1.lt)))
  have H3 : Hid (AtP w3 lo b (.slice (some ⟨g, 0, none⟩) m.regs.length c) (.slice (some ⟨g2, 0, none⟩) m.mem.length c2) ov m) := h3
  clear z0 z1 z2 z3 z4 z5 z6 z7 z8 z9 z10 z11 zf zl x0 x1 x2 x3 xf s0 t0 t2 t3 t4 hwr
  obtain ⟨⟨z0, z1, z2, z3, z4, z5, z6, z7, z8, z9, z10, z11⟩, zf, zl⟩ := twelve_cells h3.box
  have hx3 : w3.heap[w.heap.size]? = some (.cells #[.int .i64 op, .int .i64 a, .int .i64 k, .int .i64 n] 75 (0, 0)) := by rw [HB.out.block _ xl]; exact HX.out
  obtain ⟨x0, x1, x2, x3, xf, xl3⟩ := four_cells hx3
  clear hx3 HX HP HM xl gl HB
  by_cases hE : E = 0
  · obtain ⟨K0, K7⟩ := HBD.out hE
    have d0 : (E != 0) = false := by simp [hE]
    obtain ⟨q1, q2, -⟩ := h3.mem_cell HR.out.2 K0 K7
    obtain ⟨q3, q4, -⟩ := h3.reg_cell HR.out.1 a0 a7
    have Kb : K < (m.mem.length : Int) := by have := HR.out.2; omega
    have HE : Hid (E = 0) := hE
    obtain ⟨x, ex⟩ : ∃ x, x = m.reg a := ⟨_, rfl⟩
    rw [← ex] at q3
    have EX : Hid (x = m.reg a) := ex
    clear h3 HBD HR q4 hE ex
    go_wp2_with fail
    go_still_tail 14, (by kernel_rfl)
    all_goals
      go_wp2_with fail
      go_ret
      rw [show R = { m with mem := m.mem.set K.toNat x } by rw [HRES.out, if_pos HE.out, EX.out], show V = K by rw [HWR.out, if_pos HE.out]]
      exact ⟨rfl, (H3.out.drew.putMem K.toNat x).1, (HB3.out.drew).trans (H3.out.drew.putMem K.toNat x).2⟩
  · have d0 : (E != 0) = true := by simpa using hE
    have HE : Hid (¬ E = 0) := hE
    clear h3 HBD HR hE
    go_wp2_with fail
    go_ret
    rw [show R = { m with fin := E } by rw [HRES.out, if_neg HE.out]; rfl, show V = -1 by rw [HWR.out, if_neg HE.out]]
    exact ⟨rfl, (H3.out.setFin E).1, HB3.out.trans (H3.out.setFin E).2⟩

end Go.Proofs.YtecpblabaelopaaDoor
