/- Contracts of cpu.meant and next: the word that an address means; the instruction that comes next. -/
import Derived.Test.YtlcdefpdahjjeaeStepS
import Derived.Test.YtlcdefpdahjjeaeCpuCode
namespace Go.Proofs.Ytlcdefpdahjjeae
open Go.RowKit

/-- How the guest ends at an address, by the least word of a table that will do. -/
theorem meantE_lea {m : Mach} {at' lea : Int} {write : Bool} (hlea : (lea = 32 ∧ write = false) ∨ (lea = 48 ∧ write = true)) (h0 : inB at' 0 255 = true) (h1 : (m.table == -1) = false) :
    m.meantE at' write = if !inB (m.page at') lea 63 then 4 else 0 := by
  rcases hlea with ⟨rfl, rfl⟩ | ⟨rfl, rfl⟩
  · simp only [Mach.meantE, h0, h1]
    cases inB (m.page at') 32 63 <;> rfl
  · simp only [Mach.meantE, h0, h1]
    cases c : inB (m.page at') 32 63 with
    | false =>
      have : inB (m.page at') 48 63 = false := by
        apply inB_no
        intro h
        rw [inB_yes (by omega) h.2] at c
        exact absurd c (by decide)
      rw [this]; rfl
    | true =>
      have := inB_iff.1 c
      by_cases d : m.page at' < 48
      · rw [inB_no (lo := 48) (by omega), decide_eq_true d]; rfl
      · rw [inB_yes (lo := 48) (by omega) this.2, decide_eq_false d]; rfl

set_option maxHeartbeats 2000000 in
theorem meantC_any (lo b : Nat) (rv mv ov : Value) (m : Mach) (at' lea : Int) (write : Bool) (w : World) (h : AtP w lo b rv mv ov m) (hl : m.mem.length = 256) (ht : -1 ≤ m.table ∧ m.table ≤ 15)
    (hlea : (lea = 32 ∧ write = false) ∨ (lea = 48 ∧ write = true)) :
    Calls Try.prog 37 #[ptr b, .int .i64 at', .int .i64 lea] w fun e w' => e = .returned (.tuple #[.int .i64 (m.meantK at' write), .int .i64 (m.meantE at' write)]) ∧ Below w.heap.size w w' := by
  cases g0 : inB at' 0 255 with
  | false =>
    have HE : Hid (3 = m.meantE at' write) := by show _ = _; simp [Mach.meantE, g0]
    have HK : Hid (0 = m.meantK at' write) := by show _ = _; simp [Mach.meantK, ← HE.out]
    clear hl ht h hlea
    go_enter Try.func37, Try.ntmps37
    go_wp2_with fail
    refine (outside_any _ _ _).mono ?_
    rintro e w1 ⟨p, q, rfl, hc, hb⟩
    have HC : Hid (CloAt w1 p q 0 255) := hc
    have HB : Hid (Below w.heap.size w w1) := hb
    clear hc hb
    go_wp2_with (go_at_call 42; refine (clo_any _ 0 255 _ _ _ HC.out).mono ?_; rw [g0]; rintro e w1 ⟨rfl, rfl⟩)
    go_ret2
    exact ⟨ret_two HK.out HE.out, HB.out⟩
  | true =>
  obtain ⟨a1, a2⟩ := inB_iff.1 g0
  cases g1 : m.table == -1 with
  | true =>
    have HE : Hid (0 = m.meantE at' write) := by show _ = _; simp only [Mach.meantE, g0, g1]; rfl
    have HK : Hid (at' = m.meantK at' write) := by show _ = _; simp only [Mach.meantK, ← HE.out, g1]; rfl
    have H : Hid (AtP w lo b rv mv ov m) := h
    clear hl ht h hlea
    go_enter Try.func37, Try.ntmps37
    go_wp2_with fail
    refine (outside_any _ _ _).mono ?_
    rintro e w1 ⟨p, q, rfl, hc, hb⟩
    have HC : Hid (CloAt w1 p q 0 255) := hc
    have HB : Hid (Below w.heap.size w w1) := hb
    obtain ⟨⟨z0, z1, z2, z3, z4, z5, z6, z7, z8, z9, z10, z11⟩, zf, zl⟩ := twelve_cells (H.out.below hb).box
    clear hc hb
    go_wp2_with (go_at_call 42; refine (clo_any _ 0 255 _ _ _ HC.out).mono ?_; rw [g0]; rintro e w1 ⟨rfl, rfl⟩)
    go_ret2
    exact ⟨ret_two HK.out HE.out, HB.out⟩
  | false =>
  have t0 : 0 ≤ m.table := by
    have : m.table ≠ -1 := by simpa using g1
    omega
  have hE := meantE_lea (m := m) hlea g0 g1
  have hK : m.meantK at' write = (if m.meantE at' write = 0 then 16 * (m.page at' % 16) + at' % 16 else 0) := by simp only [Mach.meantK, g1]; rfl
  obtain ⟨g, c, rfl, hg1, hg2, hcell, -⟩ := h.own.mem.opened (by omega)
  have H : Hid (AtP w lo b rv (.slice (some ⟨g, 0, none⟩) m.mem.length c) ov m) := h
  have h1 : w.cell? ⟨g, (m.table * 16 + at' / 16).toNat, none⟩ = some (.int .i64 (m.page at')) := by
    rw [hcell _ (by omega)]; unfold Mach.page; rw [show m.table * 16 + at' / 16 = 16 * m.table + at' / 16 by omega]
  have H1 : Hid (w.cell? ⟨g, (m.table * 16 + at' / 16).toNat, none⟩ = some (.int .i64 (m.page at')) ∧ g < w.heap.size) := ⟨h1, hg2⟩
  clear h1 hcell hg1 hg2
  obtain ⟨E, eE⟩ : ∃ E, E = m.meantE at' write := ⟨_, rfl⟩
  obtain ⟨K, eK⟩ : ∃ K, K = m.meantK at' write := ⟨_, rfl⟩
  rw [← eE, ← eK]
  rw [← eE] at hE
  rw [← eK, ← eE] at hK
  have HE : Hid (E = if !inB (m.page at') lea 63 then 4 else 0) := hE
  have HK : Hid (K = (if E = 0 then 16 * (m.page at' % 16) + at' % 16 else 0)) := hK
  have x0 : inB (m.page at') lea 63 = true → 32 ≤ m.page at' ∧ m.page at' ≤ 63 := fun hi => by have := inB_iff.1 hi; rcases hlea with ⟨rfl, -⟩ | ⟨rfl, -⟩ <;> omega
  clear hK hE eE eK h hlea
  revert x0 HK HE H1
  generalize m.page at' = x
  intro H1 HE HK x0
  have hj2 : m.table * 16 + at' / 16 < (m.mem.length : Int) := by omega
  have hj3 : 0 ≤ m.table * 16 + at' / 16 := by omega
  obtain ⟨-, t2⟩ := ht
  clear hl
  cases g2 : inB x lea 63 with
  | false =>
    have FE : Hid (4 = E) := by show _ = _; rw [HE.out, g2]; rfl
    have FK : Hid (0 = K) := by show _ = _; rw [HK.out, ← FE.out]; rfl
    clear HE HK x0
    go_enter Try.func37, Try.ntmps37
    go_wp2_with fail
    refine (outside_any _ _ _).mono ?_
    rintro e w1 ⟨p, q, rfl, hc, hb⟩
    have HC : Hid (CloAt w1 p q 0 255) := hc
    have HB : Hid (Below w.heap.size w w1) := hb
    obtain ⟨⟨z0, z1, z2, z3, z4, z5, z6, z7, z8, z9, z10, z11⟩, zf, zl⟩ := twelve_cells (H.out.below hb).box
    have h1 := (hb.cell (p := ⟨g, (m.table * 16 + at' / 16).toNat, none⟩) H1.out.2).trans H1.out.1
    clear hc hb
    go_wp2_with (go_at_call 42; refine (clo_any _ 0 255 _ _ _ HC.out).mono ?_; rw [g0]; rintro e w1 ⟨rfl, rfl⟩)
    go_quiet (fail)
    go_wp2_with fail
    refine (outside_any _ _ _).mono ?_
    rintro e w3 ⟨p3, q3, rfl, hc3, hb3⟩
    have HC3 : Hid (CloAt w3 p3 q3 lea 63) := hc3
    have HB3 : Hid (Below w.heap.size w w3) := HB.out.trans ((below_drewN (Below.refl _ _) _).trans hb3 |>.mono HB.out.size)
    clear hc3 hb3 z0 z1 z2 z3 z4 z5 z6 z7 z8 z9 z10 z11 zf zl h1
    go_wp2_with (go_at_call 42; refine (clo_any _ lea 63 _ _ _ HC3.out).mono ?_; rw [g2]; rintro e w1 ⟨rfl, rfl⟩)
    go_ret2
    exact ⟨ret_two FK.out FE.out, HB3.out⟩
  | true =>
    obtain ⟨x1, x2⟩ := x0 g2
    have FE : Hid (0 = E) := by show _ = _; rw [HE.out, g2]; rfl
    have FK : Hid (x % 16 * 16 + at' % 16 = K) := by show _ = _; rw [HK.out, ← FE.out]; simp; omega
    clear HE HK x0
    go_enter Try.func37, Try.ntmps37
    go_wp2_with fail
    refine (outside_any _ _ _).mono ?_
    rintro e w1 ⟨p, q, rfl, hc, hb⟩
    have HC : Hid (CloAt w1 p q 0 255) := hc
    have HB : Hid (Below w.heap.size w w1) := hb
    obtain ⟨⟨z0, z1, z2, z3, z4, z5, z6, z7, z8, z9, z10, z11⟩, zf, zl⟩ := twelve_cells (H.out.below hb).box
    have h1 := (hb.cell (p := ⟨g, (m.table * 16 + at' / 16).toNat, none⟩) H1.out.2).trans H1.out.1
    clear hc hb
    go_wp2_with (go_at_call 42; refine (clo_any _ 0 255 _ _ _ HC.out).mono ?_; rw [g0]; rintro e w1 ⟨rfl, rfl⟩)
    go_quiet (fail)
    go_wp2_with fail
    refine (outside_any _ _ _).mono ?_
    rintro e w3 ⟨p3, q3, rfl, hc3, hb3⟩
    have HC3 : Hid (CloAt w3 p3 q3 lea 63) := hc3
    have HB3 : Hid (Below w.heap.size w w3) := HB.out.trans ((below_drewN (Below.refl _ _) _).trans hb3 |>.mono HB.out.size)
    clear hc3 hb3 z0 z1 z2 z3 z4 z5 z6 z7 z8 z9 z10 z11 zf zl h1
    go_wp2_with (go_at_call 42; refine (clo_any _ lea 63 _ _ _ HC3.out).mono ?_; rw [g2]; rintro e w1 ⟨rfl, rfl⟩)
    go_ret2
    exact ⟨ret_two FK.out FE.out, HB3.out⟩

end Go.Proofs.Ytlcdefpdahjjeae
