/- Contracts of cpu.askBlock, letIn. -/
import Derived.Test.YtecpblabaelopaaGreatDoorStepSPart
import Derived.Test.YtecpblabaelopaaGreatDoorBasePart
import Derived.StillTailTactics
import Derived.Deep.AppendLies
import Derived.Maps.AppendAt
import Derived.Test.YtecpblabaelopaaGreatDoorOwnPart
namespace Go.Proofs.YtecpblabaelopaaGreatDoor
open Go.RowKit

set_option maxHeartbeats 400000 in
theorem askBlock_any (lo b : Nat) (rv mv ov : Value) (m : Mach) (x : Int) (w : World) (h : AtP w lo b rv mv ov m) (hlo : lo ≤ w.heap.size) :
    Calls Tryz.prog 148 #[ptr b, .int .i64 x] w fun e w' => e = .returned (.tuple #[]) ∧ AtP w' lo b rv mv ov (m.asked x) ∧ Below lo w w' := by
  have H : Hid (AtP w lo b rv mv ov m) := h
  cases c : inB x 0 15 with
  | false =>
    have HT : Hid (m.asked x = { m with fin := 3 }) := by show _ = _; simp [Mach.asked, c]
    rw [HT.out]
    clear h HT
    go_enter Tryz.func148, Tryz.ntmps148
    go_wp2_with fail
    refine (outside_any _ _ _).mono ?_
    rintro e w1 ⟨p, q, rfl, hc, hb⟩
    have HC : Hid (CloAt w1 p q 0 15) := hc
    have h1 := H.out.below hb
    have HB : Hid (Below lo w w1) := hb.mono hlo
    obtain ⟨⟨z0, z1, z2, z3, z4, z5, z6, z7, z8, z9, z10, z11⟩, zf, zl⟩ := twelve_cells h1.box
    have H1 : Hid (AtP w1 lo b rv mv ov m) := h1
    clear hc hb h1
    go_wp2_with (go_at_call 162; refine (clo_any _ 0 15 _ _ _ HC.out).mono ?_; rw [c]; rintro e w1 ⟨rfl, rfl⟩)
    first | go_end0 | refine bodyPost_ret (results_none rfl _ _ _) rfl ?_
    exact ⟨rfl, (H1.out.setFin 3).1, HB.out.trans ((H1.out.setFin 3).2)⟩
  | true =>
  cases c2 : m.want == -1 with
  | false =>
    have HT : Hid (m.asked x = m) := by show _ = _; simp only [Mach.asked, c, c2]; rfl
    rw [HT.out]
    clear h HT
    go_enter Tryz.func148, Tryz.ntmps148
    go_wp2_with fail
    refine (outside_any _ _ _).mono ?_
    rintro e w1 ⟨p, q, rfl, hc, hb⟩
    have HC : Hid (CloAt w1 p q 0 15) := hc
    have h1 := H.out.below hb
    have HB : Hid (Below lo w w1) := hb.mono hlo
    obtain ⟨⟨z0, z1, z2, z3, z4, z5, z6, z7, z8, z9, z10, z11⟩, zf, zl⟩ := twelve_cells h1.box
    have H1 : Hid (AtP w1 lo b rv mv ov m) := h1
    clear hc hb h1
    go_wp2_with (go_at_call 162; refine (clo_any _ 0 15 _ _ _ HC.out).mono ?_; rw [c]; rintro e w1 ⟨rfl, rfl⟩)
    first | go_end0 | refine bodyPost_ret (results_none rfl _ _ _) rfl ?_
    exact ⟨rfl, H1.out, HB.out⟩
  | true =>
    have HT : Hid (m.asked x = { m with want := x, ready := 0 }) := by show _ = _; simp only [Mach.asked, c, c2]; rfl
    rw [HT.out]
    clear h HT
    go_enter Tryz.func148, Tryz.ntmps148
    go_wp2_with fail
    refine (outside_any _ _ _).mono ?_
    rintro e w1 ⟨p, q, rfl, hc, hb⟩
    have HC : Hid (CloAt w1 p q 0 15) := hc
    have h1 := H.out.below hb
    have HB : Hid (Below lo w w1) := hb.mono hlo
    obtain ⟨⟨z0, z1, z2, z3, z4, z5, z6, z7, z8, z9, z10, z11⟩, zf, zl⟩ := twelve_cells h1.box
    have H1 : Hid (AtP w1 lo b rv mv ov m) := h1
    clear hc hb h1
    go_wp2_with (go_at_call 162; refine (clo_any _ 0 15 _ _ _ HC.out).mono ?_; rw [c]; rintro e w1 ⟨rfl, rfl⟩)
    first | go_end0 | refine bodyPost_ret (results_none rfl _ _ _) rfl ?_
    exact ⟨rfl, ((H1.out.setWant x).1.setReady 0).1, (HB.out.trans (H1.out.setWant x).2).trans ((H1.out.setWant x).1.setReady 0).2⟩

set_option maxHeartbeats 400000 in
theorem letIn_any (lo b : Nat) (rv mv ov : Value) (m : Mach) (w : World) (h : AtP w lo b rv mv ov m) :
    Calls Tryz.prog 112 #[ptr b] w fun e w' => e = .returned (.tuple #[]) ∧ AtP w' lo b rv mv ov m.enter ∧ Below lo w w' := by
  have H : Hid (AtP w lo b rv mv ov m) := h
  obtain ⟨⟨z0, z1, z2, z3, z4, z5, z6, z7, z8, z9, z10, z11⟩, zf, zl⟩ := twelve_cells h.box
  cases c : m.wait with
  | false =>
    have HT : Hid (m.enter = m) := by show _ = _; simp [Mach.enter, c]
    rw [HT.out]
    rw [c] at z4
    clear h HT
    go_enter Tryz.func112, Tryz.ntmps112
    go_wp2_with fail
    first | go_end0 | refine bodyPost_ret (results_none rfl _ _ _) rfl ?_
    exact ⟨rfl, H.out, Below.refl _ _⟩
  | true =>
  cases c2 : m.ints with
  | false =>
    have HT : Hid (m.enter = m) := by show _ = _; simp [Mach.enter, c2]
    rw [HT.out]
    rw [c] at z4
    rw [c2] at z3
    clear h HT
    go_enter Tryz.func112, Tryz.ntmps112
    go_wp2_with fail
    first | go_end0 | refine bodyPost_ret (results_none rfl _ _ _) rfl ?_
    exact ⟨rfl, H.out, Below.refl _ _⟩
  | true =>
    have HT : Hid (m.enter = { m with wait := false, ints := false, back := m.pc, pc := 8 }) := by show _ = _; simp [Mach.enter, c, c2]
    rw [HT.out]
    rw [c] at z4
    rw [c2] at z3
    have a1 := h.setWait false
    have a2 := a1.1.setInts false
    have a3 := a2.1.setBack m.pc
    have a4 := a3.1.setPc 8
    have HA : Hid (AtP _ lo b rv mv ov _ ∧ Below lo w _) := ⟨a4.1, ((a1.2.trans a2.2).trans a3.2).trans a4.2⟩
    clear h HT a1 a2 a3 a4
    go_enter Tryz.func112, Tryz.ntmps112
    go_wp2_with fail
    first | go_end0 | refine bodyPost_ret (results_none rfl _ _ _) rfl ?_
    exact ⟨rfl, HA.out⟩

end Go.Proofs.YtecpblabaelopaaGreatDoor

/- Contract of cpu.Fold. -/

namespace Go.Proofs.YtecpblabaelopaaGreatDoor
open Go.RowKit
set_option linter.unusedVariables false

set_option maxHeartbeats 400000 in
theorem Fold_same (n : Int) (w : World) (h1 : -9223372036854775808 ≤ n) (h2 : n ≤ 9223372036854775807) :
    Calls Tryz.prog 114 #[.int .i64 n] w fun e w' => e = .returned (.int .i64 (foldF n)) ∧ w' = w := by
  have HM := tmod_sign n 2199023255553
  have b1 : -2199023255553 ≤ n.tmod 2199023255553 := by omega
  have b2 : n.tmod 2199023255553 ≤ 2199023255553 := by omega
  by_cases c1 : 1099511627776 < n.tmod 2199023255553
  · have HF : Hid (n.tmod 2199023255553 - 2199023255553 = foldF n) := by show _ = _; unfold foldF; omega
    clear HM
    go_enter Tryz.func114, Tryz.ntmps114
    go_wp2
    go_ret
    exact ⟨ret_int HF.out, rfl⟩
  · by_cases c2 : n.tmod 2199023255553 < -1099511627776
    · have HF : Hid (n.tmod 2199023255553 + 2199023255553 = foldF n) := by show _ = _; unfold foldF; omega
      clear HM
      go_enter Tryz.func114, Tryz.ntmps114
      go_wp2
      go_ret
      exact ⟨ret_int HF.out, rfl⟩
    · have HF : Hid (n.tmod 2199023255553 = foldF n) := by show _ = _; unfold foldF; omega
      clear HM
      go_enter Tryz.func114, Tryz.ntmps114
      go_wp2
      go_ret
      exact ⟨ret_int HF.out, rfl⟩

end Go.Proofs.YtecpblabaelopaaGreatDoor

/- Contracts of cpu.load and store. -/

namespace Go.Proofs.YtecpblabaelopaaGreatDoor
open Go.RowKit
set_option maxRecDepth 100000

theorem meantE_fold (m : Mach) (wr : Bool) {x : Int} (h1 : -1099512676352 ≤ x) (h2 : x ≤ 1099512676351) : m.meantE (foldF x) wr = m.meantE x wr ∧ m.meantK (foldF x) wr = m.meantK x wr := by
  by_cases h : -1099511627776 ≤ x ∧ x ≤ 1099511627776
  · rw [foldF_id h.1 h.2]; exact ⟨rfl, rfl⟩
  · have e1 : inB x 0 255 = false := inB_no (by omega)
    have e2 : inB (foldF x) 0 255 = false := inB_no (by unfold foldF; omega)
    have a1 : m.meantE x wr = 3 := by simp [Mach.meantE, e1]
    have a2 : m.meantE (foldF x) wr = 3 := by simp [Mach.meantE, e2]
    exact ⟨by rw [a1, a2], by simp [Mach.meantK, a1, a2]⟩

def Mach.loaded (m : Mach) (a k n : Int) : Mach := if m.meantE (m.reg k + n) false = 0 then m.setReg a (m.mem.getD (m.meantK (m.reg k + n) false).toNat 0) else m.ends (m.meantE (m.reg k + n) false)
def Mach.stored (m : Mach) (a k n : Int) : Mach := if m.meantE (m.reg k + n) true = 0 then { m with mem := m.mem.set (m.meantK (m.reg k + n) true).toNat (m.reg a) } else m.ends (m.meantE (m.reg k + n) true)
def Mach.wrote (m : Mach) (k n : Int) : Int := if m.meantE (m.reg k + n) true = 0 then m.meantK (m.reg k + n) true else -1

theorem AtP.regs_at {w : World} {lo b : Nat} {rv mv ov : Value} {m : Mach} (h : AtP w lo b rv mv ov m) (hr : m.regs.length = 8) : ∃ g c, rv = .slice (some ⟨g, 0, none⟩) m.regs.length c ∧ g < w.heap.size ∧ (∀ k : Int, 0 ≤ k → k ≤ 7 → w.cell? ⟨g, k.toNat, none⟩ = some (.int .i64 (m.reg k))) ∧ ∀ i, w.frozen? ⟨g, i, none⟩ = false := by
  obtain ⟨g, c, rfl, h1, h2, h3, h4⟩ := h.own.regs.opened (by omega)
  exact ⟨g, c, rfl, h2, fun k k0 k7 => h3 _ (by omega), h4⟩
theorem AtP.mem_at {w : World} {lo b : Nat} {rv mv ov : Value} {m : Mach} (h : AtP w lo b rv mv ov m) (hr : m.mem.length = 256) : ∃ g c, mv = .slice (some ⟨g, 0, none⟩) m.mem.length c ∧ g < w.heap.size ∧ (∀ k : Int, 0 ≤ k → k ≤ 255 → w.cell? ⟨g, k.toNat, none⟩ = some (.int .i64 (m.mem.getD k.toNat 0))) ∧ ∀ i, w.frozen? ⟨g, i, none⟩ = false := by
  obtain ⟨g, c, rfl, h1, h2, h3, h4⟩ := h.own.mem.opened (by omega)
  exact ⟨g, c, rfl, h2, fun k k0 k7 => h3 _ (by omega), h4⟩

theorem AtP.reg_cell {w : World} {lo b g l c : Nat} {mv ov : Value} {m : Mach} (h : AtP w lo b (.slice (some ⟨g, 0, none⟩) l c) mv ov m) (hr : m.regs.length = 8) {k : Int} (k0 : 0 ≤ k) (k7 : k ≤ 7) : w.cell? ⟨g, k.toNat, none⟩ = some (.int .i64 (m.reg k)) ∧ (∀ i, w.frozen? ⟨g, i, none⟩ = false) ∧ g < w.heap.size := by
  obtain ⟨g', c', e, h1, h2, h3⟩ := h.regs_at hr
  simp only [Value.slice.injEq, Option.some.injEq, Addr.mk.injEq] at e
  obtain ⟨⟨rfl, -, -⟩, -, -⟩ := e
  exact ⟨h2 k k0 k7, h3, h1⟩
theorem AtP.mem_cell {w : World} {lo b g l c : Nat} {rv ov : Value} {m : Mach} (h : AtP w lo b rv (.slice (some ⟨g, 0, none⟩) l c) ov m) (hr : m.mem.length = 256) {k : Int} (k0 : 0 ≤ k) (k7 : k ≤ 255) : w.cell? ⟨g, k.toNat, none⟩ = some (.int .i64 (m.mem.getD k.toNat 0)) ∧ (∀ i, w.frozen? ⟨g, i, none⟩ = false) ∧ g < w.heap.size := by
  obtain ⟨g', c', e, h1, h2, h3⟩ := h.mem_at hr
  simp only [Value.slice.injEq, Option.some.injEq, Addr.mk.injEq] at e
  obtain ⟨⟨rfl, -, -⟩, -, -⟩ := e
  exact ⟨h2 k k0 k7, h3, h1⟩

set_option maxHeartbeats 2000000 in
theorem load_any (lo b : Nat) (rv mv ov : Value) (m : Mach) (op a k n : Int) (w : World) (h : AtP w lo b rv mv ov m) (hlo : lo ≤ w.heap.size) (hm : MayP m) (ha : 0 ≤ a ∧ a ≤ 7) (hk : 0 ≤ k ∧ k ≤ 7) (hn : -1048576 ≤ n ∧ n ≤ 1048575) :
    Calls Tryz.prog 115 #[ptr b, .agg #[.int .i64 op, .int .i64 a, .int .i64 k, .int .i64 n]] w fun e w' => e = .returned (.tuple #[]) ∧ AtP w' lo b rv mv ov (m.loaded a k n) ∧ Below lo w w' := by
  obtain ⟨r1, r2⟩ := wordB_iff.1 (reg_word hm hk)
  obtain ⟨f1, f2⟩ := meantE_fold m false (x := m.reg k + n) (by omega) (by omega)
  obtain ⟨g, c, rfl, hg, hreg, hfz⟩ := h.regs_at hm.regs
  obtain ⟨g2, c2, rfl, hg2, hmem, hfz2⟩ := h.mem_at hm.mem
  have hx : (w.alloc (.cells #[.int .i64 op, .int .i64 a, .int .i64 k, .int .i64 n] 103)).heap[w.heap.size]? = some (.cells #[.int .i64 op, .int .i64 a, .int .i64 k, .int .i64 n] 103 (0, 0)) := Go.Deep.blk_alloc_new _ _
  have hb0 := below_alloc w (.cells #[.int .i64 op, .int .i64 a, .int .i64 k, .int .i64 n] 103)
  obtain ⟨W, hW⟩ : ∃ W, W = w.alloc (.cells #[.int .i64 op, .int .i64 a, .int .i64 k, .int .i64 n] 103) := ⟨_, rfl⟩
  rw [← hW] at hx hb0
  have HW : Hid (W = _) := hW
  clear hW
  have h1 := h.below hb0
  have HX : Hid (W.heap[w.heap.size]? = some (.cells #[.int .i64 op, .int .i64 a, .int .i64 k, .int .i64 n] 103 (0, 0))) := hx
  have HP : Hid (AtP W lo b (.slice (some ⟨g, 0, none⟩) m.regs.length c) (.slice (some ⟨g2, 0, none⟩) m.mem.length c2) ov m ∧ Below lo w W) := ⟨h1, hb0.mono hlo⟩
  have HM : Hid (∀ W', Below W.heap.size W W' → Calls Tryz.prog 146 #[ptr b, .int .i64 (foldF (m.reg k + n)), .int .i64 32] W' fun e w' => e = .returned (.tuple #[.int .i64 (m.meantK (m.reg k + n) false), .int .i64 (m.meantE (m.reg k + n) false)]) ∧ Below W'.heap.size W' w') := fun W' hb => by
    have := meantC_any lo b _ _ ov m (foldF (m.reg k + n)) 32 false W' (h1.below hb) hm.mem hm.table (Or.inl ⟨rfl, rfl⟩)
    rwa [f1, f2] at this
  obtain ⟨⟨z0, z1, z2, z3, z4, z5, z6, z7, z8, z9, z10, z11⟩, zf, zl⟩ := twelve_cells h1.box
  obtain ⟨x0, x1, x2, x3, xf, xl⟩ := four_cells hx
  have s0 := (hb0.cell (p := ⟨g, k.toNat, none⟩) hg).trans (hreg k hk.1 hk.2)
  have gl : g < W.heap.size := Nat.lt_of_lt_of_le hg hb0.size
  have HR : Hid (m.regs.length = 8 ∧ m.mem.length = 256) := ⟨hm.regs, hm.mem⟩
  have kb : k < (m.regs.length : Int) := by have := hm.regs; omega
  have HBD : Hid (m.meantE (m.reg k + n) false = 0 → 0 ≤ m.meantK (m.reg k + n) false ∧ m.meantK (m.reg k + n) false ≤ 255) := fun e => meant_bd e
  have ab : a < (m.regs.length : Int) := by have := hm.regs; omega
  obtain ⟨k0, k7⟩ := hk
  obtain ⟨a0, a7⟩ := ha
  obtain ⟨n0, n7⟩ := hn
  obtain ⟨R, eR⟩ : ∃ R, R = m.loaded a k n := ⟨_, rfl⟩
  have HRES : Hid (R = if m.meantE (m.reg k + n) false = 0 then m.setReg a (m.mem.getD (m.meantK (m.reg k + n) false).toNat 0) else m.ends (m.meantE (m.reg k + n) false)) := eR
  rw [← eR]
  clear eR hm f1 f2 h h1 hx hreg hmem hg2 hb0 hlo hfz hfz2
  revert HRES HBD HM
  generalize m.meantE (m.reg k + n) false = E
  generalize m.meantK (m.reg k + n) false = K
  revert r1 r2 s0
  generalize hv : m.reg k = v
  intro r1 r2 s0 HM HBD HRES
  clear hv
  have hwr : IntKind.i64.wrap (v + n) = v + n := IntWalk.i64_in _ (by omega)
  go_enter Tryz.func115, Tryz.ntmps115
  go_wp2_with fail
  rw [← HW.out]
  clear HW
  go_region_held3 (fun w' => w'.cell? ⟨b, 0, none⟩ = some (.slice (some ⟨g, 0, none⟩) m.regs.length c) ∧ w'.cell? ⟨w.heap.size, 2, none⟩ = some (.int .i64 k) ∧ w'.cell? ⟨w.heap.size, 3, none⟩ = some (.int .i64 n) ∧ w'.cell? ⟨g, k.toNat, none⟩ = some (.int .i64 v)) (go_keep)
    (first
      | (go_at_call 114; refine (Fold_same _ _ (by omega) (by omega)).mono ?_; rintro e w2 ⟨rfl, rfl⟩)
      | (go_at_call 146; refine (HM.out _ ((Below.refl _ W).drew)).mono ?_; rintro e w3 ⟨rfl, hb⟩; have hb' : Below W.heap.size W w3 := ((Below.refl _ W).drew).trans hb; have HB : Hid (Below W.heap.size W w3) := hb'; have t0 := (hb'.cell (p := ⟨b, 0, none⟩) zl).trans z0; have t2 := (hb'.cell (p := ⟨w.heap.size, 2, none⟩) xl).trans x2; have t3 := (hb'.cell (p := ⟨w.heap.size, 3, none⟩) xl).trans x3; have t4 := (hb'.cell (p := ⟨g, k.toNat, none⟩) gl).trans s0; clear hb hb'))
  have h3 := HP.out.1.below HB.out
  have HB3 : Hid (Below lo w w3) := HP.out.2.trans (HB.out.mono (Nat.le_trans HP.out.1.le (Nat.le_of_lt HP.out.1.lt)))
  have H3 : Hid (AtP w3 lo b (.slice (some ⟨g, 0, none⟩) m.regs.length c) (.slice (some ⟨g2, 0, none⟩) m.mem.length c2) ov m) := h3
  clear z0 z1 z2 z3 z4 z5 z6 z7 z8 z9 z10 z11 zf zl x0 x1 x2 x3 xf s0 t0 t2 t3 t4 hwr
  obtain ⟨⟨z0, z1, z2, z3, z4, z5, z6, z7, z8, z9, z10, z11⟩, zf, zl⟩ := twelve_cells h3.box
  have hx3 : w3.heap[w.heap.size]? = some (.cells #[.int .i64 op, .int .i64 a, .int .i64 k, .int .i64 n] 103 (0, 0)) := by rw [HB.out.block _ xl]; exact HX.out
  obtain ⟨x0, x1, x2, x3, xf, xl3⟩ := four_cells hx3
  clear hx3 HX HP HM xl gl HB
  by_cases hE : E = 0
  · obtain ⟨K0, K7⟩ := HBD.out hE
    have d0 : (E != 0) = false := by simp [hE]
    obtain ⟨q1, q2, -⟩ := h3.mem_cell HR.out.2 K0 K7
    obtain ⟨q3, q4, -⟩ := h3.reg_cell HR.out.1 a0 a7
    have Kb : K < (m.mem.length : Int) := by have := HR.out.2; omega
    have HE : Hid (E = 0) := hE
    obtain ⟨x, ex⟩ : ∃ x, x = m.mem.getD K.toNat 0 := ⟨_, rfl⟩
    rw [← ex] at q1
    have EX : Hid (x = m.mem.getD K.toNat 0) := ex
    clear h3 HBD HR q2 hE ex
    go_wp2_with fail
    go_still_tail 14, (by kernel_rfl)
    all_goals
      go_wp2_with fail
      first | go_end0 | refine bodyPost_ret (results_none rfl _ _ _) rfl ?_
      rw [show R = { m with regs := m.regs.set a.toNat x } by rw [HRES.out, if_pos HE.out, EX.out]; rfl]
      exact ⟨rfl, (H3.out.drew.putReg a.toNat x).1, (HB3.out.drew).trans (H3.out.drew.putReg a.toNat x).2⟩
  · have d0 : (E != 0) = true := by simpa using hE
    have HE : Hid (¬ E = 0) := hE
    clear h3 HBD HR hE
    go_wp2_with fail
    first | go_end0 | refine bodyPost_ret (results_none rfl _ _ _) rfl ?_
    rw [show R = { m with fin := E } by rw [HRES.out, if_neg HE.out]; rfl]
    exact ⟨rfl, (H3.out.setFin E).1, HB3.out.trans (H3.out.setFin E).2⟩

set_option maxHeartbeats 2000000 in
theorem store_any (lo b : Nat) (rv mv ov : Value) (m : Mach) (op a k n : Int) (w : World) (h : AtP w lo b rv mv ov m) (hlo : lo ≤ w.heap.size) (hm : MayP m) (ha : 0 ≤ a ∧ a ≤ 7) (hk : 0 ≤ k ∧ k ≤ 7) (hn : -1048576 ≤ n ∧ n ≤ 1048575) :
    Calls Tryz.prog 116 #[ptr b, .agg #[.int .i64 op, .int .i64 a, .int .i64 k, .int .i64 n]] w fun e w' => e = .returned (.int .i64 (m.wrote k n)) ∧ AtP w' lo b rv mv ov (m.stored a k n) ∧ Below lo w w' := by
  obtain ⟨r1, r2⟩ := wordB_iff.1 (reg_word hm hk)
  obtain ⟨f1, f2⟩ := meantE_fold m true (x := m.reg k + n) (by omega) (by omega)
  obtain ⟨g, c, rfl, hg, hreg, hfz⟩ := h.regs_at hm.regs
  obtain ⟨g2, c2, rfl, hg2, hmem, hfz2⟩ := h.mem_at hm.mem
  have hx : (w.alloc (.cells #[.int .i64 op, .int .i64 a, .int .i64 k, .int .i64 n] 103)).heap[w.heap.size]? = some (.cells #[.int .i64 op, .int .i64 a, .int .i64 k, .int .i64 n] 103 (0, 0)) := Go.Deep.blk_alloc_new _ _
  have hb0 := below_alloc w (.cells #[.int .i64 op, .int .i64 a, .int .i64 k, .int .i64 n] 103)
  obtain ⟨W, hW⟩ : ∃ W, W = w.alloc (.cells #[.int .i64 op, .int .i64 a, .int .i64 k, .int .i64 n] 103) := ⟨_, rfl⟩
  rw [← hW] at hx hb0
  have HW : Hid (W = _) := hW
  clear hW
  have h1 := h.below hb0
  have HX : Hid (W.heap[w.heap.size]? = some (.cells #[.int .i64 op, .int .i64 a, .int .i64 k, .int .i64 n] 103 (0, 0))) := hx
  have HP : Hid (AtP W lo b (.slice (some ⟨g, 0, none⟩) m.regs.length c) (.slice (some ⟨g2, 0, none⟩) m.mem.length c2) ov m ∧ Below lo w W) := ⟨h1, hb0.mono hlo⟩
  have HM : Hid (∀ W', Below W.heap.size W W' → Calls Tryz.prog 146 #[ptr b, .int .i64 (foldF (m.reg k + n)), .int .i64 48] W' fun e w' => e = .returned (.tuple #[.int .i64 (m.meantK (m.reg k + n) true), .int .i64 (m.meantE (m.reg k + n) true)]) ∧ Below W'.heap.size W' w') := fun W' hb => by
    have := meantC_any lo b _ _ ov m (foldF (m.reg k + n)) 48 true W' (h1.below hb) hm.mem hm.table (Or.inr ⟨rfl, rfl⟩)
    rwa [f1, f2] at this
  obtain ⟨⟨z0, z1, z2, z3, z4, z5, z6, z7, z8, z9, z10, z11⟩, zf, zl⟩ := twelve_cells h1.box
  obtain ⟨x0, x1, x2, x3, xf, xl⟩ := four_cells hx
  have s0 := (hb0.cell (p := ⟨g, k.toNat, none⟩) hg).trans (hreg k hk.1 hk.2)
  have gl : g < W.heap.size := Nat.lt_of_lt_of_le hg hb0.size
  have HR : Hid (m.regs.length = 8 ∧ m.mem.length = 256) := ⟨hm.regs, hm.mem⟩
  have kb : k < (m.regs.length : Int) := by have := hm.regs; omega
  have HBD : Hid (m.meantE (m.reg k + n) true = 0 → 0 ≤ m.meantK (m.reg k + n) true ∧ m.meantK (m.reg k + n) true ≤ 255) := fun e => meant_bd e
  have ab : a < (m.regs.length : Int) := by have := hm.regs; omega
  obtain ⟨k0, k7⟩ := hk
  obtain ⟨a0, a7⟩ := ha
  obtain ⟨n0, n7⟩ := hn
  obtain ⟨R, eR⟩ : ∃ R, R = m.stored a k n := ⟨_, rfl⟩
  have HRES : Hid (R = if m.meantE (m.reg k + n) true = 0 then { m with mem := m.mem.set (m.meantK (m.reg k + n) true).toNat (m.reg a) } else m.ends (m.meantE (m.reg k + n) true)) := eR
  obtain ⟨V, eV⟩ : ∃ V, V = m.wrote k n := ⟨_, rfl⟩
  have HWR : Hid (V = if m.meantE (m.reg k + n) true = 0 then m.meantK (m.reg k + n) true else -1) := eV
  rw [← eV]
  rw [← eR]
  clear eR eV hm f1 f2 h h1 hx hreg hmem hg2 hb0 hlo hfz hfz2
  revert HWR HRES HBD HM
  generalize m.meantE (m.reg k + n) true = E
  generalize m.meantK (m.reg k + n) true = K
  revert r1 r2 s0
  generalize hv : m.reg k = v
  intro r1 r2 s0 HM HBD HRES HWR
  clear hv
  have hwr : IntKind.i64.wrap (v + n) = v + n := IntWalk.i64_in _ (by omega)
  go_enter Tryz.func116, Tryz.ntmps116
  go_wp2_with fail
  rw [← HW.out]
  clear HW
  go_region_held3 (fun w' => w'.cell? ⟨b, 0, none⟩ = some (.slice (some ⟨g, 0, none⟩) m.regs.length c) ∧ w'.cell? ⟨w.heap.size, 2, none⟩ = some (.int .i64 k) ∧ w'.cell? ⟨w.heap.size, 3, none⟩ = some (.int .i64 n) ∧ w'.cell? ⟨g, k.toNat, none⟩ = some (.int .i64 v)) (go_keep)
    (first
      | (go_at_call 114; refine (Fold_same _ _ (by omega) (by omega)).mono ?_; rintro e w2 ⟨rfl, rfl⟩)
      | (go_at_call 146; refine (HM.out _ ((Below.refl _ W).drew)).mono ?_; rintro e w3 ⟨rfl, hb⟩; have hb' : Below W.heap.size W w3 := ((Below.refl _ W).drew).trans hb; have HB : Hid (Below W.heap.size W w3) := hb'; have t0 := (hb'.cell (p := ⟨b, 0, none⟩) zl).trans z0; have t2 := (hb'.cell (p := ⟨w.heap.size, 2, none⟩) xl).trans x2; have t3 := (hb'.cell (p := ⟨w.heap.size, 3, none⟩) xl).trans x3; have t4 := (hb'.cell (p := ⟨g, k.toNat, none⟩) gl).trans s0; clear hb hb'))
  have h3 := HP.out.1.below HB.out
  have HB3 : Hid (Below lo w w3) := HP.out.2.trans (HB.out.mono (Nat.le_trans HP.out.1.le (Nat.le_of_lt HP.out.1.lt)))
  have H3 : Hid (AtP w3 lo b (.slice (some ⟨g, 0, none⟩) m.regs.length c) (.slice (some ⟨g2, 0, none⟩) m.mem.length c2) ov m) := h3
  clear z0 z1 z2 z3 z4 z5 z6 z7 z8 z9 z10 z11 zf zl x0 x1 x2 x3 xf s0 t0 t2 t3 t4 hwr
  obtain ⟨⟨z0, z1, z2, z3, z4, z5, z6, z7, z8, z9, z10, z11⟩, zf, zl⟩ := twelve_cells h3.box
  have hx3 : w3.heap[w.heap.size]? = some (.cells #[.int .i64 op, .int .i64 a, .int .i64 k, .int .i64 n] 103 (0, 0)) := by rw [HB.out.block _ xl]; exact HX.out
  obtain ⟨x0, x1, x2, x3, xf, xl3⟩ := four_cells hx3
  clear hx3 HX HP HM xl gl HB
  by_cases hE : E = 0
  · obtain ⟨K0, K7⟩ := HBD.out hE
    have d0 : (E != 0) = false := by simp [hE]
    obtain ⟨q1, q2, -⟩ := h3.mem_cell HR.out.2 K0 K7
    obtain ⟨q3, q4, -⟩ := h3.reg_cell HR.out.1 a0 a7
    have Kb : K < (m.mem.length : Int) := by have := HR.out.2; omega
    have HE : Hid (E = 0) := hE
    obtain ⟨x, ex⟩ : ∃ x, x = m.reg a := ⟨_, rfl⟩
    rw [← ex] at q3
    have EX : Hid (x = m.reg a) := ex
    clear h3 HBD HR q4 hE ex
    go_wp2_with fail
    go_still_tail 14, (by kernel_rfl)
    all_goals
      go_wp2_with fail
      go_ret
      rw [show R = { m with mem := m.mem.set K.toNat x } by rw [HRES.out, if_pos HE.out, EX.out], show V = K by rw [HWR.out, if_pos HE.out]]
      exact ⟨rfl, (H3.out.drew.putMem K.toNat x).1, (HB3.out.drew).trans (H3.out.drew.putMem K.toNat x).2⟩
  · have d0 : (E != 0) = true := by simpa using hE
    have HE : Hid (¬ E = 0) := hE
    clear h3 HBD HR hE
    go_wp2_with fail
    go_ret
    rw [show R = { m with fin := E } by rw [HRES.out, if_neg HE.out]; rfl, show V = -1 by rw [HWR.out, if_neg HE.out]]
    exact ⟨rfl, (H3.out.setFin E).1, HB3.out.trans (H3.out.setFin E).2⟩

end Go.Proofs.YtecpblabaelopaaGreatDoor

/- Contracts of cpu.in and out. -/

namespace Go.Proofs.YtecpblabaelopaaGreatDoor
open Go.RowKit
set_option maxRecDepth 100000

def Mach.inned (m : Mach) (a n value : Int) : Mach := if n = 0 ∨ n = 1 then m.setReg a value else if n = 2 then m.setReg a m.ready else m.ends 3
def Mach.outed (m : Mach) (a n : Int) : Mach :=
  if n = 3 then (if m.out.length < 200 then { m with out := m.out ++ [m.reg a] } else m) else if n = 4 then m.asked (m.reg a) else m.ends 3

theorem isOfWorld_any (n : Int) (b : Bool) (w : World) (h : (n == 0 || n == 1) = b) : Calls Tryz.prog 125 #[.int .i64 n] w fun e w' => e = .returned (.bool b) ∧ w' = w := by
  cases c0 : n == 0 with
  | true =>
    have HB : Hid (true = b) := by show _ = _; rw [← h, c0]; rfl
    clear h
    go_enter Tryz.func125, Tryz.ntmps125
    go_wp2_with fail
    go_ret
    exact ⟨ret_bool HB.out, rfl⟩
  | false =>
    have HB : Hid ((n == 1) = b) := by show _ = _; rw [← h, c0]; rfl
    clear h
    go_enter Tryz.func125, Tryz.ntmps125
    go_wp2_with fail
    go_ret
    exact ⟨ret_bool HB.out, rfl⟩

set_option maxHeartbeats 2000000 in
theorem in_any (lo b : Nat) (rv mv ov : Value) (m : Mach) (op a k n value : Int) (w : World) (h : AtP w lo b rv mv ov m) (hlo : lo ≤ w.heap.size) (hm : MayP m) (ha : 0 ≤ a ∧ a ≤ 7) :
    Calls Tryz.prog 118 #[ptr b, .agg #[.int .i64 op, .int .i64 a, .int .i64 k, .int .i64 n], .int .i64 value] w fun e w' => e = .returned (.tuple #[]) ∧ AtP w' lo b rv mv ov (m.inned a n value) ∧ Below lo w w' := by
  obtain ⟨g, c, rfl, hg, hreg, hfz⟩ := h.regs_at hm.regs
  have hx : (w.alloc (.cells #[.int .i64 op, .int .i64 a, .int .i64 k, .int .i64 n] 103)).heap[w.heap.size]? = some (.cells #[.int .i64 op, .int .i64 a, .int .i64 k, .int .i64 n] 103 (0, 0)) := Go.Deep.blk_alloc_new _ _
  have hb0 := below_alloc w (.cells #[.int .i64 op, .int .i64 a, .int .i64 k, .int .i64 n] 103)
  obtain ⟨W, hW⟩ : ∃ W, W = w.alloc (.cells #[.int .i64 op, .int .i64 a, .int .i64 k, .int .i64 n] 103) := ⟨_, rfl⟩
  rw [← hW] at hx hb0
  have HW : Hid (W = _) := hW
  clear hW
  have h1 := h.below hb0
  have HP : Hid (AtP W lo b (.slice (some ⟨g, 0, none⟩) m.regs.length c) mv ov m ∧ Below lo w W ∧ lo ≤ W.heap.size) := ⟨h1, hb0.mono hlo, Nat.le_trans hlo hb0.size⟩
  obtain ⟨⟨z0, z1, z2, z3, z4, z5, z6, z7, z8, z9, z10, z11⟩, zf, zl⟩ := twelve_cells h1.box
  obtain ⟨x0, x1, x2, x3, xf, xl⟩ := four_cells hx
  obtain ⟨q3, q4, q5⟩ := h1.reg_cell hm.regs ha.1 ha.2
  have ab : a < (m.regs.length : Int) := by have := hm.regs; omega
  obtain ⟨a0, a7⟩ := ha
  have HH : Hid (AtP w lo b (.slice (some ⟨g, 0, none⟩) m.regs.length c) mv ov m) := h
  have HLO : Hid (lo ≤ w.heap.size) := hlo
  clear h h1 hx hb0 hreg hm hg hfz hlo
  obtain ⟨R, eR⟩ : ∃ R, R = m.inned a n value := ⟨_, rfl⟩
  rw [← eR]
  cases c0 : n == 0 with
  | true =>
    have ci : (n == 0 || n == 1) = true := by simp [c0]
    have HR : Hid (R = { m with regs := m.regs.set a.toNat value }) := by show _ = _; rw [eR]; simp at c0; simp [Mach.inned, c0, Mach.setReg]
    clear eR
    go_enter Tryz.func118, Tryz.ntmps118
    go_wp2_with fail
    rw [← HW.out]
    go_wp2_with (go_at_call 125; refine (isOfWorld_any _ _ _ ci).mono ?_; rintro e w' ⟨rfl, hw'⟩; rw [hw']; clear hw' w')
    go_still_tail 8, (by kernel_rfl)
    go_wp2_with fail
    first | go_end0 | refine bodyPost_ret (results_none rfl _ _ _) rfl ?_
    rw [HR.out]
    exact ⟨rfl, (HP.out.1.drew.putReg a.toNat value).1, (HP.out.2.1.drew).trans (HP.out.1.drew.putReg a.toNat value).2⟩
  | false =>
  cases c1 : n == 1 with
  | true =>
    have ci : (n == 0 || n == 1) = true := by simp [c1]
    have HR : Hid (R = { m with regs := m.regs.set a.toNat value }) := by show _ = _; rw [eR]; simp at c1; simp [Mach.inned, c1, Mach.setReg]
    clear eR
    go_enter Tryz.func118, Tryz.ntmps118
    go_wp2_with fail
    rw [← HW.out]
    go_wp2_with (go_at_call 125; refine (isOfWorld_any _ _ _ ci).mono ?_; rintro e w' ⟨rfl, hw'⟩; rw [hw']; clear hw' w')
    go_still_tail 8, (by kernel_rfl)
    go_wp2_with fail
    first | go_end0 | refine bodyPost_ret (results_none rfl _ _ _) rfl ?_
    rw [HR.out]
    exact ⟨rfl, (HP.out.1.drew.putReg a.toNat value).1, (HP.out.2.1.drew).trans (HP.out.1.drew.putReg a.toNat value).2⟩
  | false =>
  have ci : (n == 0 || n == 1) = false := by simp [c0, c1]
  cases c2 : n == 2 with
  | true =>
    have HR : Hid (R = { m with regs := m.regs.set a.toNat m.ready }) := by show _ = _; rw [eR]; simp at c2; simp [Mach.inned, c2, Mach.setReg]
    clear eR
    go_enter Tryz.func118, Tryz.ntmps118
    go_wp2_with fail
    rw [← HW.out]
    go_wp2_with (go_at_call 125; refine (isOfWorld_any _ _ _ ci).mono ?_; rintro e w' ⟨rfl, hw'⟩; rw [hw']; clear hw' w')
    go_still_tail 11, (by kernel_rfl)
    go_wp2_with fail
    first | go_end0 | refine bodyPost_ret (results_none rfl _ _ _) rfl ?_
    rw [HR.out]
    exact ⟨rfl, (HP.out.1.drew.putReg a.toNat m.ready).1, (HP.out.2.1.drew).trans (HP.out.1.drew.putReg a.toNat m.ready).2⟩
  | false =>
    have HR : Hid (R = { m with fin := 3 }) := by show _ = _; rw [eR]; simp at c0 c1 c2; simp [Mach.inned, c0, c1, c2, Mach.ends]
    clear eR
    go_enter Tryz.func118, Tryz.ntmps118
    go_wp2_with fail
    rw [← HW.out]
    go_wp2_with (go_at_call 125; refine (isOfWorld_any _ _ _ ci).mono ?_; rintro e w' ⟨rfl, hw'⟩; rw [hw']; clear hw' w')
    first | go_end0 | refine bodyPost_ret (results_none rfl _ _ _) rfl ?_
    rw [HR.out]
    exact ⟨rfl, (HP.out.1.setFin 3).1, HP.out.2.1.trans (HP.out.1.setFin 3).2⟩

theorem OwnI.grown {w w1 : World} {lo : Nat} {v u : Value} {l : List Int} (h : OwnI w lo v l) (hg : w.grownBy w1 u.ownBlock) (hap : Apart v u) : OwnI w1 lo v l := by
  obtain ⟨e1, e2⟩ := h
  refine ⟨e1, ?_⟩
  rcases e2 with e2 | ⟨g', cap, cu, hv, hlo, hh, r⟩
  · exact Or.inl e2
  · exact Or.inr ⟨g', cap, cu, hv, hlo, by rw [hg.block g' (lt_of_block hh) (fun e => hap g' (by rw [hv]; rfl) e.symm)]; exact hh, r⟩

theorem AtP.appended {w w1 : World} {lo b : Nat} {rv mv ov ov' : Value} {m : Mach} {x : Int} {o : Obj} (h : AtP w lo b rv mv ov m) (hlo : lo ≤ w.heap.size) (hg : (w.alloc o).drew.grownBy w1 ov.ownBlock) (ho : OwnI w1 lo ov' (m.out ++ [x]))
    (hat : ov.ownBlock = ov'.ownBlock ∨ ∀ g, ov'.ownBlock = some g → w.heap.size ≤ g) :
    w1.heap[b]? = some (.cells (m.cells rv mv ov) 37 (0, 0)) ∧ AtP (w1.setCell ⟨b, 9, none⟩ ov') lo b rv mv ov' { m with out := m.out ++ [x] } ∧ Below lo w (w1.setCell ⟨b, 9, none⟩ ov') := by
  have hA : Below w.heap.size w (w.alloc o).drew := (below_alloc w o).drew
  have hP := h.below hA
  have hne : ov.ownBlock ≠ some b := own_ne hP.own.out hP.box (by decide)
  have hb1 : w1.heap[b]? = some (.cells (m.cells rv mv ov) 37 (0, 0)) := by rw [hg.block b hP.lt (fun e => hne e.symm)]; exact hP.box
  have hB : Below lo w w1 := (hA.mono hlo).grown hg (by have := hA.size; omega) (fun k hk => (World.ownsRow.lt hP.own.out k hk).1)
  have ap : ∀ {v : Value} {l : List Int}, OwnI w lo v l → Apart v ov → Apart v ov' := fun {v l} hv ha g hg' e => by
    rcases hat with hat | hat
    · exact ha g hg' (by rw [hat]; exact e)
    · have := (World.ownsRow.lt hv g hg').2
      have := hat g e
      omega
  refine ⟨hb1, ⟨⟨by rw [box_set hb1]; rfl, ?_, h.le⟩, hB.setCell (by simpa using h.le) _⟩⟩
  have hM : OwnM w1 lo rv mv ov' { m with out := m.out ++ [x] } := ⟨hP.own.regs.grown hg h.own.ro, hP.own.mem.grown hg h.own.mo, ho, h.own.rm, ap h.own.regs h.own.ro, ap h.own.mem h.own.mo⟩
  exact hM.box ⟨_, hb1⟩ 9 ov'

set_option maxRecDepth 20000 in
set_option maxHeartbeats 2000000 in
theorem out_any (lo b : Nat) (rv mv ov : Value) (m : Mach) (op a k n : Int) (w : World) (h : AtP w lo b rv mv ov m) (hlo : lo ≤ w.heap.size) (hm : MayP m) (ha : 0 ≤ a ∧ a ≤ 7) :
    Calls Tryz.prog 119 #[ptr b, .agg #[.int .i64 op, .int .i64 a, .int .i64 k, .int .i64 n]] w fun e w' => e = .returned (.tuple #[]) ∧ (∃ ov', AtP w' lo b rv mv ov' (m.outed a n)) ∧ Below lo w w' := by
  obtain ⟨C, cc, rfl⟩ := h.own.out.shape
  obtain ⟨g, c, rfl, hg, hreg, hfz⟩ := h.regs_at hm.regs
  have hx : (w.alloc (.cells #[.int .i64 op, .int .i64 a, .int .i64 k, .int .i64 n] 103)).heap[w.heap.size]? = some (.cells #[.int .i64 op, .int .i64 a, .int .i64 k, .int .i64 n] 103 (0, 0)) := Go.Deep.blk_alloc_new _ _
  have hb0 := below_alloc w (.cells #[.int .i64 op, .int .i64 a, .int .i64 k, .int .i64 n] 103)
  obtain ⟨W, hW⟩ : ∃ W, W = w.alloc (.cells #[.int .i64 op, .int .i64 a, .int .i64 k, .int .i64 n] 103) := ⟨_, rfl⟩
  rw [← hW] at hx hb0
  have HW : Hid (W = _) := hW
  clear hW
  have h1 := h.below hb0
  have HP : Hid (AtP W lo b (.slice (some ⟨g, 0, none⟩) m.regs.length c) mv (.slice C m.out.length cc) m ∧ Below lo w W ∧ lo ≤ W.heap.size) := ⟨h1, hb0.mono hlo, Nat.le_trans hlo hb0.size⟩
  obtain ⟨⟨z0, z1, z2, z3, z4, z5, z6, z7, z8, z9, z10, z11⟩, zf, zl⟩ := twelve_cells h1.box
  obtain ⟨x0, x1, x2, x3, xf, xl⟩ := four_cells hx
  obtain ⟨q3, q4, q5⟩ := h1.reg_cell hm.regs ha.1 ha.2
  have ab : a < (m.regs.length : Int) := by have := hm.regs; omega
  obtain ⟨a0, a7⟩ := ha
  have HH : Hid (AtP w lo b (.slice (some ⟨g, 0, none⟩) m.regs.length c) mv (.slice C m.out.length cc) m) := h
  have HLO : Hid (lo ≤ w.heap.size) := hlo
  have ho200 := hm.out
  have HH : Hid (AtP w lo b (.slice (some ⟨g, 0, none⟩) m.regs.length c) mv (.slice C m.out.length cc) m) := h
  have HLO : Hid (lo ≤ w.heap.size) := hlo
  obtain ⟨⟨y0, y1, y2, y3, y4, y5, y6, y7, y8, y9, y10, y11⟩, yf, yl⟩ := twelve_cells h.box
  have hne : ¬ b = w.heap.size := by omega
  clear h h1 hx hb0 hreg hm hg hfz hlo
  obtain ⟨R, eR⟩ : ∃ R, R = m.outed a n := ⟨_, rfl⟩
  rw [← eR]
  obtain ⟨x, ex⟩ : ∃ x, x = m.reg a := ⟨_, rfl⟩
  rw [← ex] at q3
  cases c0 : n == 3 with
  | true =>
    by_cases hl : m.out.length < 200
    · have HR : Hid (R = { m with out := m.out ++ [x] }) := by show _ = _; rw [eR, ex]; simp at c0; simp [Mach.outed, c0, hl]
      have d0 : (m.out.length : Int) < 200 := by omega
      have HO : Hid (W.ownsRow lo 3 1 (.slice C m.out.length cc) m.out.length (m.out.map (Value.int .i64))) := HP.out.1.own.out
      obtain ⟨i0, hi0, hz00, hz01, hz02⟩ := info_parts infoInt
      clear eR ex
      go_enter Tryz.func119, Tryz.ntmps119
      go_wp2_with fail
      rw [← HW.out]
      clear y0 y1 y2 y3 y4 y5 y6 y7 y8 y9 y10 y11 yf hne
      go_region_law ((refine step_append_lies _ (by rfl) _ _ _ (by rfl) lo 3 i0 (.int .i64 0) 1 8 Tryz.underlying24 hi0 hz00 hz01 hz02 rfl (by decide) (.slice C m.out.length cc) m.out.length (m.out.map (Value.int .i64)) (by rfl) ((HO.out.alloc _).drew) ⟨W.heap.size, 0, none⟩ 1 1 [.int .i64 x] (by rfl) (by rfl) (by exact cell_one_new _ _ _) (by intro u hu; simp at hu; subst hu; rfl) (by decide) (by unfold maxLen; omega) (by omega) (by simp; have := HP.out.2.2; omega) (W.heap.size + 1) (by simp) ?_; intro g4 cap w4 hown4 hgrow hat hlt4; obtain ⟨hb4, hA4, hB4⟩ := HP.out.1.appended HP.out.2.2 hgrow (OwnI.snoc hown4 rfl) (by rcases hat with hat | hat; exact Or.inl hat; exact Or.inr (fun g' e => by simp [Value.ownBlock] at e; omega)); have HA4 : Hid (AtP _ lo b _ _ _ _ ∧ Below lo W _) := ⟨hA4, hB4⟩; obtain ⟨⟨y0, y1, y2, y3, y4, y5, y6, y7, y8, y9, y10, y11⟩, yf, yl⟩ := twelve_cells hb4; clear hA4 hB4 hb4 hown4 hgrow hat))
      all_goals
        go_wp2_with fail
        first | go_end0 | refine bodyPost_ret (results_none rfl _ _ _) rfl ?_
        rw [HR.out]
        exact ⟨rfl, ⟨_, HA4.out.1⟩, HP.out.2.1.trans HA4.out.2⟩
    · have HR : Hid (R = m) := by show _ = _; rw [eR]; simp at c0; simp [Mach.outed, c0, hl]
      have d0 : ¬ (m.out.length : Int) < 200 := by omega
      clear eR ex
      go_enter Tryz.func119, Tryz.ntmps119
      go_wp2_with fail
      first | go_end0 | refine bodyPost_ret (results_none rfl _ _ _) rfl ?_
      rw [HR.out]
      exact ⟨rfl, ⟨_, HH.out.below (below_alloc _ _)⟩, (below_alloc _ _).mono HLO.out⟩
  | false =>
  cases c1 : n == 4 with
  | true =>
    have HR : Hid (R = m.asked x) := by show _ = _; rw [eR, ex]; simp at c0 c1; simp [Mach.outed, c1]
    clear eR ex
    go_enter Tryz.func119, Tryz.ntmps119
    go_wp2_with fail
    rw [← HW.out]
    clear y0 y1 y2 y3 y4 y5 y6 y7 y8 y9 y10 y11 yf hne
    go_still_tail 9, (by kernel_rfl)
    go_wp2_with fail
    refine (askBlock_any lo b _ _ _ m x _ HP.out.1.drew HP.out.2.2).mono ?_
    rintro e w5 ⟨rfl, hA, hB⟩
    have HA : Hid (AtP w5 lo b _ _ _ _ ∧ Below lo W w5) := ⟨hA, ((Below.refl _ W).drew).trans hB⟩
    clear hA hB
    go_wp2_with fail
    first | go_end0 | refine bodyPost_ret (results_none rfl _ _ _) rfl ?_
    rw [HR.out]
    exact ⟨rfl, ⟨_, HA.out.1⟩, HP.out.2.1.trans HA.out.2⟩
  | false =>
    have HR : Hid (R = { m with fin := 3 }) := by show _ = _; rw [eR]; simp at c0 c1; simp [Mach.outed, c0, c1, Mach.ends]
    clear eR z0 z1 z2 z3 z4 z5 z6 z7 z8 z9 z10 z11 zf zl x0 x1 x2 x3 xf xl q3 q4 q5
    go_enter Tryz.func119, Tryz.ntmps119
    go_wp2_with fail
    first | go_end0 | refine bodyPost_ret (results_none rfl _ _ _) rfl ?_
    rw [HR.out]
    exact ⟨rfl, ⟨_, (HH.out.setFin 3).1.below (below_alloc _ _)⟩, (HH.out.setFin 3).2.trans ((below_alloc _ _).mono (by simpa using HLO.out))⟩

end Go.Proofs.YtecpblabaelopaaGreatDoor
