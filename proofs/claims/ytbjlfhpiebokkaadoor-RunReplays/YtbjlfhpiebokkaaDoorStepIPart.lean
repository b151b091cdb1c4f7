/- Contracts of cpu.askBlock, letIn. -/
import Derived.Test.YtbjlfhpiebokkaaDoorToldPart
import Derived.Test.YtbjlfhpiebokkaaDoorBasePart
import Derived.Test.YtbjlfhpiebokkaaDoorStepMPart
import Derived.StillTailTactics
namespace Go.Proofs.YtbjlfhpiebokkaaDoor
open Go.RowKit

set_option maxHeartbeats 400000 in
theorem askBlock_any (lo b : Nat) (rv mv ov : Value) (m : Mach) (x : Int) (w : World) (h : AtP w lo b rv mv ov m) (hlo : lo ≤ w.heap.size) :
    Calls Tryd.prog 113 #[ptr b, .int .i64 x] w fun e w' => e = .returned (.tuple #[]) ∧ AtP w' lo b rv mv ov (m.asked x) ∧ Below lo w w' := by
  have H : Hid (AtP w lo b rv mv ov m) := h
  cases c : inB x 0 15 with
  | false =>
    have HT : Hid (m.asked x = { m with fin := 3 }) := by show _ = _; simp [Mach.asked, c]
    rw [HT.out]
    clear h HT
    go_enter Tryd.func113, Tryd.ntmps113
    go_wp2_with fail
    refine (outside_any _ _ _).mono ?_
    rintro e w1 ⟨p, q, rfl, hc, hb⟩
    have HC : Hid (CloAt w1 p q 0 15) := hc
    have h1 := H.out.below hb
    have HB : Hid (Below lo w w1) := hb.mono hlo
    obtain ⟨⟨z0, z1, z2, z3, z4, z5, z6, z7, z8, z9, z10, z11⟩, zf, zl⟩ := twelve_cells h1.box
    have H1 : Hid (AtP w1 lo b rv mv ov m) := h1
    clear hc hb h1
    go_wp2_with (go_at_call 78; refine (clo_any _ 0 15 _ _ _ HC.out).mono ?_; rw [c]; rintro e w1 ⟨rfl, rfl⟩)
    first | go_end0 | refine bodyPost_ret (results_none rfl _ _ _) rfl ?_
    exact ⟨rfl, (H1.out.setFin 3).1, HB.out.trans ((H1.out.setFin 3).2)⟩
  | true =>
  cases c2 : m.want == -1 with
  | false =>
    have HT : Hid (m.asked x = m) := by show _ = _; simp only [Mach.asked, c, c2]; rfl
    rw [HT.out]
    clear h HT
    go_enter Tryd.func113, Tryd.ntmps113
    go_wp2_with fail
    refine (outside_any _ _ _).mono ?_
    rintro e w1 ⟨p, q, rfl, hc, hb⟩
    have HC : Hid (CloAt w1 p q 0 15) := hc
    have h1 := H.out.below hb
    have HB : Hid (Below lo w w1) := hb.mono hlo
    obtain ⟨⟨z0, z1, z2, z3, z4, z5, z6, z7, z8, z9, z10, z11⟩, zf, zl⟩ := twelve_cells h1.box
    have H1 : Hid (AtP w1 lo b rv mv ov m) := h1
    clear hc hb h1
    go_wp2_with (go_at_call 78; refine (clo_any _ 0 15 _ _ _ HC.out).mono ?_; rw [c]; rintro e w1 ⟨rfl, rfl⟩)
    first | go_end0 | refine bodyPost_ret (results_none rfl _ _ _) rfl ?_
    exact ⟨rfl, H1.out, HB.out⟩
  | true =>
    have HT : Hid (m.asked x = { m with want := x, ready := 0 }) := by show _ = _; simp only [Mach.asked, c, c2]; rfl
    rw [HT.out]
    clear h HT
    go_enter Tryd.func113, Tryd.ntmps113
    go_wp2_with fail
    refine (outside_any _ _ _).mono ?_
    rintro e w1 ⟨p, q, rfl, hc, hb⟩
    have HC : Hid (CloAt w1 p q 0 15) := hc
    have h1 := H.out.below hb
    have HB : Hid (Below lo w w1) := hb.mono hlo
    obtain ⟨⟨z0, z1, z2, z3, z4, z5, z6, z7, z8, z9, z10, z11⟩, zf, zl⟩ := twelve_cells h1.box
    have H1 : Hid (AtP w1 lo b rv mv ov m) := h1
    clear hc hb h1
    go_wp2_with (go_at_call 78; refine (clo_any _ 0 15 _ _ _ HC.out).mono ?_; rw [c]; rintro e w1 ⟨rfl, rfl⟩)
    first | go_end0 | refine bodyPost_ret (results_none rfl _ _ _) rfl ?_
    exact ⟨rfl, ((H1.out.setWant x).1.setReady 0).1, (HB.out.trans (H1.out.setWant x).2).trans ((H1.out.setWant x).1.setReady 0).2⟩

set_option maxHeartbeats 400000 in
theorem letIn_any (lo b : Nat) (rv mv ov : Value) (m : Mach) (w : World) (h : AtP w lo b rv mv ov m) :
    Calls Tryd.prog 83 #[ptr b] w fun e w' => e = .returned (.tuple #[]) ∧ AtP w' lo b rv mv ov m.enter ∧ Below lo w w' := by
  have H : Hid (AtP w lo b rv mv ov m) := h
  obtain ⟨⟨z0, z1, z2, z3, z4, z5, z6, z7, z8, z9, z10, z11⟩, zf, zl⟩ := twelve_cells h.box
  cases c : m.wait with
  | false =>
    have HT : Hid (m.enter = m) := by show _ = _; simp [Mach.enter, c]
    rw [HT.out]
    rw [c] at z4
    clear h HT
    go_enter Tryd.func83, Tryd.ntmps83
    go_wp2_with fail
    first | go_end0 | refine bodyPost_ret (results_none rfl _ _ _) rfl ?_
    exact ⟨rfl, H.out, Below.refl _ _⟩
  | true =>
  cases c2 : m.ints with
  | false =>
    have HT : Hid (m.enter = m) := by show _ = _; simp [Mach.enter, c2]
    rw [HT.out]
    rw [c] at z4
    rw [c2] at z3
    clear h HT
    go_enter Tryd.func83, Tryd.ntmps83
    go_wp2_with fail
    first | go_end0 | refine bodyPost_ret (results_none rfl _ _ _) rfl ?_
    exact ⟨rfl, H.out, Below.refl _ _⟩
  | true =>
    have HT : Hid (m.enter = { m with wait := false, ints := false, back := m.pc, pc := 8 }) := by show _ = _; simp [Mach.enter, c, c2]
    rw [HT.out]
    rw [c] at z4
    rw [c2] at z3
    have a1 := h.setWait false
    have a2 := a1.1.setInts false
    have a3 := a2.1.setBack m.pc
    have a4 := a3.1.setPc 8
    have HA : Hid (AtP _ lo b rv mv ov _ ∧ Below lo w _) := ⟨a4.1, ((a1.2.trans a2.2).trans a3.2).trans a4.2⟩
    clear h HT a1 a2 a3 a4
    go_enter Tryd.func83, Tryd.ntmps83
    go_wp2_with fail
    first | go_end0 | refine bodyPost_ret (results_none rfl _ _ _) rfl ?_
    exact ⟨rfl, HA.out⟩

end Go.Proofs.YtbjlfhpiebokkaaDoor

/- Contract of cpu.Fold. -/

namespace Go.Proofs.YtbjlfhpiebokkaaDoor
open Go.RowKit
set_option linter.unusedVariables false

set_option maxHeartbeats 400000 in
theorem Fold_same (n : Int) (w : World) (h1 : -9223372036854775808 ≤ n) (h2 : n ≤ 9223372036854775807) :
    Calls Tryd.prog 85 #[.int .i64 n] w fun e w' => e = .returned (.int .i64 (foldF n)) ∧ w' = w := by
  have HM := tmod_sign n 2199023255553
  have b1 : -2199023255553 ≤ n.tmod 2199023255553 := by omega
  have b2 : n.tmod 2199023255553 ≤ 2199023255553 := by omega
  by_cases c1 : 1099511627776 < n.tmod 2199023255553
  · have HF : Hid (n.tmod 2199023255553 - 2199023255553 = foldF n) := by show _ = _; unfold foldF; omega
    clear HM
    go_enter Tryd.func85, Tryd.ntmps85
    go_wp2
    go_ret
    exact ⟨ret_int HF.out, rfl⟩
  · by_cases c2 : n.tmod 2199023255553 < -1099511627776
    · have HF : Hid (n.tmod 2199023255553 + 2199023255553 = foldF n) := by show _ = _; unfold foldF; omega
      clear HM
      go_enter Tryd.func85, Tryd.ntmps85
      go_wp2
      go_ret
      exact ⟨ret_int HF.out, rfl⟩
    · have HF : Hid (n.tmod 2199023255553 = foldF n) := by show _ = _; unfold foldF; omega
      clear HM
      go_enter Tryd.func85, Tryd.ntmps85
      go_wp2
      go_ret
      exact ⟨ret_int HF.out, rfl⟩

theorem Fold_any (n : Int) (w : World) (h1 : -9223372036854775808 ≤ n) (h2 : n ≤ 9223372036854775807) :
    Calls Tryd.prog 85 #[.int .i64 n] w fun e w' => e = .returned (.int .i64 (foldF n)) ∧ Below w.heap.size w w' :=
  (Fold_same n w h1 h2).mono fun _ _ ⟨he, hw⟩ => ⟨he, by rw [hw]; exact Below.refl _ _⟩

end Go.Proofs.YtbjlfhpiebokkaaDoor

/- Contracts of cpu.load and store. -/

namespace Go.Proofs.YtbjlfhpiebokkaaDoor
open Go.RowKit
set_option maxRecDepth 100000

theorem meantE_fold (m : Mach) (wr : Bool) {x : Int} (h1 : -1099512676352 ≤ x) (h2 : x ≤ 1099512676351) : m.meantE (foldF x) wr = m.meantE x wr ∧ m.meantK (foldF x) wr = m.meantK x wr := by
  by_cases h : -1099511627776 ≤ x ∧ x ≤ 1099511627776
  · rw [foldF_id h.1 h.2]; exact ⟨rfl, rfl⟩
  · have e1 : inB x 0 255 = false := inB_no (by omega)
    have e2 : inB (foldF x) 0 255 = false := inB_no (by unfold foldF; omega)
    have a1 : m.meantE x wr = 3 := by simp [Mach.meantE, e1]
    have a2 : m.meantE (foldF x) wr = 3 := by simp [Mach.meantE, e2]
    exact ⟨by rw [a1, a2], by simp [Mach.meantK, a1, a2]⟩

def Mach.loaded (m : Mach) (a k n : Int) : Mach := if m.meantE (m.reg k + n) false = 0 then m.setReg a (m.mem.getD (m.meantK (m.reg k + n) false).toNat 0) else m.ends (m.meantE (m.reg k + n) false)
def Mach.stored (m : Mach) (a k n : Int) : Mach := if m.meantE (m.reg k + n) true = 0 then { m with mem := m.mem.set (m.meantK (m.reg k + n) true).toNat (m.reg a) } else m.ends (m.meantE (m.reg k + n) true)
def Mach.wrote (m : Mach) (k n : Int) : Int := if m.meantE (m.reg k + n) true = 0 then m.meantK (m.reg k + n) true else -1

theorem AtP.regs_at {w : World} {lo b : Nat} {rv mv ov : Value} {m : Mach} (h : AtP w lo b rv mv ov m) (hr : m.regs.length = 8) : ∃ g c, rv = .slice (some ⟨g, 0, none⟩) m.regs.length c ∧ g < w.heap.size ∧ (∀ k : Int, 0 ≤ k → k ≤ 7 → w.cell? ⟨g, k.toNat, none⟩ = some (.int .i64 (m.reg k))) ∧ ∀ i, w.frozen? ⟨g, i, none⟩ = false := by
  obtain ⟨g, c, rfl, h1, h2, h3, h4⟩ := h.own.regs.opened (by omega)
  exact ⟨g, c, rfl, h2, fun k k0 k7 => h3 _ (by omega), h4⟩
theorem AtP.mem_at {w : World} {lo b : Nat} {rv mv ov : Value} {m : Mach} (h : AtP w lo b rv mv ov m) (hr : m.mem.length = 256) : ∃ g c, mv = .slice (some ⟨g, 0, none⟩) m.mem.length c ∧ g < w.heap.size ∧ (∀ k : Int, 0 ≤ k → k ≤ 255 → w.cell? ⟨g, k.toNat, none⟩ = some (.int .i64 (m.mem.getD k.toNat 0))) ∧ ∀ i, w.frozen? ⟨g, i, none⟩ = false := by
  obtain ⟨g, c, rfl, h1, h2, h3, h4⟩ := h.own.mem.opened (by omega)
  exact ⟨g, c, rfl, h2, fun k k0 k7 => h3 _ (by omega), h4⟩

theorem AtP.reg_cell {w : World} {lo b g l c : Nat} {mv ov : Value} {m : Mach} (h : AtP w lo b (.slice (some ⟨g, 0, none⟩) l c) mv ov m) (hr : m.regs.length = 8) {k : Int} (k0 : 0 ≤ k) (k7 : k ≤ 7) : w.cell? ⟨g, k.toNat, none⟩ = some (.int .i64 (m.reg k)) ∧ (∀ i, w.frozen? ⟨g, i, none⟩ = false) ∧ g < w.heap.size := by
  obtain ⟨g', c', e, h1, h2, h3⟩ := h.regs_at hr
  simp only [Value.slice.injEq, Option.some.injEq, Addr.mk.injEq] at e
  obtain ⟨⟨rfl, -, -⟩, -, -⟩ := e
  exact ⟨h2 k k0 k7, h3, h1⟩
theorem AtP.mem_cell {w : World} {lo b g l c : Nat} {rv ov : Value} {m : Mach} (h : AtP w lo b rv (.slice (some ⟨g, 0, none⟩) l c) ov m) (hr : m.mem.length = 256) {k : Int} (k0 : 0 ≤ k) (k7 : k ≤ 255) : w.cell? ⟨g, k.toNat, none⟩ = some (.int .i64 (m.mem.getD k.toNat 0)) ∧ (∀ i, w.frozen? ⟨g, i, none⟩ = false) ∧ g < w.heap.size := by
  obtain ⟨g', c', e, h1, h2, h3⟩ := h.mem_at hr
  simp only [Value.slice.injEq, Option.some.injEq, Addr.mk.injEq] at e
  obtain ⟨⟨rfl, -, -⟩, -, -⟩ := e
  exact ⟨h2 k k0 k7, h3, h1⟩

set_option maxHeartbeats 2000000 in
theorem load_any (lo b : Nat) (rv mv ov : Value) (m : Mach) (op a k n : Int) (w : World) (h : AtP w lo b rv mv ov m) (hlo : lo ≤ w.heap.size) (hm : MayP m) (ha : 0 ≤ a ∧ a ≤ 7) (hk : 0 ≤ k ∧ k ≤ 7) (hn : -1048576 ≤ n ∧ n ≤ 1048575) :
    Calls Tryd.prog 86 #[ptr b, .agg #[.int .i64 op, .int .i64 a, .int .i64 k, .int .i64 n]] w fun e w' => e = .returned (.tuple #[]) ∧ AtP w' lo b rv mv ov (m.loaded a k n) ∧ Below lo w w' := by
  obtain ⟨r1, r2⟩ := wordB_iff.1 (reg_word hm hk)
  obtain ⟨f1, f2⟩ := meantE_fold m false (x := m.reg k + n) (by omega) (by omega)
  obtain ⟨g, c, rfl, hg, hreg, hfz⟩ := h.regs_at hm.regs
  obtain ⟨g2, c2, rfl, hg2, hmem, hfz2⟩ := h.mem_at hm.mem
  have hx : (w.alloc (.cells #[.int .i64 op, .int .i64 a, .int .i64 k, .int .i64 n] 83)).heap[w.heap.size]? = some (.cells #[.int .i64 op, .int .i64 a, .int .i64 k, .int .i64 n] 83 (0, 0)) := Go.Deep.blk_alloc_new _ _
  have hb0 := below_alloc w (.cells #[.int .i64 op, .int .i64 a, .int .i64 k, .int .i64 n] 83)
  obtain ⟨W, hW⟩ : ∃ W, W = w.alloc (.cells #[.int .i64 op, .int .i64 a, .int .i64 k, .int .i64 n] 83) := ⟨_, rfl⟩
  rw [← hW] at hx hb0
  have HW : Hid (W = _) := hW
  clear hW
  have h1 := h.below hb0
  have HX : Hid (W.heap[w.heap.size]? = some (.cells #[.int .i64 op, .int .i64 a, .int .i64 k, .int .i64 n] 83 (0, 0))) := hx
  have HP : Hid (AtP W lo b (.slice (some ⟨g, 0, none⟩) m.regs.length c) (.slice (some ⟨g2, 0, none⟩) m.mem.length c2) ov m ∧ Below lo w W) := ⟨h1, hb0.mono hlo⟩
  have HM : Hid (∀ W', Below W.heap.size W W' → Calls Tryd.prog 111 #[ptr b, .int .i64 (foldF (m.reg k + n)), .int .i64 32] W' fun e w' => e = .returned (.tuple #[.int .i64 (m.meantK (m.reg k + n) false), .int .i64 (m.meantE (m.reg k + n) false)]) ∧ Below W'.heap.size W' w') := fun W' hb => by
    have := meantC_any lo b _ _ ov m (foldF (m.reg k + n)) 32 false W' (h1.below hb) hm.mem hm.table (Or.inl ⟨rfl, rfl⟩)
    rwa [f1, f2] at this
  obtain ⟨⟨z0, z1, z2, z3, z4, z5, z6, z7, z8, z9, z10, z11⟩, zf, zl⟩ := twelve_cells h1.box
  obtain ⟨x0, x1, x2, x3, xf, xl⟩ := four_cells hx
  have s0 := (hb0.cell (p := ⟨g, k.toNat, none⟩) hg).trans (hreg k hk.1 hk.2)
  have gl : g < W.heap.size := Nat.lt_of_lt_of_le hg hb0.size
  have HR : Hid (m.regs.length = 8 ∧ m.mem.length = 256) := ⟨hm.regs, hm.mem⟩
  have kb : k < (m.regs.length : Int) := by have := hm.regs; omega
  have HBD : Hid (m.meantE (m.reg k + n) false = 0 → 0 ≤ m.meantK (m.reg k + n) false ∧ m.meantK (m.reg k + n) false ≤ 255) := fun e => meant_bd e
  have ab : a < (m.regs.length : Int) := by have := hm.regs; omega
  obtain ⟨k0, k7⟩ := hk
  obtain ⟨a0, a7⟩ := ha
  obtain ⟨n0, n7⟩ := hn
  obtain ⟨R, eR⟩ : ∃ R, R = m.loaded a k n := ⟨_, rfl⟩
  have HRES : Hid (R = if m.meantE (m.reg k + n) false = 0 then m.setReg a (m.mem.getD (m.meantK (m.reg k + n) false).toNat 0) else m.ends (m.meantE (m.reg k + n) false)) := eR
  rw [← eR]
  clear eR hm f1 f2 h h1 hx hreg hmem hg2 hb0 hlo hfz hfz2
  revert HRES HBD HM
  generalize m.meantE (m.reg k + n) false = E
  generalize m.meantK (m.reg k + n) false = K
  revert r1 r2 s0
  generalize hv : m.reg k = v
  intro r1 r2 s0 HM HBD HRES
  clear hv
  have hwr : IntKind.i64.wrap (v + n) = v + n := IntWalk.i64_in _ (by omega)
  go_enter Tryd.func86, Tryd.ntmps86
  go_wp2_with fail
  rw [← HW.out]
  clear HW
  go_region_held3 (fun w' => w'.cell? ⟨b, 0, none⟩ = some (.slice (some ⟨g, 0, none⟩) m.regs.length c) ∧ w'.cell? ⟨w.heap.size, 2, none⟩ = some (.int .i64 k) ∧ w'.cell? ⟨w.heap.size, 3, none⟩ = some (.int .i64 n) ∧ w'.cell? ⟨g, k.toNat, none⟩ = some (.int .i64 v)) (go_keep)
    (first
      | (go_at_call 85; refine (Fold_same _ _ (by omega) (by omega)).mono ?_; rintro e w2 ⟨rfl, rfl⟩)
      | (go_at_call 111; refine (HM.out _ ((Below.refl _ W).drew)).mono ?_; rintro e w3 ⟨rfl, hb⟩; have hb' : Below W.heap.size W w3 := ((Below.refl _ W).drew).trans hb; have HB : Hid (Below W.heap.size W w3) := hb'; have t0 := (hb'.cell (p := ⟨b, 0, none⟩) zl).trans z0; have t2 := (hb'.cell (p := ⟨w.heap.size, 2, none⟩) xl).trans x2; have t3 := (hb'.cell (p := ⟨w.heap.size, 3, none⟩) xl).trans x3; have t4 := (hb'.cell (p := ⟨g, k.toNat, none⟩) gl).trans s0; clear hb hb'))
  have h3 := HP.out.1.below HB.out
  have HB3 : Hid (Below lo w w3) := HP.out.2.trans (HB.out.mono (Nat.le_trans HP.out.1.le (Nat.le_of_lt HP.out.1.lt)))
  have H3 : Hid (AtP w3 lo b (.slice (some ⟨g, 0, none⟩) m.regs.length c) (.slice (some ⟨g2, 0, none⟩) m.mem.length c2) ov m) := h3
  clear z0 z1 z2 z3 z4 z5 z6 z7 z8 z9 z10 z11 zf zl x0 x1 x2 x3 xf s0 t0 t2 t3 t4 hwr
  obtain ⟨⟨z0, z1, z2, z3, z4, z5, z6, z7, z8, z9, z10, z11⟩, zf, zl⟩ := twelve_cells h3.box
  have hx3 : w3.heap[w.heap.size]? = some (.cells #[.int .i64 op, .int .i64 a, .int .i64 k, .int .i64 n] 83 (0, 0)) := by rw [HB.out.block _ xl]; exact HX.out
  obtain ⟨x0, x1, x2, x3, xf, xl3⟩ := four_cells hx3
  clear hx3 HX HP HM xl gl HB
  by_cases hE : E = 0
  · obtain ⟨K0, K7⟩ := HBD.out hE
    have d0 : (E != 0) = false := by simp [hE]
    obtain ⟨q1, q2, -⟩ := h3.mem_cell HR.out.2 K0 K7
    obtain ⟨q3, q4, -⟩ := h3.reg_cell HR.out.1 a0 a7
    have Kb : K < (m.mem.length : Int) := by have := HR.out.2; omega
    have HE : Hid (E = 0) := hE
    obtain ⟨x, ex⟩ : ∃ x, x = m.mem.getD K.toNat 0 := ⟨_, rfl⟩
    rw [← ex] at q1
    have EX : Hid (x = m.mem.getD K.toNat 0) := ex
    clear h3 HBD HR q2 hE ex
    go_wp2_with fail
    go_still_tail 14, (by kernel_rfl)
    all_goals
      go_wp2_with fail
      first | go_end0 | refine bodyPost_ret (results_none rfl _ _ _) rfl ?_
      rw [show R = { m with regs := m.regs.set a.toNat x } by rw [HRES.out, if_pos HE.out, EX.out]; rfl]
      exact ⟨rfl, (H3.out.drew.putReg a.toNat x).1, (HB3.out.drew).trans (H3.out.drew.putReg a.toNat x).2⟩
  · have d0 : (E != 0) = true := by simpa using hE
    have HE : Hid (¬ E = 0) := hE
    clear h3 HBD HR hE
    go_wp2_with fail
    first | go_end0 | refine bodyPost_ret (results_none rfl _ _ _) rfl ?_
    rw [show R = { m with fin := E } by rw [HRES.out, if_neg HE.out]; rfl]
    exact ⟨rfl, (H3.out.setFin E).1, HB3.out.trans (H3.out.setFin E).2⟩

set_option maxHeartbeats 2000000 in
theorem store_any (lo b : Nat) (rv mv ov : Value) (m : Mach) (op a k n : Int) (w : World) (h : AtP w lo b rv mv ov m) (hlo : lo ≤ w.heap.size) (hm : MayP m) (ha : 0 ≤ a ∧ a ≤ 7) (hk : 0 ≤ k ∧ k ≤ 7) (hn : -1048576 ≤ n ∧ n ≤ 1048575) :
    Calls Tryd.prog 87 #[ptr b, .agg #[.int .i64 op, .int .i64 a, .int .i64 k, .int .i64 n]] w fun e w' => e = .returned (.int .i64 (m.wrote k n)) ∧ AtP w' lo b rv mv ov (m.stored a k n) ∧ Below lo w w' := by
  obtain ⟨r1, r2⟩ := wordB_iff.1 (reg_word hm hk)
  obtain ⟨f1, f2⟩ := meantE_fold m true (x := m.reg k + n) (by omega) (by omega)
  obtain ⟨g, c, rfl, hg, hreg, hfz⟩ := h.regs_at hm.regs
  obtain ⟨g2, c2, rfl, hg2, hmem, hfz2⟩ := h.mem_at hm.mem
  have hx : (w.alloc (.cells #[.int .i64 op, .int .i64 a, .int .i64 k, .int .i64 n] 83)).heap[w.heap.size]? = some (.cells #[.int .i64 op, .int .i64 a, .int .i64 k, .int .i64 n] 83 (0, 0)) := Go.Deep.blk_alloc_new _ _
  have hb0 := below_alloc w (.cells #[.int .i64 op, .int .i64 a, .int .i64 k, .int .i64 n] 83)
  obtain ⟨W, hW⟩ : ∃ W, W = w.alloc (.cells #[.int .i64 op, .int .i64 a, .int .i64 k, .int .i64 n] 83) := ⟨_, rfl⟩
  rw [← hW] at hx hb0
  have HW : Hid (W = _) := hW
  clear hW
  have h1 := h.below hb0
  have HX : Hid (W.heap[w.heap.size]? = some (.cells #[.int .i64 op, .int .i64 a, .int .i64 k, .int .i64 n] 83 (0, 0))) := hx
  have HP : Hid (AtP W lo b (.slice (some ⟨g, 0, none⟩) m.regs.length c) (.slice (some ⟨g2, 0, none⟩) m.mem.length c2) ov m ∧ Below lo w W) := ⟨h1, hb0.mono hlo⟩
  have HM : Hid (∀ W', Below W.heap.size W W' → Calls Tryd.prog 111 #[ptr b, .int .i64 (foldF (m.reg k + n)), .int .i64 48] W' fun e w' => e = .returned (.tuple #[.int .i64 (m.meantK (m.reg k + n) true), .int .i64 (m.meantE (m.reg k + n) true)]) ∧ Below W'.heap.size W' w') := fun W' hb => by
    have := meantC_any lo b _ _ ov m (foldF (m.reg k + n)) 48 true W' (h1.below hb) hm.mem hm.table (Or.inr ⟨rfl, rfl⟩)
    rwa [f1, f2] at this
  obtain ⟨⟨z0, z1, z2, z3, z4, z5, z6, z7, z8, z9, z10, z11⟩, zf, zl⟩ := twelve_cells h1.box
  obtain ⟨x0, x1, x2, x3, xf, xl⟩ := four_cells hx
  have s0 := (hb0.cell (p := ⟨g, k.toNat, none⟩) hg).trans (hreg k hk.1 hk.2)
  have gl : g < W.heap.size := Nat.lt_of_lt_of_le hg hb0.size
  have HR : Hid (m.regs.length = 8 ∧ m.mem.length = 256) := ⟨hm.regs, hm.mem⟩
  have kb : k < (m.regs.length : Int) := by have := hm.regs; omega
  have HBD : Hid (m.meantE (m.reg k + n) true = 0 → 0 ≤ m.meantK (m.reg k + n) true ∧ m.meantK (m.reg k + n) true ≤ 255) := fun e => meant_bd e
  have ab : a < (m.regs.length : Int) := by have := hm.regs; omega
  obtain ⟨k0, k7⟩ := hk
  obtain ⟨a0, a7⟩ := ha
  obtain ⟨n0, n7⟩ := hn
  obtain ⟨R, eR⟩ : ∃ R, R = m.stored a k n := ⟨_, rfl⟩
  have HRES : Hid (R = if m.meantE (m.reg k + n) true = 0 then { m with mem := m.mem.set (m.meantK (m.reg k + n) true).toNat (m.reg a) } else m.ends (m.meantE (m.reg k + n) true)) := eR
  obtain ⟨V, eV⟩ : ∃ V, V = m.wrote k n := ⟨_, rfl⟩
  have HWR : Hid (V = if m.meantE (m.reg k + n) true = 0 then m.meantK (m.reg k + n) true else -1) := eV
  rw [← eV]
  rw [← eR]
  clear eR eV hm f1 f2 h h1 hx hreg hmem hg2 hb0 hlo hfz hfz2
  revert HWR HRES HBD HM
  generalize m.meantE (m.reg k + n) true = E
  generalize m.meantK (m.reg k + n) true = K
  revert r1 r2 s0
  generalize hv : m.reg k = v
  intro r1 r2 s0 HM HBD HRES HWR
  clear hv
  have hwr : IntKind.i64.wrap (v + n) = v + n := IntWalk.i64_in _ (by omega)
  go_enter Tryd.func87, Tryd.ntmps87
  go_wp2_with fail
  rw [← HW.out]
  clear HW
  go_region_held3 (fun w' => w'.cell? ⟨b, 0, none⟩ = some (.slice (some ⟨g, 0, none⟩) m.regs.length c) ∧ w'.cell? ⟨w.heap.size, 2, none⟩ = some (.int .i64 k) ∧ w'.cell? ⟨w.heap.size, 3, none⟩ = some (.int .i64 n) ∧ w'.cell? ⟨g, k.toNat, none⟩ = some (.int .i64 v)) (go_keep)
    (first
      | (go_at_call 85; refine (Fold_same _ _ (by omega) (by omega)).mono ?_; rintro e w2 ⟨rfl, rfl⟩)
      | (go_at_call 111; refine (HM.out _ ((Below.refl _ W).drew)).mono ?_; rintro e w3 ⟨rfl, hb⟩; have hb' : Below W.heap.size W w3 := ((Below.refl _ W).drew).trans hb; have HB : Hid (Below W.heap.size W w3) := hb'; have t0 := (hb'.cell (p := ⟨b, 0, none⟩) zl).trans z0; have t2 := (hb'.cell (p := ⟨w.heap.size, 2, none⟩) xl).trans x2; have t3 := (hb'.cell (p := ⟨w.heap.size, 3, none⟩) xl).trans x3; have t4 := (hb'.cell (p := ⟨g, k.toNat, none⟩) gl).trans s0; clear hb hb'))
  have h3 := HP.out.1.below HB.out
  have HB3 : Hid (Below lo w w3) := HP.out.2.trans (HB.out.mono (Nat.le_trans HP.out.1.le (Nat.le_of_lt HP.out.1.lt)))
  have H3 : Hid (AtP w3 lo b (.slice (some ⟨g, 0, none⟩) m.regs.length c) (.slice (some ⟨g2, 0, none⟩) m.mem.length c2) ov m) := h3
  clear z0 z1 z2 z3 z4 z5 z6 z7 z8 z9 z10 z11 zf zl x0 x1 x2 x3 xf s0 t0 t2 t3 t4 hwr
  obtain ⟨⟨z0, z1, z2, z3, z4, z5, z6, z7, z8, z9, z10, z11⟩, zf, zl⟩ := twelve_cells h3.box
  have hx3 : w3.heap[w.heap.size]? = some (.cells #[.int .i64 op, .int .i64 a, .int .i64 k, .int .i64 n] 83 (0, 0)) := by rw [HB.out.block _ xl]; exact HX.out
  obtain ⟨x0, x1, x2, x3, xf, xl3⟩ := four_cells hx3
  clear hx3 HX HP HM xl gl HB
  by_cases hE : E = 0
  · obtain ⟨K0, K7⟩ := HBD.out hE
    have d0 : (E != 0) = false := by simp [hE]
    obtain ⟨q1, q2, -⟩ := h3.mem_cell HR.out.2 K0 K7
    obtain ⟨q3, q4, -⟩ := h3.reg_cell HR.out.1 a0 a7
    have Kb : K < (m.mem.length : Int) := by have := HR.out.2; omega
    have HE : Hid (E = 0) := hE
    obtain ⟨x, ex⟩ : ∃ x, x = m.reg a := ⟨_, rfl⟩
    rw [← ex] at q3
    have EX : Hid (x = m.reg a) := ex
    clear h3 HBD HR q4 hE ex
    go_wp2_with fail
    go_still_tail 14, (by kernel_rfl)
    all_goals
      go_wp2_with fail
      go_ret
      rw [show R = { m with mem := m.mem.set K.toNat x } by rw [HRES.out, if_pos HE.out, EX.out], show V = K by rw [HWR.out, if_pos HE.out]]
      exact ⟨rfl, (H3.out.drew.putMem K.toNat x).1, (HB3.out.drew).trans (H3.out.drew.putMem K.toNat x).2⟩
  · have d0 : (E != 0) = true := by simpa using hE
    have HE : Hid (¬ E = 0) := hE
    clear h3 HBD HR hE
    go_wp2_with fail
    go_ret
    rw [show R = { m with fin := E } by rw [HRES.out, if_neg HE.out]; rfl, show V = -1 by rw [HWR.out, if_neg HE.out]]
    exact ⟨rfl, (H3.out.setFin E).1, HB3.out.trans (H3.out.setFin E).2⟩

end Go.Proofs.YtbjlfhpiebokkaaDoor
