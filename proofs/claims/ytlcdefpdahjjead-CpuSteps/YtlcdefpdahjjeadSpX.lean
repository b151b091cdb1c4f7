/- Contract of hourglassref.SteppedOf, and of cpu.Step beside it, in the same words. -/
import Derived.Test.YtlcdefpdahjjeadSpJPart
import Derived.Test.YtlcdefpdahjjeadStepD
import Derived.Test.YtlcdefpdahjjeadMayPart
namespace Go.Proofs.Ytlcdefpdahjjead
open Go.RowKit

theorem IntsAt.old {w : World} {v : Value} {l : List Int} (h : IntsAt w v l) : IntsOld w.heap.size w v l := by
  obtain ⟨A, c, rfl, hl, hc⟩ := h
  refine ⟨A, c, rfl, hl, fun h0 => ?_⟩
  obtain ⟨b, off, rfl, hb, hj⟩ := hc h0
  exact ⟨b, off, rfl, hb, hj⟩

/-- The empty guest. -/
def noM : Mach := ⟨[], 0, 0, false, false, 0, 0, 0, [], [], 0, 0⟩
/-- What a step answers: the guest, the word that was written, what is refused. -/
def stepA (m : Mach) (irq : Bool) (blk : List Int) (value : Int) : Mach × Int × Int :=
  if stepNo m blk value = 0 then ((m.step irq blk value).1, (m.step irq blk value).2, 0) else (noM, 0, stepNo m blk value)
theorem noM_at (w : World) : MachAt w (.slice none 0 0) (.slice none 0 0) (.slice none 0 0) noM := ⟨⟨none, 0, rfl, by simp [noM], fun h => by simp [noM] at h⟩, ⟨none, 0, rfl, by simp [noM], fun h => by simp [noM] at h⟩, ⟨none, 0, rfl, by simp [noM], fun h => by simp [noM] at h⟩⟩

/-- A guest whose slices lie from block lo on. -/
structure MachLo (lo : Nat) (w : World) (rv mv ov : Value) (m : Mach) : Prop where
  regs : IntsLo lo w rv m.regs
  mem : IntsLo lo w mv m.mem
  out : IntsLo lo w ov m.out
theorem MachLo.at {lo : Nat} {w : World} {rv mv ov : Value} {m : Mach} (h : MachLo lo w rv mv ov m) : MachAt w rv mv ov m := ⟨h.regs.at, h.mem.at, h.out.at⟩
theorem MachLo.setCell {lo : Nat} {w : World} {rv mv ov : Value} {m : Mach} (h : MachLo lo w rv mv ov m) {a : Addr} (ha : a.block < lo) (u : Value) : MachLo lo (w.setCell a u) rv mv ov m := ⟨h.regs.setCell ha u, h.mem.setCell ha u, h.out.setCell ha u⟩
theorem noInts_lo (lo : Nat) (w : World) : IntsLo lo w (.slice none 0 0) [] := ⟨none, 0, rfl, by simp, fun h => by simp at h⟩
theorem noM_lo (lo : Nat) (w : World) : MachLo lo w (.slice none 0 0) (.slice none 0 0) (.slice none 0 0) noM := ⟨noInts_lo _ _, noInts_lo _ _, noInts_lo _ _⟩

/-- A guest, a word and an error are answered. -/
def StepAns (w : World) (S : Mach × Int × Int) (e : Ending) (w' : World) : Prop :=
  ∃ A1 d1 A2 d2 A3 d3, e = .returned (.tuple #[.agg (S.1.cells (.slice A1 S.1.regs.length d1) (.slice A2 S.1.mem.length d2) (.slice A3 S.1.out.length d3)), .int .i64 S.2.1, .int .i64 S.2.2]) ∧ MachLo w.heap.size w' (.slice A1 S.1.regs.length d1) (.slice A2 S.1.mem.length d2) (.slice A3 S.1.out.length d3) S.1 ∧ Below w.heap.size w w'
theorem stepAns_no {w w' : World} {no : Int} (hb : Below w.heap.size w w') : StepAns w (noM, 0, no) (.returned (.tuple #[.agg zeroM, .int .i64 0, .int .i64 no])) w' :=
  ⟨none, 0, none, 0, none, 0, rfl, noM_lo _ _, hb⟩
theorem stepAns_ok {w w' : World} {M : Mach} {wr : Int} {rv mv ov : Value} (ho : OwnM w' w.heap.size rv mv ov M) (hf : MachFits M) (hb : Below w.heap.size w w') : StepAns w (M, wr, 0) (.returned (.tuple #[.agg (M.cells rv mv ov), .int .i64 wr, .int .i64 0])) w' := by
  have : MachLo w.heap.size w' rv mv ov M := ⟨ho.regs.low hf.regs, ho.mem.low hf.mem, ho.out.low hf.out⟩
  obtain ⟨A1, d1, A2, d2, A3, d3, e1, e2, e3⟩ := ho.shape
  subst e1 e2 e3
  exact ⟨A1, d1, A2, d2, A3, d3, rfl, this, hb⟩

theorem stepNo_ok {m : Mach} {blk : List Int} {value : Int} (h : stepNo m blk value = 0) : MayP m ∧ (blk.length = 0 ∨ blk.length = 16) ∧ allB blk = true ∧ wordB value = true ∧ m.count < 1099511627776 := by
  unfold stepNo at h
  cases h1 : m.may with
  | false => simp [h1] at h
  | true =>
  have hm := mayP_iff.1 h1
  rw [h1] at h
  by_cases h2 : blk.length ≠ 0 ∧ blk.length ≠ 16
  · simp [h2.1, h2.2] at h
  · have h2' : blk.length = 0 ∨ blk.length = 16 := by omega
    have e2 : (decide (blk.length ≠ 0) && decide (blk.length ≠ 16)) = false := by rcases h2' with e | e <;> simp [e]
    rw [e2] at h
    cases h3 : allB blk with
    | false => simp [h3] at h
    | true =>
      cases h4 : wordB value with
      | false => simp [h4] at h
      | true =>
        cases h5 : m.count == 1099511627776 with
        | true => simp [h3, h4, h5] at h
        | false =>
          have : m.count ≠ 1099511627776 := by simpa using h5
          have := hm.count
          exact ⟨hm, h2', rfl, rfl, by omega⟩

theorem step_fits {m : Mach} {irq : Bool} {blk : List Int} {value : Int} (h : stepNo m blk value = 0) : MachFits (m.step irq blk value).1 := by
  obtain ⟨h1, h2, h3, h4, h5⟩ := stepNo_ok h
  exact (h1.step irq h3 h2 h4 h5).fits

theorem Step_all (m : Mach) (rv mv ov : Value) (irq : Bool) (B : Option Addr) (cb : Nat) (blk : List Int) (value : Int) (w : World) (ha : MachAt w rv mv ov m) (hb : IntsAt w (.slice B blk.length cb) blk) :
    Calls Try.prog 10 #[.agg (m.cells rv mv ov), .bool irq, .slice B blk.length cb, .int .i64 value] w fun e w' => StepAns w (stepA m irq blk value) e w' := by
  by_cases h : stepNo m blk value = 0
  · obtain ⟨h1, h2, h3, h4, h5⟩ := stepNo_ok h
    rw [stepA, if_pos h]
    exact (Step_ok m rv mv ov irq B cb blk value w ha hb h1 h3 h2 h5 h).mono fun e w' ⟨rv', mv', ov', he, ho, hB⟩ => by
      subst he
      exact stepAns_ok ho (step_fits h) hB
  · rw [stepA, if_neg h]
    exact (Step_no m rv mv ov irq B cb blk value w ha hb h).mono fun e w' ⟨he, hB⟩ => by
      subst he
      exact stepAns_no hB

set_option maxRecDepth 20000 in
set_option maxHeartbeats 4000000 in
theorem SteppedOf_may (m : Mach) (rv mv ov : Value) (irq : Bool) (B : Option Addr) (cb : Nat) (blk : List Int) (value : Int) (w : World) (ha : MachAt w rv mv ov m) (hb : IntsAt w (.slice B blk.length cb) blk) (h1 : m.may = false) :
    Calls Try.prog 11 #[.agg (m.cells rv mv ov), .bool irq, .slice B blk.length cb, .int .i64 value] w fun e w' => StepAns w (stepA m irq blk value) e w' := by
  obtain ⟨b0, b1, b2⟩ := two_boxes (Below.refl (((w.alloc (.cells (m.cells rv mv ov) 24)).alloc (.cells zeroM 24)).heap.size) ((w.alloc (.cells (m.cells rv mv ov) 24)).alloc (.cells zeroM 24)))
  have hcs := MachineMay_any m rv mv ov ((w.alloc (.cells (m.cells rv mv ov) 24)).alloc (.cells zeroM 24)) (ha.regs.below b2) (ha.mem.below b2) (ha.out.below b2)
  obtain ⟨W, hW⟩ : ∃ W, W = (w.alloc (.cells (m.cells rv mv ov) 24)).alloc (.cells zeroM 24) := ⟨_, rfl⟩
  rw [← hW] at b0 b1 b2 hcs
  have HW : Hid (W = (w.alloc (.cells (m.cells rv mv ov) 24)).alloc (.cells zeroM 24)) := hW
  have HX : Hid (W.heap[w.heap.size]? = some (.cells (m.cells rv mv ov) 24 (0, 0)) ∧ W.heap[w.heap.size + 1]? = some (.cells zeroM 24 (0, 0)) ∧ Below w.heap.size w W) := ⟨b0, b1, b2⟩
  have HA : Hid (∀ W, Below w.heap.size w W → MachAt W rv mv ov m ∧ IntsAt W (.slice B blk.length cb) blk) := fun W h => ⟨ha.below h, hb.below h⟩
  obtain ⟨A1, c1, A2, c2, A3, c3, rfl, rfl, rfl⟩ := ha.shape
  rw [h1] at hcs
  have HC : Hid (Calls Try.prog 25 #[.agg (m.cells (.slice A1 m.regs.length c1) (.slice A2 m.mem.length c2) (.slice A3 m.out.length c3))] W fun e w' => e = .returned (.bool false) ∧ Below W.heap.size W w') := hcs
  have HN : Hid (stepA m irq blk value = (noM, 0, 8)) := by show _ = _; simp [stepA, stepNo, h1]
  clear ha hb b0 b1 b2 hcs hW h1
  simp only [Mach.cells] at HW HX HC HA ⊢
  go_enter Try.func11, Try.ntmps11
  go_wp2_with fail
  rw [← HW.out]
  refine HC.out.mono ?_
  rintro e w1 ⟨rfl, hb1⟩
  obtain ⟨hx1, hbb1⟩ := box_below HX.out.1 HX.out.2.2 hb1
  obtain ⟨hy1, -⟩ := box_below HX.out.2.1 HX.out.2.2 hb1
  obtain ⟨⟨z0, z1, z2, z3, z4, z5, z6, z7, z8, z9, z10, z11⟩, zf, zl⟩ := twelve_cells hx1
  obtain ⟨⟨y0, y1, y2, y3, y4, y5, y6, y7, y8, y9, y10, y11⟩, yf, yl⟩ := twelve_cells hy1
  have HBB : Hid (Below w.heap.size w w1 ∧ w1.heap[w.heap.size + 1]? = some (.cells zeroM 24 (0, 0)) ∧ IntsAt w1 (.slice B blk.length cb) blk) := ⟨hbb1, hy1, (HA.out _ hbb1).2⟩
  clear hy1 hx1 hbb1 hb1 HC HX HW
  dsimp only
  go_wp2_with fail
  refine bodyPost_ret (v := .tuple #[.agg zeroM, .int .i64 0, .int .i64 8]) (by simp [results, Try.results11, go_sem, y0, y1, y2, y3, y4, y5, y6, y7, y8, y9, y10, y11]) rfl ?_
  rw [HN.out]
  exact stepAns_no (below_set12 HBB.out.1 (by omega) _ _ _ _ _ _ _ _ _ _ _ _)

set_option maxRecDepth 20000 in
set_option maxHeartbeats 4000000 in
theorem SteppedOf_size (m : Mach) (rv mv ov : Value) (irq : Bool) (B : Option Addr) (cb : Nat) (blk : List Int) (value : Int) (w : World) (ha : MachAt w rv mv ov m) (hb : IntsAt w (.slice B blk.length cb) blk) (h1 : m.may = true) (h2 : blk.length ≠ 0 ∧ blk.length ≠ 16) :
    Calls Try.prog 11 #[.agg (m.cells rv mv ov), .bool irq, .slice B blk.length cb, .int .i64 value] w fun e w' => StepAns w (stepA m irq blk value) e w' := by
  obtain ⟨b0, b1, b2⟩ := two_boxes (Below.refl (((w.alloc (.cells (m.cells rv mv ov) 24)).alloc (.cells zeroM 24)).heap.size) ((w.alloc (.cells (m.cells rv mv ov) 24)).alloc (.cells zeroM 24)))
  have hcs := MachineMay_any m rv mv ov ((w.alloc (.cells (m.cells rv mv ov) 24)).alloc (.cells zeroM 24)) (ha.regs.below b2) (ha.mem.below b2) (ha.out.below b2)
  obtain ⟨W, hW⟩ : ∃ W, W = (w.alloc (.cells (m.cells rv mv ov) 24)).alloc (.cells zeroM 24) := ⟨_, rfl⟩
  rw [← hW] at b0 b1 b2 hcs
  have HW : Hid (W = (w.alloc (.cells (m.cells rv mv ov) 24)).alloc (.cells zeroM 24)) := hW
  have HX : Hid (W.heap[w.heap.size]? = some (.cells (m.cells rv mv ov) 24 (0, 0)) ∧ W.heap[w.heap.size + 1]? = some (.cells zeroM 24 (0, 0)) ∧ Below w.heap.size w W) := ⟨b0, b1, b2⟩
  have HA : Hid (∀ W, Below w.heap.size w W → MachAt W rv mv ov m ∧ IntsAt W (.slice B blk.length cb) blk) := fun W h => ⟨ha.below h, hb.below h⟩
  obtain ⟨A1, c1, A2, c2, A3, c3, rfl, rfl, rfl⟩ := ha.shape
  rw [h1] at hcs
  have HC : Hid (Calls Try.prog 25 #[.agg (m.cells (.slice A1 m.regs.length c1) (.slice A2 m.mem.length c2) (.slice A3 m.out.length c3))] W fun e w' => e = .returned (.bool true) ∧ Below W.heap.size W w') := hcs
  have HN : Hid (stepA m irq blk value = (noM, 0, 1)) := by show _ = _; simp [stepA, stepNo, h1, h2]
  have d0 : ((blk.length : Int) != 0) = true := by simp only [bne_iff_ne]; omega
  have d1 : ((blk.length : Int) != 16) = true := by simp only [bne_iff_ne]; omega
  clear ha hb b0 b1 b2 hcs hW h1 h2
  simp only [Mach.cells] at HW HX HC HA ⊢
  go_enter Try.func11, Try.ntmps11
  go_wp2_with fail
  rw [← HW.out]
  refine HC.out.mono ?_
  rintro e w1 ⟨rfl, hb1⟩
  obtain ⟨hx1, hbb1⟩ := box_below HX.out.1 HX.out.2.2 hb1
  obtain ⟨hy1, -⟩ := box_below HX.out.2.1 HX.out.2.2 hb1
  obtain ⟨⟨z0, z1, z2, z3, z4, z5, z6, z7, z8, z9, z10, z11⟩, zf, zl⟩ := twelve_cells hx1
  obtain ⟨⟨y0, y1, y2, y3, y4, y5, y6, y7, y8, y9, y10, y11⟩, yf, yl⟩ := twelve_cells hy1
  have HBB : Hid (Below w.heap.size w w1 ∧ w1.heap[w.heap.size + 1]? = some (.cells zeroM 24 (0, 0)) ∧ IntsAt w1 (.slice B blk.length cb) blk) := ⟨hbb1, hy1, (HA.out _ hbb1).2⟩
  clear hy1 hx1 hbb1 hb1 HC HX HW
  dsimp only
  go_wp2_with fail
  refine bodyPost_ret (v := .tuple #[.agg zeroM, .int .i64 0, .int .i64 1]) (by simp [results, Try.results11, go_sem, y0, y1, y2, y3, y4, y5, y6, y7, y8, y9, y10, y11]) rfl ?_
  rw [HN.out]
  exact stepAns_no (below_set12 HBB.out.1 (by omega) _ _ _ _ _ _ _ _ _ _ _ _)

set_option maxRecDepth 20000 in
set_option maxHeartbeats 4000000 in
theorem SteppedOf_valz (m : Mach) (rv mv ov : Value) (irq : Bool) (B : Option Addr) (cb : Nat) (blk : List Int) (value : Int) (w : World) (ha : MachAt w rv mv ov m) (hb : IntsAt w (.slice B blk.length cb) blk) (h1 : m.may = true) (h2 : blk.length = 0) (h3 : wordB value = false) :
    Calls Try.prog 11 #[.agg (m.cells rv mv ov), .bool irq, .slice B blk.length cb, .int .i64 value] w fun e w' => StepAns w (stepA m irq blk value) e w' := by
  obtain ⟨b0, b1, b2⟩ := two_boxes (Below.refl (((w.alloc (.cells (m.cells rv mv ov) 24)).alloc (.cells zeroM 24)).heap.size) ((w.alloc (.cells (m.cells rv mv ov) 24)).alloc (.cells zeroM 24)))
  have hcs := MachineMay_any m rv mv ov ((w.alloc (.cells (m.cells rv mv ov) 24)).alloc (.cells zeroM 24)) (ha.regs.below b2) (ha.mem.below b2) (ha.out.below b2)
  obtain ⟨W, hW⟩ : ∃ W, W = (w.alloc (.cells (m.cells rv mv ov) 24)).alloc (.cells zeroM 24) := ⟨_, rfl⟩
  rw [← hW] at b0 b1 b2 hcs
  have HW : Hid (W = (w.alloc (.cells (m.cells rv mv ov) 24)).alloc (.cells zeroM 24)) := hW
  have HX : Hid (W.heap[w.heap.size]? = some (.cells (m.cells rv mv ov) 24 (0, 0)) ∧ W.heap[w.heap.size + 1]? = some (.cells zeroM 24 (0, 0)) ∧ Below w.heap.size w W) := ⟨b0, b1, b2⟩
  have HA : Hid (∀ W, Below w.heap.size w W → MachAt W rv mv ov m ∧ IntsAt W (.slice B blk.length cb) blk) := fun W h => ⟨ha.below h, hb.below h⟩
  obtain ⟨A1, c1, A2, c2, A3, c3, rfl, rfl, rfl⟩ := ha.shape
  rw [h1] at hcs
  have HC : Hid (Calls Try.prog 25 #[.agg (m.cells (.slice A1 m.regs.length c1) (.slice A2 m.mem.length c2) (.slice A3 m.out.length c3))] W fun e w' => e = .returned (.bool true) ∧ Below W.heap.size W w') := hcs
  have e2 : (decide (blk.length ≠ 0) && decide (blk.length ≠ 16)) = false := by simp [h2]
  have d0 : ((blk.length : Int) != 0) = false := by simp [h2]
  have HV : Hid (wordB value = false) := h3
  have HN : Hid (stepA m irq blk value = (noM, 0, 2)) := by show _ = _; simp only [stepA, stepNo, h1, e2, h3]; simp
  clear ha hb b0 b1 b2 hcs hW h1 h2 e2 h3
  simp only [Mach.cells] at HW HX HC HA ⊢
  go_enter Try.func11, Try.ntmps11
  go_wp2_with fail
  rw [← HW.out]
  refine HC.out.mono ?_
  rintro e w1 ⟨rfl, hb1⟩
  obtain ⟨hx1, hbb1⟩ := box_below HX.out.1 HX.out.2.2 hb1
  obtain ⟨hy1, -⟩ := box_below HX.out.2.1 HX.out.2.2 hb1
  obtain ⟨⟨z0, z1, z2, z3, z4, z5, z6, z7, z8, z9, z10, z11⟩, zf, zl⟩ := twelve_cells hx1
  obtain ⟨⟨y0, y1, y2, y3, y4, y5, y6, y7, y8, y9, y10, y11⟩, yf, yl⟩ := twelve_cells hy1
  have HBB : Hid (Below w.heap.size w w1 ∧ w1.heap[w.heap.size + 1]? = some (.cells zeroM 24 (0, 0)) ∧ IntsAt w1 (.slice B blk.length cb) blk) := ⟨hbb1, hy1, (HA.out _ hbb1).2⟩
  clear hy1 hx1 hbb1 hb1 HC HX HW
  dsimp only
  go_wp2_with fail
  refine (wordMay_any _ _).mono ?_
  rintro e w9 ⟨rfl, rfl⟩
  rw [HV.out]
  dsimp only
  go_wp2_with fail
  refine bodyPost_ret (v := .tuple #[.agg zeroM, .int .i64 0, .int .i64 2]) (by simp [results, Try.results11, go_sem, y0, y1, y2, y3, y4, y5, y6, y7, y8, y9, y10, y11]) rfl ?_
  rw [HN.out]
  exact stepAns_no (below_set12 HBB.out.1 (by omega) _ _ _ _ _ _ _ _ _ _ _ _)

set_option maxRecDepth 20000 in
set_option maxHeartbeats 4000000 in
theorem SteppedOf_blkz (m : Mach) (rv mv ov : Value) (irq : Bool) (B : Option Addr) (cb : Nat) (blk : List Int) (value : Int) (w : World) (ha : MachAt w rv mv ov m) (hb : IntsAt w (.slice B blk.length cb) blk) (h1 : m.may = true) (h2 : blk.length = 0) (h3 : wordB value = true) (h4 : allB blk = false) :
    Calls Try.prog 11 #[.agg (m.cells rv mv ov), .bool irq, .slice B blk.length cb, .int .i64 value] w fun e w' => StepAns w (stepA m irq blk value) e w' := by
  obtain ⟨b0, b1, b2⟩ := two_boxes (Below.refl (((w.alloc (.cells (m.cells rv mv ov) 24)).alloc (.cells zeroM 24)).heap.size) ((w.alloc (.cells (m.cells rv mv ov) 24)).alloc (.cells zeroM 24)))
  have hcs := MachineMay_any m rv mv ov ((w.alloc (.cells (m.cells rv mv ov) 24)).alloc (.cells zeroM 24)) (ha.regs.below b2) (ha.mem.below b2) (ha.out.below b2)
  obtain ⟨W, hW⟩ : ∃ W, W = (w.alloc (.cells (m.cells rv mv ov) 24)).alloc (.cells zeroM 24) := ⟨_, rfl⟩
  rw [← hW] at b0 b1 b2 hcs
  have HW : Hid (W = (w.alloc (.cells (m.cells rv mv ov) 24)).alloc (.cells zeroM 24)) := hW
  have HX : Hid (W.heap[w.heap.size]? = some (.cells (m.cells rv mv ov) 24 (0, 0)) ∧ W.heap[w.heap.size + 1]? = some (.cells zeroM 24 (0, 0)) ∧ Below w.heap.size w W) := ⟨b0, b1, b2⟩
  have HA : Hid (∀ W, Below w.heap.size w W → MachAt W rv mv ov m ∧ IntsAt W (.slice B blk.length cb) blk) := fun W h => ⟨ha.below h, hb.below h⟩
  obtain ⟨A1, c1, A2, c2, A3, c3, rfl, rfl, rfl⟩ := ha.shape
  rw [h1] at hcs
  have HC : Hid (Calls Try.prog 25 #[.agg (m.cells (.slice A1 m.regs.length c1) (.slice A2 m.mem.length c2) (.slice A3 m.out.length c3))] W fun e w' => e = .returned (.bool true) ∧ Below W.heap.size W w') := hcs
  have e2 : (decide (blk.length ≠ 0) && decide (blk.length ≠ 16)) = false := by simp [h2]
  have d0 : ((blk.length : Int) != 0) = false := by simp [h2]
  have HV : Hid (wordB value = true) := h3
  have HL : Hid (allB blk = false) := h4
  have HN : Hid (stepA m irq blk value = (noM, 0, 2)) := by show _ = _; simp only [stepA, stepNo, h1, e2, h4]; simp
  clear ha hb b0 b1 b2 hcs hW h1 h2 e2 h3 h4
  simp only [Mach.cells] at HW HX HC HA ⊢
  go_enter Try.func11, Try.ntmps11
  go_wp2_with fail
  rw [← HW.out]
  refine HC.out.mono ?_
  rintro e w1 ⟨rfl, hb1⟩
  obtain ⟨hx1, hbb1⟩ := box_below HX.out.1 HX.out.2.2 hb1
  obtain ⟨hy1, -⟩ := box_below HX.out.2.1 HX.out.2.2 hb1
  obtain ⟨⟨z0, z1, z2, z3, z4, z5, z6, z7, z8, z9, z10, z11⟩, zf, zl⟩ := twelve_cells hx1
  obtain ⟨⟨y0, y1, y2, y3, y4, y5, y6, y7, y8, y9, y10, y11⟩, yf, yl⟩ := twelve_cells hy1
  have HBB : Hid (Below w.heap.size w w1 ∧ w1.heap[w.heap.size + 1]? = some (.cells zeroM 24 (0, 0)) ∧ IntsAt w1 (.slice B blk.length cb) blk) := ⟨hbb1, hy1, (HA.out _ hbb1).2⟩
  clear hy1 hx1 hbb1 hb1 HC HX HW
  dsimp only
  go_wp2_with fail
  refine (wordMay_any _ _).mono ?_
  rintro e w9 ⟨rfl, rfl⟩
  rw [HV.out]
  dsimp only
  go_wp2_with fail
  refine (wordsMay_any _ blk _ HBB.out.2.2).mono ?_
  rintro e w8 ⟨rfl, rfl⟩
  rw [HL.out]
  dsimp only
  go_wp2_with fail
  refine bodyPost_ret (v := .tuple #[.agg zeroM, .int .i64 0, .int .i64 2]) (by simp [results, Try.results11, go_sem, y0, y1, y2, y3, y4, y5, y6, y7, y8, y9, y10, y11]) rfl ?_
  rw [HN.out]
  exact stepAns_no (below_set12 HBB.out.1 (by omega) _ _ _ _ _ _ _ _ _ _ _ _)

set_option maxRecDepth 20000 in
set_option maxHeartbeats 4000000 in
theorem SteppedOf_cntz (m : Mach) (rv mv ov : Value) (irq : Bool) (B : Option Addr) (cb : Nat) (blk : List Int) (value : Int) (w : World) (ha : MachAt w rv mv ov m) (hb : IntsAt w (.slice B blk.length cb) blk) (h1 : m.may = true) (h2 : blk.length = 0) (h3 : wordB value = true) (h4 : allB blk = true) (h5 : m.count = 1099511627776) :
    Calls Try.prog 11 #[.agg (m.cells rv mv ov), .bool irq, .slice B blk.length cb, .int .i64 value] w fun e w' => StepAns w (stepA m irq blk value) e w' := by
  obtain ⟨b0, b1, b2⟩ := two_boxes (Below.refl (((w.alloc (.cells (m.cells rv mv ov) 24)).alloc (.cells zeroM 24)).heap.size) ((w.alloc (.cells (m.cells rv mv ov) 24)).alloc (.cells zeroM 24)))
  have hcs := MachineMay_any m rv mv ov ((w.alloc (.cells (m.cells rv mv ov) 24)).alloc (.cells zeroM 24)) (ha.regs.below b2) (ha.mem.below b2) (ha.out.below b2)
  obtain ⟨W, hW⟩ : ∃ W, W = (w.alloc (.cells (m.cells rv mv ov) 24)).alloc (.cells zeroM 24) := ⟨_, rfl⟩
  rw [← hW] at b0 b1 b2 hcs
  have HW : Hid (W = (w.alloc (.cells (m.cells rv mv ov) 24)).alloc (.cells zeroM 24)) := hW
  have HX : Hid (W.heap[w.heap.size]? = some (.cells (m.cells rv mv ov) 24 (0, 0)) ∧ W.heap[w.heap.size + 1]? = some (.cells zeroM 24 (0, 0)) ∧ Below w.heap.size w W) := ⟨b0, b1, b2⟩
  have HA : Hid (∀ W, Below w.heap.size w W → MachAt W rv mv ov m ∧ IntsAt W (.slice B blk.length cb) blk) := fun W h => ⟨ha.below h, hb.below h⟩
  obtain ⟨A1, c1, A2, c2, A3, c3, rfl, rfl, rfl⟩ := ha.shape
  rw [h1] at hcs
  have HC : Hid (Calls Try.prog 25 #[.agg (m.cells (.slice A1 m.regs.length c1) (.slice A2 m.mem.length c2) (.slice A3 m.out.length c3))] W fun e w' => e = .returned (.bool true) ∧ Below W.heap.size W w') := hcs
  have e2 : (decide (blk.length ≠ 0) && decide (blk.length ≠ 16)) = false := by simp [h2]
  have d0 : ((blk.length : Int) != 0) = false := by simp [h2]
  have HV : Hid (wordB value = true) := h3
  have HL : Hid (allB blk = true) := h4
  have d5 : (m.count == 1099511627776) = true := by simp [h5]
  have HN : Hid (stepA m irq blk value = (noM, 0, 2)) := by show _ = _; simp only [stepA, stepNo, h1, e2, d5]; simp
  clear ha hb b0 b1 b2 hcs hW h1 h2 e2 h3 h4 h5
  simp only [Mach.cells] at HW HX HC HA ⊢
  go_enter Try.func11, Try.ntmps11
  go_wp2_with fail
  rw [← HW.out]
  refine HC.out.mono ?_
  rintro e w1 ⟨rfl, hb1⟩
  obtain ⟨hx1, hbb1⟩ := box_below HX.out.1 HX.out.2.2 hb1
  obtain ⟨hy1, -⟩ := box_below HX.out.2.1 HX.out.2.2 hb1
  obtain ⟨⟨z0, z1, z2, z3, z4, z5, z6, z7, z8, z9, z10, z11⟩, zf, zl⟩ := twelve_cells hx1
  obtain ⟨⟨y0, y1, y2, y3, y4, y5, y6, y7, y8, y9, y10, y11⟩, yf, yl⟩ := twelve_cells hy1
  have HBB : Hid (Below w.heap.size w w1 ∧ w1.heap[w.heap.size + 1]? = some (.cells zeroM 24 (0, 0)) ∧ IntsAt w1 (.slice B blk.length cb) blk) := ⟨hbb1, hy1, (HA.out _ hbb1).2⟩
  clear hy1 hx1 hbb1 hb1 HC HX HW
  dsimp only
  go_wp2_with fail
  refine (wordMay_any _ _).mono ?_
  rintro e w9 ⟨rfl, rfl⟩
  rw [HV.out]
  dsimp only
  go_wp2_with fail
  refine (wordsMay_any _ blk _ HBB.out.2.2).mono ?_
  rintro e w8 ⟨rfl, rfl⟩
  rw [HL.out]
  dsimp only
  go_wp2_with fail
  refine bodyPost_ret (v := .tuple #[.agg zeroM, .int .i64 0, .int .i64 2]) (by simp [results, Try.results11, go_sem, y0, y1, y2, y3, y4, y5, y6, y7, y8, y9, y10, y11]) rfl ?_
  rw [HN.out]
  exact stepAns_no (below_set12 HBB.out.1 (by omega) _ _ _ _ _ _ _ _ _ _ _ _)

set_option maxRecDepth 20000 in
set_option maxHeartbeats 4000000 in
theorem SteppedOf_okz (m : Mach) (rv mv ov : Value) (irq : Bool) (B : Option Addr) (cb : Nat) (blk : List Int) (value : Int) (w : World) (ha : MachAt w rv mv ov m) (hb : IntsAt w (.slice B blk.length cb) blk) (h1 : m.may = true) (h2 : blk.length = 0) (h3 : wordB value = true) (h4 : allB blk = true) (h5 : m.count < 1099511627776) :
    Calls Try.prog 11 #[.agg (m.cells rv mv ov), .bool irq, .slice B blk.length cb, .int .i64 value] w fun e w' => StepAns w (stepA m irq blk value) e w' := by
  obtain ⟨b0, b1, b2⟩ := two_boxes (Below.refl (((w.alloc (.cells (m.cells rv mv ov) 24)).alloc (.cells zeroM 24)).heap.size) ((w.alloc (.cells (m.cells rv mv ov) 24)).alloc (.cells zeroM 24)))
  have hcs := MachineMay_any m rv mv ov ((w.alloc (.cells (m.cells rv mv ov) 24)).alloc (.cells zeroM 24)) (ha.regs.below b2) (ha.mem.below b2) (ha.out.below b2)
  obtain ⟨W, hW⟩ : ∃ W, W = (w.alloc (.cells (m.cells rv mv ov) 24)).alloc (.cells zeroM 24) := ⟨_, rfl⟩
  rw [← hW] at b0 b1 b2 hcs
  have HW : Hid (W = (w.alloc (.cells (m.cells rv mv ov) 24)).alloc (.cells zeroM 24)) := hW
  have HX : Hid (W.heap[w.heap.size]? = some (.cells (m.cells rv mv ov) 24 (0, 0)) ∧ W.heap[w.heap.size + 1]? = some (.cells zeroM 24 (0, 0)) ∧ Below w.heap.size w W) := ⟨b0, b1, b2⟩
  have HA : Hid (∀ W, Below w.heap.size w W → MachAt W rv mv ov m ∧ IntsAt W (.slice B blk.length cb) blk) := fun W h => ⟨ha.below h, hb.below h⟩
  obtain ⟨A1, c1, A2, c2, A3, c3, rfl, rfl, rfl⟩ := ha.shape
  have hno : stepNo m blk value = 0 := by
    have d5 : (m.count == 1099511627776) = false := by simp only [beq_eq_false_iff_ne]; omega
    simp [stepNo, h1, h2, h3, h4, d5]
  rw [h1] at hcs
  have HC : Hid (Calls Try.prog 25 #[.agg (m.cells (.slice A1 m.regs.length c1) (.slice A2 m.mem.length c2) (.slice A3 m.out.length c3))] W fun e w' => e = .returned (.bool true) ∧ Below W.heap.size W w') := hcs
  have d0 : ((blk.length : Int) != 0) = false := by simp [h2]
  have HV : Hid (wordB value = true) := h3
  have HL : Hid (allB blk = true) := h4
  have d5 : (m.count == 1099511627776) = false := by simp only [beq_eq_false_iff_ne]; omega
  have HFT0 : Hid (MachFits (m.step irq blk value).1) := step_fits hno
  have hmp := mayP_iff.1 h1
  have HGC : Hid (∀ W, Below w.heap.size w W → Calls Try.prog 9 #[.agg (m.cells (.slice A1 m.regs.length c1) (.slice A2 m.mem.length c2) (.slice A3 m.out.length c3))] W fun e w' => ∃ rv' mv' ov', e = .returned (.agg (m.cells rv' mv' ov')) ∧ OwnM w' W.heap.size rv' mv' ov' m ∧ Below W.heap.size W w') := fun W hB => GuestCopy_any m _ _ _ W (ha.below hB)
  obtain ⟨R, hR⟩ : ∃ R, R = m.step irq blk value := ⟨_, rfl⟩
  have HST : Hid (∀ w1 w2 rv mv ov, OwnM w2 w1.heap.size rv mv ov m → Below w1.heap.size w1 w2 → IntsAt w1 (.slice B blk.length cb) blk → Calls Try.prog 28 #[.agg (m.cells rv mv ov), .bool irq, .slice B blk.length cb, .int .i64 value] w2 fun e w' => ∃ rv' mv' ov', e = .returned (.tuple #[.agg (R.1.cells rv' mv' ov'), .int .i64 R.2]) ∧ OwnM w' w1.heap.size rv' mv' ov' R.1 ∧ Below w1.heap.size w2 w') := fun w1 w2 rv mv ov hO hB hI => by
    rw [hR]
    exact stepped_any m rv mv ov irq B cb blk value w2 w1.heap.size hO hmp hB.size (hI.old.below hB) (by omega) h4 h5
  have HN : Hid (stepA m irq blk value = (R.1, R.2, 0)) := by show _ = _; rw [stepA, if_pos hno, hR]
  have HFT : Hid (MachFits R.1) := by rw [hR]; exact HFT0.out
  clear ha hb b0 b1 b2 hcs hW h1 h2 h3 h4 h5 hno hmp hR HFT0
  simp only [Mach.cells] at HW HX HC HA HGC HST ⊢
  go_enter Try.func11, Try.ntmps11
  go_wp2_with fail
  rw [← HW.out]
  refine HC.out.mono ?_
  rintro e w1 ⟨rfl, hb1⟩
  obtain ⟨hx1, hbb1⟩ := box_below HX.out.1 HX.out.2.2 hb1
  obtain ⟨hy1, -⟩ := box_below HX.out.2.1 HX.out.2.2 hb1
  obtain ⟨⟨z0, z1, z2, z3, z4, z5, z6, z7, z8, z9, z10, z11⟩, zf, zl⟩ := twelve_cells hx1
  obtain ⟨⟨y0, y1, y2, y3, y4, y5, y6, y7, y8, y9, y10, y11⟩, yf, yl⟩ := twelve_cells hy1
  have HBB : Hid (Below w.heap.size w w1 ∧ w1.heap[w.heap.size + 1]? = some (.cells zeroM 24 (0, 0)) ∧ IntsAt w1 (.slice B blk.length cb) blk) := ⟨hbb1, hy1, (HA.out _ hbb1).2⟩
  clear hy1 hx1 hbb1 hb1 HC HX HW
  dsimp only
  go_wp2_with fail
  refine (wordMay_any _ _).mono ?_
  rintro e w9 ⟨rfl, rfl⟩
  rw [HV.out]
  dsimp only
  go_wp2_with fail
  refine (wordsMay_any _ blk _ HBB.out.2.2).mono ?_
  rintro e w8 ⟨rfl, rfl⟩
  rw [HL.out]
  dsimp only
  go_wp2_with fail
  refine (HGC.out _ HBB.out.1).mono ?_
  rintro e w2 ⟨rv', mv', ov', rfl, ho2, hb2⟩
  obtain ⟨D1, e1, D2, f2, D3, f3, g1, g2, g3⟩ := ho2.shape
  subst g1 g2 g3
  have HO : Hid (OwnM w2 _ _ _ _ m) := ho2
  have HB2 : Hid (Below _ _ w2) := hb2
  clear ho2 hb2 z0 z1 z2 z3 z4 z5 z6 z7 z8 z9 z10 z11 zf zl y0 y1 y2 y3 y4 y5 y6 y7 y8 y9 y10 y11 yf yl
  go_wp2_with fail
  refine (HST.out _ _ _ _ _ HO.out HB2.out HBB.out.2.2).mono ?_
  rintro e w3 ⟨rv3, mv3, ov3, rfl, ho3, hb3⟩
  obtain ⟨E1, k1, E2, k2, E3, k3, g1, g2, g3⟩ := ho3.shape
  subst g1 g2 g3
  have hbl : Below w.heap.size w w3 := HBB.out.1.trans ((HB2.out.trans hb3).mono HBB.out.1.size)
  have hy3 : w3.heap[w.heap.size + 1]? = some (.cells zeroM 24 (0, 0)) := by
    have h8 := lt_of_block HBB.out.2.1
    rw [(HB2.out.trans hb3).block _ h8]
    exact HBB.out.2.1
  obtain ⟨⟨y0, y1, y2, y3, y4, y5, y6, y7, y8, y9, y10, y11⟩, yf, yl⟩ := twelve_cells hy3
  have hne : ¬ w.heap.size + 1 = w3.heap.size := by omega
  have HE : Hid (OwnM w3 w.heap.size _ _ _ R.1 ∧ IsBox w3 (w.heap.size + 1) ∧ Below w.heap.size w w3) := ⟨ho3.mono HBB.out.1.size, ⟨_, hy3⟩, hbl⟩
  clear ho3 hb3 hbl hy3 HO HB2 HST HGC
  obtain ⟨⟨R1, R2, R3, R4, R5, R6, R7, R8, R9, R10, R11, R12⟩, RW⟩ := R
  simp only at HE HFT ⊢
  go_wp2_with fail
  refine bodyPost_ret (v := .tuple #[.agg #[.slice E1 R1.length k1, .int .i64 R2, .int .i64 R3, .bool R4, .bool R5, .int .i64 R6, .int .i64 R7, .int .i64 R8, .slice E2 R9.length k2, .slice E3 R10.length k3, .int .i64 R11, .int .i64 R12], .int .i64 RW, .int .i64 0]) (by simp [results, Try.results11, go_sem, y0, y1, y2, y3, y4, y5, y6, y7, y8, y9, y10, y11, yl]) rfl ?_
  rw [HN.out]
  exact stepAns_ok (M := ⟨R1, R2, R3, R4, R5, R6, R7, R8, R9, R10, R11, R12⟩) ((HE.out.1.set12 HE.out.2.1 _ _ _ _ _ _ _ _ _ _ _ _).below (below_alloc _ _)) HFT.out ((below_set12 HE.out.2.2 (by omega) _ _ _ _ _ _ _ _ _ _ _ _).alloc (by simp; omega) _)

set_option maxRecDepth 20000 in
set_option maxHeartbeats 4000000 in
theorem SteppedOf_vals (m : Mach) (rv mv ov : Value) (irq : Bool) (B : Option Addr) (cb : Nat) (blk : List Int) (value : Int) (w : World) (ha : MachAt w rv mv ov m) (hb : IntsAt w (.slice B blk.length cb) blk) (h1 : m.may = true) (h2 : blk.length = 16) (h3 : wordB value = false) :
    Calls Try.prog 11 #[.agg (m.cells rv mv ov), .bool irq, .slice B blk.length cb, .int .i64 value] w fun e w' => StepAns w (stepA m irq blk value) e w' := by
  obtain ⟨b0, b1, b2⟩ := two_boxes (Below.refl (((w.alloc (.cells (m.cells rv mv ov) 24)).alloc (.cells zeroM 24)).heap.size) ((w.alloc (.cells (m.cells rv mv ov) 24)).alloc (.cells zeroM 24)))
  have hcs := MachineMay_any m rv mv ov ((w.alloc (.cells (m.cells rv mv ov) 24)).alloc (.cells zeroM 24)) (ha.regs.below b2) (ha.mem.below b2) (ha.out.below b2)
  obtain ⟨W, hW⟩ : ∃ W, W = (w.alloc (.cells (m.cells rv mv ov) 24)).alloc (.cells zeroM 24) := ⟨_, rfl⟩
  rw [← hW] at b0 b1 b2 hcs
  have HW : Hid (W = (w.alloc (.cells (m.cells rv mv ov) 24)).alloc (.cells zeroM 24)) := hW
  have HX : Hid (W.heap[w.heap.size]? = some (.cells (m.cells rv mv ov) 24 (0, 0)) ∧ W.heap[w.heap.size + 1]? = some (.cells zeroM 24 (0, 0)) ∧ Below w.heap.size w W) := ⟨b0, b1, b2⟩
  have HA : Hid (∀ W, Below w.heap.size w W → MachAt W rv mv ov m ∧ IntsAt W (.slice B blk.length cb) blk) := fun W h => ⟨ha.below h, hb.below h⟩
  obtain ⟨A1, c1, A2, c2, A3, c3, rfl, rfl, rfl⟩ := ha.shape
  rw [h1] at hcs
  have HC : Hid (Calls Try.prog 25 #[.agg (m.cells (.slice A1 m.regs.length c1) (.slice A2 m.mem.length c2) (.slice A3 m.out.length c3))] W fun e w' => e = .returned (.bool true) ∧ Below W.heap.size W w') := hcs
  have e2 : (decide (blk.length ≠ 0) && decide (blk.length ≠ 16)) = false := by simp [h2]
  have d0 : ((blk.length : Int) != 0) = true := by simp [h2]
  have d1 : ((blk.length : Int) != 16) = false := by simp [h2]
  have HV : Hid (wordB value = false) := h3
  have HN : Hid (stepA m irq blk value = (noM, 0, 2)) := by show _ = _; simp only [stepA, stepNo, h1, e2, h3]; simp
  clear ha hb b0 b1 b2 hcs hW h1 h2 e2 h3
  simp only [Mach.cells] at HW HX HC HA ⊢
  go_enter Try.func11, Try.ntmps11
  go_wp2_with fail
  rw [← HW.out]
  refine HC.out.mono ?_
  rintro e w1 ⟨rfl, hb1⟩
  obtain ⟨hx1, hbb1⟩ := box_below HX.out.1 HX.out.2.2 hb1
  obtain ⟨hy1, -⟩ := box_below HX.out.2.1 HX.out.2.2 hb1
  obtain ⟨⟨z0, z1, z2, z3, z4, z5, z6, z7, z8, z9, z10, z11⟩, zf, zl⟩ := twelve_cells hx1
  obtain ⟨⟨y0, y1, y2, y3, y4, y5, y6, y7, y8, y9, y10, y11⟩, yf, yl⟩ := twelve_cells hy1
  have HBB : Hid (Below w.heap.size w w1 ∧ w1.heap[w.heap.size + 1]? = some (.cells zeroM 24 (0, 0)) ∧ IntsAt w1 (.slice B blk.length cb) blk) := ⟨hbb1, hy1, (HA.out _ hbb1).2⟩
  clear hy1 hx1 hbb1 hb1 HC HX HW
  dsimp only
  go_wp2_with fail
  refine (wordMay_any _ _).mono ?_
  rintro e w9 ⟨rfl, rfl⟩
  rw [HV.out]
  dsimp only
  go_wp2_with fail
  refine bodyPost_ret (v := .tuple #[.agg zeroM, .int .i64 0, .int .i64 2]) (by simp [results, Try.results11, go_sem, y0, y1, y2, y3, y4, y5, y6, y7, y8, y9, y10, y11]) rfl ?_
  rw [HN.out]
  exact stepAns_no (below_set12 HBB.out.1 (by omega) _ _ _ _ _ _ _ _ _ _ _ _)

set_option maxRecDepth 20000 in
set_option maxHeartbeats 4000000 in
theorem SteppedOf_blks (m : Mach) (rv mv ov : Value) (irq : Bool) (B : Option Addr) (cb : Nat) (blk : List Int) (value : Int) (w : World) (ha : MachAt w rv mv ov m) (hb : IntsAt w (.slice B blk.length cb) blk) (h1 : m.may = true) (h2 : blk.length = 16) (h3 : wordB value = true) (h4 : allB blk = false) :
    Calls Try.prog 11 #[.agg (m.cells rv mv ov), .bool irq, .slice B blk.length cb, .int .i64 value] w fun e w' => StepAns w (stepA m irq blk value) e w' := by
  obtain ⟨b0, b1, b2⟩ := two_boxes (Below.refl (((w.alloc (.cells (m.cells rv mv ov) 24)).alloc (.cells zeroM 24)).heap.size) ((w.alloc (.cells (m.cells rv mv ov) 24)).alloc (.cells zeroM 24)))
  have hcs := MachineMay_any m rv mv ov ((w.alloc (.cells (m.cells rv mv ov) 24)).alloc (.cells zeroM 24)) (ha.regs.below b2) (ha.mem.below b2) (ha.out.below b2)
  obtain ⟨W, hW⟩ : ∃ W, W = (w.alloc (.cells (m.cells rv mv ov) 24)).alloc (.cells zeroM 24) := ⟨_, rfl⟩
  rw [← hW] at b0 b1 b2 hcs
  have HW : Hid (W = (w.alloc (.cells (m.cells rv mv ov) 24)).alloc (.cells zeroM 24)) := hW
  have HX : Hid (W.heap[w.heap.size]? = some (.cells (m.cells rv mv ov) 24 (0, 0)) ∧ W.heap[w.heap.size + 1]? = some (.cells zeroM 24 (0, 0)) ∧ Below w.heap.size w W) := ⟨b0, b1, b2⟩
  have HA : Hid (∀ W, Below w.heap.size w W → MachAt W rv mv ov m ∧ IntsAt W (.slice B blk.length cb) blk) := fun W h => ⟨ha.below h, hb.below h⟩
  obtain ⟨A1, c1, A2, c2, A3, c3, rfl, rfl, rfl⟩ := ha.shape
  rw [h1] at hcs
  have HC : Hid (Calls Try.prog 25 #[.agg (m.cells (.slice A1 m.regs.length c1) (.slice A2 m.mem.length c2) (.slice A3 m.out.length c3))] W fun e w' => e = .returned (.bool true) ∧ Below W.heap.size W w') := hcs
  have e2 : (decide (blk.length ≠ 0) && decide (blk.length ≠ 16)) = false := by simp [h2]
  have d0 : ((blk.length : Int) != 0) = true := by simp [h2]
  have d1 : ((blk.length : Int) != 16) = false := by simp [h2]
  have HV : Hid (wordB value = true) := h3
  have HL : Hid (allB blk = false) := h4
  have HN : Hid (stepA m irq blk value = (noM, 0, 2)) := by show _ = _; simp only [stepA, stepNo, h1, e2, h4]; simp
  clear ha hb b0 b1 b2 hcs hW h1 h2 e2 h3 h4
  simp only [Mach.cells] at HW HX HC HA ⊢
  go_enter Try.func11, Try.ntmps11
  go_wp2_with fail
  rw [← HW.out]
  refine HC.out.mono ?_
  rintro e w1 ⟨rfl, hb1⟩
  obtain ⟨hx1, hbb1⟩ := box_below HX.out.1 HX.out.2.2 hb1
  obtain ⟨hy1, -⟩ := box_below HX.out.2.1 HX.out.2.2 hb1
  obtain ⟨⟨z0, z1, z2, z3, z4, z5, z6, z7, z8, z9, z10, z11⟩, zf, zl⟩ := twelve_cells hx1
  obtain ⟨⟨y0, y1, y2, y3, y4, y5, y6, y7, y8, y9, y10, y11⟩, yf, yl⟩ := twelve_cells hy1
  have HBB : Hid (Below w.heap.size w w1 ∧ w1.heap[w.heap.size + 1]? = some (.cells zeroM 24 (0, 0)) ∧ IntsAt w1 (.slice B blk.length cb) blk) := ⟨hbb1, hy1, (HA.out _ hbb1).2⟩
  clear hy1 hx1 hbb1 hb1 HC HX HW
  dsimp only
  go_wp2_with fail
  refine (wordMay_any _ _).mono ?_
  rintro e w9 ⟨rfl, rfl⟩
  rw [HV.out]
  dsimp only
  go_wp2_with fail
  refine (wordsMay_any _ blk _ HBB.out.2.2).mono ?_
  rintro e w8 ⟨rfl, rfl⟩
  rw [HL.out]
  dsimp only
  go_wp2_with fail
  refine bodyPost_ret (v := .tuple #[.agg zeroM, .int .i64 0, .int .i64 2]) (by simp [results, Try.results11, go_sem, y0, y1, y2, y3, y4, y5, y6, y7, y8, y9, y10, y11]) rfl ?_
  rw [HN.out]
  exact stepAns_no (below_set12 HBB.out.1 (by omega) _ _ _ _ _ _ _ _ _ _ _ _)

set_option maxRecDepth 20000 in
set_option maxHeartbeats 4000000 in
theorem SteppedOf_cnts (m : Mach) (rv mv ov : Value) (irq : Bool) (B : Option Addr) (cb : Nat) (blk : List Int) (value : Int) (w : World) (ha : MachAt w rv mv ov m) (hb : IntsAt w (.slice B blk.length cb) blk) (h1 : m.may = true) (h2 : blk.length = 16) (h3 : wordB value = true) (h4 : allB blk = true) (h5 : m.count = 1099511627776) :
    Calls Try.prog 11 #[.agg (m.cells rv mv ov), .bool irq, .slice B blk.length cb, .int .i64 value] w fun e w' => StepAns w (stepA m irq blk value) e w' := by
  obtain ⟨b0, b1, b2⟩ := two_boxes (Below.refl (((w.alloc (.cells (m.cells rv mv ov) 24)).alloc (.cells zeroM 24)).heap.size) ((w.alloc (.cells (m.cells rv mv ov) 24)).alloc (.cells zeroM 24)))
  have hcs := MachineMay_any m rv mv ov ((w.alloc (.cells (m.cells rv mv ov) 24)).alloc (.cells zeroM 24)) (ha.regs.below b2) (ha.mem.below b2) (ha.out.below b2)
  obtain ⟨W, hW⟩ : ∃ W, W = (w.alloc (.cells (m.cells rv mv ov) 24)).alloc (.cells zeroM 24) := ⟨_, rfl⟩
  rw [← hW] at b0 b1 b2 hcs
  have HW : Hid (W = (w.alloc (.cells (m.cells rv mv ov) 24)).alloc (.cells zeroM 24)) := hW
  have HX : Hid (W.heap[w.heap.size]? = some (.cells (m.cells rv mv ov) 24 (0, 0)) ∧ W.heap[w.heap.size + 1]? = some (.cells zeroM 24 (0, 0)) ∧ Below w.heap.size w W) := ⟨b0, b1, b2⟩
  have HA : Hid (∀ W, Below w.heap.size w W → MachAt W rv mv ov m ∧ IntsAt W (.slice B blk.length cb) blk) := fun W h => ⟨ha.below h, hb.below h⟩
  obtain ⟨A1, c1, A2, c2, A3, c3, rfl, rfl, rfl⟩ := ha.shape
  rw [h1] at hcs
  have HC : Hid (Calls Try.prog 25 #[.agg (m.cells (.slice A1 m.regs.length c1) (.slice A2 m.mem.length c2) (.slice A3 m.out.length c3))] W fun e w' => e = .returned (.bool true) ∧ Below W.heap.size W w') := hcs
  have e2 : (decide (blk.length ≠ 0) && decide (blk.length ≠ 16)) = false := by simp [h2]
  have d0 : ((blk.length : Int) != 0) = true := by simp [h2]
  have d1 : ((blk.length : Int) != 16) = false := by simp [h2]
  have HV : Hid (wordB value = true) := h3
  have HL : Hid (allB blk = true) := h4
  have d5 : (m.count == 1099511627776) = true := by simp [h5]
  have HN : Hid (stepA m irq blk value = (noM, 0, 2)) := by show _ = _; simp only [stepA, stepNo, h1, e2, d5]; simp
  clear ha hb b0 b1 b2 hcs hW h1 h2 e2 h3 h4 h5
  simp only [Mach.cells] at HW HX HC HA ⊢
  go_enter Try.func11, Try.ntmps11
  go_wp2_with fail
  rw [← HW.out]
  refine HC.out.mono ?_
  rintro e w1 ⟨rfl, hb1⟩
  obtain ⟨hx1, hbb1⟩ := box_below HX.out.1 HX.out.2.2 hb1
  obtain ⟨hy1, -⟩ := box_below HX.out.2.1 HX.out.2.2 hb1
  obtain ⟨⟨z0, z1, z2, z3, z4, z5, z6, z7, z8, z9, z10, z11⟩, zf, zl⟩ := twelve_cells hx1
  obtain ⟨⟨y0, y1, y2, y3, y4, y5, y6, y7, y8, y9, y10, y11⟩, yf, yl⟩ := twelve_cells hy1
  have HBB : Hid (Below w.heap.size w w1 ∧ w1.heap[w.heap.size + 1]? = some (.cells zeroM 24 (0, 0)) ∧ IntsAt w1 (.slice B blk.length cb) blk) := ⟨hbb1, hy1, (HA.out _ hbb1).2⟩
  clear hy1 hx1 hbb1 hb1 HC HX HW
  dsimp only
  go_wp2_with fail
  refine (wordMay_any _ _).mono ?_
  rintro e w9 ⟨rfl, rfl⟩
  rw [HV.out]
  dsimp only
  go_wp2_with fail
  refine (wordsMay_any _ blk _ HBB.out.2.2).mono ?_
  rintro e w8 ⟨rfl, rfl⟩
  rw [HL.out]
  dsimp only
  go_wp2_with fail
  refine bodyPost_ret (v := .tuple #[.agg zeroM, .int .i64 0, .int .i64 2]) (by simp [results, Try.results11, go_sem, y0, y1, y2, y3, y4, y5, y6, y7, y8, y9, y10, y11]) rfl ?_
  rw [HN.out]
  exact stepAns_no (below_set12 HBB.out.1 (by omega) _ _ _ _ _ _ _ _ _ _ _ _)

set_option maxRecDepth 20000 in
set_option maxHeartbeats 4000000 in
theorem SteppedOf_oks (m : Mach) (rv mv ov : Value) (irq : Bool) (B : Option Addr) (cb : Nat) (blk : List Int) (value : Int) (w : World) (ha : MachAt w rv mv ov m) (hb : IntsAt w (.slice B blk.length cb) blk) (h1 : m.may = true) (h2 : blk.length = 16) (h3 : wordB value = true) (h4 : allB blk = true) (h5 : m.count < 1099511627776) :
    Calls Try.prog 11 #[.agg (m.cells rv mv ov), .bool irq, .slice B blk.length cb, .int .i64 value] w fun e w' => StepAns w (stepA m irq blk value) e w' := by
  obtain ⟨b0, b1, b2⟩ := two_boxes (Below.refl (((w.alloc (.cells (m.cells rv mv ov) 24)).alloc (.cells zeroM 24)).heap.size) ((w.alloc (.cells (m.cells rv mv ov) 24)).alloc (.cells zeroM 24)))
  have hcs := MachineMay_any m rv mv ov ((w.alloc (.cells (m.cells rv mv ov) 24)).alloc (.cells zeroM 24)) (ha.regs.below b2) (ha.mem.below b2) (ha.out.below b2)
  obtain ⟨W, hW⟩ : ∃ W, W = (w.alloc (.cells (m.cells rv mv ov) 24)).alloc (.cells zeroM 24) := ⟨_, rfl⟩
  rw [← hW] at b0 b1 b2 hcs
  have HW : Hid (W = (w.alloc (.cells (m.cells rv mv ov) 24)).alloc (.cells zeroM 24)) := hW
  have HX : Hid (W.heap[w.heap.size]? = some (.cells (m.cells rv mv ov) 24 (0, 0)) ∧ W.heap[w.heap.size + 1]? = some (.cells zeroM 24 (0, 0)) ∧ Below w.heap.size w W) := ⟨b0, b1, b2⟩
  have HA : Hid (∀ W, Below w.heap.size w W → MachAt W rv mv ov m ∧ IntsAt W (.slice B blk.length cb) blk) := fun W h => ⟨ha.below h, hb.below h⟩
  obtain ⟨A1, c1, A2, c2, A3, c3, rfl, rfl, rfl⟩ := ha.shape
  have hno : stepNo m blk value = 0 := by
    have d5 : (m.count == 1099511627776) = false := by simp only [beq_eq_false_iff_ne]; omega
    simp [stepNo, h1, h2, h3, h4, d5]
  rw [h1] at hcs
  have HC : Hid (Calls Try.prog 25 #[.agg (m.cells (.slice A1 m.regs.length c1) (.slice A2 m.mem.length c2) (.slice A3 m.out.length c3))] W fun e w' => e = .returned (.bool true) ∧ Below W.heap.size W w') := hcs
  have d0 : ((blk.length : Int) != 0) = true := by simp [h2]
  have d1 : ((blk.length : Int) != 16) = false := by simp [h2]
  have HV : Hid (wordB value = true) := h3
  have HL : Hid (allB blk = true) := h4
  have d5 : (m.count == 1099511627776) = false := by simp only [beq_eq_false_iff_ne]; omega
  have HFT0 : Hid (MachFits (m.step irq blk value).1) := step_fits hno
  have hmp := mayP_iff.1 h1
  have HGC : Hid (∀ W, Below w.heap.size w W → Calls Try.prog 9 #[.agg (m.cells (.slice A1 m.regs.length c1) (.slice A2 m.mem.length c2) (.slice A3 m.out.length c3))] W fun e w' => ∃ rv' mv' ov', e = .returned (.agg (m.cells rv' mv' ov')) ∧ OwnM w' W.heap.size rv' mv' ov' m ∧ Below W.heap.size W w') := fun W hB => GuestCopy_any m _ _ _ W (ha.below hB)
  obtain ⟨R, hR⟩ : ∃ R, R = m.step irq blk value := ⟨_, rfl⟩
  have HST : Hid (∀ w1 w2 rv mv ov, OwnM w2 w1.heap.size rv mv ov m → Below w1.heap.size w1 w2 → IntsAt w1 (.slice B blk.length cb) blk → Calls Try.prog 28 #[.agg (m.cells rv mv ov), .bool irq, .slice B blk.length cb, .int .i64 value] w2 fun e w' => ∃ rv' mv' ov', e = .returned (.tuple #[.agg (R.1.cells rv' mv' ov'), .int .i64 R.2]) ∧ OwnM w' w1.heap.size rv' mv' ov' R.1 ∧ Below w1.heap.size w2 w') := fun w1 w2 rv mv ov hO hB hI => by
    rw [hR]
    exact stepped_any m rv mv ov irq B cb blk value w2 w1.heap.size hO hmp hB.size (hI.old.below hB) (by omega) h4 h5
  have HN : Hid (stepA m irq blk value = (R.1, R.2, 0)) := by show _ = _; rw [stepA, if_pos hno, hR]
  have HFT : Hid (MachFits R.1) := by rw [hR]; exact HFT0.out
  clear ha hb b0 b1 b2 hcs hW h1 h2 h3 h4 h5 hno hmp hR HFT0
  simp only [Mach.cells] at HW HX HC HA HGC HST ⊢
  go_enter Try.func11, Try.ntmps11
  go_wp2_with fail
  rw [← HW.out]
  refine HC.out.mono ?_
  rintro e w1 ⟨rfl, hb1⟩
  obtain ⟨hx1, hbb1⟩ := box_below HX.out.1 HX.out.2.2 hb1
  obtain ⟨hy1, -⟩ := box_below HX.out.2.1 HX.out.2.2 hb1
  obtain ⟨⟨z0, z1, z2, z3, z4, z5, z6, z7, z8, z9, z10, z11⟩, zf, zl⟩ := twelve_cells hx1
  obtain ⟨⟨y0, y1, y2, y3, y4, y5, y6, y7, y8, y9, y10, y11⟩, yf, yl⟩ := twelve_cells hy1
  have HBB : Hid (Below w.heap.size w w1 ∧ w1.heap[w.heap.size + 1]? = some (.cells zeroM 24 (0, 0)) ∧ IntsAt w1 (.slice B blk.length cb) blk) := ⟨hbb1, hy1, (HA.out _ hbb1).2⟩
  clear hy1 hx1 hbb1 hb1 HC HX HW
  dsimp only
  go_wp2_with fail
  refine (wordMay_any _ _).mono ?_
  rintro e w9 ⟨rfl, rfl⟩
  rw [HV.out]
  dsimp only
  go_wp2_with fail
  refine (wordsMay_any _ blk _ HBB.out.2.2).mono ?_
  rintro e w8 ⟨rfl, rfl⟩
  rw [HL.out]
  dsimp only
  go_wp2_with fail
  refine (HGC.out _ HBB.out.1).mono ?_
  rintro e w2 ⟨rv', mv', ov', rfl, ho2, hb2⟩
  obtain ⟨D1, e1, D2, f2, D3, f3, g1, g2, g3⟩ := ho2.shape
  subst g1 g2 g3
  have HO : Hid (OwnM w2 _ _ _ _ m) := ho2
  have HB2 : Hid (Below _ _ w2) := hb2
  clear ho2 hb2 z0 z1 z2 z3 z4 z5 z6 z7 z8 z9 z10 z11 zf zl y0 y1 y2 y3 y4 y5 y6 y7 y8 y9 y10 y11 yf yl
  go_wp2_with fail
  refine (HST.out _ _ _ _ _ HO.out HB2.out HBB.out.2.2).mono ?_
  rintro e w3 ⟨rv3, mv3, ov3, rfl, ho3, hb3⟩
  obtain ⟨E1, k1, E2, k2, E3, k3, g1, g2, g3⟩ := ho3.shape
  subst g1 g2 g3
  have hbl : Below w.heap.size w w3 := HBB.out.1.trans ((HB2.out.trans hb3).mono HBB.out.1.size)
  have hy3 : w3.heap[w.heap.size + 1]? = some (.cells zeroM 24 (0, 0)) := by
    have h8 := lt_of_block HBB.out.2.1
    rw [(HB2.out.trans hb3).block _ h8]
    exact HBB.out.2.1
  obtain ⟨⟨y0, y1, y2, y3, y4, y5, y6, y7, y8, y9, y10, y11⟩, yf, yl⟩ := twelve_cells hy3
  have hne : ¬ w.heap.size + 1 = w3.heap.size := by omega
  have HE : Hid (OwnM w3 w.heap.size _ _ _ R.1 ∧ IsBox w3 (w.heap.size + 1) ∧ Below w.heap.size w w3) := ⟨ho3.mono HBB.out.1.size, ⟨_, hy3⟩, hbl⟩
  clear ho3 hb3 hbl hy3 HO HB2 HST HGC
  obtain ⟨⟨R1, R2, R3, R4, R5, R6, R7, R8, R9, R10, R11, R12⟩, RW⟩ := R
  simp only at HE HFT ⊢
  go_wp2_with fail
  refine bodyPost_ret (v := .tuple #[.agg #[.slice E1 R1.length k1, .int .i64 R2, .int .i64 R3, .bool R4, .bool R5, .int .i64 R6, .int .i64 R7, .int .i64 R8, .slice E2 R9.length k2, .slice E3 R10.length k3, .int .i64 R11, .int .i64 R12], .int .i64 RW, .int .i64 0]) (by simp [results, Try.results11, go_sem, y0, y1, y2, y3, y4, y5, y6, y7, y8, y9, y10, y11, yl]) rfl ?_
  rw [HN.out]
  exact stepAns_ok (M := ⟨R1, R2, R3, R4, R5, R6, R7, R8, R9, R10, R11, R12⟩) ((HE.out.1.set12 HE.out.2.1 _ _ _ _ _ _ _ _ _ _ _ _).below (below_alloc _ _)) HFT.out ((below_set12 HE.out.2.2 (by omega) _ _ _ _ _ _ _ _ _ _ _ _).alloc (by simp; omega) _)

theorem SteppedOf_all (m : Mach) (rv mv ov : Value) (irq : Bool) (B : Option Addr) (cb : Nat) (blk : List Int) (value : Int) (w : World) (ha : MachAt w rv mv ov m) (hb : IntsAt w (.slice B blk.length cb) blk) :
    Calls Try.prog 11 #[.agg (m.cells rv mv ov), .bool irq, .slice B blk.length cb, .int .i64 value] w fun e w' => StepAns w (stepA m irq blk value) e w' := by
  cases h1 : m.may with
  | false => exact SteppedOf_may m rv mv ov irq B cb blk value w ha hb h1
  | true =>
  by_cases h2 : blk.length ≠ 0 ∧ blk.length ≠ 16
  · exact SteppedOf_size m rv mv ov irq B cb blk value w ha hb h1 h2
  have hct := (mayP_iff.1 h1).count
  rcases (by omega : blk.length = 0 ∨ blk.length = 16) with h2 | h2
  · cases h3 : wordB value with
    | false => exact SteppedOf_valz m rv mv ov irq B cb blk value w ha hb h1 h2 h3
    | true =>
    cases h4 : allB blk with
    | false => exact SteppedOf_blkz m rv mv ov irq B cb blk value w ha hb h1 h2 h3 h4
    | true =>
    by_cases h5 : m.count = 1099511627776
    · exact SteppedOf_cntz m rv mv ov irq B cb blk value w ha hb h1 h2 h3 h4 h5
    · exact SteppedOf_okz m rv mv ov irq B cb blk value w ha hb h1 h2 h3 h4 (by omega)
  · cases h3 : wordB value with
    | false => exact SteppedOf_vals m rv mv ov irq B cb blk value w ha hb h1 h2 h3
    | true =>
    cases h4 : allB blk with
    | false => exact SteppedOf_blks m rv mv ov irq B cb blk value w ha hb h1 h2 h3 h4
    | true =>
    by_cases h5 : m.count = 1099511627776
    · exact SteppedOf_cnts m rv mv ov irq B cb blk value w ha hb h1 h2 h3 h4 h5
    · exact SteppedOf_oks m rv mv ov irq B cb blk value w ha hb h1 h2 h3 h4 (by omega)

end Go.Proofs.Ytlcdefpdahjjead
