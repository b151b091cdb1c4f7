/- Contracts of hourglassref's InstrFault, WordOf, floor and InstrOf: an instruction is a word. -/
import Derived.Test.YtbjlfhpiebokkaaDoorToldCPart
namespace Go.Proofs.YtbjlfhpiebokkaaDoor
open Go.RowKit

set_option maxHeartbeats 1000000 in
theorem InstrFault_any (op a b n : Int) (w : World) :
    Calls Tryd.prog 118 #[.agg #[.int .i64 op, .int .i64 a, .int .i64 b, .int .i64 n]] w fun e w' => e = .returned (.int .i64 (instrNo op a b n)) ∧ Below w.heap.size w w' := by
  cases c0 : inB op 0 15 with
  | false =>
    have HN : Hid (3 = instrNo op a b n) := by show _ = _; simp [instrNo, c0]
    go_enter Tryd.func118, Tryd.ntmps118
    go_wp2_with (go_at_call 32; refine (In_B _ _ _ _).mono ?_; rintro e w' ⟨rfl, rfl⟩)
    go_ret
    exact ⟨ret_int HN.out, below_alloc _ _⟩
  | true =>
  cases c1 : inB a 0 7 with
  | false =>
    have HN : Hid (2 = instrNo op a b n) := by show _ = _; simp [instrNo, c0, c1]
    go_enter Tryd.func118, Tryd.ntmps118
    go_wp2_with (go_at_call 32; refine (In_B _ _ _ _).mono ?_; rintro e w' ⟨rfl, rfl⟩)
    go_ret
    exact ⟨ret_int HN.out, below_alloc _ _⟩
  | true =>
  cases c2 : inB b 0 7 with
  | false =>
    have HN : Hid (2 = instrNo op a b n) := by show _ = _; simp [instrNo, c0, c1, c2]
    go_enter Tryd.func118, Tryd.ntmps118
    go_wp2_with (go_at_call 32; refine (In_B _ _ _ _).mono ?_; rintro e w' ⟨rfl, rfl⟩)
    go_ret
    exact ⟨ret_int HN.out, below_alloc _ _⟩
  | true =>
  cases c3 : inB n (-1048576) 1048575 with
  | false =>
    have HN : Hid (2 = instrNo op a b n) := by show _ = _; simp [instrNo, c0, c1, c2, c3]
    go_enter Tryd.func118, Tryd.ntmps118
    go_wp2_with (go_at_call 32; refine (In_B _ _ _ _).mono ?_; rintro e w' ⟨rfl, rfl⟩)
    go_ret
    exact ⟨ret_int HN.out, below_alloc _ _⟩
  | true =>
  cases c4 : op == 2 with
  | true =>
    have c6 : (op == 12) = false := by simp at c4; simp [c4]
    cases c5 : inB n 0 7 with
    | false =>
      have HN : Hid (4 = instrNo op a b n) := by show _ = _; simp only [instrNo, c0, c1, c2, c3, c4, c5]; rfl
      go_enter Tryd.func118, Tryd.ntmps118
      go_wp2_with (go_at_call 32; refine (In_B _ _ _ _).mono ?_; rintro e w' ⟨rfl, rfl⟩)
      go_ret
      exact ⟨ret_int HN.out, below_alloc _ _⟩
    | true =>
      have HN : Hid (0 = instrNo op a b n) := by show _ = _; simp only [instrNo, c0, c1, c2, c3, c4, c5, c6]; rfl
      go_enter Tryd.func118, Tryd.ntmps118
      go_wp2_with (go_at_call 32; refine (In_B _ _ _ _).mono ?_; rintro e w' ⟨rfl, rfl⟩)
      go_ret
      exact ⟨ret_int HN.out, below_alloc _ _⟩
  | false =>
  cases c7 : op == 3 with
  | true =>
    have c6 : (op == 12) = false := by simp at c7; simp [c7]
    cases c5 : inB n 0 7 with
    | false =>
      have HN : Hid (4 = instrNo op a b n) := by show _ = _; simp only [instrNo, c0, c1, c2, c3, c4, c7, c5]; rfl
      go_enter Tryd.func118, Tryd.ntmps118
      go_wp2_with (go_at_call 32; refine (In_B _ _ _ _).mono ?_; rintro e w' ⟨rfl, rfl⟩)
      go_ret
      exact ⟨ret_int HN.out, below_alloc _ _⟩
    | true =>
      have HN : Hid (0 = instrNo op a b n) := by show _ = _; simp only [instrNo, c0, c1, c2, c3, c4, c5, c6, c7]; rfl
      go_enter Tryd.func118, Tryd.ntmps118
      go_wp2_with (go_at_call 32; refine (In_B _ _ _ _).mono ?_; rintro e w' ⟨rfl, rfl⟩)
      go_ret
      exact ⟨ret_int HN.out, below_alloc _ _⟩
  | false =>
  cases c6 : op == 12 with
  | true =>
    cases c5 : inB n 0 1 with
    | false =>
      have HN : Hid (4 = instrNo op a b n) := by show _ = _; simp only [instrNo, c0, c1, c2, c3, c4, c7, c5, c6]; rfl
      go_enter Tryd.func118, Tryd.ntmps118
      go_wp2_with (go_at_call 32; refine (In_B _ _ _ _).mono ?_; rintro e w' ⟨rfl, rfl⟩)
      go_ret
      exact ⟨ret_int HN.out, below_alloc _ _⟩
    | true =>
      have HN : Hid (0 = instrNo op a b n) := by show _ = _; simp only [instrNo, c0, c1, c2, c3, c4, c5, c6, c7]; rfl
      go_enter Tryd.func118, Tryd.ntmps118
      go_wp2_with (go_at_call 32; refine (In_B _ _ _ _).mono ?_; rintro e w' ⟨rfl, rfl⟩)
      go_ret
      exact ⟨ret_int HN.out, below_alloc _ _⟩
  | false =>
    have HN : Hid (0 = instrNo op a b n) := by show _ = _; simp only [instrNo, c0, c1, c2, c3, c4, c6, c7]; rfl
    go_enter Tryd.func118, Tryd.ntmps118
    go_wp2_with (go_at_call 32; refine (In_B _ _ _ _).mono ?_; rintro e w' ⟨rfl, rfl⟩)
    go_ret
    exact ⟨ret_int HN.out, below_alloc _ _⟩

end Go.Proofs.YtbjlfhpiebokkaaDoor

/- Contract of hourglassref.InstrOf: a word is an instruction. -/

namespace Go.Proofs.YtbjlfhpiebokkaaDoor
open Go.RowKit

set_option maxHeartbeats 400000 in
theorem floor_any (n : Int) (w : World) (hn : -9223372036854775808 ≤ n ∧ n ≤ 9223372036854775807) :
    Calls Tryd.prog 117 #[.int .i64 n, .int .i64 1024] w fun e w' => e = .returned (.int .i64 (n / 1024)) ∧ w' = w := by
  obtain ⟨n1, n2⟩ := hn
  have HD := tdiv_sign n 1024
  have HM := tmod_sign n 1024
  by_cases h : n.tmod 1024 < 0
  · have HE : Hid (n.tdiv 1024 - 1 = n / 1024) := by show _ = _; omega
    have h1 : n.tdiv 1024 ≤ 9007199254740992 := by omega
    have h2 : -9007199254740992 ≤ n.tdiv 1024 := by omega
    clear HD HM
    go_enter Tryd.func117, Tryd.ntmps117
    go_wp2
    go_ret
    exact ⟨ret_int HE.out, rfl⟩
  · have HE : Hid (n.tdiv 1024 = n / 1024) := by show _ = _; omega
    clear HD HM
    go_enter Tryd.func117, Tryd.ntmps117
    go_wp2
    go_ret
    exact ⟨ret_int HE.out, rfl⟩

set_option maxHeartbeats 400000 in
theorem InstrOf_any (x : Int) (w : World) (hx : -9223372036854775808 ≤ x ∧ x ≤ 9223372036854775807) :
    Calls Tryd.prog 102 #[.int .i64 x] w fun e w' => e = .returned (.tuple #[decI x, .int .i64 (decNo x)]) ∧ Below w.heap.size w w' := by
  obtain ⟨x1, x2⟩ := hx
  have y1 : -9007199254740992 ≤ x / 1024 := by omega
  have y2 : x / 1024 ≤ 9007199254740991 := by omega
  have y3 : x - 1024 * (x / 1024) ≤ 1023 := by omega
  have y4 : 0 ≤ x - 1024 * (x / 1024) := by omega
  obtain ⟨e1, e2, e3⟩ := low_parts x
  have HE : Hid ((x - 1024 * (x / 1024)) % 16 = x % 16 ∧ (x - 1024 * (x / 1024)) / 16 % 8 = x / 16 % 8 ∧ (x - 1024 * (x / 1024)) / 128 = x / 128 % 8) := ⟨e1, e2, e3⟩
  clear e1 e2 e3
  by_cases h : decNo x = 0
  · have HN : Hid (instrNo (x % 16) (x / 16 % 8) (x / 128 % 8) (x / 1024) = 0) := h
    have HI : Hid (decI x = .agg #[.int .i64 (x % 16), .int .i64 (x / 16 % 8), .int .i64 (x / 128 % 8), .int .i64 (x / 1024)]) := by show _ = _; simp [decI, h]
    have HD : Hid (decNo x = 0) := h
    clear h
    go_enter Tryd.func102, Tryd.ntmps102
    go_wp2_with (go_at_call 117; refine (floor_any _ _ ⟨x1, x2⟩).mono ?_; rintro e w' ⟨rfl, rfl⟩)
    rw [HE.out.1, HE.out.2.1, HE.out.2.2]
    refine (InstrFault_any _ _ _ _ _).mono ?_
    rw [HN.out]
    rintro e w1 ⟨rfl, hb1⟩
    obtain ⟨hz, hy, hb⟩ := two_boxes hb1
    obtain ⟨hz0, hz1, hz2, hz3, hzf, hzl⟩ := four_cells hz
    obtain ⟨hy0, hy1, hy2, hy3, hyf, hyl⟩ := four_cells hy
    clear hb1 hz hy
    go_wp2
    refine bodyPost_ret (v := .tuple #[.agg #[.int .i64 (x % 16), .int .i64 (x / 16 % 8), .int .i64 (x / 128 % 8), .int .i64 (x / 1024)], .int .i64 0]) (by simp [results, Tryd.results102, go_sem, hz0, hz1, hz2, hz3]) rfl ?_
    exact ⟨by rw [HI.out, HD.out], (((hb.setCell (by simp) _).setCell (by simp) _).setCell (by simp) _).setCell (by simp) _⟩
  · have HI : Hid (decI x = .agg #[.int .i64 0, .int .i64 0, .int .i64 0, .int .i64 0]) := by show _ = _; simp [decI, h]
    have hne : (decNo x != 0) = true := by simpa using h
    obtain ⟨y, hg⟩ : ∃ y, y = decNo x := ⟨_, rfl⟩
    rw [← hg] at hne
    have HD : Hid (y = decNo x) := hg
    have HN : Hid (instrNo (x % 16) (x / 16 % 8) (x / 128 % 8) (x / 1024) = y) := hg.symm
    clear h hg
    go_enter Tryd.func102, Tryd.ntmps102
    go_wp2_with (go_at_call 117; refine (floor_any _ _ ⟨x1, x2⟩).mono ?_; rintro e w' ⟨rfl, rfl⟩)
    rw [HE.out.1, HE.out.2.1, HE.out.2.2]
    refine (InstrFault_any _ _ _ _ _).mono ?_
    rw [HN.out]
    rintro e w1 ⟨rfl, hb1⟩
    obtain ⟨hz, hy, hb⟩ := two_boxes hb1
    obtain ⟨hz0, hz1, hz2, hz3, hzf, hzl⟩ := four_cells hz
    obtain ⟨hy0, hy1, hy2, hy3, hyf, hyl⟩ := four_cells hy
    clear hb1 hz hy
    go_wp2
    refine bodyPost_ret (v := .tuple #[.agg #[.int .i64 0, .int .i64 0, .int .i64 0, .int .i64 0], .int .i64 y]) (by simp [results, Tryd.results102, go_sem, hz0, hz1, hz2, hz3]) rfl ?_
    first
      | exact ⟨by rw [HI.out, ← HD.out], hb⟩
      | exact ⟨by rw [HI.out, ← HD.out], (((hb.setCell (by simp) _).setCell (by simp) _).setCell (by simp) _).setCell (by simp) _⟩

end Go.Proofs.YtbjlfhpiebokkaaDoor

/- Contract of hourglassref.NextOf: the instruction that comes next. -/

namespace Go.Proofs.YtbjlfhpiebokkaaDoor
open Go.RowKit

set_option maxHeartbeats 2000000 in
theorem NextOf_at (m : Mach) (rv mv ov : Value) (w : World) (ha : MachAt w rv mv ov m) (hm : MayP m) (hE : m.meantE m.pc false ≠ 0) :
    Calls Tryd.prog 64 #[.agg (m.cells rv mv ov)] w fun e w' => e = .returned (.tuple #[.agg zeroI, .int .i64 m.nextE]) ∧ Below w.heap.size w w' := by
  have HM : Hid (∀ W, Below w.heap.size w W → Calls Tryd.prog 66 #[.agg (m.cells rv mv ov), .int .i64 m.pc, .bool false] W fun e w' => e = .returned (.tuple #[.int .i64 (m.meantK m.pc false), .int .i64 (m.meantE m.pc false)]) ∧ Below W.heap.size W w') := fun W hb => meant_any m rv mv ov m.pc false W (ha.below hb) hm.mem hm.table
  have HE : Hid (m.nextE = m.meantE m.pc false) := by show _ = _; simp [Mach.nextE, hE]
  rw [HE.out]
  clear HE
  have d1 : (m.meantE m.pc false != 0) = true := by simpa using hE
  clear hE ha hm
  revert HM d1
  generalize m.meantE m.pc false = E
  generalize m.meantK m.pc false = K
  intro HM d1
  obtain ⟨r, p, k, i, t, a, n, f, m, o, y, q⟩ := m
  simp only [Mach.cells] at *
  go_enter Tryd.func64, Tryd.ntmps64
  go_wp2_with fail
  refine (HM.out _ (below_alloc2 _ _ _)).mono ?_
  rintro e w1 ⟨rfl, hb1⟩
  obtain ⟨hz, hy, hb⟩ := two_boxes hb1
  obtain ⟨y0, y1, y2, y3, yf, yl⟩ := four_cells hy
  clear hb1 hz hy HM
  go_wp2_with fail
  refine bodyPost_ret (v := .tuple #[.agg zeroI, .int .i64 E]) (by simp [results, Tryd.results64, go_sem, y0, y1, y2, y3]) rfl ?_
  first
    | exact ⟨rfl, hb⟩
    | exact ⟨rfl, (((hb.setCell (by simp) _).setCell (by simp) _).setCell (by simp) _).setCell (by simp) _⟩

set_option maxHeartbeats 2000000 in
theorem NextOf_code (m : Mach) (rv mv ov : Value) (w : World) (ha : MachAt w rv mv ov m) (hm : MayP m) (hE : m.meantE m.pc false = 0) (hD : decNo m.nextX ≠ 0) :
    Calls Tryd.prog 64 #[.agg (m.cells rv mv ov)] w fun e w' => e = .returned (.tuple #[.agg zeroI, .int .i64 2]) ∧ Below w.heap.size w w' := by
  have HM : Hid (∀ W, Below w.heap.size w W → Calls Tryd.prog 66 #[.agg (m.cells rv mv ov), .int .i64 m.pc, .bool false] W fun e w' => e = .returned (.tuple #[.int .i64 (m.meantK m.pc false), .int .i64 0]) ∧ Below W.heap.size W w') := fun W hb => by
    have := meant_any m rv mv ov m.pc false W (ha.below hb) hm.mem hm.table
    rwa [hE] at this
  obtain ⟨k1, k2⟩ := meant_bd hE
  obtain ⟨x1, x2⟩ := nextX_bd hm hE
  have HI : Hid (∀ W, Calls Tryd.prog 102 #[.int .i64 m.nextX] W fun e w' => e = .returned (.tuple #[.agg zeroI, .int .i64 (decNo m.nextX)]) ∧ Below W.heap.size W w') := fun W => by
    have := InstrOf_any m.nextX W ⟨by omega, by omega⟩
    rwa [show decI m.nextX = .agg zeroI by simp [decI, hD]] at this
  obtain ⟨A, c, rfl, hl8, hc⟩ := ha.mem
  have hl := hm.mem
  obtain ⟨b, off, rfl, hbs, hcell⟩ := hc (by omega)
  have h1 : w.cell? ⟨b, off + (m.meantK m.pc false).toNat, none⟩ = some (.int .i64 m.nextX) := hcell _ (by omega)
  have k3 : m.meantK m.pc false < (m.mem.length : Int) := by omega
  clear hcell hc hl8 hl k2 ha hm hE x1 x2
  have d1 : (decNo m.nextX != 0) = true := by simpa using hD
  clear hD
  revert d1; revert k3; revert h1; revert HI; revert k1; revert HM
  generalize m.meantK m.pc false = K
  generalize decNo m.nextX = N
  generalize m.nextX = x
  intro HM k1 HI h1 k3 d1
  obtain ⟨r, p, k, i, t, a, n, f, m, o, y, q⟩ := m
  simp only [Mach.cells] at *
  go_enter Tryd.func64, Tryd.ntmps64
  go_wp2_with fail
  refine (HM.out _ (below_alloc2 _ _ _)).mono ?_
  rintro e w1 ⟨rfl, hb1⟩
  obtain ⟨hz, hy, hb⟩ := two_boxes hb1
  obtain ⟨⟨z0, z1, z2, z3, z4, z5, z6, z7, z8, z9, z10, z11⟩, zf, zl⟩ := twelve_cells hz
  rw [← hb.cell (p := ⟨b, off + K.toNat, none⟩) hbs] at h1
  have HY : Hid (w1.heap[w.heap.size + 1]? = some (.cells zeroI 83 (0, 0))) := hy
  clear hb1 hz hy HM
  go_wp2_with fail
  clear z0 z1 z2 z3 z4 z5 z6 z7 z8 z9 z10 z11 zf zl
  refine (HI.out _).mono ?_
  rintro e w2 ⟨rfl, hb2⟩
  have hb3 : Below w.heap.size w w2 := hb.trans (hb2.mono hb.size)
  have hy : w2.heap[w.heap.size + 1]? = some (.cells zeroI 83 (0, 0)) := by rw [hb2.block _ (lt_of_block HY.out)]; exact HY.out
  obtain ⟨y0, y1, y2, y3, yf, yl⟩ := four_cells hy
  clear hb2 hy HY HI hb h1
  go_wp2_with fail
  refine bodyPost_ret (v := .tuple #[.agg zeroI, .int .i64 2]) (by simp [results, Tryd.results64, go_sem, y0, y1, y2, y3, yl]) rfl ?_
  exact ⟨rfl, ((((hb3.setCell (by simp) _).setCell (by simp) _).setCell (by simp) _).setCell (by simp) _).alloc (by simpa using hb3.size) _⟩

set_option maxHeartbeats 2000000 in
theorem NextOf_ok (m : Mach) (rv mv ov : Value) (w : World) (ha : MachAt w rv mv ov m) (hm : MayP m) (hE : m.meantE m.pc false = 0) (hD : decNo m.nextX = 0) :
    Calls Tryd.prog 64 #[.agg (m.cells rv mv ov)] w fun e w' => e = .returned (.tuple #[.agg (instrA m.nextX), .int .i64 0]) ∧ Below w.heap.size w w' := by
  have HM : Hid (∀ W, Below w.heap.size w W → Calls Tryd.prog 66 #[.agg (m.cells rv mv ov), .int .i64 m.pc, .bool false] W fun e w' => e = .returned (.tuple #[.int .i64 (m.meantK m.pc false), .int .i64 0]) ∧ Below W.heap.size W w') := fun W hb => by
    have := meant_any m rv mv ov m.pc false W (ha.below hb) hm.mem hm.table
    rwa [hE] at this
  obtain ⟨k1, k2⟩ := meant_bd hE
  obtain ⟨x1, x2⟩ := nextX_bd hm hE
  have HI : Hid (∀ W, Calls Tryd.prog 102 #[.int .i64 m.nextX] W fun e w' => e = .returned (.tuple #[.agg (instrA m.nextX), .int .i64 0]) ∧ Below W.heap.size W w') := fun W => by
    have := InstrOf_any m.nextX W ⟨by omega, by omega⟩
    rwa [show decI m.nextX = .agg (instrA m.nextX) by simp [decI, hD], hD] at this
  obtain ⟨A, c, rfl, hl8, hc⟩ := ha.mem
  have hl := hm.mem
  obtain ⟨b, off, rfl, hbs, hcell⟩ := hc (by omega)
  have h1 : w.cell? ⟨b, off + (m.meantK m.pc false).toNat, none⟩ = some (.int .i64 m.nextX) := hcell _ (by omega)
  have k3 : m.meantK m.pc false < (m.mem.length : Int) := by omega
  clear hcell hc hl8 hl k2 ha hm hE
  clear hD
  revert x1; revert x2; revert k3; revert h1; revert HI; revert k1; revert HM
  generalize m.meantK m.pc false = K
  generalize m.nextX = x
  intro HM k1 HI h1 k3 x2 x1
  obtain ⟨r, p, k, i, t, a, n, f, m, o, y, q⟩ := m
  simp only [Mach.cells] at *
  go_enter Tryd.func64, Tryd.ntmps64
  go_wp2_with fail
  refine (HM.out _ (below_alloc2 _ _ _)).mono ?_
  rintro e w1 ⟨rfl, hb1⟩
  obtain ⟨hz, hy, hb⟩ := two_boxes hb1
  obtain ⟨⟨z0, z1, z2, z3, z4, z5, z6, z7, z8, z9, z10, z11⟩, zf, zl⟩ := twelve_cells hz
  rw [← hb.cell (p := ⟨b, off + K.toNat, none⟩) hbs] at h1
  have HY : Hid (w1.heap[w.heap.size + 1]? = some (.cells zeroI 83 (0, 0))) := hy
  clear hb1 hz hy HM
  go_wp2_with fail
  clear z0 z1 z2 z3 z4 z5 z6 z7 z8 z9 z10 z11 zf zl
  refine (HI.out _).mono ?_
  rintro e w2 ⟨rfl, hb2⟩
  have hb3 : Below w.heap.size w w2 := hb.trans (hb2.mono hb.size)
  have hy : w2.heap[w.heap.size + 1]? = some (.cells zeroI 83 (0, 0)) := by rw [hb2.block _ (lt_of_block HY.out)]; exact HY.out
  obtain ⟨y0, y1, y2, y3, yf, yl⟩ := four_cells hy
  clear hb2 hy HY HI hb h1
  go_wp2_with fail
  refine bodyPost_ret (v := .tuple #[.agg (instrA x), .int .i64 0]) (by simp [results, Tryd.results64, go_sem, y0, y1, y2, y3, yl]) rfl ?_
  exact ⟨rfl, ((((hb3.setCell (by simp) _).setCell (by simp) _).setCell (by simp) _).setCell (by simp) _).alloc (by simpa using hb3.size) _⟩

end Go.Proofs.YtbjlfhpiebokkaaDoor
