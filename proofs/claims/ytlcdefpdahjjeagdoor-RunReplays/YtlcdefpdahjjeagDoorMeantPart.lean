/- Contracts of hourglassref's meant and NextOf: the word that an address means; the instruction that comes next. -/
import Derived.Test.YtlcdefpdahjjeagDoorGuestPart
import Derived.Test.YtlcdefpdahjjeagDoorRepPPart
namespace Go.Proofs.YtlcdefpdahjjeagDoor
open Go.RowKit

set_option maxHeartbeats 2000000 in
theorem meant_any (m : Mach) (rv mv ov : Value) (at' : Int) (write : Bool) (w : World) (ha : MachAt w rv mv ov m) (hl : m.mem.length = 256) (ht : -1 ≤ m.table ∧ m.table ≤ 15) :
    Calls Tryd.prog 69 #[.agg (m.cells rv mv ov), .int .i64 at', .bool write] w fun e w' => e = .returned (.tuple #[.int .i64 (m.meantK at' write), .int .i64 (m.meantE at' write)]) ∧ Below w.heap.size w w' := by
  cases g0 : inB at' 0 255 with
  | false =>
    have HE : Hid (3 = m.meantE at' write) := by show _ = _; simp [Mach.meantE, g0]
    have HK : Hid (0 = m.meantK at' write) := by show _ = _; simp [Mach.meantK, ← HE.out]
    obtain ⟨r, p, k, i, t, a, n, f, m, o, y, q⟩ := m
    simp only [Mach.cells]
    clear hl ht ha
    go_enter Tryd.func69, Tryd.ntmps69
    go_wp2_with (go_at_call 35; refine (In_B _ _ _ _).mono ?_; rintro e w' ⟨rfl, rfl⟩)
    go_ret2
    exact ⟨ret_two HK.out HE.out, below_alloc _ _⟩
  | true =>
  obtain ⟨a1, a2⟩ := inB_iff.1 g0
  cases g1 : m.table == -1 with
  | true =>
    have HE : Hid (0 = m.meantE at' write) := by show _ = _; simp only [Mach.meantE, g0, g1]; rfl
    have HK : Hid (at' = m.meantK at' write) := by show _ = _; simp only [Mach.meantK, ← HE.out, g1]; rfl
    obtain ⟨r, p, k, i, t, a, n, f, m, o, y, q⟩ := m
    simp only [Mach.cells] at g1 ⊢
    clear hl ht ha
    go_enter Tryd.func69, Tryd.ntmps69
    go_wp2_with (go_at_call 35; refine (In_B _ _ _ _).mono ?_; rintro e w' ⟨rfl, rfl⟩)
    go_ret2
    exact ⟨ret_two HK.out HE.out, below_alloc _ _⟩
  | false =>
  have t0 : 0 ≤ m.table := by
    have : m.table ≠ -1 := by simpa using g1
    omega
  obtain ⟨A, c, rfl, hl8, hc⟩ := ha.mem
  obtain ⟨b, off, rfl, hbs, hcell⟩ := hc (by omega)
  have h1 : w.cell? ⟨b, off + (16 * m.table + at' / 16).toNat, none⟩ = some (.int .i64 (m.page at')) := hcell (16 * m.table + at' / 16).toNat (by omega)
  have hE : m.meantE at' write = (if !inB (m.page at') 32 63 then 4 else if write && decide (m.page at' < 48) then 4 else 0) := by simp only [Mach.meantE, g0, g1]; rfl
  have hK : m.meantK at' write = (if m.meantE at' write = 0 then 16 * (m.page at' % 16) + at' % 16 else 0) := by simp only [Mach.meantK, g1]; rfl
  obtain ⟨E, eE⟩ : ∃ E, E = m.meantE at' write := ⟨_, rfl⟩
  obtain ⟨K, eK⟩ : ∃ K, K = m.meantK at' write := ⟨_, rfl⟩
  rw [← eE, ← eK]
  rw [← eE] at hE
  rw [← eK, ← eE] at hK
  have HE : Hid (E = (if !inB (m.page at') 32 63 then 4 else if write && decide (m.page at' < 48) then 4 else 0)) := hE
  have HK : Hid (K = (if E = 0 then 16 * (m.page at' % 16) + at' % 16 else 0)) := hK
  clear hK hE hcell hc ha eE eK
  revert h1 HE HK
  generalize m.page at' = x
  intro h1 HE HK
  have hj2 : 16 * m.table + at' / 16 < (m.mem.length : Int) := by omega
  have hj3 : 0 ≤ 16 * m.table + at' / 16 := by omega
  obtain ⟨-, t2⟩ := ht
  clear hl8 hl
  obtain ⟨r, p, k, i, t, a, n, f, m, o, y, q⟩ := m
  simp only [Mach.cells] at *
  cases g2 : inB x 32 63 with
  | false =>
    have FE : Hid (4 = E) := by show _ = _; rw [HE.out, g2]; rfl
    have FK : Hid (0 = K) := by show _ = _; rw [HK.out, ← FE.out]; rfl
    clear HE HK
    go_enter Tryd.func69, Tryd.ntmps69
    go_wp2_with (go_at_call 35; refine (In_B _ _ _ _).mono ?_; rintro e w' ⟨rfl, rfl⟩)
    go_ret2
    exact ⟨ret_two FK.out FE.out, below_alloc _ _⟩
  | true =>
  obtain ⟨x1, x2⟩ := inB_iff.1 g2
  cases write with
  | false =>
    have FE : Hid (0 = E) := by show _ = _; rw [HE.out, g2]; rfl
    have FK : Hid (16 * (x % 16) + at' % 16 = K) := by show _ = _; rw [HK.out, ← FE.out]; rfl
    clear HE HK
    go_enter Tryd.func69, Tryd.ntmps69
    go_wp2_with (go_at_call 35; refine (In_B _ _ _ _).mono ?_; rintro e w' ⟨rfl, rfl⟩)
    go_ret2
    exact ⟨ret_two FK.out FE.out, below_alloc _ _⟩
  | true =>
  by_cases g3 : x < 48
  · have d3 : decide (x < 48) = true := by simpa using g3
    have FE : Hid (4 = E) := by show _ = _; rw [HE.out, g2, d3]; rfl
    have FK : Hid (0 = K) := by show _ = _; rw [HK.out, ← FE.out]; rfl
    clear HE HK
    go_enter Tryd.func69, Tryd.ntmps69
    go_wp2_with (go_at_call 35; refine (In_B _ _ _ _).mono ?_; rintro e w' ⟨rfl, rfl⟩)
    go_ret2
    exact ⟨ret_two FK.out FE.out, below_alloc _ _⟩
  · have d3 : decide (x < 48) = false := by simpa using g3
    have FE : Hid (0 = E) := by show _ = _; rw [HE.out, g2, d3]; rfl
    have FK : Hid (16 * (x % 16) + at' % 16 = K) := by show _ = _; rw [HK.out, ← FE.out]; rfl
    clear HE HK
    go_enter Tryd.func69, Tryd.ntmps69
    go_wp2_with (go_at_call 35; refine (In_B _ _ _ _).mono ?_; rintro e w' ⟨rfl, rfl⟩)
    go_ret2
    exact ⟨ret_two FK.out FE.out, below_alloc _ _⟩

end Go.Proofs.YtlcdefpdahjjeagDoor

/- Contracts of hourglassref's InstrFault, WordOf, floor and InstrOf: an instruction is a word. -/

namespace Go.Proofs.YtlcdefpdahjjeagDoor
open Go.RowKit

set_option maxHeartbeats 1000000 in
theorem InstrFault_any (op a b n : Int) (w : World) :
    Calls Tryd.prog 120 #[.agg #[.int .i64 op, .int .i64 a, .int .i64 b, .int .i64 n]] w fun e w' => e = .returned (.int .i64 (instrNo op a b n)) ∧ Below w.heap.size w w' := by
  cases c0 : inB op 0 15 with
  | false =>
    have HN : Hid (3 = instrNo op a b n) := by show _ = _; simp [instrNo, c0]
    go_enter Tryd.func120, Tryd.ntmps120
    go_wp2_with (go_at_call 35; refine (In_B _ _ _ _).mono ?_; rintro e w' ⟨rfl, rfl⟩)
    go_ret
    exact ⟨ret_int HN.out, below_alloc _ _⟩
  | true =>
  cases c1 : inB a 0 7 with
  | false =>
    have HN : Hid (2 = instrNo op a b n) := by show _ = _; simp [instrNo, c0, c1]
    go_enter Tryd.func120, Tryd.ntmps120
    go_wp2_with (go_at_call 35; refine (In_B _ _ _ _).mono ?_; rintro e w' ⟨rfl, rfl⟩)
    go_ret
    exact ⟨ret_int HN.out, below_alloc _ _⟩
  | true =>
  cases c2 : inB b 0 7 with
  | false =>
    have HN : Hid (2 = instrNo op a b n) := by show _ = _; simp [instrNo, c0, c1, c2]
    go_enter Tryd.func120, Tryd.ntmps120
    go_wp2_with (go_at_call 35; refine (In_B _ _ _ _).mono ?_; rintro e w' ⟨rfl, rfl⟩)
    go_ret
    exact ⟨ret_int HN.out, below_alloc _ _⟩
  | true =>
  cases c3 : inB n (-1048576) 1048575 with
  | false =>
    have HN : Hid (2 = instrNo op a b n) := by show _ = _; simp [instrNo, c0, c1, c2, c3]
    go_enter Tryd.func120, Tryd.ntmps120
    go_wp2_with (go_at_call 35; refine (In_B _ _ _ _).mono ?_; rintro e w' ⟨rfl, rfl⟩)
    go_ret
    exact ⟨ret_int HN.out, below_alloc _ _⟩
  | true =>
  cases c4 : op == 2 with
  | true =>
    have c6 : (op == 12) = false := by simp at c4; simp [c4]
    cases c5 : inB n 0 7 with
    | false =>
      have HN : Hid (4 = instrNo op a b n) := by show _ = _; simp only [instrNo, c0, c1, c2, c3, c4, c5]; rfl
      go_enter Tryd.func120, Tryd.ntmps120
      go_wp2_with (go_at_call 35; refine (In_B _ _ _ _).mono ?_; rintro e w' ⟨rfl, rfl⟩)
      go_ret
      exact ⟨ret_int HN.out, below_alloc _ _⟩
    | true =>
      have HN : Hid (0 = instrNo op a b n) := by show _ = _; simp only [instrNo, c0, c1, c2, c3, c4, c5, c6]; rfl
      go_enter Tryd.func120, Tryd.ntmps120
      go_wp2_with (go_at_call 35; refine (In_B _ _ _ _).mono ?_; rintro e w' ⟨rfl, rfl⟩)
      go_ret
      exact ⟨ret_int HN.out, below_alloc _ _⟩
  | false =>
  cases c7 : op == 3 with
  | true =>
    have c6 : (op == 12) = false := by simp at c7; simp [c7]
    cases c5 : inB n 0 7 with
    | false =>
      have HN : Hid (4 = instrNo op a b n) := by show _ = _; simp only [instrNo, c0, c1, c2, c3, c4, c7, c5]; rfl
      go_enter Tryd.func120, Tryd.ntmps120
      go_wp2_with (go_at_call 35; refine (In_B _ _ _ _).mono ?_; rintro e w' ⟨rfl, rfl⟩)
      go_ret
      exact ⟨ret_int HN.out, below_alloc _ _⟩
    | true =>
      have HN : Hid (0 = instrNo op a b n) := by show _ = _; simp only [instrNo, c0, c1, c2, c3, c4, c5, c6, c7]; rfl
      go_enter Tryd.func120, Tryd.ntmps120
      go_wp2_with (go_at_call 35; refine (In_B _ _ _ _).mono ?_; rintro e w' ⟨rfl, rfl⟩)
      go_ret
      exact ⟨ret_int HN.out, below_alloc _ _⟩
  | false =>
  cases c6 : op == 12 with
  | true =>
    cases c5 : inB n 0 1 with
    | false =>
      have HN : Hid (4 = instrNo op a b n) := by show _ = _; simp only [instrNo, c0, c1, c2, c3, c4, c7, c5, c6]; rfl
      go_enter Tryd.func120, Tryd.ntmps120
      go_wp2_with (go_at_call 35; refine (In_B _ _ _ _).mono ?_; rintro e w' ⟨rfl, rfl⟩)
      go_ret
      exact ⟨ret_int HN.out, below_alloc _ _⟩
    | true =>
      have HN : Hid (0 = instrNo op a b n) := by show _ = _; simp only [instrNo, c0, c1, c2, c3, c4, c5, c6, c7]; rfl
      go_enter Tryd.func120, Tryd.ntmps120
      go_wp2_with (go_at_call 35; refine (In_B _ _ _ _).mono ?_; rintro e w' ⟨rfl, rfl⟩)
      go_ret
      exact ⟨ret_int HN.out, below_alloc _ _⟩
  | false =>
    have HN : Hid (0 = instrNo op a b n) := by show _ = _; simp only [instrNo, c0, c1, c2, c3, c4, c6, c7]; rfl
    go_enter Tryd.func120, Tryd.ntmps120
    go_wp2_with (go_at_call 35; refine (In_B _ _ _ _).mono ?_; rintro e w' ⟨rfl, rfl⟩)
    go_ret
    exact ⟨ret_int HN.out, below_alloc _ _⟩

end Go.Proofs.YtlcdefpdahjjeagDoor
