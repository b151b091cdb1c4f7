/- Contracts of cpu.Encode, floorDivide, Decode. -/
import Derived.Test.YtlcdefpdahjjeaeCpuCheck
namespace Go.Proofs.Ytlcdefpdahjjeae
open Go.RowKit

set_option maxHeartbeats 400000 in
theorem CpuEncode_any (op a b n : Int) (w : World) :
    Calls Try.prog 21 #[.agg #[.int .i64 op, .int .i64 a, .int .i64 b, .int .i64 n]] w fun e w' => e = .returned (.tuple #[.int .i64 (wordNo op a b n), .int .i64 (instrNo op a b n)]) ∧ Below w.heap.size w w' := by
  have HC : Hid (∀ w1, Below (w.alloc (.cells #[.int .i64 op, .int .i64 a, .int .i64 b, .int .i64 n] 24)).heap.size (w.alloc (.cells #[.int .i64 op, .int .i64 a, .int .i64 b, .int .i64 n] 24)) w1 → w1.heap[w.heap.size]? = some (.cells #[.int .i64 op, .int .i64 a, .int .i64 b, .int .i64 n] 24) ∧ Below w.heap.size w w1) :=
    fun w1 hb => ⟨box_kept hb, (below_alloc _ _).trans (hb.mono (by simp))⟩
  by_cases h : instrNo op a b n = 0
  · have HW : Hid (n * 1024 + b * 128 + a * 16 + op = wordNo op a b n) := by show _ = _; simp [wordNo, h, wordF]; omega
    obtain ⟨⟨o1, o2⟩, ⟨a1, a2⟩, ⟨b1, b2⟩, n1, n2⟩ := instrNo_bd h
    have HN : Hid (instrNo op a b n = 0) := h
    clear h
    go_enter Try.func21, Try.ntmps21
    go_wp2_with fail
    refine (CpuCheck_any op a b n _).mono ?_
    rw [HN.out]
    rintro e w1 ⟨rfl, hb1⟩
    obtain ⟨hbx, hb⟩ := HC.out w1 hb1
    obtain ⟨hx0, hx1, hx2, hx3, hxf, hxl⟩ := four_cells hbx
    clear hbx hb1
    go_wp2
    go_ret2
    exact ⟨ret_two HW.out HN.out.symm, hb⟩
  · have HW : Hid (wordNo op a b n = 0) := by show _ = _; simp [wordNo, h]
    have hne : (instrNo op a b n != 0) = true := by simpa using h
    revert hne HW
    generalize wordNo op a b n = x
    generalize hg : instrNo op a b n = y
    intro HW hne
    have HG : Hid (instrNo op a b n = y) := hg
    clear hg h
    go_enter Try.func21, Try.ntmps21
    go_wp2_with fail
    refine (CpuCheck_any op a b n _).mono ?_
    rw [HG.out]
    rintro e w1 ⟨rfl, hb1⟩
    obtain ⟨hbx, hb⟩ := HC.out w1 hb1
    clear hbx hb1
    go_wp2
    go_ret2
    exact ⟨ret_two HW.out.symm rfl, hb⟩

set_option maxHeartbeats 400000 in
theorem floorDivide_any (n : Int) (w : World) (hn : -9223372036854775808 ≤ n ∧ n ≤ 9223372036854775807) :
    Calls Try.prog 43 #[.int .i64 n, .int .i64 1024] w fun e w' => e = .returned (.tuple #[.int .i64 (n / 1024), .int .i64 (n % 1024)]) ∧ Below w.heap.size w w' := by
  obtain ⟨n1, n2⟩ := hn
  have HD := tdiv_sign n 1024
  have HM := tmod_sign n 1024
  by_cases h : n.tmod 1024 < 0
  · have HE : Hid (n.tdiv 1024 - 1 = n / 1024) := by show _ = _; omega
    have HF : Hid (n.tmod 1024 + 1024 = n % 1024) := by show _ = _; omega
    have h1 : n.tdiv 1024 ≤ 9007199254740992 := by omega
    have h2 : -9007199254740992 ≤ n.tdiv 1024 := by omega
    have h3 : -1024 ≤ n.tmod 1024 := by omega
    clear HD HM
    go_enter Try.func43, Try.ntmps43
    go_wp2
    go_quiet (fail)
    go_wp2
    go_ret2
    exact ⟨ret_two HE.out HF.out, below_drewN (Below.refl _ _) _⟩
  · have HE : Hid (n.tdiv 1024 = n / 1024) := by show _ = _; omega
    have HF : Hid (n.tmod 1024 = n % 1024) := by show _ = _; omega
    clear HD HM
    go_enter Try.func43, Try.ntmps43
    go_wp2
    go_quiet (fail)
    go_wp2
    go_ret2
    exact ⟨ret_two HE.out HF.out, below_drewN (Below.refl _ _) _⟩

theorem decI_four (x : Int) : ∃ p q r s : Int, decI x = .agg #[.int .i64 p, .int .i64 q, .int .i64 r, .int .i64 s] ∧ (decNo x = 0 → p = x % 16 ∧ q = x / 16 % 8 ∧ r = x / 128 % 8 ∧ s = x / 1024) ∧ (decNo x ≠ 0 → p = 0 ∧ q = 0 ∧ r = 0 ∧ s = 0) := by
  unfold decI
  split
  · next h => exact ⟨_, _, _, _, rfl, fun _ => ⟨rfl, rfl, rfl, rfl⟩, fun h' => absurd h h'⟩
  · next h => exact ⟨_, _, _, _, rfl, fun h' => absurd h' h, fun _ => ⟨rfl, rfl, rfl, rfl⟩⟩
theorem rest_parts (x : Int) : (x % 1024) % 16 = x % 16 ∧ (x % 1024) / 16 % 8 = x / 16 % 8 ∧ (x % 1024) / 128 = x / 128 % 8 := by omega

/-- A block that was there, and a new one: both are kept. -/
theorem old_box {w w1 w2 : World} {o o1 : Obj} (h1 : Below (w.alloc o).heap.size (w.alloc o) w1) (h2 : Below (w1.alloc o1).heap.size (w1.alloc o1) w2) :
    w2.heap[w.heap.size]? = some o ∧ w2.heap[w1.heap.size]? = some o1 ∧ Below w.heap.size w w2 ∧ w.heap.size < w1.heap.size := by
  have hk := box_kept h1
  have hlt : w.heap.size < w1.heap.size := by have := h1.size; simp at this; omega
  have hb : Below w.heap.size w w1 := (below_alloc _ _).trans (h1.mono (by simp))
  have hb2 : Below w1.heap.size w1 w2 := (below_alloc _ _).trans (h2.mono (by simp))
  exact ⟨by rw [hb2.block _ hlt]; exact hk, box_kept h2, hb.trans (hb2.mono hb.size), hlt⟩

set_option maxHeartbeats 1000000 in
theorem CpuDecode_any (x : Int) (w : World) (h : -9223372036854775808 ≤ x ∧ x ≤ 9223372036854775807) :
    Calls Try.prog 38 #[.int .i64 x] w fun e w' => e = .returned (.tuple #[decI x, .int .i64 (decNo x)]) ∧ Below w.heap.size w w' := by
  have HF : Hid (∀ W, Calls Try.prog 43 #[.int .i64 x, .int .i64 1024] W fun e w' => e = .returned (.tuple #[.int .i64 (x / 1024), .int .i64 (x % 1024)]) ∧ Below W.heap.size W w') := fun W => floorDivide_any x W h
  obtain ⟨e1, e2, e3⟩ := rest_parts x
  have HE : Hid ((x % 1024) % 16 = x % 16 ∧ (x % 1024) / 16 % 8 = x / 16 % 8 ∧ (x % 1024) / 128 = x / 128 % 8) := ⟨e1, e2, e3⟩
  have r1 : 0 ≤ x % 1024 := by omega
  have r2 : x % 1024 ≤ 1023 := by omega
  have HC : Hid (∀ W, Calls Try.prog 35 #[.agg #[.int .i64 (x % 16), .int .i64 (x / 16 % 8), .int .i64 (x / 128 % 8), .int .i64 (x / 1024)]] W fun e w' => e = .returned (.int .i64 (decNo x)) ∧ Below W.heap.size W w') := fun W => CpuCheck_any _ _ _ _ W
  obtain ⟨p, q, r, s, hI, hy, hn⟩ := decI_four x
  rw [hI]
  by_cases hd : decNo x = 0
  · obtain ⟨rfl, rfl, rfl, rfl⟩ := hy hd
    rw [hd] at HC ⊢
    clear hI hy hn hd h e1 e2 e3
    go_enter Try.func38, Try.ntmps38
    go_wp2_with fail
    refine (HF.out _).mono ?_
    rintro e w1 ⟨rfl, hb1⟩
    have HB1 : Hid (_) := hb1
    clear hb1
    go_wp2_with fail
    rw [HE.out.1, HE.out.2.1, HE.out.2.2]
    refine (HC.out _).mono ?_
    rintro e w2 ⟨rfl, hb2⟩
    obtain ⟨hz, hy, hb, hlt⟩ := old_box HB1.out hb2
    obtain ⟨z0, z1, z2, z3, zf, zl⟩ := four_cells hz
    obtain ⟨y0, y1, y2, y3, yf, yl⟩ := four_cells hy
    clear hz hy hb2 HB1 HC HF HE
    go_wp2_with fail
    refine bodyPost_ret (v := .tuple #[.agg #[.int .i64 (x % 16), .int .i64 (x / 16 % 8), .int .i64 (x / 128 % 8), .int .i64 (x / 1024)], .int .i64 0]) (by simp [results, Try.results38, go_sem, z0, z1, z2, z3]) rfl ?_
    exact ⟨rfl, (((hb.setCell (by simp) _).setCell (by simp) _).setCell (by simp) _).setCell (by simp) _⟩
  · obtain ⟨rfl, rfl, rfl, rfl⟩ := hn hd
    have hne : (decNo x != 0) = true := by simpa using hd
    clear hI hy hn hd h e1 e2 e3
    revert hne HC
    generalize decNo x = y
    intro HC hne
    go_enter Try.func38, Try.ntmps38
    go_wp2_with fail
    refine (HF.out _).mono ?_
    rintro e w1 ⟨rfl, hb1⟩
    have HB1 : Hid (_) := hb1
    clear hb1
    go_wp2_with fail
    rw [HE.out.1, HE.out.2.1, HE.out.2.2]
    refine (HC.out _).mono ?_
    rintro e w2 ⟨rfl, hb2⟩
    obtain ⟨hz, hy, hb, hlt⟩ := old_box HB1.out hb2
    obtain ⟨z0, z1, z2, z3, zf, zl⟩ := four_cells hz
    clear hz hy hb2 HB1 HC HF HE
    go_wp2_with fail
    refine bodyPost_ret (v := .tuple #[.agg #[.int .i64 0, .int .i64 0, .int .i64 0, .int .i64 0], .int .i64 y]) (by simp [results, Try.results38, go_sem, z0, z1, z2, z3]) rfl ?_
    first
      | exact ⟨rfl, hb⟩
      | exact ⟨rfl, (((hb.setCell (by simp) _).setCell (by simp) _).setCell (by simp) _).setCell (by simp) _⟩

end Go.Proofs.Ytlcdefpdahjjeae
