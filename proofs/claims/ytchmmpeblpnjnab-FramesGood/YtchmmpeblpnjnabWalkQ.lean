/- Contracts of frames.checkWord, frames.Read and hourglassref.ReadOf. -/
import Derived.Test.YtchmmpeblpnjnabWalkN
namespace Go.Proofs.Ytchmmpeblpnjnab
open Go.RowKit

theorem known_len {D : List (List Int)} {R : List Int} {j : Nat} (hm : May D R) (hk : Known R j) : j < R.length ∧ j < D.length ∧ (D.getD j []).length = 16 := by
  have h1 : j < R.length := by have := hk.2.1; omega
  have h2 := (hm.2.2 j h1).2.2
  have h3 : R.getD j 0 ≠ 0 := fun h => hk.2.2 (by simpa using h)
  have h4 : wordsB (R.getD j 0) = 16 := by unfold wordsB; rw [if_neg h3]
  rw [h4] at h2
  exact ⟨h1, by have := hm.1; omega, by omega⟩

theorem rowAt {w : World} {dv : Value} {D : List (List Int)} {j : Nat} (hd : RowsAt w dv D) (hj : j < D.length) (hl : (D.getD j []).length = 16) :
    ∃ b off c b2 off2 c2, dv = .slice (some ⟨b, off, none⟩) D.length c ∧ b < w.heap.size ∧ w.cell? ⟨b, off + j, none⟩ = some (.slice (some ⟨b2, off2, none⟩) 16 c2) ∧ b2 < w.heap.size ∧ ∀ i, i < 16 → w.cell? ⟨b2, off2 + i, none⟩ = some (.int .i64 ((D.getD j []).getD i 0)) := by
  obtain ⟨A, c, rfl, _, hc⟩ := hd
  obtain ⟨b, off, rfl, hb, hcell⟩ := hc (by omega)
  obtain ⟨u, h1, A1, c2, rfl, _, h2⟩ := hcell j hj
  rw [hl] at h1 h2
  obtain ⟨b2, off2, rfl, hb2, h3⟩ := h2 (by omega)
  exact ⟨b, off, c, b2, off2, c2, rfl, hb, h1, hb2, h3⟩

set_option maxHeartbeats 400000 in
theorem checkWord_fault (dv rv : Value) (D : List (List Int)) (R : List Int) (n a : Int) (w : World) (hd : RowsAt w dv D) (hr : IntsAt w rv R) (hf : faultNo D R n ≠ 0) :
    Calls Try.prog 22 #[.agg #[dv, rv], .int .i64 n, .int .i64 a] w fun e w' => e = .returned (.int .i64 (faultNo D R n)) ∧ Below w.heap.size w w' := by
  obtain ⟨x, hx⟩ : ∃ x, x = faultNo D R n := ⟨_, rfl⟩
  rw [← hx] at hf ⊢
  have HX : Hid (faultNo D R n = x) := hx.symm
  have g1 : (x != 0) = true := by simpa using hf
  clear hx hf
  go_enter Try.func22, Try.ntmps22
  go_wp2_with fail
  refine (checkKnown_any dv rv D R n _ (hd.below (below_alloc _ _)) (hr.below (below_alloc _ _))).mono ?_
  rw [HX.out]
  rintro e w1 ⟨rfl, hb1⟩
  go_wp2
  go_ret
  exact ⟨rfl, (below_alloc _ _).trans (hb1.mono (by simp))⟩

set_option maxHeartbeats 400000 in
theorem checkWord_range (dv rv : Value) (D : List (List Int)) (R : List Int) (n a : Int) (w : World) (hd : RowsAt w dv D) (hr : IntsAt w rv R) (hf : faultNo D R n = 0) (ha : ¬ (0 ≤ a ∧ a ≤ 15)) :
    Calls Try.prog 22 #[.agg #[dv, rv], .int .i64 n, .int .i64 a] w fun e w' => e = .returned (.int .i64 2) ∧ Below w.heap.size w w' := by
  have HX : Hid (faultNo D R n = 0) := hf
  clear hf
  by_cases c1 : a < 0
  · clear ha
    go_enter Try.func22, Try.ntmps22
    go_wp2_with fail
    refine (checkKnown_any dv rv D R n _ (hd.below (below_alloc _ _)) (hr.below (below_alloc _ _))).mono ?_
    rw [HX.out]
    rintro e w1 ⟨rfl, hb1⟩
    go_wp2
    go_ret
    exact ⟨rfl, (below_alloc _ _).trans (hb1.mono (by simp))⟩
  · have c2 : 16 ≤ a := by omega
    clear ha
    go_enter Try.func22, Try.ntmps22
    go_wp2_with fail
    refine (checkKnown_any dv rv D R n _ (hd.below (below_alloc _ _)) (hr.below (below_alloc _ _))).mono ?_
    rw [HX.out]
    rintro e w1 ⟨rfl, hb1⟩
    go_wp2
    go_ret
    exact ⟨rfl, (below_alloc _ _).trans (hb1.mono (by simp))⟩

set_option maxHeartbeats 400000 in
theorem checkWord_ok (dv rv : Value) (D : List (List Int)) (R : List Int) (n a : Int) (w : World) (hd : RowsAt w dv D) (hr : IntsAt w rv R) (hf : faultNo D R n = 0) (ha : 0 ≤ a ∧ a ≤ 15) :
    Calls Try.prog 22 #[.agg #[dv, rv], .int .i64 n, .int .i64 a] w fun e w' => e = .returned (.int .i64 0) ∧ Below w.heap.size w w' := by
  have HX : Hid (faultNo D R n = 0) := hf
  obtain ⟨a1, a2⟩ := ha
  clear hf
  go_enter Try.func22, Try.ntmps22
  go_wp2_with fail
  refine (checkKnown_any dv rv D R n _ (hd.below (below_alloc _ _)) (hr.below (below_alloc _ _))).mono ?_
  rw [HX.out]
  rintro e w1 ⟨rfl, hb1⟩
  go_wp2
  go_ret
  exact ⟨rfl, (below_alloc _ _).trans (hb1.mono (by simp))⟩

/-- Behind a new struct and a callee: the struct is as it was. -/
theorem one_box {w w1 : World} {o : Obj} (hb : Below (w.alloc o).heap.size (w.alloc o) w1) : w1.heap[w.heap.size]? = some o ∧ Below w.heap.size w w1 := ⟨box_kept hb, (below_alloc _ _).trans (hb.mono (by simp))⟩

set_option maxHeartbeats 400000 in
theorem Read_fault (dv rv : Value) (D : List (List Int)) (R : List Int) (n a : Int) (w : World) (hd : RowsAt w dv D) (hr : IntsAt w rv R) (hf : faultNo D R n ≠ 0) :
    Calls Try.prog 8 #[.agg #[dv, rv], .int .i64 n, .int .i64 a] w fun e w' => e = .returned (.tuple #[.int .i64 0, .int .i64 (faultNo D R n)]) ∧ Below w.heap.size w w' := by
  have HF : Hid (faultNo D R n ≠ 0) := hf
  obtain ⟨x, hx⟩ : ∃ x, x = faultNo D R n := ⟨_, rfl⟩
  rw [← hx] at hf ⊢
  have HX : Hid (faultNo D R n = x) := hx.symm
  have g1 : (x != 0) = true := by simpa using hf
  clear hx hf
  go_enter Try.func8, Try.ntmps8
  go_wp2_with fail
  refine (checkWord_fault dv rv D R n a _ (hd.below (below_alloc _ _)) (hr.below (below_alloc _ _)) HF.out).mono ?_
  rw [HX.out]
  rintro e w1 ⟨rfl, hb1⟩
  go_wp2
  go_ret2
  exact ⟨rfl, (one_box hb1).2⟩

set_option maxHeartbeats 400000 in
theorem Read_range (dv rv : Value) (D : List (List Int)) (R : List Int) (n a : Int) (w : World) (hd : RowsAt w dv D) (hr : IntsAt w rv R) (hf : faultNo D R n = 0) (ha : ¬ (0 ≤ a ∧ a ≤ 15)) :
    Calls Try.prog 8 #[.agg #[dv, rv], .int .i64 n, .int .i64 a] w fun e w' => e = .returned (.tuple #[.int .i64 0, .int .i64 2]) ∧ Below w.heap.size w w' := by
  have HX : Hid (faultNo D R n = 0) := hf
  have HA : Hid (¬ (0 ≤ a ∧ a ≤ 15)) := ha
  clear hf ha
  go_enter Try.func8, Try.ntmps8
  go_wp2_with fail
  refine (checkWord_range dv rv D R n a _ (hd.below (below_alloc _ _)) (hr.below (below_alloc _ _)) HX.out HA.out).mono ?_
  rintro e w1 ⟨rfl, hb1⟩
  go_wp2
  go_ret2
  exact ⟨rfl, (one_box hb1).2⟩

set_option maxHeartbeats 400000 in
theorem Read_ok (dv rv : Value) (D : List (List Int)) (R : List Int) (j i : Nat) (w : World) (hd : RowsAt w dv D) (hr : IntsAt w rv R) (hm : May D R) (hk : Known R j) (hi : i < 16) :
    Calls Try.prog 8 #[.agg #[dv, rv], .int .i64 j, .int .i64 i] w fun e w' => e = .returned (.tuple #[.int .i64 ((D.getD j []).getD i 0), .int .i64 0]) ∧ Below w.heap.size w w' := by
  have HX : Hid (faultNo D R j = 0) := fault_ok hm hk
  obtain ⟨hjR, hjD, hl⟩ := known_len hm hk
  obtain ⟨b, off, c, b2, off2, c2, rfl, hb, h1, hb2, h2⟩ := rowAt hd hjD hl
  have h3 := h2 i hi
  clear hm hk h2 hl
  generalize hy : (D.getD j []).getD i 0 = y at *
  clear hy
  have hjd : (j : Int) < (D.length : Int) := by omega
  have hi' : (i : Int) < 16 := by omega
  go_enter Try.func8, Try.ntmps8
  go_wp2_with fail
  refine (checkWord_ok _ rv D R j i _ (hd.below (below_alloc _ _)) (hr.below (below_alloc _ _)) HX.out ⟨by omega, by omega⟩).mono ?_
  rintro e w1 ⟨rfl, hb1⟩
  obtain ⟨hbx, hbb⟩ := one_box hb1
  rw [← hbb.cell (p := ⟨b, off + j, none⟩) hb] at h1
  rw [← hbb.cell (p := ⟨b2, off2 + i, none⟩) hb2] at h3
  obtain ⟨hx0, hx1, hxf, hxl⟩ := two_cells hbx
  clear hb1 hbx
  go_wp2
  go_ret2
  exact ⟨rfl, hbb⟩

set_option maxHeartbeats 400000 in
theorem ReadOf_fault (dv rv : Value) (D : List (List Int)) (R : List Int) (n a : Int) (w : World) (hd : RowsAt w dv D) (hr : IntsAt w rv R) (hf : faultNo D R n ≠ 0) :
    Calls Try.prog 9 #[.agg #[dv, rv], .int .i64 n, .int .i64 a] w fun e w' => e = .returned (.tuple #[.int .i64 0, .int .i64 (faultNo D R n)]) ∧ Below w.heap.size w w' := by
  obtain ⟨x, hx⟩ : ∃ x, x = faultNo D R n := ⟨_, rfl⟩
  rw [← hx] at hf ⊢
  have HX : Hid (faultNo D R n = x) := hx.symm
  have g1 : (x != 0) = true := by simpa using hf
  have g2 : (x == 0) = false := by simpa using hf
  clear hx hf
  go_enter Try.func9, Try.ntmps9
  go_wp2_with fail
  refine (knownFault_any dv rv D R n _ (hd.below (below_alloc _ _)) (hr.below (below_alloc _ _))).mono ?_
  rw [HX.out]
  rintro e w1 ⟨rfl, hb1⟩
  go_wp2
  go_ret2
  exact ⟨rfl, (one_box hb1).2⟩

set_option maxHeartbeats 400000 in
theorem ReadOf_range (dv rv : Value) (D : List (List Int)) (R : List Int) (n a : Int) (w : World) (hd : RowsAt w dv D) (hr : IntsAt w rv R) (hf : faultNo D R n = 0) (ha : ¬ (0 ≤ a ∧ a ≤ 15)) :
    Calls Try.prog 9 #[.agg #[dv, rv], .int .i64 n, .int .i64 a] w fun e w' => e = .returned (.tuple #[.int .i64 0, .int .i64 2]) ∧ Below w.heap.size w w' := by
  have HX : Hid (faultNo D R n = 0) := hf
  have gi : inB a 0 15 = false := inB_no ha
  clear hf ha
  go_enter Try.func9, Try.ntmps9
  go_wp2_with fail
  refine (knownFault_any dv rv D R n _ (hd.below (below_alloc _ _)) (hr.below (below_alloc _ _))).mono ?_
  rw [HX.out]
  rintro e w1 ⟨rfl, hb1⟩
  go_wp2_with (go_at_call 24; refine (In_B _ _ _ _).mono ?_; rintro e w' ⟨rfl, rfl⟩)
  go_ret2
  exact ⟨rfl, (one_box hb1).2⟩

set_option maxHeartbeats 400000 in
theorem ReadOf_ok (dv rv : Value) (D : List (List Int)) (R : List Int) (j i : Nat) (w : World) (hd : RowsAt w dv D) (hr : IntsAt w rv R) (hm : May D R) (hk : Known R j) (hi : i < 16) :
    Calls Try.prog 9 #[.agg #[dv, rv], .int .i64 j, .int .i64 i] w fun e w' => e = .returned (.tuple #[.int .i64 ((D.getD j []).getD i 0), .int .i64 0]) ∧ Below w.heap.size w w' := by
  have HX : Hid (faultNo D R j = 0) := fault_ok hm hk
  obtain ⟨hjR, hjD, hl⟩ := known_len hm hk
  obtain ⟨b, off, c, b2, off2, c2, rfl, hb, h1, hb2, h2⟩ := rowAt hd hjD hl
  have h3 := h2 i hi
  have gi : inB (i : Int) 0 15 = true := inB_yes (by omega) (by omega)
  clear hm hk h2 hl
  generalize hy : (D.getD j []).getD i 0 = y at *
  clear hy
  have hjd : (j : Int) < (D.length : Int) := by omega
  have hi' : (i : Int) < 16 := by omega
  go_enter Try.func9, Try.ntmps9
  go_wp2_with fail
  refine (knownFault_any _ rv D R j _ (hd.below (below_alloc _ _)) (hr.below (below_alloc _ _))).mono ?_
  rw [HX.out]
  rintro e w1 ⟨rfl, hb1⟩
  obtain ⟨hbx, hbb⟩ := one_box hb1
  rw [← hbb.cell (p := ⟨b, off + j, none⟩) hb] at h1
  rw [← hbb.cell (p := ⟨b2, off2 + i, none⟩) hb2] at h3
  obtain ⟨hx0, hx1, hxf, hxl⟩ := two_cells hbx
  clear hb1 hbx
  go_wp2_with (go_at_call 24; refine (In_B _ _ _ _).mono ?_; rintro e w' ⟨rfl, rfl⟩)
  go_ret2
  exact ⟨rfl, hbb⟩

end Go.Proofs.Ytchmmpeblpnjnab
