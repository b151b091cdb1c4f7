/- Contracts of frames.checkWord, frames.Read and hourglassref.ReadOf. -/
import Derived.Test.YtlcdefpdahjjeafWalkN
namespace Go.Proofs.Ytlcdefpdahjjeaf
open Go.RowKit

theorem known_len {D : List (List Int)} {R : List Int} {j : Nat} (hm : May D R) (hk : Known R j) : j < R.length ∧ j < D.length ∧ (D.getD j []).length = 16 := by
  have h1 : j < R.length := by have := hk.2.1; omega
  have h2 := (hm.2.2 j h1).2.2
  have h3 : R.getD j 0 ≠ 0 := fun h => hk.2.2 (by simpa using h)
  have h4 : wordsB (R.getD j 0) = 16 := by unfold wordsB; rw [if_neg h3]
  rw [h4] at h2
  exact ⟨h1, by have := hm.1; omega, by omega⟩

theorem rowAt {w : World} {dv : Value} {D : List (List Int)} {j : Nat} (hd : RowsAt w dv D) (hj : j < D.length) (hl : (D.getD j []).length = 16) :
    ∃ b off c b2 off2 c2, dv = .slice (some ⟨b, off, none⟩) D.length c ∧ b < w.heap.size ∧ w.cell? ⟨b, off + j, none⟩ = some (.slice (some ⟨b2, off2, none⟩) 16 c2) ∧ b2 < w.heap.size ∧ ∀ i, i < 16 → w.cell? ⟨b2, off2 + i, none⟩ = some (.int .i64 ((D.getD j []).getD i 0)) := by
  obtain ⟨A, c, rfl, _, hc⟩ := hd
  obtain ⟨b, off, rfl, hb, hcell⟩ := hc (by omega)
  obtain ⟨u, h1, A1, c2, rfl, _, h2⟩ := hcell j hj
  rw [hl] at h1 h2
  obtain ⟨b2, off2, rfl, hb2, h3⟩ := h2 (by omega)
  exact ⟨b, off, c, b2, off2, c2, rfl, hb, h1, hb2, h3⟩

set_option maxHeartbeats 400000 in
theorem checkWord_fault (dv rv : Value) (D : List (List Int)) (R : List Int) (n a : Int) (w : World) (hd : RowsAt w dv D) (hr : IntsAt w rv R) (hf : faultNo D R n ≠ 0) :
    Calls Try.prog 34 #[.agg #[dv, rv], .int .i64 n, .int .i64 a] w fun e w' => e = .returned (.int .i64 (faultNo D R n)) ∧ Below w.heap.size w w' := by
  obtain ⟨x, hx⟩ : ∃ x, x = faultNo D R n := ⟨_, rfl⟩
  rw [← hx] at hf ⊢
  have HX : Hid (faultNo D R n = x) := hx.symm
  have g1 : (x != 0) = true := by simpa using hf
  clear hx hf
  go_enter Try.func34, Try.ntmps34
  go_wp2_with fail
  refine (checkKnown_any dv rv D R n _ (hd.below (below_alloc _ _)) (hr.below (below_alloc _ _))).mono ?_
  rw [HX.out]
  rintro e w1 ⟨rfl, hb1⟩
  go_wp2
  go_ret
  exact ⟨rfl, (below_alloc _ _).trans (hb1.mono (by simp))⟩

set_option maxHeartbeats 400000 in
theorem checkWord_range (dv rv : Value) (D : List (List Int)) (R : List Int) (n a : Int) (w : World) (hd : RowsAt w dv D) (hr : IntsAt w rv R) (hf : faultNo D R n = 0) (ha : ¬ (0 ≤ a ∧ a ≤ 15)) :
    Calls Try.prog 34 #[.agg #[dv, rv], .int .i64 n, .int .i64 a] w fun e w' => e = .returned (.int .i64 2) ∧ Below w.heap.size w w' := by
  have HX : Hid (faultNo D R n = 0) := hf
  clear hf
  by_cases c1 : a < 0
  · clear ha
    go_enter Try.func34, Try.ntmps34
    go_wp2_with fail
    refine (checkKnown_any dv rv D R n _ (hd.below (below_alloc _ _)) (hr.below (below_alloc _ _))).mono ?_
    rw [HX.out]
    rintro e w1 ⟨rfl, hb1⟩
    go_wp2
    go_ret
    exact ⟨rfl, (below_alloc _ _).trans (hb1.mono (by simp))⟩
  · have c2 : 16 ≤ a := by omega
    clear ha
    go_enter Try.func34, Try.ntmps34
    go_wp2_with fail
    refine (checkKnown_any dv rv D R n _ (hd.below (below_alloc _ _)) (hr.below (below_alloc _ _))).mono ?_
    rw [HX.out]
    rintro e w1 ⟨rfl, hb1⟩
    go_wp2
    go_ret
    exact ⟨rfl, (below_alloc _ _).trans (hb1.mono (by simp))⟩

set_option maxHeartbeats 400000 in
theorem checkWord_ok (dv rv : Value) (D : List (List Int)) (R : List Int) (n a : Int) (w : World) (hd : RowsAt w dv D) (hr : IntsAt w rv R) (hf : faultNo D R n = 0) (ha : 0 ≤ a ∧ a ≤ 15) :
    Calls Try.prog 34 #[.agg #[dv, rv], .int .i64 n, .int .i64 a] w fun e w' => e = .returned (.int .i64 0) ∧ Below w.heap.size w w' := by
  have HX : Hid (faultNo D R n = 0) := hf
  obtain ⟨a1, a2⟩ := ha
  clear hf
  go_enter Try.func34, Try.ntmps34
  go_wp2_with fail
  refine (checkKnown_any dv rv D R n _ (hd.below (below_alloc _ _)) (hr.below (below_alloc _ _))).mono ?_
  rw [HX.out]
  rintro e w1 ⟨rfl, hb1⟩
  go_wp2
  go_ret
  exact ⟨rfl, (below_alloc _ _).trans (hb1.mono (by simp))⟩

/-- Behind a new struct and a callee: the struct is as it was. -/
theorem one_box {w w1 : World} {o : Obj} (hb : Below (w.alloc o).heap.size (w.alloc o) w1) : w1.heap[w.heap.size]? = some o ∧ Below w.heap.size w w1 := ⟨box_kept hb, (below_alloc _ _).trans (hb.mono (by simp))⟩



end Go.Proofs.Ytlcdefpdahjjeaf
