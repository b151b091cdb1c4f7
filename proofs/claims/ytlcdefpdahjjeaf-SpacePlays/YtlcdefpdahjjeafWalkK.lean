/- Contracts of the two functions that find the first free frame. -/
import Derived.Test.YtlcdefpdahjjeafIn
namespace Go.Proofs.Ytlcdefpdahjjeaf
open Go.RowKit

/-- The first free frame is the k-th. -/
def FirstAt (R : List Int) (k : Nat) : Prop := k < R.length ∧ R.getD k 0 = 0 ∧ ∀ j, j < k → R.getD j 0 ≠ 0
/-- None is free. -/
def NoneFree (R : List Int) : Prop := ∀ j, j < R.length → R.getD j 0 ≠ 0
theorem first_or (R : List Int) : NoneFree R ∨ ∃ k, FirstAt R k := by
  by_cases h : ∃ k, k < R.length ∧ R.getD k 0 = 0
  · right
    have : ∀ n, (∃ k, k < n ∧ k < R.length ∧ R.getD k 0 = 0) → ∃ k, FirstAt R k := by
      intro n
      induction n with
      | zero => rintro ⟨k, hk, _⟩; omega
      | succ n ih =>
        rintro ⟨k, hk, h1, h2⟩
        by_cases hn : ∃ k, k < n ∧ k < R.length ∧ R.getD k 0 = 0
        · exact ih hn
        · refine ⟨k, h1, h2, fun j hj e => hn ⟨j, by omega, by omega, e⟩⟩
    obtain ⟨k, h1, h2⟩ := h
    exact this (k + 1) ⟨k, by omega, h1, h2⟩
  · exact Or.inl fun j hj e => h ⟨j, hj, e⟩

set_option maxHeartbeats 400000 in
theorem firstFree_yes (dv rv : Value) (R : List Int) (k : Nat) (w : World) (hr : IntsAt w rv R) (hk : FirstAt R k) :
    Calls Try.prog 36 #[.agg #[dv, rv]] w fun e w' => e = .returned (.tuple #[.int .i64 k, .bool true]) ∧ Below w.heap.size w w' := by
  obtain ⟨B, cb, rfl, hlb, hcb⟩ := hr
  obtain ⟨hk1, hk2, hk3⟩ := hk
  obtain ⟨b, off, rfl, hbs, hcell⟩ := hcb (by omega)
  have H2 : Hid (R.getD k 0 = 0) := hk2
  have H3 : Hid (∀ j, j < k → R.getD j 0 ≠ 0) := hk3
  have HC : Hid (∀ j, j < R.length → w.cell? ⟨b, off + j, none⟩ = some (.int .i64 (R.getD j 0))) := hcell
  clear hk2 hk3 hcell hcb
  go_enter Try.func36, Try.ntmps36
  go_wp2
  go_loopw [9] (fun i wr => ∃ j : Nat, j ≤ k ∧ i = .int .i64 j ∧ wr = w.alloc (.cells #[dv, .slice (some ⟨b, off, none⟩) R.length cb] 44)) (fun i _ => R.length - (intOf i).toNat)
  case atStart => exact ⟨0, Nat.zero_le _, rfl, rfl⟩
  case round =>
    obtain ⟨j, hj, rfl, rfl⟩ := hrel
    have h1 := HC.out j (by omega)
    have hjl : (j : Int) < (R.length : Int) := by omega
    by_cases he : j = k
    · subst he
      rw [H2.out] at h1
      go_wp2
      go_ret2
      exact ⟨rfl, below_alloc _ _⟩
    · have h3 := H3.out j (by omega)
      revert h1 h3
      generalize R.getD j 0 = x
      intro h1 h3
      have h4 : (x == 0) = false := by simp [h3]
      go_wp2
      refine ⟨⟨j + 1, by omega, by go_num, trivial⟩, ?_⟩
      simp [intOf]; omega

set_option maxHeartbeats 400000 in
theorem firstFree_no (dv rv : Value) (R : List Int) (w : World) (hr : IntsAt w rv R) (hn : NoneFree R) :
    Calls Try.prog 36 #[.agg #[dv, rv]] w fun e w' => e = .returned (.tuple #[.int .i64 0, .bool false]) ∧ Below w.heap.size w w' := by
  obtain ⟨B, cb, rfl, hlb, hcb⟩ := hr
  have H3 : Hid (NoneFree R) := hn
  clear hn
  go_enter Try.func36, Try.ntmps36
  go_wp2
  go_loopw [9] (fun i wr => ∃ j : Nat, j ≤ R.length ∧ i = .int .i64 j ∧ wr = w.alloc (.cells #[dv, .slice B R.length cb] 44)) (fun i _ => R.length - (intOf i).toNat)
  case atStart => exact ⟨0, Nat.zero_le _, rfl, rfl⟩
  case round =>
    obtain ⟨j, hj, rfl, rfl⟩ := hrel
    by_cases hlt : j < R.length
    · obtain ⟨b, off, rfl, hbs, hcell⟩ := hcb (by omega)
      have h1 := hcell j hlt
      have h3 := H3.out j hlt
      clear hcell hcb
      revert h1 h3
      generalize R.getD j 0 = x
      intro h1 h3
      have h4 : (x == 0) = false := by simp [h3]
      go_wp2
      refine ⟨⟨j + 1, by omega, by go_num, trivial⟩, ?_⟩
      simp [intOf]; omega
    · clear hcb
      go_wp2
      go_ret2
      exact ⟨rfl, below_alloc _ _⟩


end Go.Proofs.Ytlcdefpdahjjeaf
