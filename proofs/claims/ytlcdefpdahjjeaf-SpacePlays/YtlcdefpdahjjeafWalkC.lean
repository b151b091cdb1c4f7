/- Contracts of frames.Check and hourglassref.FramesMay: both tell whether frames may be. -/
import Derived.Test.YtlcdefpdahjjeafWalkA
namespace Go.Proofs.Ytlcdefpdahjjeaf
open Go.RowKit

/-- One frame may be: known by so many, with its words. -/
def okAt (D : List (List Int)) (R : List Int) (i : Nat) : Prop := 0 ≤ R.getD i 0 ∧ R.getD i 0 ≤ 200 ∧ ((D.getD i []).length : Int) = wordsB (R.getD i 0)
/-- Frames that may be. -/
def May (D : List (List Int)) (R : List Int) : Prop := D.length = R.length ∧ R.length ≤ 200 ∧ ∀ i, i < R.length → okAt D R i
/-- What FramesMay tells. -/
def mayB (D : List (List Int)) (R : List Int) : Bool :=
  decide (D.length = R.length ∧ R.length ≤ 200) && (List.range R.length).all fun i => decide (0 ≤ R.getD i 0 ∧ R.getD i 0 ≤ 200 ∧ ((D.getD i []).length : Int) = wordsB (R.getD i 0))
theorem mayB_iff (D : List (List Int)) (R : List Int) : mayB D R = true ↔ May D R := by
  simp only [mayB, May, okAt, Bool.and_eq_true, decide_eq_true_eq, List.all_eq_true, List.mem_range]
  exact ⟨fun h => ⟨h.1.1, h.1.2, h.2⟩, fun h => ⟨⟨h.1, h.2.1⟩, h.2.2⟩⟩
theorem mayB_yes {D : List (List Int)} {R : List Int} (h : May D R) : mayB D R = true := (mayB_iff D R).2 h
theorem mayB_no {D : List (List Int)} {R : List Int} (h : ¬ May D R) : mayB D R = false := by
  cases hb : mayB D R with
  | false => rfl
  | true => exact absurd ((mayB_iff D R).1 hb) h
/-- What Check tells. -/
def mayNo (D : List (List Int)) (R : List Int) : Int := if mayB D R then 0 else 8
theorem mayNo_yes {D : List (List Int)} {R : List Int} (h : May D R) : mayNo D R = 0 := by simp [mayNo, mayB_yes h]
theorem mayNo_no {D : List (List Int)} {R : List Int} (h : ¬ May D R) : mayNo D R = 8 := by simp [mayNo, mayB_no h]

theorem not_may_at {D : List (List Int)} {R : List Int} {k : Nat} (hk : k < R.length) (h : ¬ okAt D R k) : ¬ May D R := fun m => h (m.2.2 k hk)
theorem may_all {D : List (List Int)} {R : List Int} {k : Nat} (h1 : D.length = R.length) (h2 : R.length ≤ 200) (hk : ¬ k < R.length) (h : ∀ i, i < k → okAt D R i) : May D R := ⟨h1, h2, fun i hi => h i (by omega)⟩
theorem ok_step {D : List (List Int)} {R : List Int} {k : Nat} (h : ∀ i, i < k → okAt D R i) (hk : okAt D R k) : ∀ i, i < k + 1 → okAt D R i := fun i hi => by
  by_cases e : i = k
  · subst e; exact hk
  · exact h i (by omega)

set_option maxHeartbeats 1000000 in
theorem Check_any (dv rv : Value) (D : List (List Int)) (R : List Int) (w : World) (hd : RowsAt w dv D) (hr : IntsAt w rv R) :
    Calls Try.prog 40 #[.agg #[dv, rv]] w fun e w' => e = .returned (.int .i64 (mayNo D R)) ∧ Below w.heap.size w w' := by
  obtain ⟨A, ca, rfl, hla, hca⟩ := hd
  obtain ⟨B, cb, rfl, hlb, hcb⟩ := hr
  by_cases hlen : D.length = R.length
  · have hl1 : (((D.length : Int)) != (R.length : Int)) = false := by simp [hlen]
    have HL : Hid (D.length = R.length) := hlen
    have hle1 : D.length ≤ R.length := by omega
    have hle2 : R.length ≤ D.length := by omega
    by_cases h200 : R.length ≤ 200
    · clear hlen
      go_enter Try.func40, Try.ntmps40
      go_wp2
      go_loopw [21] (fun i wr => ∃ k : Nat, k ≤ R.length ∧ i = .int .i64 k ∧ Hid (∀ i, i < k → okAt D R i) ∧ ∃ n, wr = (w.alloc (.cells #[.slice A D.length ca, .slice B R.length cb] 44)).drewN n) (fun i _ => R.length - (intOf i).toNat)
      case atStart => exact ⟨0, Nat.zero_le _, rfl, fun i hi => absurd hi (Nat.not_lt_zero _), 0, rfl⟩
      case round =>
        obtain ⟨k, hk, rfl, ht, n, rfl⟩ := hrel
        by_cases hlt : k < R.length
        · obtain ⟨b, off, rfl, hbs, hcell⟩ := hca (by omega)
          obtain ⟨b', off', rfl, hbs', hcell'⟩ := hcb (by omega)
          obtain ⟨u, h1, A1, cc, rfl, hl8, h3⟩ := hcell k (by omega)
          clear h3
          have hlt' : (k : Int) < (D.length : Int) := by omega
          have h2 := hcell' k (by omega)
          clear hcell hcell' hca hcb
          have ho : Hid (okAt D R k ↔ (0 ≤ R.getD k 0 ∧ R.getD k 0 ≤ 200 ∧ ((D.getD k []).length : Int) = wordsB (R.getD k 0))) := Iff.rfl
          revert h1 h2 ho hl8
          generalize R.getD k 0 = r
          generalize (D.getD k []).length = m
          intro h1 hl8 h2 ho
          by_cases c1 : r < 0
          · have g1 : decide (r < 0) = true := by simpa using c1
            have HN : Hid (mayNo D R = 8) := mayNo_no (not_may_at hlt (fun h => by have := ho.out.1 h; omega))
            go_wp2
            go_quiet (fail)
            go_wp2
            go_ret
            exact ⟨ret_int HN.out.symm, below_drewN (below_drewN (below_alloc _ _) _) _⟩
          have g1 : decide (r < 0) = false := by simpa using c1
          by_cases c2 : 200 < r
          · have g2 : decide (200 < r) = true := by simpa using c2
            have HN : Hid (mayNo D R = 8) := mayNo_no (not_may_at hlt (fun h => by have := ho.out.1 h; omega))
            go_wp2
            go_quiet (fail)
            go_wp2
            go_ret
            exact ⟨ret_int HN.out.symm, below_drewN (below_drewN (below_alloc _ _) _) _⟩
          have g2 : decide (200 < r) = false := by simpa using c2
          by_cases c3 : (m : Int) = wordsB r
          · have HN : Hid (okAt D R k) := ho.out.2 ⟨by omega, by omega, c3⟩
            have hne : ((m : Int) != wordsB r) = false := by simp [c3]
            clear c3
            go_wp2
            go_quiet ((go_at_call 41; exact quiet_same2 (wordsFor_any _ _)))
            go_wp2
            refine ⟨⟨k + 1, by omega, by go_num, ok_step ht.out HN.out, _, rfl⟩, ?_⟩
            simp [intOf]; omega
          · have HN : Hid (mayNo D R = 8) := mayNo_no (not_may_at hlt (fun h => c3 (ho.out.1 h).2.2))
            have hne : ((m : Int) != wordsB r) = true := by simp [c3]
            clear c3
            go_wp2
            go_quiet ((go_at_call 41; exact quiet_same2 (wordsFor_any _ _)))
            go_wp2
            go_ret
            exact ⟨ret_int HN.out.symm, below_drewN (below_drewN (below_alloc _ _) _) _⟩
        · have HN : Hid (mayNo D R = 0) := mayNo_yes (may_all HL.out h200 hlt ht.out)
          clear hca hcb
          go_wp2
          go_ret
          exact ⟨ret_int HN.out.symm, below_drewN (below_alloc _ _) _⟩
    · have HN : Hid (mayNo D R = 8) := mayNo_no (fun h => h200 h.2.1)
      clear hlen
      go_enter Try.func40, Try.ntmps40
      go_wp2
      go_ret
      exact ⟨ret_int HN.out.symm, below_alloc _ _⟩
  · have hl1 : (((D.length : Int)) != (R.length : Int)) = true := by simp; omega
    have HN : Hid (mayNo D R = 8) := mayNo_no (fun h => hlen h.1)
    clear hlen
    go_enter Try.func40, Try.ntmps40
    go_wp2
    go_ret
    exact ⟨ret_int HN.out.symm, below_alloc _ _⟩

end Go.Proofs.Ytlcdefpdahjjeaf
