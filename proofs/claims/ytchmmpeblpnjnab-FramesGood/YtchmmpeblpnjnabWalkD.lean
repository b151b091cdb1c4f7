/- Contract of hourglassref.FramesMay. -/
import Derived.Test.YtchmmpeblpnjnabWalkC
namespace Go.Proofs.Ytchmmpeblpnjnab
open Go.RowKit

set_option maxHeartbeats 1000000 in
theorem FramesMay_any (dv rv : Value) (D : List (List Int)) (R : List Int) (w : World) (hd : RowsAt w dv D) (hr : IntsAt w rv R) :
    Calls Try.prog 32 #[.agg #[dv, rv]] w fun e w' => e = .returned (.bool (mayB D R)) ∧ Below w.heap.size w w' := by
  obtain ⟨A, ca, rfl, hla, hca⟩ := hd
  obtain ⟨B, cb, rfl, hlb, hcb⟩ := hr
  by_cases hlen : D.length = R.length
  · have hl1 : (((D.length : Int)) != (R.length : Int)) = false := by simp [hlen]
    have HL : Hid (D.length = R.length) := hlen
    have hle1 : D.length ≤ R.length := by omega
    have hle2 : R.length ≤ D.length := by omega
    by_cases h200 : R.length ≤ 200
    · clear hlen
      go_enter Try.func32, Try.ntmps32
      go_wp2
      go_loopw [3] (fun i wr => ∃ k : Nat, k ≤ R.length ∧ i = .int .i64 k ∧ Hid (∀ i, i < k → okAt D R i) ∧ ∃ n, wr = (w.alloc (.cells #[.slice A D.length ca, .slice B R.length cb] 25)).drewN n) (fun i _ => R.length - (intOf i).toNat)
      case atStart => exact ⟨0, Nat.zero_le _, rfl, fun i hi => absurd hi (Nat.not_lt_zero _), 0, rfl⟩
      case round =>
        obtain ⟨k, hk, rfl, ht, n, rfl⟩ := hrel
        by_cases hlt : k < R.length
        · obtain ⟨b, off, rfl, hbs, hcell⟩ := hca (by omega)
          obtain ⟨b', off', rfl, hbs', hcell'⟩ := hcb (by omega)
          obtain ⟨u, h1, A1, cc, rfl, hl8, h3⟩ := hcell k (by omega)
          clear h3
          have hlt' : (k : Int) < (D.length : Int) := by omega
          have h2 := hcell' k (by omega)
          clear hcell hcell' hca hcb
          have ho : Hid (okAt D R k ↔ (0 ≤ R.getD k 0 ∧ R.getD k 0 ≤ 200 ∧ ((D.getD k []).length : Int) = wordsB (R.getD k 0))) := Iff.rfl
          revert h1 h2 ho hl8
          generalize R.getD k 0 = r
          generalize (D.getD k []).length = m
          intro h1 hl8 h2 ho
          by_cases c0 : r = 0
          · have g0 : (r == 0) = true := by simp [c0]
            have gi : decide (0 ≤ r ∧ r ≤ 200) = true := by simp [c0]
            by_cases c3 : (m : Int) = 0
            · have HN : Hid (okAt D R k) := ho.out.2 ⟨by omega, by omega, by rw [c0]; exact c3⟩
              have hne : ((m : Int) != 0) = false := by simp [c3]
              clear c3 c0
              go_wp2_with (go_at_call 24; refine (In_any _ _ _ _).mono ?_; rintro e w' ⟨rfl, rfl⟩)
              refine ⟨⟨k + 1, by omega, by go_num, ok_step ht.out HN.out, _, rfl⟩, ?_⟩
              simp [intOf]; omega
            · have HN : Hid (mayB D R = false) := mayB_no (not_may_at hlt (fun h => c3 (by have := (ho.out.1 h).2.2; rw [c0] at this; exact this)))
              have hne : ((m : Int) != 0) = true := by simpa using c3
              clear c3 c0
              go_wp2_with (go_at_call 24; refine (In_any _ _ _ _).mono ?_; rintro e w' ⟨rfl, rfl⟩)
              go_ret
              exact ⟨ret_bool HN.out.symm, below_drewN (below_alloc _ _) _⟩
          · have g0 : (r == 0) = false := by simp [c0]
            by_cases ci : 0 ≤ r ∧ r ≤ 200
            · have gi : decide (0 ≤ r ∧ r ≤ 200) = true := by simpa using ci
              by_cases c3 : (m : Int) = 16
              · have HN : Hid (okAt D R k) := ho.out.2 ⟨ci.1, ci.2, by rw [c3]; simp [wordsB, c0]⟩
                have hne : ((m : Int) != 16) = false := by simp [c3]
                clear c3 c0
                go_wp2_with (go_at_call 24; refine (In_any _ _ _ _).mono ?_; rintro e w' ⟨rfl, rfl⟩)
                refine ⟨⟨k + 1, by omega, by go_num, ok_step ht.out HN.out, _, rfl⟩, ?_⟩
                simp [intOf]; omega
              · have HN : Hid (mayB D R = false) := mayB_no (not_may_at hlt (fun h => c3 (by have := (ho.out.1 h).2.2; simpa [wordsB, c0] using this)))
                have hne : ((m : Int) != 16) = true := by simpa using c3
                clear c3 c0
                go_wp2_with (go_at_call 24; refine (In_any _ _ _ _).mono ?_; rintro e w' ⟨rfl, rfl⟩)
                go_ret
                exact ⟨ret_bool HN.out.symm, below_drewN (below_alloc _ _) _⟩
            · have gi : decide (0 ≤ r ∧ r ≤ 200) = false := by simpa using ci
              have HN : Hid (mayB D R = false) := mayB_no (not_may_at hlt (fun h => ci ⟨(ho.out.1 h).1, (ho.out.1 h).2.1⟩))
              clear ci c0
              go_wp2_with (go_at_call 24; refine (In_any _ _ _ _).mono ?_; rintro e w' ⟨rfl, rfl⟩)
              go_ret
              exact ⟨ret_bool HN.out.symm, below_drewN (below_alloc _ _) _⟩
        · have HN : Hid (mayB D R = true) := mayB_yes (may_all HL.out h200 hlt ht.out)
          clear hca hcb
          go_wp2
          go_ret
          exact ⟨ret_bool HN.out.symm, below_drewN (below_alloc _ _) _⟩
    · have HN : Hid (mayB D R = false) := mayB_no (fun h => h200 h.2.1)
      clear hlen
      go_enter Try.func32, Try.ntmps32
      go_wp2
      go_ret
      exact ⟨ret_bool HN.out.symm, below_alloc _ _⟩
  · have hl1 : (((D.length : Int)) != (R.length : Int)) = true := by simp; omega
    have HN : Hid (mayB D R = false) := mayB_no (fun h => hlen h.1)
    clear hlen
    go_enter Try.func32, Try.ntmps32
    go_wp2
    go_ret
    exact ⟨ret_bool HN.out.symm, below_alloc _ _⟩

end Go.Proofs.Ytchmmpeblpnjnab
