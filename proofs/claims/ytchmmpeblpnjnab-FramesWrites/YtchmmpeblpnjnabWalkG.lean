/- Contract of sameFrames: it tells whether two frames hold the same. -/
import Derived.Test.YtchmmpeblpnjnabWalkB
namespace Go.Proofs.Ytchmmpeblpnjnab
open Go.RowKit

/-- What sameFrames tells. -/
def sameB (D D' : List (List Int)) (R R' : List Int) : Bool := decide (D = D' ∧ R = R')
theorem sameB_yes {D D' : List (List Int)} {R R' : List Int} (h1 : D = D') (h2 : R = R') : sameB D D' R R' = true := by simp [sameB, h1, h2]
theorem sameB_no {D D' : List (List Int)} {R R' : List Int} (h : ¬ (D = D' ∧ R = R')) : sameB D D' R R' = false := by simp only [sameB, decide_eq_false_iff_not]; exact h

theorem rows_step {D D' : List (List Int)} {k : Nat} (ha : k < D.length) (hb : k < D'.length) (h : D.take k = D'.take k) (e : D.getD k [] = D'.getD k []) : D.take (k + 1) = D'.take (k + 1) := by
  rw [List.take_succ_eq_append_getElem ha, List.take_succ_eq_append_getElem hb, h]
  simp [List.getD, ha, hb] at e
  rw [e]
theorem rows_all {D D' : List (List Int)} {k : Nat} (hl : D.length = D'.length) (hk : ¬ k < D.length) (h : D.take k = D'.take k) : D = D' := by
  rw [List.take_of_length_le (by omega), List.take_of_length_le (by omega)] at h
  exact h

set_option maxHeartbeats 400000 in
theorem sameFrames_any (dv rv dv' rv' : Value) (D D' : List (List Int)) (R R' : List Int) (w : World) (hd : RowsAt w dv D) (hr : IntsAt w rv R) (hd' : RowsAt w dv' D') (hr' : IntsAt w rv' R') :
    Calls Try.prog 13 #[.agg #[dv, rv], .agg #[dv', rv']] w fun e w' => e = .returned (.bool (sameB D D' R R')) ∧ Below w.heap.size w w' := by
  have HR : Hid (IntsAt w rv R) := hr
  have HR' : Hid (IntsAt w rv' R') := hr'
  obtain ⟨A, ca, rfl, hla, hca⟩ := hd
  obtain ⟨B, cb, rfl, hlb, hcb⟩ := hr
  obtain ⟨A', ca', rfl, hla', hca'⟩ := hd'
  obtain ⟨B', cb', rfl, hlb', hcb'⟩ := hr'
  clear hcb hcb'
  have HW : Hid (Below w.heap.size w ((w.alloc (.cells #[.slice A D.length ca, .slice B R.length cb] 25)).alloc (.cells #[.slice A' D'.length ca', .slice B' R'.length cb'] 25))) := (below_alloc _ _).alloc (by simp) _
  by_cases hlen : D.length = D'.length
  · have hl1 : (((D.length : Int)) != (D'.length : Int)) = false := by simp [hlen]
    have HL : Hid (D.length = D'.length) := hlen
    have hle1 : D.length ≤ D'.length := by omega
    have hle2 : D'.length ≤ D.length := by omega
    clear hlen
    by_cases hR : R = R'
    · have HRR : Hid (R = R') := hR
      have hdec : decide (R = R') = true := by simpa using hR
      clear hR
      go_enter Try.func13, Try.ntmps13
      go_wp2_with (go_at_call 29; refine (sameInts_any _ _ _ _ _ (HR.out.below HW.out) (HR'.out.below HW.out)).mono ?_; rintro e w1 ⟨rfl, n1, rfl⟩)
      go_loopw [5] (fun i wr => ∃ k : Nat, k ≤ D.length ∧ i = .int .i64 k ∧ Hid (D.take k = D'.take k) ∧ ∃ n, wr = ((w.alloc (.cells #[.slice A D.length ca, .slice B R.length cb] 25)).alloc (.cells #[.slice A' D'.length ca', .slice B' R'.length cb'] 25)).drewN n) (fun i _ => D.length - (intOf i).toNat)
      case atStart => exact ⟨0, Nat.zero_le _, rfl, by simp [Hid], _, rfl⟩
      case round =>
        obtain ⟨k, hk, rfl, ht, n, rfl⟩ := hrel
        by_cases hlt : k < D.length
        · obtain ⟨b, off, rfl, hbs, hcell⟩ := hca (by omega)
          obtain ⟨b', off', rfl, hbs', hcell'⟩ := hca' (by omega)
          obtain ⟨u, h1, hr1⟩ := hcell k hlt
          obtain ⟨u', h1', hr1'⟩ := hcell' k (by omega)
          clear hcell hcell' hca hca'
          have hlt' : (k : Int) < (D'.length : Int) := by omega
          obtain ⟨row, hrowe⟩ : ∃ row, row = D.getD k [] := ⟨_, rfl⟩
          obtain ⟨row', hrowe'⟩ : ∃ row, row = D'.getD k [] := ⟨_, rfl⟩
          rw [← hrowe] at hr1
          rw [← hrowe'] at hr1'
          have HX : Hid (row = D.getD k []) := hrowe
          have HY : Hid (row' = D'.getD k []) := hrowe'
          have H1 : Hid (IntsAt _ u row) := hr1.below HW.out
          have H1' : Hid (IntsAt _ u' row') := hr1'.below HW.out
          obtain ⟨A1, cc, rfl, hl8, h3⟩ := hr1
          obtain ⟨A1', cc', rfl, hl8', h3'⟩ := hr1'
          clear h3 h3' hrowe hrowe'
          by_cases he : row = row'
          · have hdec2 : decide (row = row') = true := by simpa using he
            have HE : Hid (row = row') := he
            clear he
            go_wp2
            go_quiet ((go_at_call 29; exact quiet_of2 (sameInts_any _ _ _ _ _ (H1.out.drewN _) (H1'.out.drewN _))))
            go_wp2
            refine ⟨⟨k + 1, by omega, by go_num, rows_step (by omega) (by omega) ht.out (by rw [← HX.out, ← HY.out, HE.out]), _, rfl⟩, ?_⟩
            simp [intOf]; omega
          · have hdec2 : decide (row = row') = false := by simpa using he
            have HE : Hid (sameB D D' R R' = false) := sameB_no (fun h => he (by rw [HX.out, HY.out, h.1]))
            clear he
            go_wp2
            go_quiet ((go_at_call 29; exact quiet_of2 (sameInts_any _ _ _ _ _ (H1.out.drewN _) (H1'.out.drewN _))))
            go_wp2
            go_ret
            exact ⟨congrArg (fun b => Ending.returned (.bool b)) HE.out.symm, below_drewN (below_drewN HW.out _) _⟩
        · have HE : Hid (sameB D D' R R' = true) := sameB_yes (rows_all HL.out hlt ht.out) HRR.out
          clear hca hca'
          go_wp2
          go_ret
          exact ⟨congrArg (fun b => Ending.returned (.bool b)) HE.out.symm, below_drewN HW.out _⟩
    · have HE : Hid (sameB D D' R R' = false) := sameB_no (fun h => hR h.2)
      have hdec : decide (R = R') = false := by simpa using hR
      clear hR
      go_enter Try.func13, Try.ntmps13
      go_wp2_with (go_at_call 29; refine (sameInts_any _ _ _ _ _ (HR.out.below HW.out) (HR'.out.below HW.out)).mono ?_; rintro e w1 ⟨rfl, n1, rfl⟩)
      go_ret
      exact ⟨congrArg (fun b => Ending.returned (.bool b)) HE.out.symm, below_drewN HW.out _⟩
  · have HE : Hid (sameB D D' R R' = false) := sameB_no (fun h => hlen (by rw [h.1]))
    have hl1 : (((D.length : Int)) != (D'.length : Int)) = true := by simp; omega
    clear hlen
    go_enter Try.func13, Try.ntmps13
    go_wp2
    go_ret
    exact ⟨congrArg (fun b => Ending.returned (.bool b)) HE.out.symm, HW.out⟩

end Go.Proofs.Ytchmmpeblpnjnab
