/- Contracts of frames.checkKnown and hourglassref.knownFault: ErrState, ErrNone or OK. -/
import Derived.Test.YtlcdefpdahjjeafWalkD
namespace Go.Proofs.Ytlcdefpdahjjeaf
open Go.RowKit

/-- There is such a frame, and it is not free. -/
def Known (R : List Int) (n : Int) : Prop := 0 ≤ n ∧ n < R.length ∧ R.getD n.toNat 0 ≠ 0
/-- What both tell. -/
def faultNo (D : List (List Int)) (R : List Int) (n : Int) : Int := if mayB D R then (if decide (0 ≤ n ∧ n < R.length ∧ R.getD n.toNat 0 ≠ 0) then 0 else 6) else 8
theorem fault_state {D : List (List Int)} {R : List Int} {n : Int} (h : ¬ May D R) : faultNo D R n = 8 := by simp [faultNo, mayB_no h]
theorem fault_none {D : List (List Int)} {R : List Int} {n : Int} (h : May D R) (hn : ¬ Known R n) : faultNo D R n = 6 := by
  have : decide (0 ≤ n ∧ n < R.length ∧ R.getD n.toNat 0 ≠ 0) = false := decide_eq_false hn
  simp only [faultNo, mayB_yes h, this]
  rfl
theorem fault_ok {D : List (List Int)} {R : List Int} {n : Int} (h : May D R) (hn : Known R n) : faultNo D R n = 0 := by
  have : decide (0 ≤ n ∧ n < R.length ∧ R.getD n.toNat 0 ≠ 0) = true := decide_eq_true hn
  simp only [faultNo, mayB_yes h, this]
  rfl

set_option maxHeartbeats 400000 in
theorem checkKnown_any (dv rv : Value) (D : List (List Int)) (R : List Int) (n : Int) (w : World) (hd : RowsAt w dv D) (hr : IntsAt w rv R) :
    Calls Try.prog 38 #[.agg #[dv, rv], .int .i64 n] w fun e w' => e = .returned (.int .i64 (faultNo D R n)) ∧ Below w.heap.size w w' := by
  have HC : Hid (∀ w', Below (w.alloc (.cells #[dv, rv] 44)).heap.size (w.alloc (.cells #[dv, rv] 44)) w' → w'.heap[w.heap.size]? = some (.cells #[dv, rv] 44 (0, 0)) ∧ Below w.heap.size w w') := fun w' hb => ⟨box_kept hb, (below_alloc _ _).trans (hb.mono (by simp))⟩
  by_cases hm : May D R
  · have HN : Hid (mayNo D R = 0) := mayNo_yes hm
    have HM : Hid (May D R) := hm
    clear hm
    by_cases c1 : n < 0
    · have HF : Hid (faultNo D R n = 6) := fault_none HM.out (fun h => by have := h.1; omega)
      go_enter Try.func38, Try.ntmps38
      go_wp2_with fail
      refine (Check_any dv rv D R _ (hd.below (below_alloc _ _)) (hr.below (below_alloc _ _))).mono ?_
      rw [HN.out]
      rintro e w1 ⟨rfl, hb1⟩
      obtain ⟨hbx, hb⟩ := HC.out w1 hb1
      obtain ⟨hx0, hx1, hxf, hxl⟩ := two_cells hbx
      clear hbx hb1
      go_wp2
      go_ret
      exact ⟨ret_int HF.out.symm, hb⟩
    · obtain ⟨B, cb, rfl, hlb, hcb⟩ := id hr
      by_cases c2 : (R.length : Int) ≤ n
      · have HF : Hid (faultNo D R n = 6) := fault_none HM.out (fun h => by have := h.2.1; omega)
        clear hcb
        go_enter Try.func38, Try.ntmps38
        go_wp2_with fail
        refine (Check_any _ _ D R _ (hd.below (below_alloc _ _)) (hr.below (below_alloc _ _))).mono ?_
        rw [HN.out]
        rintro e w1 ⟨rfl, hb1⟩
        obtain ⟨hbx, hb⟩ := HC.out w1 hb1
        obtain ⟨hx0, hx1, hxf, hxl⟩ := two_cells hbx
        clear hbx hb1
        go_wp2
        go_ret
        exact ⟨ret_int HF.out.symm, hb⟩
      · obtain ⟨j, rfl⟩ := Int.eq_ofNat_of_zero_le (show 0 ≤ n by omega)
        obtain ⟨b, off, rfl, hbs, hcell⟩ := hcb (by omega)
        have h1 := hcell j (by omega)
        have HK : Hid (Known R j ↔ R.getD j 0 ≠ 0) := ⟨fun h => by simpa using h.2.2, fun h => ⟨by omega, by omega, by simpa using h⟩⟩
        clear hcell hcb
        revert h1 HK
        generalize R.getD j 0 = r
        intro h1 HK
        by_cases c3 : r = 0
        · have HF : Hid (faultNo D R j = 6) := fault_none HM.out (fun h => HK.out.1 h c3)
          have hr0 : (r == 0) = true := by simp [c3]
          clear c3
          go_enter Try.func38, Try.ntmps38
          go_wp2_with fail
          refine (Check_any _ _ D R _ (hd.below (below_alloc _ _)) (hr.below (below_alloc _ _))).mono ?_
          rw [HN.out]
          rintro e w1 ⟨rfl, hb1⟩
          obtain ⟨hbx, hb⟩ := HC.out w1 hb1
          obtain ⟨hx0, hx1, hxf, hxl⟩ := two_cells hbx
          rw [← hb.cell (p := ⟨b, off + j, none⟩) hbs] at h1
          clear hbx hb1
          go_wp2
          go_ret
          exact ⟨ret_int HF.out.symm, hb⟩
        · have HF : Hid (faultNo D R j = 0) := fault_ok HM.out (HK.out.2 c3)
          have hr0 : (r == 0) = false := by simp [c3]
          clear c3
          go_enter Try.func38, Try.ntmps38
          go_wp2_with fail
          refine (Check_any _ _ D R _ (hd.below (below_alloc _ _)) (hr.below (below_alloc _ _))).mono ?_
          rw [HN.out]
          rintro e w1 ⟨rfl, hb1⟩
          obtain ⟨hbx, hb⟩ := HC.out w1 hb1
          obtain ⟨hx0, hx1, hxf, hxl⟩ := two_cells hbx
          rw [← hb.cell (p := ⟨b, off + j, none⟩) hbs] at h1
          clear hbx hb1
          go_wp2
          go_ret
          exact ⟨ret_int HF.out.symm, hb⟩
  · have HN : Hid (mayNo D R = 8) := mayNo_no hm
    have HF : Hid (faultNo D R n = 8) := fault_state hm
    go_enter Try.func38, Try.ntmps38
    go_wp2_with fail
    refine (Check_any dv rv D R _ (hd.below (below_alloc _ _)) (hr.below (below_alloc _ _))).mono ?_
    rw [HN.out]
    rintro e w1 ⟨rfl, hb1⟩
    obtain ⟨hbx, hb⟩ := HC.out w1 hb1
    go_wp2
    go_ret
    exact ⟨ret_int HF.out.symm, hb⟩


end Go.Proofs.Ytlcdefpdahjjeaf
