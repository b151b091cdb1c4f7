/- Whatever is done with frames that may be, they stay such that may be: contracts of Take, Share, Drop and Write in that form. -/
import Derived.Test.YtchmmpeblpnjnabBox
namespace Go.Proofs.Ytchmmpeblpnjnab
open Go.RowKit

theorem may_set {D : List (List Int)} {R : List Int} {k : Nat} {row : List Int} {x : Int} (hm : May D R) (hk : k < R.length) (h0 : 0 ≤ x) (h1 : x ≤ 200) (hl : (row.length : Int) = wordsB x) : May (D.set k row) (R.set k x) := by
  refine ⟨by simpa using hm.1, by simpa using hm.2.1, fun n hn => ?_⟩
  have hn' : n < R.length := by simpa using hn
  have hd : k < D.length := by have := hm.1; omega
  unfold okAt
  rw [getD_set _ _ _ _ _ hk, getD_set _ _ _ _ _ hd]
  by_cases e : n = k
  · rw [if_pos e, if_pos e]; exact ⟨h0, h1, hl⟩
  · rw [if_neg e, if_neg e]; exact hm.2.2 n hn'

theorem set_self (D : List (List Int)) (k : Nat) (h : k < D.length) : D.set k (D.getD k []) = D := by
  have : D.getD k [] = D[k] := by simp [List.getD, h]
  rw [this]
  exact List.set_getElem_self h

theorem may_refs {D : List (List Int)} {R : List Int} {k : Nat} {x : Int} (hm : May D R) (hk : k < R.length) (h0 : 0 < x) (h1 : x ≤ 200) (hl : (D.getD k []).length = 16) : May D (R.set k x) := by
  have hd : k < D.length := by have := hm.1; omega
  have := may_set (row := D.getD k []) hm hk (by omega) h1 (by rw [hl]; unfold wordsB; rw [if_neg (by omega)]; rfl)
  rwa [set_self D k hd] at this

theorem known_x {D : List (List Int)} {R : List Int} {j : Nat} (hm : May D R) (hk : Known R j) : 1 ≤ R.getD j 0 ∧ R.getD j 0 ≤ 200 := by
  obtain ⟨h1, _, _⟩ := known_len hm hk
  have h2 := hm.2.2 j h1
  have h3 : R.getD j 0 ≠ 0 := fun h => hk.2.2 (by simpa using h)
  exact ⟨by have := h2.1; omega, h2.2.1⟩

theorem fault_ne {D : List (List Int)} {R : List Int} {n : Int} (hm : May D R) (hk : ¬ Known R n) : faultNo D R n ≠ 0 := by rw [fault_none hm hk]; decide

theorem Take_good (dv rv : Value) (D : List (List Int)) (R : List Int) (w : World) (hd : RowsAt w dv D) (hr : IntsAt w rv R) (hm : May D R) :
    ∃ D' R' i er, (er = 0 → May D' R') ∧ Calls Try.prog 17 #[.agg #[dv, rv]] w fun e w' => Res3 w D' R' i er e w' := by
  rcases first_or R with hn | ⟨k, hk⟩
  · exact ⟨_, _, _, _, fun h => by simp at h, Take_full dv rv D R w hd hr hm hn⟩
  · exact ⟨_, _, _, _, fun _ => may_set hm hk.1 (by decide) (by decide) (by decide), Take_ok dv rv D R k w hd hr hm hk⟩

theorem Share_good (dv rv : Value) (D : List (List Int)) (R : List Int) (n : Int) (w : World) (hd : RowsAt w dv D) (hr : IntsAt w rv R) (hm : May D R) :
    ∃ D' R' er, (er = 0 → May D' R') ∧ Calls Try.prog 18 #[.agg #[dv, rv], .int .i64 n] w fun e w' => Res2 w D' R' er e w' := by
  by_cases hk : Known R n
  · obtain ⟨j, rfl⟩ := Int.eq_ofNat_of_zero_le hk.1
    obtain ⟨h1, h2, h3⟩ := known_len hm hk
    obtain ⟨h4, h5⟩ := known_x hm hk
    by_cases h : R.getD j 0 = 200
    · exact ⟨_, _, _, fun h => by simp at h, Share_full dv rv D R j w hd hr hm hk h⟩
    · exact ⟨_, _, _, fun _ => may_refs hm h1 (by omega) (by omega) h3, Share_ok dv rv D R j w hd hr hm hk h⟩
  · exact ⟨_, _, _, fun h => absurd h (fault_ne hm hk), Share_bad dv rv D R n w hd hr (fault_ne hm hk)⟩

theorem Drop_good (dv rv : Value) (D : List (List Int)) (R : List Int) (n : Int) (w : World) (hd : RowsAt w dv D) (hr : IntsAt w rv R) (hm : May D R) :
    ∃ D' R' er, (er = 0 → May D' R') ∧ Calls Try.prog 19 #[.agg #[dv, rv], .int .i64 n] w fun e w' => Res2 w D' R' er e w' := by
  by_cases hk : Known R n
  · obtain ⟨j, rfl⟩ := Int.eq_ofNat_of_zero_le hk.1
    obtain ⟨h1, h2, h3⟩ := known_len hm hk
    obtain ⟨h4, h5⟩ := known_x hm hk
    by_cases h : R.getD j 0 = 1
    · exact ⟨_, _, _, fun _ => may_set hm h1 (by omega) (by omega) (by rw [h]; decide), Drop_last dv rv D R j w hd hr hm hk h⟩
    · exact ⟨_, _, _, fun _ => may_refs hm h1 (by omega) (by omega) h3, Drop_ok dv rv D R j w hd hr hm hk h⟩
  · exact ⟨_, _, _, fun h => absurd h (fault_ne hm hk), Drop_bad dv rv D R n w hd hr (fault_ne hm hk)⟩

theorem Write_good (dv rv : Value) (D : List (List Int)) (R : List Int) (n a v : Int) (w : World) (hd : RowsAt w dv D) (hr : IntsAt w rv R) (hm : May D R) :
    ∃ D' R' i er, (er = 0 → May D' R') ∧ Calls Try.prog 11 #[.agg #[dv, rv], .int .i64 n, .int .i64 a, .int .i64 v] w fun e w' => Res3 w D' R' i er e w' := by
  by_cases hk : Known R n
  · by_cases ha : 0 ≤ a ∧ a ≤ 15
    · obtain ⟨j, rfl⟩ := Int.eq_ofNat_of_zero_le hk.1
      obtain ⟨i, rfl⟩ := Int.eq_ofNat_of_zero_le ha.1
      obtain ⟨h1, h2, h3⟩ := known_len hm hk
      obtain ⟨h4, h5⟩ := known_x hm hk
      by_cases h : R.getD j 0 = 1
      · refine ⟨_, _, _, _, fun _ => ?_, Write_one dv rv D R j i v w hd hr hm hk (by omega) h⟩
        have e : R.set j 1 = R := by
          have : R[j] = 1 := by simpa [List.getD, h1] using h
          rw [← this]; exact List.set_getElem_self h1
        have := may_set (row := (D.getD j []).set i v) hm h1 (x := 1) (by decide) (by decide) (by rw [List.length_set, h3]; decide)
        rwa [e] at this
      · rcases first_or R with hn | ⟨k, hf⟩
        · exact ⟨_, _, _, _, fun h => by simp at h, Write_full dv rv D R j i v w hd hr hm hk (by omega) h hn⟩
        · refine ⟨_, _, _, _, fun _ => ?_, Write_many dv rv D R j i k v w hd hr hm hk (by omega) h hf⟩
          exact may_set (may_refs hm h1 (x := R.getD j 0 - 1) (by omega) (by omega) h3) (by simpa using hf.1) (by decide) (by decide) (by rw [List.length_set, h3]; decide)
    · exact ⟨_, _, _, _, fun h => by simp at h, Write_range dv rv D R n a v w hd hr (fault_ok hm hk) ha⟩
  · exact ⟨_, _, _, _, fun h => absurd h (fault_ne hm hk), Write_fault dv rv D R n a v w hd hr (fault_ne hm hk)⟩

/-- What was answered has been stored into another variable, and then into this one. -/
theorem BoxF.assign {w W w2 : World} {q g : Nat} {A B A2 B2 : Option Addr} {c c' c2 c2' : Nat} {D D2 : List (List Int)} {R R2 : List Int} (h : BoxF w q A c B c' D R W) (hg : g < W.heap.size) (hqg : q ≠ g) (hlo : w.heap.size ≤ g) (hb : Below W.heap.size W w2) (hd : RowsLo W.heap.size w2 (.slice A2 D2.length c2) D2) (hr : IntsLo W.heap.size w2 (.slice B2 R2.length c2') R2) (u u' : Value) :
    BoxF w q A2 c2 B2 c2' D2 R2 ((((w2.setCell ⟨g, 0, none⟩ u).setCell ⟨g, 1, none⟩ u').setCell ⟨q, 0, none⟩ (.slice A2 D2.length c2)).setCell ⟨q, 1, none⟩ (.slice B2 R2.length c2')) := by
  have hq := lt_of_block h.box
  have hk := h.keep hb
  refine ⟨(((hk.old.setCell hlo _).setCell hlo _).setCell h.lo _).setCell h.lo _, h.lo, set01 (x := .slice A D.length c) (y := .slice B R.length c') ?_ _ _, ((((hd.setCell (a := ⟨g, 0, none⟩) hg _).setCell (a := ⟨g, 1, none⟩) hg _).setCell (a := ⟨q, 0, none⟩) hq _).setCell (a := ⟨q, 1, none⟩) hq _).at, ((((hr.setCell (a := ⟨g, 0, none⟩) hg _).setCell (a := ⟨g, 1, none⟩) hg _).setCell (a := ⟨q, 0, none⟩) hq _).setCell (a := ⟨q, 1, none⟩) hq _).at⟩
  rw [Go.Deep.blk_setCell_other _ _ _ _ hqg, Go.Deep.blk_setCell_other _ _ _ _ hqg]
  exact hk.box

end Go.Proofs.Ytchmmpeblpnjnab
