/- Events are read as they were written, and no others: plain. -/
import Derived.Test.YtlcdefpdahjjeagDoorByD
namespace Go.Proofs.YtlcdefpdahjjeagDoor
open Go.RowKit
set_option maxRecDepth 100000

/-- Events, each of which may be, none ahead of its forerunner. -/
def Up : Int → List Ev → Prop
  | _, [] => True
  | last, x :: L => evNo x = 0 ∧ 0 ≤ last ∧ last ≤ x.at_ ∧ Up x.at_ L
theorem up_of {L : List Ev} (h : chkNo L = 0) : Up 0 L := by
  have key : ∀ n k, L.length - k = n → Up (prevAt L k) (L.drop k) := by
    intro n
    induction n with
    | zero =>
      intro k hk
      rw [List.drop_eq_nil_of_le (by omega)]
      exact trivial
    | succ n ih =>
      intro k hk
      have hlt : k < L.length := by omega
      obtain ⟨h1, h2, h3⟩ := ok_at h k hlt
      have h4 := ih (k + 1) (by omega)
      rw [prevAt_succ] at h4
      rw [List.drop_eq_getElem_cons hlt]
      have : L[k] = L.getD k noEv := by simp [List.getD, hlt]
      rw [this]
      exact ⟨h1, h2, h3, h4⟩
  have := key L.length 0 rfl
  simpa [prevAt] using this

theorem eventD_evB {last : Int} {x : Ev} (t : List Int) (h : evNo x = 0) (h0 : 0 ≤ last) (h1 : last ≤ x.at_) : eventD last (evB last x ++ t) = ⟨0, x, t⟩ := by
  obtain ⟨a, k, d⟩ := x
  obtain ⟨hk, ha, hw, hl⟩ := evNo_bd h
  simp only at hk ha hw hl h1
  obtain ⟨n, hn⟩ : ∃ n : Nat, (n : Int) = 4 * (a - last) + k := ⟨(4 * (a - last) + k).toNat, by omega⟩
  have n1 : numD (evB last ⟨a, k, d⟩ ++ t) = ⟨0, (n : Int), dataB ⟨a, k, d⟩ ++ t⟩ := by
    unfold evB
    simp only
    rw [show (4 * (a - last) + k).toNat = n by omega, List.append_assoc, numD_sevens _ (by omega)]
  have hm := allB_mem hw
  have hat : last + (n : Int) / 4 = a := by omega
  unfold eventD
  rw [n1]
  simp only
  rw [if_neg (by simp)]
  have h3 : k = 1 ∨ k = 2 ∨ k = 3 := by omega
  rcases h3 with rfl | rfl | rfl
  · obtain rfl : d = [] := by simpa [wordsN] using hl
    rw [if_pos (by omega), hat]
    simp [dataB]
  · have h16 : d.length = 16 := by simp [wordsN] at hl; omega
    have hr : runsD 16 [] 0 (dataB ⟨a, 2, d⟩ ++ t) = ⟨0, d, t⟩ := by
      rw [show dataB ⟨a, 2, d⟩ = runsB 0 0 d by simp [dataB]]
      have := runsD_runsB 16 [] 0 d t (by simpa using h16) (by omega) (by simp) hm (by simp)
      simpa using this
    rw [if_neg (by omega), if_pos (by omega), hr]
    simp only
    rw [if_neg (by simp), hat]
  · obtain ⟨z, rfl⟩ : ∃ z, d = [z] := List.length_eq_one_iff.1 (by simp [wordsN] at hl; omega)
    have hz := hm z (by simp)
    obtain ⟨m, z1, z2, z3, z4⟩ := zigs_of (z := z)
    have hd : numD (dataB ⟨a, 3, [z]⟩ ++ t) = ⟨0, (m : Int), t⟩ := by
      rw [show dataB ⟨a, 3, [z]⟩ = zigs z by simp [dataB], z1, numD_sevens _ (z3 (by omega) (by omega))]
    rw [if_neg (by omega), if_neg (by omega), if_pos (by omega), hd]
    simp only
    rw [if_neg (by simp), hat, z2]

theorem eventsD_enc : ∀ (L : List Ev) (last : Int) (got : List Ev) (t : List Int), Up last L → eventsD L.length last got (encFrom last L ++ t) = ⟨0, got ++ L, t⟩
  | [], last, got, t, _ => by simp [eventsD, encFrom]
  | x :: L, last, got, t, h => by
    obtain ⟨h1, h2, h3, h4⟩ := h
    have e := eventD_evB (encFrom x.at_ L ++ t) h1 h2 h3
    rw [List.length_cons, eventsD, encFrom, List.append_assoc, e]
    simp only
    rw [if_neg (by simp), eventsD_enc L x.at_ _ t h4, List.append_assoc, List.singleton_append]
theorem allD_enc {L : List Ev} (h : chkNo L = 0) : allD (encB L) = ⟨0, L, []⟩ := by
  have hl := (chk_zero h).1
  have n1 : numD (encB L) = ⟨0, (L.length : Int), encFrom 0 L⟩ := by unfold encB; rw [numD_sevens _ (by omega)]
  have e := eventsD_enc L 0 [] [] (up_of h)
  simp only [List.append_nil, List.nil_append] at e
  unfold allD
  rw [n1]
  simp only
  rw [if_neg (by simp), if_neg (by omega), Int.toNat_natCast, e]
  simp
theorem allD_more {L : List Ev} (h : chkNo L = 0) {t : List Int} (ht : t ≠ []) : (allD (encB L ++ t)).no = 4 := by
  have hl := (chk_zero h).1
  have n1 : numD (encB L ++ t) = ⟨0, (L.length : Int), encFrom 0 L ++ t⟩ := by unfold encB; rw [List.append_assoc, numD_sevens _ (by omega)]
  have e := eventsD_enc L 0 [] t (up_of h)
  simp only [List.nil_append] at e
  have h0 : 0 < t.length := List.length_pos_iff.2 ht
  unfold allD
  rw [n1]
  simp only
  rw [if_neg (by simp), if_neg (by omega), Int.toNat_natCast, e]
  simp only
  rw [if_neg (by simp), if_pos h0]
theorem full_cut (L : List Ev) : (fullB L).length - 4 = (encB L).length ∧ (fullB L).take ((fullB L).length - 4) = encB L ∧ (fullB L).drop ((fullB L).length - 4) = sumB (encB L) := by
  have h4 : (sumB (encB L)).length = 4 := rfl
  have hl : (fullB L).length - 4 = (encB L).length := by unfold fullB; rw [List.length_append, h4]; omega
  rw [hl]
  exact ⟨rfl, List.take_left, List.drop_left⟩
theorem encB_pos (L : List Ev) : 0 < (encB L).length := by have := sevens_ne L.length; simp [encB]; omega
theorem decD_full {L : List Ev} (h : chkNo L = 0) (h6 : (fullB L).length ≤ 60000) : decD (fullB L) = (0, L) := by
  obtain ⟨c1, c2, c3⟩ := full_cut L
  have := encB_pos L
  have e := allD_enc h
  unfold decD
  rw [if_neg (by omega), if_neg (by omega), c2, c3, if_neg (by simp), e]
  simp only
  rw [if_neg (by simp), h, if_neg (by simp)]

/-- The other way round. -/
theorem eventD_back {last : Int} {l : List Int} (hb : ∀ x ∈ l, 0 ≤ x ∧ x ≤ 255) (h : (eventD last l).no = 0) : l = evB last (eventD last l).val ++ (eventD last l).rest := by
  unfold eventD at h ⊢
  split at h
  · rename_i h1
    exact absurd h h1
  · rename_i h1
    rw [if_neg h1]
    simp only [ne_eq, Decidable.not_not] at h1
    obtain ⟨n, a1, a2, a3⟩ := numD_back hb h1
    rw [a2] at h ⊢
    have hb1 := rest_byte hb a1
    have hat : ∀ k : Int, (n : Int) % 4 = k → (4 * (last + (n : Int) / 4 - last) + k).toNat = n := fun k hk => by omega
    split at h
    · rename_i h2
      rw [if_pos h2]
      simp only [evB, hat 1 h2, dataB]
      simpa using a1
    · rename_i h2
      rw [if_neg h2]
      split at h
      · rename_i h3
        rw [if_pos h3]
        split at h
        · rename_i h4
          exact absurd h h4
        · rename_i h4
          rw [if_neg h4]
          simp only [ne_eq, Decidable.not_not] at h4
          obtain ⟨e, c1, c2, c3, c4⟩ := runsD_back 16 [] 0 _ hb1 (by simp) (by simp) h4
          simp only [List.nil_append] at c1
          simp only [evB, hat 2 h3, dataB, if_pos]
          rw [c1, List.append_assoc, ← c3, ← a1]
      · rename_i h3
        rw [if_neg h3]
        split at h
        · rename_i h5
          rw [if_pos h5]
          split at h
          · rename_i h4
            exact absurd h h4
          · rename_i h4
            rw [if_neg h4]
            simp only [ne_eq, Decidable.not_not] at h4
            obtain ⟨m, b1, b2, b3⟩ := numD_back hb1 h4
            have hd : dataB ⟨last + (n : Int) / 4, 3, [anyK (m : Int)]⟩ = sevens m := by simp [dataB, zigs_anyK]
            rw [b2]
            simp only [evB, hat 3 h5, hd]
            rw [List.append_assoc, ← b1, ← a1]
        · simp at h
theorem eventsD_back : ∀ (n : Nat) (last : Int) (got : List Ev) (l : List Int), (∀ x ∈ l, 0 ≤ x ∧ x ≤ 255) → (eventsD n last got l).no = 0 → ∃ L, (eventsD n last got l).val = got ++ L ∧ L.length = n ∧ l = encFrom last L ++ (eventsD n last got l).rest
  | 0, last, got, l, hb, h => ⟨[], by simp [eventsD], rfl, by simp [eventsD, encFrom]⟩
  | n + 1, last, got, l, hb, h => by
    rw [eventsD] at h ⊢
    split at h
    · rename_i h1
      exact absurd h h1
    · rename_i h1
      rw [if_neg h1]
      simp only [ne_eq, Decidable.not_not] at h1
      have a1 := eventD_back hb h1
      obtain ⟨L, c1, c2, c3⟩ := eventsD_back n _ _ _ (rest_byte hb a1) h
      refine ⟨(eventD last l).val :: L, by rw [c1, List.append_assoc]; rfl, by simp [c2], ?_⟩
      rw [encFrom, List.append_assoc, ← c3, ← a1]
theorem allD_back {l : List Int} (hb : ∀ x ∈ l, 0 ≤ x ∧ x ≤ 255) (h : (allD l).no = 0) : l = encB (allD l).val := by
  unfold allD at h ⊢
  split at h
  · rename_i h1
    exact absurd h h1
  · rename_i h1
    rw [if_neg h1]
    simp only [ne_eq, Decidable.not_not] at h1
    obtain ⟨n, a1, a2, a3⟩ := numD_back hb h1
    rw [a2, Int.toNat_natCast] at h ⊢
    split at h
    · simp at h
    · rename_i h2
      rw [if_neg h2]
      split at h
      · rename_i h3
        exact absurd h h3
      · rename_i h3
        rw [if_neg h3]
        split at h
        · simp at h
        · rename_i h4
          rw [if_neg h4]
          obtain ⟨L, c1, c2, c3⟩ := eventsD_back n 0 [] _ (rest_byte hb a1) h
          have hr : (eventsD n 0 [] (numD l).rest).rest = [] := List.length_eq_zero_iff.1 (by omega)
          rw [hr, List.append_nil] at c3
          rw [c1, List.nil_append, encB, c2, ← c3, ← a1]
theorem decD_back {l : List Int} (hb : ∀ x ∈ l, 0 ≤ x ∧ x ≤ 255) (h : (decD l).1 = 0) : l = fullB (decD l).2 ∧ chkNo (decD l).2 = 0 ∧ l.length ≤ 60000 := by
  unfold decD at h ⊢
  split at h
  · simp at h
  · rename_i h1
    rw [if_neg h1]
    split at h
    · simp at h
    · rename_i h2
      rw [if_neg h2]
      split at h
      · simp at h
      · rename_i h3
        rw [if_neg h3]
        simp only [ne_eq, Decidable.not_not] at h3
        split at h
        · rename_i h4
          exact absurd h h4
        · rename_i h4
          rw [if_neg h4]
          simp only [ne_eq, Decidable.not_not] at h4
          split at h
          · rename_i h5
            exact absurd h h5
          · rename_i h5
            rw [if_neg h5]
            simp only [ne_eq, Decidable.not_not] at h5
            refine ⟨?_, h5, by omega⟩
            have e := allD_back (fun x hx => hb x (List.mem_of_mem_take hx)) h4
            unfold fullB
            rw [← e, ← h3, List.take_append_drop]
/-- Cut short they are not read. -/
theorem decD_cut {L : List Ev} (h : chkNo L = 0) {k : Nat} (hk : k < (fullB L).length) : (decD ((fullB L).take k)).1 ≠ 0 := by
  intro h0
  have hb : ∀ x ∈ (fullB L).take k, 0 ≤ x ∧ x ≤ 255 := fun x hx => fullB_byte L x (List.mem_of_mem_take hx)
  obtain ⟨e, hc, -⟩ := decD_back hb h0
  obtain ⟨L', hL'⟩ : ∃ L', L' = (decD ((fullB L).take k)).2 := ⟨_, rfl⟩
  rw [← hL'] at e hc
  have hlen : k = (encB L').length + 4 := by
    have := congrArg List.length e
    have h4 : (fullB L').length = (encB L').length + 4 := by unfold fullB; rw [List.length_append]; rfl
    rw [List.length_take, h4] at this
    omega
  have h4 : (sumB (encB L)).length = 4 := rfl
  have hkl : (encB L').length < (encB L).length := by
    rw [fullB, List.length_append, h4] at hk
    omega
  have h5 : encB L' = (encB L).take (encB L').length := by
    have h6 := congrArg (List.take (encB L').length) e
    rw [List.take_take, Nat.min_eq_left (by omega)] at h6
    unfold fullB at h6
    rw [List.take_left, List.take_append_of_le_length (by omega)] at h6
    exact h6.symm
  have h6 : encB L = encB L' ++ (encB L).drop (encB L').length := by
    conv => lhs; rw [← List.take_append_drop (encB L').length (encB L)]
    rw [← h5]
  have h7 := allD_more hc (t := (encB L).drop (encB L').length) (by
    intro e0
    have := congrArg List.length e0
    simp at this
    omega)
  rw [← h6, allD_enc h] at h7
  simp at h7

end Go.Proofs.YtlcdefpdahjjeagDoor
