/- Events are read as they were written, and no others: plain. -/
import Derived.Test.YtbjlfhpiebokkaaDoorBySpoilPart
import Derived.Test.YtbjlfhpiebokkaaDoorBySumPart
import Derived.Laws.BytesArg
import Derived.Deep.RegionLaw
import Derived.Laws.Strings
namespace Go.Proofs.YtbjlfhpiebokkaaDoor
open Go.RowKit
set_option maxRecDepth 100000

def Up : Int → List Ev → Prop
  | _, [] => True
  | last, x :: L => evNo x = 0 ∧ 0 ≤ last ∧ last ≤ x.at_ ∧ Up x.at_ L
theorem up_of {L : List Ev} (h : chkNo L = 0) : Up 0 L := by
  have key : ∀ n k, L.length - k = n → Up (prevAt L k) (L.drop k) := by
    intro n
    induction n with
    | zero =>
      intro k hk
      rw [List.drop_eq_nil_of_le (by omega)]
      exact trivial
    | succ n ih =>
      intro k hk
      have hlt : k < L.length := by omega
      obtain ⟨h1, h2, h3⟩ := ok_at h k hlt
      have h4 := ih (k + 1) (by omega)
      rw [prevAt_succ] at h4
      rw [List.drop_eq_getElem_cons hlt]
      have : L[k] = L.getD k noEv := by simp [List.getD, hlt]
      rw [this]
      exact ⟨h1, h2, h3, h4⟩
  have := key L.length 0 rfl
  simpa [prevAt] using this

theorem eventD_evB {last : Int} {x : Ev} (t : List Int) (h : evNo x = 0) (h0 : 0 ≤ last) (h1 : last ≤ x.at_) : eventD last (evB last x ++ t) = ⟨0, x, t⟩ := by
  obtain ⟨a, k, d⟩ := x
  obtain ⟨hk, ha, hw, hl⟩ := evNo_bd h
  simp only at hk ha hw hl h1
  obtain ⟨n, hn⟩ : ∃ n : Nat, (n : Int) = 4 * (a - last) + k := ⟨(4 * (a - last) + k).toNat, by omega⟩
  have n1 : numD (evB last ⟨a, k, d⟩ ++ t) = ⟨0, (n : Int), dataB ⟨a, k, d⟩ ++ t⟩ := by
    unfold evB
    simp only
    rw [show (4 * (a - last) + k).toNat = n by omega, List.append_assoc, numD_sevens _ (by omega)]
  have hm := allB_mem hw
  have hat : last + (n : Int) / 4 = a := by omega
  unfold eventD
  rw [n1]
  simp only
  rw [if_neg (by simp)]
  have h3 : k = 1 ∨ k = 2 ∨ k = 3 := by omega
  rcases h3 with rfl | rfl | rfl
  · obtain rfl : d = [] := by simpa [wordsN] using hl
    rw [if_pos (by omega), hat]
    simp [dataB]
  · have h16 : d.length = 16 := by simp [wordsN] at hl; omega
    have hr : runsD 16 [] 0 (dataB ⟨a, 2, d⟩ ++ t) = ⟨0, d, t⟩ := by
      rw [show dataB ⟨a, 2, d⟩ = runsB 0 0 d by simp [dataB]]
      have := runsD_runsB 16 [] 0 d t (by simpa using h16) (by omega) (by simp) hm (by simp)
      simpa using this
    rw [if_neg (by omega), if_pos (by omega), hr]
    simp only
    rw [if_neg (by simp), hat]
  · obtain ⟨z, rfl⟩ : ∃ z, d = [z] := List.length_eq_one_iff.1 (by simp [wordsN] at hl; omega)
    have hz := hm z (by simp)
    obtain ⟨m, z1, z2, z3, z4⟩ := zigs_of (z := z)
    have hd : numD (dataB ⟨a, 3, [z]⟩ ++ t) = ⟨0, (m : Int), t⟩ := by
      rw [show dataB ⟨a, 3, [z]⟩ = zigs z by simp [dataB], z1, numD_sevens _ (z3 (by omega) (by omega))]
    rw [if_neg (by omega), if_neg (by omega), if_pos (by omega), hd]
    simp only
    rw [if_neg (by simp), hat, z2]

theorem eventsD_enc : ∀ (L : List Ev) (last : Int) (got : List Ev) (t : List Int), Up last L → eventsD L.length last got (encFrom last L ++ t) = ⟨0, got ++ L, t⟩
  | [], last, got, t, _ => by simp [eventsD, encFrom]
  | x :: L, last, got, t, h => by
    obtain ⟨h1, h2, h3, h4⟩ := h
    have e := eventD_evB (encFrom x.at_ L ++ t) h1 h2 h3
    rw [List.length_cons, eventsD, encFrom, List.append_assoc, e]
    simp only
    rw [if_neg (by simp), eventsD_enc L x.at_ _ t h4, List.append_assoc, List.singleton_append]
theorem allD_enc {L : List Ev} (h : chkNo L = 0) : allD (encB L) = ⟨0, L, []⟩ := by
  have hl := (chk_zero h).1
  have n1 : numD (encB L) = ⟨0, (L.length : Int), encFrom 0 L⟩ := by unfold encB; rw [numD_sevens _ (by omega)]
  have e := eventsD_enc L 0 [] [] (up_of h)
  simp only [List.append_nil, List.nil_append] at e
  unfold allD
  rw [n1]
  simp only
  rw [if_neg (by simp), if_neg (by omega), Int.toNat_natCast, e]
  simp
theorem allD_more {L : List Ev} (h : chkNo L = 0) {t : List Int} (ht : t ≠ []) : (allD (encB L ++ t)).no = 4 := by
  have hl := (chk_zero h).1
  have n1 : numD (encB L ++ t) = ⟨0, (L.length : Int), encFrom 0 L ++ t⟩ := by unfold encB; rw [List.append_assoc, numD_sevens _ (by omega)]
  have e := eventsD_enc L 0 [] t (up_of h)
  simp only [List.nil_append] at e
  have h0 : 0 < t.length := List.length_pos_iff.2 ht
  unfold allD
  rw [n1]
  simp only
  rw [if_neg (by simp), if_neg (by omega), Int.toNat_natCast, e]
  simp only
  rw [if_neg (by simp), if_pos h0]
theorem full_cut (L : List Ev) : (fullB L).length - 4 = (encB L).length ∧ (fullB L).take ((fullB L).length - 4) = encB L ∧ (fullB L).drop ((fullB L).length - 4) = sumB (encB L) := by
  have h4 : (sumB (encB L)).length = 4 := rfl
  have hl : (fullB L).length - 4 = (encB L).length := by unfold fullB; rw [List.length_append, h4]; omega
  rw [hl]
  exact ⟨rfl, List.take_left, List.drop_left⟩
theorem encB_pos (L : List Ev) : 0 < (encB L).length := by have := sevens_ne L.length; simp [encB]; omega
theorem decD_full {L : List Ev} (h : chkNo L = 0) (h6 : (fullB L).length ≤ 60000) : decD (fullB L) = (0, L) := by
  obtain ⟨c1, c2, c3⟩ := full_cut L
  have := encB_pos L
  have e := allD_enc h
  unfold decD
  rw [if_neg (by omega), if_neg (by omega), c2, c3, if_neg (by simp), e]
  simp only
  rw [if_neg (by simp), h, if_neg (by simp)]

theorem eventD_back {last : Int} {l : List Int} (hb : ∀ x ∈ l, 0 ≤ x ∧ x ≤ 255) (h : (eventD last l).no = 0) : l = evB last (eventD last l).val ++ (eventD last l).rest := by
  unfold eventD at h ⊢
  split at h
  · rename_i h1
    exact absurd h h1
  · rename_i h1
    rw [if_neg h1]
    simp only [ne_eq, Decidable.not_not] at h1
    obtain ⟨n, a1, a2, a3⟩ := numD_back hb h1
    rw [a2] at h ⊢
    have hb1 := rest_byte hb a1
    have hat : ∀ k : Int, (n : Int) % 4 = k → (4 * (last + (n : Int) / 4 - last) + k).toNat = n := fun k hk => by omega
    split at h
    · rename_i h2
      rw [if_pos h2]
      simp only [evB, hat 1 h2, dataB]
      simpa using a1
    · rename_i h2
      rw [if_neg h2]
      split at h
      · rename_i h3
        rw [if_pos h3]
        split at h
        · rename_i h4
          exact absurd h h4
        · rename_i h4
          rw [if_neg h4]
          simp only [ne_eq, Decidable.not_not] at h4
          obtain ⟨e, c1, c2, c3, c4⟩ := runsD_back 16 [] 0 _ hb1 (by simp) (by simp) h4
          simp only [List.nil_append] at c1
          simp only [evB, hat 2 h3, dataB, if_pos]
          rw [c1, List.append_assoc, ← c3, ← a1]
      · rename_i h3
        rw [if_neg h3]
        split at h
        · rename_i h5
          rw [if_pos h5]
          split at h
          · rename_i h4
            exact absurd h h4
          · rename_i h4
            rw [if_neg h4]
            simp only [ne_eq, Decidable.not_not] at h4
            obtain ⟨m, b1, b2, b3⟩ := numD_back hb1 h4
            have hd : dataB ⟨last + (n : Int) / 4, 3, [anyK (m : Int)]⟩ = sevens m := by simp [dataB, zigs_anyK]
            rw [b2]
            simp only [evB, hat 3 h5, hd]
            rw [List.append_assoc, ← b1, ← a1]
        · simp at h
theorem eventsD_back : ∀ (n : Nat) (last : Int) (got : List Ev) (l : List Int), (∀ x ∈ l, 0 ≤ x ∧ x ≤ 255) → (eventsD n last got l).no = 0 → ∃ L, (eventsD n last got l).val = got ++ L ∧ L.length = n ∧ l = encFrom last L ++ (eventsD n last got l).rest
  | 0, last, got, l, hb, h => ⟨[], by simp [eventsD], rfl, by simp [eventsD, encFrom]⟩
  | n + 1, last, got, l, hb, h => by
    rw [eventsD] at h ⊢
    split at h
    · rename_i h1
      exact absurd h h1
    · rename_i h1
      rw [if_neg h1]
      simp only [ne_eq, Decidable.not_not] at h1
      have a1 := eventD_back hb h1
      obtain ⟨L, c1, c2, c3⟩ := eventsD_back n _ _ _ (rest_byte hb a1) h
      refine ⟨(eventD last l).val :: L, by rw [c1, List.append_assoc]; rfl, by simp [c2], ?_⟩
      rw [encFrom, List.append_assoc, ← c3, ← a1]
theorem allD_back {l : List Int} (hb : ∀ x ∈ l, 0 ≤ x ∧ x ≤ 255) (h : (allD l).no = 0) : l = encB (allD l).val := by
  unfold allD at h ⊢
  split at h
  · rename_i h1
    exact absurd h h1
  · rename_i h1
    rw [if_neg h1]
    simp only [ne_eq, Decidable.not_not] at h1
    obtain ⟨n, a1, a2, a3⟩ := numD_back hb h1
    rw [a2, Int.toNat_natCast] at h ⊢
    split at h
    · simp at h
    · rename_i h2
      rw [if_neg h2]
      split at h
      · rename_i h3
        exact absurd h h3
      · rename_i h3
        rw [if_neg h3]
        split at h
        · simp at h
        · rename_i h4
          rw [if_neg h4]
          obtain ⟨L, c1, c2, c3⟩ := eventsD_back n 0 [] _ (rest_byte hb a1) h
          have hr : (eventsD n 0 [] (numD l).rest).rest = [] := List.length_eq_zero_iff.1 (by omega)
          rw [hr, List.append_nil] at c3
          rw [c1, List.nil_append, encB, c2, ← c3, ← a1]
theorem decD_back {l : List Int} (hb : ∀ x ∈ l, 0 ≤ x ∧ x ≤ 255) (h : (decD l).1 = 0) : l = fullB (decD l).2 ∧ chkNo (decD l).2 = 0 ∧ l.length ≤ 60000 := by
  unfold decD at h ⊢
  split at h
  · simp at h
  · rename_i h1
    rw [if_neg h1]
    split at h
    · simp at h
    · rename_i h2
      rw [if_neg h2]
      split at h
      · simp at h
      · rename_i h3
        rw [if_neg h3]
        simp only [ne_eq, Decidable.not_not] at h3
        split at h
        · rename_i h4
          exact absurd h h4
        · rename_i h4
          rw [if_neg h4]
          simp only [ne_eq, Decidable.not_not] at h4
          split at h
          · rename_i h5
            exact absurd h h5
          · rename_i h5
            rw [if_neg h5]
            simp only [ne_eq, Decidable.not_not] at h5
            refine ⟨?_, h5, by omega⟩
            have e := allD_back (fun x hx => hb x (List.mem_of_mem_take hx)) h4
            unfold fullB
            rw [← e, ← h3, List.take_append_drop]
theorem decD_cut {L : List Ev} (h : chkNo L = 0) {k : Nat} (hk : k < (fullB L).length) : (decD ((fullB L).take k)).1 ≠ 0 := by
  intro h0
  have hb : ∀ x ∈ (fullB L).take k, 0 ≤ x ∧ x ≤ 255 := fun x hx => fullB_byte L x (List.mem_of_mem_take hx)
  obtain ⟨e, hc, -⟩ := decD_back hb h0
  obtain ⟨L', hL'⟩ : ∃ L', L' = (decD ((fullB L).take k)).2 := ⟨_, rfl⟩
  rw [← hL'] at e hc
  have hlen : k = (encB L').length + 4 := by
    have := congrArg List.length e
    have h4 : (fullB L').length = (encB L').length + 4 := by unfold fullB; rw [List.length_append]; rfl
    rw [List.length_take, h4] at this
    omega
  have h4 : (sumB (encB L)).length = 4 := rfl
  have hkl : (encB L').length < (encB L).length := by
    rw [fullB, List.length_append, h4] at hk
    omega
  have h5 : encB L' = (encB L).take (encB L').length := by
    have h6 := congrArg (List.take (encB L').length) e
    rw [List.take_take, Nat.min_eq_left (by omega)] at h6
    unfold fullB at h6
    rw [List.take_left, List.take_append_of_le_length (by omega)] at h6
    exact h6.symm
  have h6 : encB L = encB L' ++ (encB L).drop (encB L').length := by
    conv => lhs; rw [← List.take_append_drop (encB L').length (encB L)]
    rw [← h5]
  have h7 := allD_more hc (t := (encB L).drop (encB L').length) (by
    intro e0
    have := congrArg List.length e0
    simp at this
    omega)
  rw [← h6, allD_enc h] at h7
  simp at h7

end Go.Proofs.YtbjlfhpiebokkaaDoor

/- Contracts of bytes.Equal, evlog.withoutSum and evlog.Decode, where the sum is another one. -/

namespace Go.Proofs.YtbjlfhpiebokkaaDoor
open Go.RowKit
set_option maxRecDepth 100000

theorem strOfNums_inj {l m : List Int} (hl : ∀ x ∈ l, 0 ≤ x ∧ x ≤ 255) (hm : ∀ x ∈ m, 0 ≤ x ∧ x ≤ 255) (h : strOfNums l = strOfNums m) : l = m := by
  have h1 : (l.map fun n => UInt8.ofNat n.toNat) = m.map fun n => UInt8.ofNat n.toNat := by
    rw [← strOfNums_data, ← strOfNums_data, h]
  induction l generalizing m with
  | nil => cases m with
    | nil => rfl
    | cons y m => simp at h1
  | cons x l ih => cases m with
    | nil => simp at h1
    | cons y m =>
      simp only [List.map_cons, List.cons.injEq] at h1
      have hx := hl x (by simp)
      have hy := hm y (by simp)
      have e : x = y := by
        have := congrArg UInt8.toNat h1.1
        simp [UInt8.toNat_ofNat'] at this
        omega
      subst e
      congr 1
      refine ih (fun z hz => hl z (List.mem_cons_of_mem _ hz)) (fun z hz => hm z (List.mem_cons_of_mem _ hz)) ?_ h1.2
      unfold strOfNums
      rw [h1.2]

theorem BytesAt.text {w : World} {v : Value} {l : List Int} (h : BytesAt w v l) (h0 : 0 < l.length) : (convert 26 9 v).run Tryd.prog w = .ok (.string (strOfNums l)) w := by
  obtain ⟨A, c, rfl, hl, hy, hc⟩ := h
  obtain ⟨b, off, rfl, hlt, hj⟩ := hc h0
  exact run_convert_bytes_arg w 26 5 Tryd.underlying26 Tryd.underlying5 b off l.length c l rfl hj 9 Tryd.underlying9

theorem Equal_any (v u : Value) (l m : List Int) (w : World) (h : BytesAt w v l) (k : BytesAt w u m) (hl : 0 < l.length) (hm : 0 < m.length) (eq : Bool) (he : eq = true ↔ l = m) :
    Calls Tryd.prog 107 #[v, u] w fun e w' => e = .returned (.bool eq) ∧ w' = w := by
  have t1 := h.text hl
  have t2 := k.text hm
  have hs : strOfNums l = strOfNums m ↔ l = m := ⟨fun e => by
    obtain ⟨_, _, _, _, hy, _⟩ := h
    obtain ⟨_, _, _, _, hz, _⟩ := k
    exact strOfNums_inj hy hz e, fun e => by rw [e]⟩
  rw [← hs] at he
  clear h k hs
  revert t1 t2 he
  generalize strOfNums l = s1
  generalize strOfNums m = s2
  intro he t1 t2
  have hd : (s1.toList == s2.toList) = eq := by
    rw [ByteArray.toList_eq, ByteArray.toList_eq]
    apply Bool.eq_iff_iff.2
    rw [he, beq_iff_eq]
    obtain ⟨⟨a⟩⟩ := s1
    obtain ⟨⟨b⟩⟩ := s2
    simp
  clear he
  go_enter Tryd.func107, Tryd.ntmps107
  go_wp2
  go_ret
  exact ⟨rfl, rfl⟩

theorem BytesAt.drop {w : World} {b off c : Nat} {l : List Int} (h : BytesAt w (.slice (some ⟨b, off, none⟩) l.length c) l) (k : Nat) (hk : k ≤ l.length) (c' : Nat) : BytesAt w (.slice (some ⟨b, off + k, none⟩) (l.length - k) c') (l.drop k) := by
  obtain ⟨A, c1, e, hl, hy, hc⟩ := h
  simp only [Value.slice.injEq] at e
  obtain ⟨rfl, -, rfl⟩ := e
  refine ⟨some ⟨b, off + k, none⟩, c', by simp, by simp; omega, fun x hx => hy x (List.mem_of_mem_drop hx), fun h0 => ?_⟩
  simp at h0
  obtain ⟨b', off', e, hlt, hj⟩ := hc (by omega)
  simp only [Option.some.injEq, Addr.mk.injEq] at e
  obtain ⟨rfl, rfl, -⟩ := e
  refine ⟨b, off + k, rfl, hlt, fun j hjl => ?_⟩
  simp at hjl
  rw [Nat.add_assoc, hj (k + j) (by omega)]
  simp [List.getD]
theorem BytesAt.take {w : World} {b off c : Nat} {l : List Int} (h : BytesAt w (.slice (some ⟨b, off, none⟩) l.length c) l) (k : Nat) (hk : k ≤ l.length) (c' : Nat) : BytesAt w (.slice (some ⟨b, off, none⟩) k c') (l.take k) := by
  obtain ⟨A, c1, e, hl, hy, hc⟩ := h
  simp only [Value.slice.injEq] at e
  obtain ⟨rfl, -, rfl⟩ := e
  refine ⟨some ⟨b, off, none⟩, c', by simp; omega, by simp; omega, fun x hx => hy x (List.mem_of_mem_take hx), fun h0 => ?_⟩
  simp at h0
  obtain ⟨b', off', e, hlt, hj⟩ := hc (by omega)
  simp only [Option.some.injEq, Addr.mk.injEq] at e
  obtain ⟨rfl, rfl, -⟩ := e
  refine ⟨b, off, rfl, hlt, fun j hjl => ?_⟩
  simp at hjl
  have hjk : j < k := by omega
  rw [hj j (by omega)]
  simp [List.getD, hjk]

theorem withoutSum_size (A : Option Addr) (n c : Nat) (w : World) (h6 : 60000 < n) (h7 : n ≤ 140737488351232) :
    Calls Tryd.prog 76 #[.slice A n c] w fun e w' => e = .returned (.tuple #[.slice none 0 0, .int .i64 1]) ∧ w' = w := by
  have g1 : (60000 : Int) < (n : Int) := by omega
  clear h6
  go_enter Tryd.func76, Tryd.ntmps76
  go_wp2_with fail
  go_ret2
  exact ⟨rfl, rfl⟩
theorem withoutSum_short (A : Option Addr) (n c : Nat) (w : World) (h6 : n ≤ 4) :
    Calls Tryd.prog 76 #[.slice A n c] w fun e w' => e = .returned (.tuple #[.slice none 0 0, .int .i64 5]) ∧ w' = w := by
  have g1 : ¬ (60000 : Int) < (n : Int) := by omega
  have g2 : (n : Int) ≤ 4 := by omega
  clear h6
  go_enter Tryd.func76, Tryd.ntmps76
  go_wp2_with fail
  go_ret2
  exact ⟨rfl, rfl⟩

set_option maxRecDepth 20000 in
set_option maxHeartbeats 2000000 in
theorem withoutSum_sum (b off c : Nat) (l : List Int) (w : World) (h : BytesAt w (.slice (some ⟨b, off, none⟩) l.length c) l) (hcap : l.length ≤ c) (h5 : 4 < l.length) (h6 : l.length ≤ 60000) (eq : Bool) (heq : eq = true ↔ l.drop (l.length - 4) = sumB (l.take (l.length - 4))) :
    Calls Tryd.prog 76 #[.slice (some ⟨b, off, none⟩) l.length c] w fun e w' => e = .returned (if eq then .tuple #[.slice (some ⟨b, off, none⟩) (l.length - 4) c, .int .i64 0] else .tuple #[.slice none 0 0, .int .i64 10]) ∧ Below w.heap.size w w' := by
  have HS : Hid (∀ W, Below w.heap.size w W → Calls Tryd.prog 62 #[.slice (some ⟨b, off, none⟩) (l.length - 4) c] W fun e w' => ∃ g, e = .returned (.slice (some ⟨g, 0, none⟩) 4 4) ∧ OwnB w' W.heap.size (.slice (some ⟨g, 0, none⟩) 4 4) (sumB (l.take (l.length - 4))) ∧ Below W.heap.size W w') := fun W hb => sum_any _ (l.take (l.length - 4)) W ((h.below hb).take (l.length - 4) (by omega) c)
  have HQ : Hid (∀ W g lo, Below w.heap.size w W → OwnB W lo (.slice (some ⟨g, 0, none⟩) 4 4) (sumB (l.take (l.length - 4))) → Calls Tryd.prog 107 #[.slice (some ⟨b, off + (l.length - 4), none⟩) 4 (c - (l.length - 4)), .slice (some ⟨g, 0, none⟩) 4 4] W fun e w' => e = .returned (.bool eq) ∧ w' = W) := fun W g lo hb ho => by
    have h1 := (h.below hb).drop (l.length - 4) (by omega) (c - (l.length - 4))
    rw [show l.length - (l.length - 4) = 4 by omega] at h1
    exact Equal_any _ _ _ _ W h1 (ho.read (by simp [sumB]) (sumB_byte _)) (by simp; omega) (by simp [sumB]) eq heq
  obtain ⟨n, hn⟩ : ∃ n, n = l.length - 4 := ⟨_, rfl⟩
  rw [← hn] at HS HQ ⊢
  obtain ⟨m, hm⟩ : ∃ m, m = l.length := ⟨_, rfl⟩
  rw [← hm] at h5 h6 hcap hn ⊢
  clear h heq hm
  have g1 : ¬ (60000 : Int) < (m : Int) := by omega
  have g2 : ¬ (m : Int) ≤ 4 := by omega
  have g3 : IntKind.i64.wrap ((m : Int) - 4) = (n : Int) := by rw [IntWalk.i64_in _ (by omega)]; omega
  have g4 : (n : Int) ≤ c := by omega
  have g5 : (n : Int) ≤ m := by omega
  have g6 : (m : Int) ≤ c := by omega
  have g7 : m - n = 4 := by omega
  have hc1 : ¬ c = n := by omega
  have hc2 : ¬ c - n = 0 := by omega
  clear hn h5 h6
  go_enter Tryd.func76, Tryd.ntmps76
  go_wp2_with fail
  go_region_law
    (first
      | (go_simp; go_at_call 62; refine (HS.out _ ((Below.refl _ w).drew)).mono ?_; rintro e w2 ⟨g, rfl, ho, hb⟩; have HB2 : Hid (Below w.heap.size w w2) := ((Below.refl _ w).drew).trans hb; have HO2 : Hid (OwnB w2 _ _ _) := ho; clear ho hb)
      | (go_simp; go_at_call 107; refine (HQ.out _ _ _ HB2.out HO2.out).mono ?_; rintro e w3 ⟨rfl, rfl⟩))
  cases eq
  · go_wp2_with fail
    go_ret2
    exact ⟨rfl, HB2.out⟩
  · go_wp2_with fail
    go_ret2
    exact ⟨rfl, HB2.out⟩

theorem Decode_early (v : Value) (en : Int) (w : World) (hen : en ≠ 0) (H : Calls Tryd.prog 76 #[v] w fun e w' => e = .returned (.tuple #[.slice none 0 0, .int .i64 en]) ∧ Below w.heap.size w w') :
    Calls Tryd.prog 42 #[v] w fun e w' => e = .returned (.tuple #[.slice none 0 0, .int .i64 en]) ∧ Below w.heap.size w w' := by
  have HF : Hid (Calls Tryd.prog 76 #[v] w fun e w' => e = .returned (.tuple #[.slice none 0 0, .int .i64 en]) ∧ Below w.heap.size w w') := H
  have hen' : (en == 0) = false := by simpa using hen
  clear H
  go_enter Tryd.func42, Tryd.ntmps42
  go_wp2_with fail
  refine HF.out.mono ?_
  rintro e w' ⟨rfl, hb⟩
  have HB : Hid (Below w.heap.size w w') := hb
  clear hb
  go_wp2_with fail
  go_ret2
  exact ⟨rfl, HB.out⟩

end Go.Proofs.YtbjlfhpiebokkaaDoor
