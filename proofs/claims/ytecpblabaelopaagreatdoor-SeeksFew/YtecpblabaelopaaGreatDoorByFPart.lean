/- Events are read as they were written, and no others: plain. -/
import Derived.Test.YtecpblabaelopaaGreatDoorECloPart
import Derived.Test.YtecpblabaelopaaGreatDoorByPart
import Derived.Laws.BytesArg
import Derived.Deep.RegionLaw
import Derived.Laws.Strings
import Derived.Deep.AppendLies
import Derived.Test.YtecpblabaelopaaGreatDoorRdPart
namespace Go.Proofs.YtecpblabaelopaaGreatDoor
open Go.RowKit
set_option maxRecDepth 100000

def Up : Int → List Ev → Prop
  | _, [] => True
  | last, x :: L => evNo x = 0 ∧ 0 ≤ last ∧ last ≤ x.at_ ∧ Up x.at_ L
theorem up_of {L : List Ev} (h : chkNo L = 0) : Up 0 L := by
  have key : ∀ n k, L.length - k = n → Up (prevAt L k) (L.drop k) := by
    intro n
    induction n with
    | zero =>
      intro k hk
      rw [List.drop_eq_nil_of_le (by omega)]
      exact trivial
    | succ n ih =>
      intro k hk
      have hlt : k < L.length := by omega
      obtain ⟨h1, h2, h3⟩ := ok_at h k hlt
      have h4 := ih (k + 1) (by omega)
      rw [prevAt_succ] at h4
      rw [List.drop_eq_getElem_cons hlt]
      have : L[k] = L.getD k noEv := by simp [List.getD, hlt]
      rw [this]
      exact ⟨h1, h2, h3, h4⟩
  have := key L.length 0 rfl
  simpa [prevAt] using this

theorem eventD_evB {last : Int} {x : Ev} (t : List Int) (h : evNo x = 0) (h0 : 0 ≤ last) (h1 : last ≤ x.at_) : eventD last (evB last x ++ t) = ⟨0, x, t⟩ := by
  obtain ⟨a, k, d⟩ := x
  obtain ⟨hk, ha, hw, hl⟩ := evNo_bd h
  simp only at hk ha hw hl h1
  obtain ⟨n, hn⟩ : ∃ n : Nat, (n : Int) = 4 * (a - last) + k := ⟨(4 * (a - last) + k).toNat, by omega⟩
  have n1 : numD (evB last ⟨a, k, d⟩ ++ t) = ⟨0, (n : Int), dataB ⟨a, k, d⟩ ++ t⟩ := by
    unfold evB
    simp only
    rw [show (4 * (a - last) + k).toNat = n by omega, List.append_assoc, numD_sevens _ (by omega)]
  have hm := allB_mem hw
  have hat : last + (n : Int) / 4 = a := by omega
  unfold eventD
  rw [n1]
  simp only
  rw [if_neg (by simp)]
  have h3 : k = 1 ∨ k = 2 ∨ k = 3 := by omega
  rcases h3 with rfl | rfl | rfl
  · obtain rfl : d = [] := by simpa [wordsN] using hl
    rw [if_pos (by omega), hat]
    simp [dataB]
  · have h16 : d.length = 16 := by simp [wordsN] at hl; omega
    have hr : runsD 16 [] 0 (dataB ⟨a, 2, d⟩ ++ t) = ⟨0, d, t⟩ := by
      rw [show dataB ⟨a, 2, d⟩ = runsB 0 0 d by simp [dataB]]
      have := runsD_runsB 16 [] 0 d t (by simpa using h16) (by omega) (by simp) hm (by simp)
      simpa using this
    rw [if_neg (by omega), if_pos (by omega), hr]
    simp only
    rw [if_neg (by simp), hat]
  · obtain ⟨z, rfl⟩ : ∃ z, d = [z] := List.length_eq_one_iff.1 (by simp [wordsN] at hl; omega)
    have hz := hm z (by simp)
    obtain ⟨m, z1, z2, z3, z4⟩ := zigs_of (z := z)
    have hd : numD (dataB ⟨a, 3, [z]⟩ ++ t) = ⟨0, (m : Int), t⟩ := by
      rw [show dataB ⟨a, 3, [z]⟩ = zigs z by simp [dataB], z1, numD_sevens _ (z3 (by omega) (by omega))]
    rw [if_neg (by omega), if_neg (by omega), if_pos (by omega), hd]
    simp only
    rw [if_neg (by simp), hat, z2]

theorem eventsD_enc : ∀ (L : List Ev) (last : Int) (got : List Ev) (t : List Int), Up last L → eventsD L.length last got (encFrom last L ++ t) = ⟨0, got ++ L, t⟩
  | [], last, got, t, _ => by simp [eventsD, encFrom]
  | x :: L, last, got, t, h => by
    obtain ⟨h1, h2, h3, h4⟩ := h
    have e := eventD_evB (encFrom x.at_ L ++ t) h1 h2 h3
    rw [List.length_cons, eventsD, encFrom, List.append_assoc, e]
    simp only
    rw [if_neg (by simp), eventsD_enc L x.at_ _ t h4, List.append_assoc, List.singleton_append]
theorem allD_enc {L : List Ev} (h : chkNo L = 0) : allD (encB L) = ⟨0, L, []⟩ := by
  have hl := (chk_zero h).1
  have n1 : numD (encB L) = ⟨0, (L.length : Int), encFrom 0 L⟩ := by unfold encB; rw [numD_sevens _ (by omega)]
  have e := eventsD_enc L 0 [] [] (up_of h)
  simp only [List.append_nil, List.nil_append] at e
  unfold allD
  rw [n1]
  simp only
  rw [if_neg (by simp), if_neg (by omega), Int.toNat_natCast, e]
  simp
theorem full_cut (L : List Ev) : (fullB L).length - 4 = (encB L).length ∧ (fullB L).take ((fullB L).length - 4) = encB L ∧ (fullB L).drop ((fullB L).length - 4) = sumB (encB L) := by
  have h4 : (sumB (encB L)).length = 4 := rfl
  have hl : (fullB L).length - 4 = (encB L).length := by unfold fullB; rw [List.length_append, h4]; omega
  rw [hl]
  exact ⟨rfl, List.take_left, List.drop_left⟩
theorem encB_pos (L : List Ev) : 0 < (encB L).length := by have := sevens_ne L.length; simp [encB]; omega
theorem decD_full {L : List Ev} (h : chkNo L = 0) (h6 : (fullB L).length ≤ 60000) : decD (fullB L) = (0, L) := by
  obtain ⟨c1, c2, c3⟩ := full_cut L
  have := encB_pos L
  have e := allD_enc h
  unfold decD
  rw [if_neg (by omega), if_neg (by omega), c2, c3, if_neg (by simp), e]
  simp only
  rw [if_neg (by simp), h, if_neg (by simp)]

theorem eventD_back {last : Int} {l : List Int} (hb : ∀ x ∈ l, 0 ≤ x ∧ x ≤ 255) (h : (eventD last l).no = 0) : l = evB last (eventD last l).val ++ (eventD last l).rest := by
  unfold eventD at h ⊢
  split at h
  · rename_i h1
    exact absurd h h1
  · rename_i h1
    rw [if_neg h1]
    simp only [ne_eq, Decidable.not_not] at h1
    obtain ⟨n, a1, a2, a3⟩ := numD_back hb h1
    rw [a2] at h ⊢
    have hb1 := rest_byte hb a1
    have hat : ∀ k : Int, (n : Int) % 4 = k → (4 * (last + (n : Int) / 4 - last) + k).toNat = n := fun k hk => by omega
    split at h
    · rename_i h2
      rw [if_pos h2]
      simp only [evB, hat 1 h2, dataB]
      simpa using a1
    · rename_i h2
      rw [if_neg h2]
      split at h
      · rename_i h3
        rw [if_pos h3]
        split at h
        · rename_i h4
          exact absurd h h4
        · rename_i h4
          rw [if_neg h4]
          simp only [ne_eq, Decidable.not_not] at h4
          obtain ⟨e, c1, c2, c3, c4⟩ := runsD_back 16 [] 0 _ hb1 (by simp) (by simp) h4
          simp only [List.nil_append] at c1
          simp only [evB, hat 2 h3, dataB, if_pos]
          rw [c1, List.append_assoc, ← c3, ← a1]
      · rename_i h3
        rw [if_neg h3]
        split at h
        · rename_i h5
          rw [if_pos h5]
          split at h
          · rename_i h4
            exact absurd h h4
          · rename_i h4
            rw [if_neg h4]
            simp only [ne_eq, Decidable.not_not] at h4
            obtain ⟨m, b1, b2, b3⟩ := numD_back hb1 h4
            have hd : dataB ⟨last + (n : Int) / 4, 3, [anyK (m : Int)]⟩ = sevens m := by simp [dataB, zigs_anyK]
            rw [b2]
            simp only [evB, hat 3 h5, hd]
            rw [List.append_assoc, ← b1, ← a1]
        · simp at h
theorem eventsD_back : ∀ (n : Nat) (last : Int) (got : List Ev) (l : List Int), (∀ x ∈ l, 0 ≤ x ∧ x ≤ 255) → (eventsD n last got l).no = 0 → ∃ L, (eventsD n last got l).val = got ++ L ∧ L.length = n ∧ l = encFrom last L ++ (eventsD n last got l).rest
  | 0, last, got, l, hb, h => ⟨[], by simp [eventsD], rfl, by simp [eventsD, encFrom]⟩
  | n + 1, last, got, l, hb, h => by
    rw [eventsD] at h ⊢
    split at h
    · rename_i h1
      exact absurd h h1
    · rename_i h1
      rw [if_neg h1]
      simp only [ne_eq, Decidable.not_not] at h1
      have a1 := eventD_back hb h1
      obtain ⟨L, c1, c2, c3⟩ := eventsD_back n _ _ _ (rest_byte hb a1) h
      refine ⟨(eventD last l).val :: L, by rw [c1, List.append_assoc]; rfl, by simp [c2], ?_⟩
      rw [encFrom, List.append_assoc, ← c3, ← a1]
theorem allD_back {l : List Int} (hb : ∀ x ∈ l, 0 ≤ x ∧ x ≤ 255) (h : (allD l).no = 0) : l = encB (allD l).val := by
  unfold allD at h ⊢
  split at h
  · rename_i h1
    exact absurd h h1
  · rename_i h1
    rw [if_neg h1]
    simp only [ne_eq, Decidable.not_not] at h1
    obtain ⟨n, a1, a2, a3⟩ := numD_back hb h1
    rw [a2, Int.toNat_natCast] at h ⊢
    split at h
    · simp at h
    · rename_i h2
      rw [if_neg h2]
      split at h
      · rename_i h3
        exact absurd h h3
      · rename_i h3
        rw [if_neg h3]
        split at h
        · simp at h
        · rename_i h4
          rw [if_neg h4]
          obtain ⟨L, c1, c2, c3⟩ := eventsD_back n 0 [] _ (rest_byte hb a1) h
          have hr : (eventsD n 0 [] (numD l).rest).rest = [] := List.length_eq_zero_iff.1 (by omega)
          rw [hr, List.append_nil] at c3
          rw [c1, List.nil_append, encB, c2, ← c3, ← a1]
theorem decD_back {l : List Int} (hb : ∀ x ∈ l, 0 ≤ x ∧ x ≤ 255) (h : (decD l).1 = 0) : l = fullB (decD l).2 ∧ chkNo (decD l).2 = 0 ∧ l.length ≤ 60000 := by
  unfold decD at h ⊢
  split at h
  · simp at h
  · rename_i h1
    rw [if_neg h1]
    split at h
    · simp at h
    · rename_i h2
      rw [if_neg h2]
      split at h
      · simp at h
      · rename_i h3
        rw [if_neg h3]
        simp only [ne_eq, Decidable.not_not] at h3
        split at h
        · rename_i h4
          exact absurd h h4
        · rename_i h4
          rw [if_neg h4]
          simp only [ne_eq, Decidable.not_not] at h4
          split at h
          · rename_i h5
            exact absurd h h5
          · rename_i h5
            rw [if_neg h5]
            simp only [ne_eq, Decidable.not_not] at h5
            refine ⟨?_, h5, by omega⟩
            have e := allD_back (fun x hx => hb x (List.mem_of_mem_take hx)) h4
            unfold fullB
            rw [← e, ← h3, List.take_append_drop]
end Go.Proofs.YtecpblabaelopaaGreatDoor

/- Contracts of bytes.Equal, evlog.withoutSum and evlog.Decode, where the sum is another one. -/

namespace Go.Proofs.YtecpblabaelopaaGreatDoor
open Go.RowKit
set_option maxRecDepth 100000

theorem strOfNums_inj {l m : List Int} (hl : ∀ x ∈ l, 0 ≤ x ∧ x ≤ 255) (hm : ∀ x ∈ m, 0 ≤ x ∧ x ≤ 255) (h : strOfNums l = strOfNums m) : l = m := by
  have h1 : (l.map fun n => UInt8.ofNat n.toNat) = m.map fun n => UInt8.ofNat n.toNat := by
    rw [← strOfNums_data, ← strOfNums_data, h]
  induction l generalizing m with
  | nil => cases m with
    | nil => rfl
    | cons y m => simp at h1
  | cons x l ih => cases m with
    | nil => simp at h1
    | cons y m =>
      simp only [List.map_cons, List.cons.injEq] at h1
      have hx := hl x (by simp)
      have hy := hm y (by simp)
      have e : x = y := by
        have := congrArg UInt8.toNat h1.1
        simp [UInt8.toNat_ofNat'] at this
        omega
      subst e
      congr 1
      refine ih (fun z hz => hl z (List.mem_cons_of_mem _ hz)) (fun z hz => hm z (List.mem_cons_of_mem _ hz)) ?_ h1.2
      unfold strOfNums
      rw [h1.2]

theorem BytesAt.text {w : World} {v : Value} {l : List Int} (h : BytesAt w v l) (h0 : 0 < l.length) : (convert 25 9 v).run Tryz.prog w = .ok (.string (strOfNums l)) w := by
  obtain ⟨A, c, rfl, hl, hy, hc⟩ := h
  obtain ⟨b, off, rfl, hlt, hj⟩ := hc h0
  exact run_convert_bytes_arg w 25 5 Tryz.underlying25 Tryz.underlying5 b off l.length c l rfl hj 9 Tryz.underlying9

theorem Equal_any (v u : Value) (l m : List Int) (w : World) (h : BytesAt w v l) (k : BytesAt w u m) (hl : 0 < l.length) (hm : 0 < m.length) (eq : Bool) (he : eq = true ↔ l = m) :
    Calls Tryz.prog 127 #[v, u] w fun e w' => e = .returned (.bool eq) ∧ w' = w := by
  have t1 := h.text hl
  have t2 := k.text hm
  have hs : strOfNums l = strOfNums m ↔ l = m := ⟨fun e => by
    obtain ⟨_, _, _, _, hy, _⟩ := h
    obtain ⟨_, _, _, _, hz, _⟩ := k
    exact strOfNums_inj hy hz e, fun e => by rw [e]⟩
  rw [← hs] at he
  clear h k hs
  revert t1 t2 he
  generalize strOfNums l = s1
  generalize strOfNums m = s2
  intro he t1 t2
  have hd : (s1.toList == s2.toList) = eq := by
    rw [ByteArray.toList_eq, ByteArray.toList_eq]
    apply Bool.eq_iff_iff.2
    rw [he, beq_iff_eq]
    obtain ⟨⟨a⟩⟩ := s1
    obtain ⟨⟨b⟩⟩ := s2
    simp
  clear he
  go_enter Tryz.func127, Tryz.ntmps127
  go_wp2
  go_ret
  exact ⟨rfl, rfl⟩

theorem BytesAt.drop {w : World} {b off c : Nat} {l : List Int} (h : BytesAt w (.slice (some ⟨b, off, none⟩) l.length c) l) (k : Nat) (hk : k ≤ l.length) (c' : Nat) : BytesAt w (.slice (some ⟨b, off + k, none⟩) (l.length - k) c') (l.drop k) := by
  obtain ⟨A, c1, e, hl, hy, hc⟩ := h
  simp only [Value.slice.injEq] at e
  obtain ⟨rfl, -, rfl⟩ := e
  refine ⟨some ⟨b, off + k, none⟩, c', by simp, by simp; omega, fun x hx => hy x (List.mem_of_mem_drop hx), fun h0 => ?_⟩
  simp at h0
  obtain ⟨b', off', e, hlt, hj⟩ := hc (by omega)
  simp only [Option.some.injEq, Addr.mk.injEq] at e
  obtain ⟨rfl, rfl, -⟩ := e
  refine ⟨b, off + k, rfl, hlt, fun j hjl => ?_⟩
  simp at hjl
  rw [Nat.add_assoc, hj (k + j) (by omega)]
  simp [List.getD]
theorem BytesAt.take {w : World} {b off c : Nat} {l : List Int} (h : BytesAt w (.slice (some ⟨b, off, none⟩) l.length c) l) (k : Nat) (hk : k ≤ l.length) (c' : Nat) : BytesAt w (.slice (some ⟨b, off, none⟩) k c') (l.take k) := by
  obtain ⟨A, c1, e, hl, hy, hc⟩ := h
  simp only [Value.slice.injEq] at e
  obtain ⟨rfl, -, rfl⟩ := e
  refine ⟨some ⟨b, off, none⟩, c', by simp; omega, by simp; omega, fun x hx => hy x (List.mem_of_mem_take hx), fun h0 => ?_⟩
  simp at h0
  obtain ⟨b', off', e, hlt, hj⟩ := hc (by omega)
  simp only [Option.some.injEq, Addr.mk.injEq] at e
  obtain ⟨rfl, rfl, -⟩ := e
  refine ⟨b, off, rfl, hlt, fun j hjl => ?_⟩
  simp at hjl
  have hjk : j < k := by omega
  rw [hj j (by omega)]
  simp [List.getD, hjk]

theorem withoutSum_size (A : Option Addr) (n c : Nat) (w : World) (h6 : 60000 < n) (h7 : n ≤ 140737488351232) :
    Calls Tryz.prog 90 #[.slice A n c] w fun e w' => e = .returned (.tuple #[.slice none 0 0, .int .i64 1]) ∧ w' = w := by
  have g1 : (60000 : Int) < (n : Int) := by omega
  clear h6
  go_enter Tryz.func90, Tryz.ntmps90
  go_wp2_with fail
  go_ret2
  exact ⟨rfl, rfl⟩
theorem withoutSum_short (A : Option Addr) (n c : Nat) (w : World) (h6 : n ≤ 4) :
    Calls Tryz.prog 90 #[.slice A n c] w fun e w' => e = .returned (.tuple #[.slice none 0 0, .int .i64 5]) ∧ w' = w := by
  have g1 : ¬ (60000 : Int) < (n : Int) := by omega
  have g2 : (n : Int) ≤ 4 := by omega
  clear h6
  go_enter Tryz.func90, Tryz.ntmps90
  go_wp2_with fail
  go_ret2
  exact ⟨rfl, rfl⟩

set_option maxRecDepth 20000 in
set_option maxHeartbeats 2000000 in
theorem withoutSum_sum (b off c : Nat) (l : List Int) (w : World) (h : BytesAt w (.slice (some ⟨b, off, none⟩) l.length c) l) (hcap : l.length ≤ c) (h5 : 4 < l.length) (h6 : l.length ≤ 60000) (eq : Bool) (heq : eq = true ↔ l.drop (l.length - 4) = sumB (l.take (l.length - 4))) :
    Calls Tryz.prog 90 #[.slice (some ⟨b, off, none⟩) l.length c] w fun e w' => e = .returned (if eq then .tuple #[.slice (some ⟨b, off, none⟩) (l.length - 4) c, .int .i64 0] else .tuple #[.slice none 0 0, .int .i64 10]) ∧ Below w.heap.size w w' := by
  have HS : Hid (∀ W, Below w.heap.size w W → Calls Tryz.prog 60 #[.slice (some ⟨b, off, none⟩) (l.length - 4) c] W fun e w' => ∃ g, e = .returned (.slice (some ⟨g, 0, none⟩) 4 4) ∧ OwnB w' W.heap.size (.slice (some ⟨g, 0, none⟩) 4 4) (sumB (l.take (l.length - 4))) ∧ Below W.heap.size W w') := fun W hb => sum_any _ (l.take (l.length - 4)) W ((h.below hb).take (l.length - 4) (by omega) c)
  have HQ : Hid (∀ W g lo, Below w.heap.size w W → OwnB W lo (.slice (some ⟨g, 0, none⟩) 4 4) (sumB (l.take (l.length - 4))) → Calls Tryz.prog 127 #[.slice (some ⟨b, off + (l.length - 4), none⟩) 4 (c - (l.length - 4)), .slice (some ⟨g, 0, none⟩) 4 4] W fun e w' => e = .returned (.bool eq) ∧ w' = W) := fun W g lo hb ho => by
    have h1 := (h.below hb).drop (l.length - 4) (by omega) (c - (l.length - 4))
    rw [show l.length - (l.length - 4) = 4 by omega] at h1
    exact Equal_any _ _ _ _ W h1 (ho.read (by simp [sumB]) (sumB_byte _)) (by simp; omega) (by simp [sumB]) eq heq
  obtain ⟨n, hn⟩ : ∃ n, n = l.length - 4 := ⟨_, rfl⟩
  rw [← hn] at HS HQ ⊢
  obtain ⟨m, hm⟩ : ∃ m, m = l.length := ⟨_, rfl⟩
  rw [← hm] at h5 h6 hcap hn ⊢
  clear h heq hm
  have g1 : ¬ (60000 : Int) < (m : Int) := by omega
  have g2 : ¬ (m : Int) ≤ 4 := by omega
  have g3 : IntKind.i64.wrap ((m : Int) - 4) = (n : Int) := by rw [IntWalk.i64_in _ (by omega)]; omega
  have g4 : (n : Int) ≤ c := by omega
  have g5 : (n : Int) ≤ m := by omega
  have g6 : (m : Int) ≤ c := by omega
  have g7 : m - n = 4 := by omega
  have hc1 : ¬ c = n := by omega
  have hc2 : ¬ c - n = 0 := by omega
  clear hn h5 h6
  go_enter Tryz.func90, Tryz.ntmps90
  go_wp2_with fail
  go_region_law
    (first
      | (go_simp; go_at_call 60; refine (HS.out _ ((Below.refl _ w).drew)).mono ?_; rintro e w2 ⟨g, rfl, ho, hb⟩; have HB2 : Hid (Below w.heap.size w w2) := ((Below.refl _ w).drew).trans hb; have HO2 : Hid (OwnB w2 _ _ _) := ho; clear ho hb)
      | (go_simp; go_at_call 127; refine (HQ.out _ _ _ HB2.out HO2.out).mono ?_; rintro e w3 ⟨rfl, rfl⟩))
  cases eq
  · go_wp2_with fail
    go_ret2
    exact ⟨rfl, HB2.out⟩
  · go_wp2_with fail
    go_ret2
    exact ⟨rfl, HB2.out⟩

theorem Decode_early (v : Value) (en : Int) (w : World) (hen : en ≠ 0) (H : Calls Tryz.prog 90 #[v] w fun e w' => e = .returned (.tuple #[.slice none 0 0, .int .i64 en]) ∧ Below w.heap.size w w') :
    Calls Tryz.prog 56 #[v] w fun e w' => e = .returned (.tuple #[.slice none 0 0, .int .i64 en]) ∧ Below w.heap.size w w' := by
  have HF : Hid (Calls Tryz.prog 90 #[v] w fun e w' => e = .returned (.tuple #[.slice none 0 0, .int .i64 en]) ∧ Below w.heap.size w w') := H
  have hen' : (en == 0) = false := by simpa using hen
  clear H
  go_enter Tryz.func56, Tryz.ntmps56
  go_wp2_with fail
  refine HF.out.mono ?_
  rintro e w' ⟨rfl, hb⟩
  have HB : Hid (Below w.heap.size w w') := hb
  clear hb
  go_wp2_with fail
  go_ret2
  exact ⟨rfl, HB.out⟩

end Go.Proofs.YtecpblabaelopaaGreatDoor

/- Events that a call makes by append: plain laws. -/

namespace Go.Proofs.YtecpblabaelopaaGreatDoor
open Go.RowKit
set_option maxRecDepth 100000

def flat : List (Ev × Value) → List Value
  | [] => []
  | p :: R => .int .i64 p.1.at_ :: .int .i64 p.1.kind :: p.2 :: flat R
theorem flat_append : ∀ (R : List (Ev × Value)) (p : Ev × Value), flat (R ++ [p]) = flat R ++ [.int .i64 p.1.at_, .int .i64 p.1.kind, p.2]
  | [], p => rfl
  | q :: R, p => by simp [flat, flat_append R p]
theorem flat_get : ∀ (R : List (Ev × Value)) (j : Nat) (hj : j < R.length), (flat R)[j * 3]? = some (.int .i64 R[j].1.at_) ∧ (flat R)[j * 3 + 1]? = some (.int .i64 R[j].1.kind) ∧ (flat R)[j * 3 + 2]? = some R[j].2
  | p :: R, 0, _ => by simp [flat]
  | p :: R, j + 1, hj => by
    have := flat_get R j (by simpa using hj)
    rw [show (j + 1) * 3 = j * 3 + 1 + 1 + 1 by omega]
    simpa [flat] using this

structure OwnE (w : World) (lo : Nat) (v : Value) (R : List (Ev × Value)) : Prop where
  row : w.ownsRow lo 62 3 v R.length (flat R)
  data : ∀ p ∈ R, OwnI w lo p.2 p.1.data
theorem OwnE.nil (w : World) (lo : Nat) : OwnE w lo (.slice none 0 0) [] := ⟨World.ownsRow_nil _ _ _ _, fun p hp => by simp at hp⟩
theorem OwnE.below {w w' : World} {lo : Nat} {v : Value} {R : List (Ev × Value)} (h : OwnE w lo v R) (hb : Below w.heap.size w w') : OwnE w' lo v R := ⟨ownsRow_below h.row hb, fun p hp => (h.data p hp).below hb⟩
theorem OwnE.ne {w : World} {lo lo' n : Nat} {v u : Value} {R : List (Ev × Value)} {xs : List Value} (h : OwnE w lo v R) (hu : w.ownsRow lo' 3 1 u n xs) : u.ownBlock = none ∨ u.ownBlock ≠ v.ownBlock := by
  rcases h.row.2 with ⟨rfl, _⟩ | ⟨g, cap, cur, rfl, _, hh, _⟩
  · cases e : u.ownBlock with
    | none => exact Or.inl rfl
    | some g => exact Or.inr (by simp [Value.ownBlock])
  · exact Or.inr (by simpa [Value.ownBlock] using own_ne hu hh (by decide))
theorem OwnE.snoc {w w1 : World} {lo : Nat} {v v' d : Value} {R : List (Ev × Value)} {x : Ev} (h : OwnE w lo v R) (hd : OwnI w lo d x.data) (hg : w.grownBy w1 v.ownBlock)
    (ho : w1.ownsRow lo 62 3 v' (R.length + 1) (flat R ++ [.int .i64 x.at_, .int .i64 x.kind, d])) : OwnE w1 lo v' (R ++ [(x, d)]) := by
  refine ⟨by rw [flat_append]; simpa using ho, fun p hp => ?_⟩
  simp at hp
  rcases hp with hp | rfl
  · exact World.ownsRow.kept (h.data p hp) hg (h.ne (h.data p hp))
  · exact World.ownsRow.kept hd hg (h.ne hd)
theorem ownI_fits {w : World} {lo : Nat} {v : Value} {l : List Int} (h : OwnI w lo v l) : Fits v := by
  rcases h.2 with ⟨rfl, _⟩ | ⟨g, cap, cur, rfl, _, _, hc, _⟩
  · exact ⟨none, 0, 0, rfl, Nat.le_refl _⟩
  · exact ⟨_, _, _, rfl, hc⟩
theorem OwnE.evs {w : World} {lo : Nat} {v : Value} {R : List (Ev × Value)} (h : OwnE w lo v R) (hl : R.length ≤ 1000) (hd : ∀ p ∈ R, p.1.data.length ≤ 1000) : EvsF w v (R.map Prod.fst) := by
  have hat : ∀ g cap, v = .slice (some ⟨g, 0, none⟩) R.length cap → (∀ j, j < R.length * 3 → w.cell? ⟨g, j, none⟩ = (flat R)[j]?) := fun g cap e j hj => by
    subst e
    exact h.row.cellAt j hj
  refine ⟨?_, ?_⟩
  · rcases h.row.2 with ⟨rfl, h0⟩ | ⟨g, cap, cur, rfl, _, hh, _⟩
    · exact ⟨none, 0, by simp [h0], by simp [h0], fun h => by simp [h0] at h⟩
    · refine ⟨some ⟨g, 0, none⟩, cap, by simp, by simp; omega, fun h0 => ⟨g, 0, rfl, lt_of_block hh, fun j hj => ?_⟩⟩
      simp at hj
      obtain ⟨f0, f1, f2⟩ := flat_get R j hj
      have hg : (R.map Prod.fst).getD j noEv = R[j].1 := by simp [List.getD, hj]
      rw [hg, Nat.zero_add]
      have hm : R[j] ∈ R := List.getElem_mem hj
      refine ⟨(hat g cap rfl _ (by omega)).trans f0, (hat g cap rfl _ (by omega)).trans f1, R[j].2, (hat g cap rfl _ (by omega)).trans f2, (h.data _ hm).at (by have := hd _ hm; omega)⟩
  · intro b off c e j hj u hu
    simp at hj
    obtain ⟨f0, f1, f2⟩ := flat_get R j hj
    rcases h.row.2 with ⟨e0, h0⟩ | ⟨g, cap, cur, e2, _, hh, _⟩
    · rw [e] at e0
      simp at e0
    · have e3 := e.symm.trans e2
      simp only [Value.slice.injEq, Option.some.injEq, Addr.mk.injEq] at e3
      obtain ⟨⟨rfl, rfl, -⟩, -, rfl⟩ := e3
      rw [Nat.zero_add, hat b c e2 _ (by omega), f2] at hu
      simp only [Option.some.injEq] at hu
      subst hu
      exact ownI_fits (h.data _ (List.getElem_mem hj))

theorem infoEvent : (Tryz.prog.info? 62).map (fun i => (i.zero, i.size, i.bytes)) = some (some (.agg #[.int .i64 0, .int .i64 0, .slice none 0 0]), 3, 40) := by kernel_rfl

theorem cell_three_new (w : World) (x y z : Value) (t : TypeId) : ∀ j u, [x, y, z][j]? = some u → (w.alloc (.cells #[x, y, z] t)).cell? ((⟨w.heap.size, 0, none⟩ : Addr).add j) = some u :=
  World.news_of_block (cs := #[x, y, z]) (t := t) (Go.Deep.blk_alloc_new w (.cells #[x, y, z] t))

end Go.Proofs.YtecpblabaelopaaGreatDoor

/- Contracts of reader.event, reader.events and evlog.Decode. -/

namespace Go.Proofs.YtecpblabaelopaaGreatDoor
open Go.RowKit
set_option maxRecDepth 100000

structure EventQ (w w' : World) (lo b : Nat) (last : Int) (l : List Int) (u : Value) : Prop where
  sans : Sans b lo w w'
  ok : (eventD last l).no = 0 → OwnI w' w.heap.size u (eventD last l).val.data ∧ ∃ v', RdAt w' lo b v' (eventD last l).rest
  no : (eventD last l).no ≠ 0 → u = .slice none 0 0
theorem event_any (b lo : Nat) (v : Value) (l : List Int) (last : Int) (w : World) (h : RdAt w lo b v l) (hL : Laid w) (h0 : 0 < lo) (hl : 0 ≤ last ∧ last ≤ 1152921504606846976) :
    Calls Tryz.prog 129 #[.pointer (some ⟨b, 0, none⟩), .int .i64 last] w fun e w' => ∃ u, e = .returned (.tuple #[.agg #[.int .i64 (eventD last l).val.at_, .int .i64 (eventD last l).val.kind, u], .int .i64 (eventD last l).no]) ∧ EventQ w w' lo b last l u := by
  by_cases hn : (numD l).no = 0
  · obtain ⟨n, hv⟩ : ∃ n, (numD l).val = n := ⟨_, rfl⟩
    obtain ⟨r, hr⟩ : ∃ r, (numD l).rest = r := ⟨_, rfl⟩
    by_cases h1 : n % 4 = 1
    · have E : eventD last l = ⟨0, ⟨last + n / 4, 1, []⟩, r⟩ := by
        unfold eventD
        rw [if_neg (by simp [hn]), hv, hr, if_pos h1]
      refine (event_one b lo v l last n r w h hn hv hr h1 hl).mono fun e w' ⟨he, hs, hrd⟩ => ⟨_, by rw [E]; exact he, hs, fun _ => ?_, fun _ => rfl⟩
      rw [E]
      exact ⟨World.ownsRow_nil _ _ _ _, hrd⟩
    by_cases h2 : n % 4 = 2
    · by_cases hg : (runsD 16 [] 0 r).no = 0
      · have E : eventD last l = ⟨0, ⟨last + n / 4, 2, (runsD 16 [] 0 r).val⟩, (runsD 16 [] 0 r).rest⟩ := by
          unfold eventD
          rw [if_neg (by simp [hn]), hv, hr, if_neg h1, if_pos h2, if_neg (by simp [hg])]
        refine (event_two b lo v l last n r w h hL h0 hn hv hr h2 hl hg).mono fun e w' ⟨u, he, ho, hs, hrd⟩ => ⟨u, by rw [E]; exact he, hs, fun _ => ?_, fun e0 => by rw [E] at e0; exact absurd rfl e0⟩
        rw [E]
        exact ⟨ho, hrd⟩
      · have E : eventD last l = ⟨(runsD 16 [] 0 r).no, noEv, []⟩ := by
          unfold eventD
          rw [if_neg (by simp [hn]), hv, hr, if_neg h1, if_pos h2, if_pos hg]
        refine (event_two_no b lo v l last n r w h hL h0 hn hv hr h2 hl hg).mono fun e w' ⟨he, hs⟩ => ⟨_, by rw [E]; exact he, hs, fun e0 => ?_, fun _ => rfl⟩
        rw [E] at e0
        exact absurd e0 hg
    by_cases h3 : n % 4 = 3
    · by_cases hg : (numD r).no = 0
      · have E : eventD last l = ⟨0, ⟨last + n / 4, 3, [anyK (numD r).val]⟩, (numD r).rest⟩ := by
          unfold eventD
          rw [if_neg (by simp [hn]), hv, hr, if_neg h1, if_neg h2, if_pos h3, if_neg (by simp [hg])]
        refine (event_three b lo v l last n r w h hn hv hr h3 hl hg).mono fun e w' ⟨u, he, ho, hs, hrd⟩ => ⟨u, by rw [E]; exact he, hs, fun _ => ?_, fun e0 => by rw [E] at e0; exact absurd rfl e0⟩
        rw [E]
        exact ⟨ho, hrd⟩
      · have E : eventD last l = ⟨(numD r).no, noEv, []⟩ := by
          unfold eventD
          rw [if_neg (by simp [hn]), hv, hr, if_neg h1, if_neg h2, if_pos h3, if_pos hg]
        refine (event_three_no b lo v l last n r w h hn hv hr h3 hl hg).mono fun e w' ⟨he, hs⟩ => ⟨_, by rw [E]; exact he, hs, fun e0 => ?_, fun _ => rfl⟩
        rw [E] at e0
        exact absurd e0 hg
    have E : eventD last l = ⟨3, noEv, []⟩ := by
      unfold eventD
      rw [if_neg (by simp [hn]), hv, if_neg h1, if_neg h2, if_neg h3]
    refine (event_zero b lo v l last n r w h hn hv hr (by omega) hl).mono fun e w' ⟨he, hs⟩ => ⟨_, by rw [E]; exact he, hs, fun e0 => ?_, fun _ => rfl⟩
    rw [E] at e0
    simp at e0
  · have E : eventD last l = ⟨(numD l).no, noEv, []⟩ := by
      unfold eventD
      rw [if_pos hn]
    refine (event_no b lo v l last w h hn).mono fun e w' ⟨he, hs⟩ => ⟨_, by rw [E]; exact he, hs, fun e0 => ?_, fun _ => rfl⟩
    rw [E] at e0
    exact absurd e0 hn

theorem eventD_bd {last : Int} {l : List Int} (hb : ∀ x ∈ l, 0 ≤ x ∧ x ≤ 255) (h : (eventD last l).no = 0) : (last ≤ (eventD last l).val.at_ ∧ (eventD last l).val.at_ ≤ last + 140737488355328) ∧ (eventD last l).val.data.length ≤ 16 := by
  unfold eventD at h ⊢
  split at h
  · rename_i h1
    exact absurd h h1
  · rename_i h1
    rw [if_neg h1]
    simp only [ne_eq, Decidable.not_not] at h1
    obtain ⟨n, a1, a2, a3⟩ := numD_back hb h1
    rw [a2] at h ⊢
    have hb1 := rest_byte hb a1
    split at h
    · rename_i h2
      rw [if_pos h2]
      exact ⟨by simp only; omega, by simp⟩
    · rename_i h2
      rw [if_neg h2]
      split at h
      · rename_i h3
        rw [if_pos h3]
        split at h
        · rename_i h4
          exact absurd h h4
        · rename_i h4
          rw [if_neg h4]
          simp only [ne_eq, Decidable.not_not] at h4
          obtain ⟨e, c1, c2, c3, c4⟩ := runsD_back 16 [] 0 _ hb1 (by simp) (by simp) h4
          simp only [List.nil_append] at c1
          simp at c2
          exact ⟨by simp only; omega, by simp only; rw [c1]; omega⟩
      · rename_i h3
        rw [if_neg h3]
        split at h
        · rename_i h5
          rw [if_pos h5]
          split at h
          · rename_i h4
            exact absurd h h4
          · rename_i h4
            rw [if_neg h4]
            exact ⟨by simp only; omega, by simp⟩
        · simp at h

structure EvsI (w wr : World) (lo b : Nat) (o v : Value) (R : List (Ev × Value)) (l : List Int) : Prop where
  own : OwnE wr w.heap.size o R
  rd : RdAt wr lo b v l
  sans : Sans b lo w wr
  len : ∀ p ∈ R, p.1.data.length ≤ 1000
theorem ownE_ne {w : World} {base b : Nat} {v : Value} {R : List (Ev × Value)} {cur : Array Value} {t : TypeId} (k : OwnE w base v R) (hb : w.heap[b]? = some (.cells cur t (0, 0))) (ht : 62 ≠ t) : v.ownBlock ≠ some b := by
  rcases k.row.2 with ⟨rfl, _⟩ | ⟨g, cap, cur', rfl, _, hh, _⟩
  · simp [Value.ownBlock]
  · intro e
    simp [Value.ownBlock] at e
    subst e
    rw [hb] at hh
    simp at hh
    exact ht hh.2.symm
theorem EvsI.on {w w1 w2 : World} {lo b : Nat} {o v v' : Value} {R : List (Ev × Value)} {l l' : List Int} (h : EvsI w w1 lo b o v R l) (hs : Sans b lo w1 w2) (hr : RdAt w2 lo b v' l') : EvsI w w2 lo b o v' R l' :=
  ⟨⟨hs.owns h.own.row (ownE_ne h.own h.rd.box (by decide)), fun p hp => hs.ints (h.own.data p hp) h.rd.box⟩, hr, h.sans.trans hs, h.len⟩
theorem EvsI.snoc {w w1 W w2 : World} {lo b : Nat} {o o' v d : Value} {R : List (Ev × Value)} {l : List Int} {x : Ev} (h : EvsI w w1 lo b o v R l) (hlo : lo ≤ w.heap.size) (hB : Below w1.heap.size w1 W) (hd : OwnI W w.heap.size d x.data) (hx : x.data.length ≤ 1000) (hg : W.grownBy w2 o.ownBlock)
    (ho : w2.ownsRow w.heap.size 62 3 o' (R.length + 1) (flat R ++ [.int .i64 x.at_, .int .i64 x.kind, d])) : EvsI w w2 lo b o' v (R ++ [(x, d)]) l := by
  have hE := h.own.below hB
  refine ⟨hE.snoc hd hg ho, h.rd.append hB hlo (ownE_ne hE (h.rd.below hB).box (by decide)) hE.row hg, h.sans.append hlo hB hE.row hg, fun p hp => ?_⟩
  rcases List.mem_append.1 hp with hp | hp
  · exact h.len p hp
  · simp at hp
    subst hp
    exact hx

structure EventsQ (w w' : World) (lo b : Nat) (u : Value) (g : Got (List Ev)) : Prop where
  sans : Sans b lo w w'
  ok : g.no = 0 → ∃ R, R.map Prod.fst = g.val ∧ OwnE w' w.heap.size u R ∧ R.length ≤ 1000 ∧ ∀ p ∈ R, p.1.data.length ≤ 1000
  no : g.no ≠ 0 → u = .slice none 0 0

set_option maxHeartbeats 2000000 in
theorem events_any (b lo : Nat) (v : Value) (l : List Int) (w : World) (h : RdAt w lo b v l) (hL : Laid w) (h0 : 0 < lo) :
    Calls Tryz.prog 91 #[.pointer (some ⟨b, 0, none⟩)] w fun e w' => ∃ u, e = .returned (.tuple #[u, .int .i64 (allD l).no]) ∧ EventsQ w w' lo b u (allD l) := by
  have hlo : lo ≤ w.heap.size := by have := h.own; have := h.lt; omega
  obtain ⟨i3, hi3, hz30, hz31, hz32⟩ := info_parts infoEvent
  have HL : Hid (∀ W, Sans b lo w W → Laid W) := fun W hs => ⟨(hs.old.cell (p := ⟨0, 0, none⟩) h0).trans hL.1, (hs.old.cell (p := ⟨0, 1, none⟩) h0).trans hL.2.1, (hs.old.cell (p := ⟨0, 2, none⟩) h0).trans hL.2.2.1, (hs.old.cell (p := ⟨0, 3, none⟩) h0).trans hL.2.2.2.1, Nat.lt_of_lt_of_le hL.2.2.2.2 hs.size⟩
  have HN : Hid (Calls Tryz.prog 128 #[.pointer (some ⟨b, 0, none⟩)] w fun e w' => e = .returned (.tuple #[.int .i64 (numD l).val, .int .i64 (numD l).no]) ∧ NumQ w w' lo b v l) := number_any b lo v l w h
  have HB : Hid (∀ x ∈ l, 0 ≤ x ∧ x ≤ 255) := h.bys.byte
  have HV : Hid (∀ W v1 l1 last, RdAt W lo b v1 l1 → Sans b lo w W → 0 ≤ last → last ≤ 1152921504606846976 → Calls Tryz.prog 129 #[.pointer (some ⟨b, 0, none⟩), .int .i64 last] W fun e w' => ∃ u, e = .returned (.tuple #[.agg #[.int .i64 (eventD last l1).val.at_, .int .i64 (eventD last l1).val.kind, u], .int .i64 (eventD last l1).no]) ∧ EventQ W w' lo b last l1 u) := fun W v1 l1 last hr hs g1 g2 => event_any b lo v1 l1 last W hr (HL.out W hs) h0 ⟨g1, g2⟩
  clear h hL
  go_enter Tryz.func91, Tryz.ntmps91
  go_wp2_with fail
  refine HN.out.mono ?_
  rintro e w1 ⟨rfl, hq⟩
  have HQ : Hid (NumQ w w1 lo b v l) := hq
  have hv := hq.val
  clear hq HN
  by_cases hn : (numD l).no = 0
  · by_cases h1 : 1000 < (numD l).val
    · have E : Hid (allD l = ⟨1, [], []⟩) := by
        show _ = _
        unfold allD
        rw [if_neg (by simp [hn]), if_pos h1]
      rw [hn]
      clear HV HL
      go_wp2_with fail
      go_ret2
      exact ⟨_, by rw [E.out]; rfl, HQ.out.sans, fun e => by rw [E.out] at e; simp at e, fun _ => rfl⟩
    · obtain ⟨n, hnn⟩ : ∃ n : Nat, (numD l).val = (n : Int) := ⟨(numD l).val.toNat, by omega⟩
      have hn1000 : n ≤ 1000 := by omega
      have HE : Hid (allD l = (if (eventsD n 0 [] (numD l).rest).no ≠ 0 then ⟨(eventsD n 0 [] (numD l).rest).no, [], []⟩ else if 0 < (eventsD n 0 [] (numD l).rest).rest.length then ⟨4, [], []⟩ else eventsD n 0 [] (numD l).rest)) := by
        show _ = _
        unfold allD
        rw [if_neg (by simp [hn]), if_neg h1, hnn, Int.toNat_natCast]
      obtain ⟨v1, hr1⟩ := HQ.out.rd hn
      have HI0 : Hid (EvsI w w1 lo b (.slice none 0 0) v1 [] (numD l).rest) := ⟨OwnE.nil _ _, hr1, HQ.out.sans, fun p hp => by simp at hp⟩
      rw [hn]
      rw [hnn] at h1 hv ⊢
      clear hr1 HQ hn hnn HB
      revert HE HI0
      generalize (numD l).rest = r
      intro HE HI0
      go_wp2_with fail
      go_loopw [6, 7, 21] (fun o t i wr => ∃ (k : Nat) (R : List (Ev × Value)) (last : Int) (l' : List Int) (v' : Value), k ≤ n ∧ i = .int .i64 k ∧ Hid (R.length = k) ∧ t = .int .i64 last ∧ (0 ≤ last ∧ last ≤ 140737488355328 * k) ∧ Hid (eventsD (n - k) last (R.map Prod.fst) l' = eventsD n 0 [] r) ∧ Hid (EvsI w wr lo b o v' R l')) (fun _ _ i _ => n - (intOf i).toNat)
      case atStart => exact ⟨0, [], 0, r, v1, Nat.zero_le _, rfl, rfl, rfl, by omega, rfl, HI0⟩
      case round =>
        obtain ⟨k, R, last, l', v', hk, rfl, HRk, rfl, hlast, HD, HI⟩ := hrel
        by_cases hlt : k < n
        · have hki : (k : Int) < (n : Int) := by omega
          obtain ⟨m, hm⟩ : ∃ m, n - k = m + 1 := ⟨n - k - 1, by omega⟩
          have HBY : Hid (∀ x ∈ l', 0 ≤ x ∧ x ≤ 255) := HI.out.rd.bys.byte
          have hszr := HI.out.sans.size
          rw [hm] at HD
          go_wp2_with fail
          refine (HV.out _ _ l' last HI.out.rd HI.out.sans (by omega) (by omega)).mono ?_
          rintro e w2 ⟨u, rfl, hq⟩
          by_cases he : (eventD last l').no = 0
          · obtain ⟨ho, v2, hr2⟩ := hq.ok he
            have hbd := eventD_bd HBY.out he
            have HI2 : Hid (EvsI w w2 lo b u6 v2 R (eventD last l').rest) := HI.out.on hq.sans hr2
            have HO : Hid (OwnI w2 w.heap.size u (eventD last l').val.data) := ownsRow_mono ho hszr
            have HD2 : Hid (eventsD m (eventD last l').val.at_ (R.map Prod.fst ++ [(eventD last l').val]) (eventD last l').rest = eventsD n 0 [] r) := by
              show _ = _
              rw [← HD.out, eventsD, if_neg (by simp [he])]
            have hs2 := HI2.out.sans.size
            rw [he]
            clear ho hr2 hq he HD HBY HI
            revert hbd HI2 HO HD2
            generalize (eventD last l').val = x
            generalize (eventD last l').rest = rr
            intro hbd HI2 HO HD2
            obtain ⟨xa, xk, xd⟩ := x
            simp only at hbd HO HD2 ⊢
            obtain ⟨A, c, rfl⟩ := HO.out.shape
            have hR1000 : R.length ≤ 1000 := by have := HRk.out; omega
            go_upto_region 13 with fail
            obtain ⟨W2, hW2⟩ : ∃ W2, W2 = w2.alloc (.cells #[.int .i64 xa, .int .i64 xk, .slice A xd.length c] 62) := ⟨_, rfl⟩
            have HB2 : Hid (Below w2.heap.size w2 W2) := by rw [hW2]; exact below_alloc _ _
            have hbx : W2.heap[w2.heap.size]? = some (.cells #[.int .i64 xa, .int .i64 xk, .slice A xd.length c] 62 (0, 0)) := by
              rw [hW2]
              exact Go.Deep.blk_alloc_new _ _
            rw [← hW2]
            clear hW2
            obtain ⟨e0, e1, e2, ef, el⟩ := three_cells hbx
            have HBX : Hid (W2.heap[w2.heap.size]? = some (.cells #[.int .i64 xa, .int .i64 xk, .slice A xd.length c] 62 (0, 0))) := hbx
            clear hbx
            go_wp2_with (first
              | (at_builtin; refine wpList_append_own_at _ rfl _ _ 58 rfl w.heap.size 62 i3 (.agg #[.int .i64 0, .int .i64 0, .slice none 0 0]) 3 40 Tryz.underlying58 hi3 hz30 hz31 hz32 rfl (by decide) u6 R.length (flat R) rfl (World.ownsRow.alloc (ownsRow_below HI2.out.own.row HB2.out) _) ⟨W2.heap.size, 0, none⟩ 1 1 [.int .i64 xa, .int .i64 xk, .slice A xd.length c] rfl rfl (cell_three_new _ _ _ _ _) (by intro u hu; simp at hu; rcases hu with rfl | rfl | rfl <;> rfl) ?c3 ?c4 ?c5 ?_))
            case c3 => unfold maxLen; omega
            case c4 => omega
            case c5 => simp; have := HB2.out.size; omega
            intro v3 w3 hown hgrow _ _
            have HB3 : Hid (Below w2.heap.size w2 (W2.alloc (.cells #[.int .i64 xa, .int .i64 xk, .slice A xd.length c] 62))) := HB2.out.trans ((below_alloc _ _).mono HB2.out.size)
            have HI3 : Hid (EvsI w w3 lo b v3 v2 (R ++ [(⟨xa, xk, xd⟩, .slice A xd.length c)]) rr) := HI2.out.snoc (x := ⟨xa, xk, xd⟩) hlo HB3.out (OwnI.below HO.out HB3.out) (by simp only; omega) hgrow (by simpa using hown)
            have hb3 : w3.heap[w2.heap.size]? = some (.cells #[.int .i64 xa, .int .i64 xk, .slice A xd.length c] 62 (0, 0)) := by
              have hbw : (W2.alloc (.cells #[.int .i64 xa, .int .i64 xk, .slice A xd.length c] 62)).heap[w2.heap.size]? = some (.cells #[.int .i64 xa, .int .i64 xk, .slice A xd.length c] 62 (0, 0)) := by rw [(below_alloc W2 _).block _ el]; exact HBX.out
              exact block_grown hbw hgrow (fun e => by have := (World.ownsRow.lt HI2.out.own.row _ e).2; omega)
            obtain ⟨q0, q1, q2, qf, ql⟩ := three_cells hb3
            clear hown hgrow hb3 e0 e1 e2 ef el
            go_wp2_with fail
            refine ⟨⟨k + 1, _, xa, rr, v2, by omega, by go_num, (by show _ = _; simp [HRk.out]), rfl, by omega, (by show _ = _; rw [show n - (k + 1) = m by omega, List.map_append]; exact HD2.out), HI3⟩, ?_⟩
            simp [intOf]; omega
          · have E : Hid (allD l = ⟨(eventD last l').no, [], []⟩) := by
              show _ = _
              rw [HE.out, ← HD.out, eventsD, if_pos he, if_pos he]
            have HS : Hid (Sans b lo w w2) := HI.out.sans.trans hq.sans
            obtain rfl := hq.no he
            obtain ⟨en, hen⟩ : ∃ en, en = (eventD last l').no := ⟨_, rfl⟩
            rw [← hen] at he E ⊢
            have hn' : (en == 0) = false := by simpa using he
            clear hen HV HL hq HD HI HE
            go_wp2_with fail
            go_ret2
            have hss := HS.out.size
            exact ⟨_, by rw [E.out]; rfl, HS.out.trans (Sans.of_below (below_alloc _ _) (by omega)), fun e => by rw [E.out] at e; exact absurd e he, fun _ => rfl⟩
        · have hki : ¬ (k : Int) < (n : Int) := by omega
          rw [show n - k = 0 by omega] at HD
          have HD' : Hid (eventsD n 0 [] r = ⟨0, R.map Prod.fst, l'⟩) := HD.out.symm
          obtain ⟨⟨Av, cv, rfl, -, -⟩, hfew, -⟩ := HI.out.rd.bys
          obtain ⟨c0, f0⟩ := HI.out.rd.cell
          have hbl := HI.out.rd.lt
          by_cases hl0 : 0 < l'.length
          · have E : Hid (allD l = ⟨4, [], []⟩) := by
              show _ = _
              rw [HE.out, HD'.out]
              simp only
              rw [if_neg (by simp), if_pos hl0]
            have hl0i : (0 : Int) < (l'.length : Int) := by omega
            clear HE HD' HD HV HL
            go_wp2_with fail
            go_ret2
            exact ⟨_, by rw [E.out]; rfl, HI.out.sans, fun e => by rw [E.out] at e; simp at e, fun _ => rfl⟩
          · have E : Hid (allD l = ⟨0, R.map Prod.fst, l'⟩) := by
              show _ = _
              rw [HE.out, HD'.out]
              simp only
              rw [if_neg (by simp), if_neg hl0]
            have hl0i : ¬ (0 : Int) < (l'.length : Int) := by omega
            have hR1000 : R.length ≤ 1000 := by have := HRk.out; omega
            clear HE HD' HD HV HL
            go_wp2_with fail
            go_ret2
            exact ⟨_, by rw [E.out]; rfl, HI.out.sans, fun _ => ⟨R, by rw [E.out], HI.out.own, hR1000, HI.out.len⟩, fun e => by rw [E.out] at e; simp at e⟩
  · have E : Hid (allD l = ⟨(numD l).no, [], []⟩) := by
      show _ = _
      unfold allD
      rw [if_pos hn]
    obtain ⟨en, hen⟩ : ∃ en, en = (numD l).no := ⟨_, rfl⟩
    rw [← hen] at hn E ⊢
    have hn' : (en == 0) = false := by simpa using hn
    clear hen HV HL
    go_wp2_with fail
    go_ret2
    exact ⟨_, by rw [E.out]; rfl, HQ.out.sans, fun e => by rw [E.out] at e; exact absurd e hn, fun _ => rfl⟩

theorem OwnE.mono {w : World} {lo lo' : Nat} {v : Value} {R : List (Ev × Value)} (h : OwnE w lo v R) (hl : lo' ≤ lo) : OwnE w lo' v R := ⟨ownsRow_mono h.row hl, fun p hp => ownsRow_mono (h.data p hp) hl⟩

structure DecQ (w w' : World) (u : Value) (g : Int × List Ev) : Prop where
  old : Below w.heap.size w w'
  ok : g.1 = 0 → ∃ R, R.map Prod.fst = g.2 ∧ OwnE w' w.heap.size u R ∧ R.length ≤ 1000 ∧ ∀ p ∈ R, p.1.data.length ≤ 1000
  no : g.1 ≠ 0 → u = .slice none 0 0

set_option maxHeartbeats 2000000 in
theorem Decode_body (b off n c : Nat) (l : List Int) (w : World) (hL : Laid w) (h4 : 4 < n) (h6 : n ≤ 60000) (hc : n ≤ c) (hln : l.length = n - 4) (hb : b < w.heap.size) (hy : ∀ x ∈ l, 0 ≤ x ∧ x ≤ 255) (hcell : ∀ j, j < l.length → w.cell? ⟨b, off + j, none⟩ = some (.int .u8 (l.getD j 0))) (v : Value)
    (H : Calls Tryz.prog 90 #[v] w fun e w' => e = .returned (.tuple #[.slice (some ⟨b, off, none⟩) (n - 4) c, .int .i64 0]) ∧ Below w.heap.size w w') (g : Int × List Ev) (hg : g = if (allD l).no ≠ 0 then ((allD l).no, []) else if chkNo (allD l).val ≠ 0 then (chkNo (allD l).val, []) else (0, (allD l).val)) :
    Calls Tryz.prog 56 #[v] w fun e w' => ∃ u, e = .returned (.tuple #[u, .int .i64 g.1]) ∧ DecQ w w' u g := by
  have HG : Hid (g = if (allD l).no ≠ 0 then ((allD l).no, []) else if chkNo (allD l).val ≠ 0 then (chkNo (allD l).val, []) else (0, (allD l).val)) := hg
  have HF : Hid (Calls Tryz.prog 90 #[v] w fun e w' => e = .returned (.tuple #[.slice (some ⟨b, off, none⟩) (n - 4) c, .int .i64 0]) ∧ Below w.heap.size w w') := H
  have HL : Hid (Laid w) := hL
  have HR : Hid (∀ W, Below w.heap.size w W → RdAt (W.alloc (.cells #[.slice (some ⟨b, off, none⟩) (n - 4) c] 140)) W.heap.size W.heap.size (.slice (some ⟨b, off, none⟩) (n - 4) c) l) := fun W hB => by
    have hz := hB.size
    refine ⟨Go.Deep.blk_alloc_new _ _, Nat.le_refl _, ⟨⟨some ⟨b, off, none⟩, c, by rw [hln], by omega, fun _ => ⟨b, off, rfl, by omega, by simp; omega, fun j hj => ?_⟩⟩, by omega, hy⟩⟩
    have h1 := (hB.cell (p := ⟨b, off + j, none⟩) hb).trans (hcell j hj)
    exact ((below_alloc W _).cell (p := ⟨b, off + j, none⟩) (by simp; omega)).trans h1
  clear hL hcell hy H hg hln
  obtain ⟨m, hm⟩ : ∃ m, m = n - 4 := ⟨_, rfl⟩
  rw [← hm] at HF HR
  clear hm h4
  go_enter Tryz.func56, Tryz.ntmps56
  go_wp2_with fail
  refine HF.out.mono ?_
  rintro e w1 ⟨rfl, hb1⟩
  have HB1 : Hid (Below w.heap.size w w1) := hb1
  have HR1 := HR.out w1 hb1
  have hz1 := hb1.size
  have hL1 : Laid (w1.alloc (.cells #[.slice (some ⟨b, off, none⟩) m c] 140)) := (HL.out.below hb1).below (below_alloc _ _)
  have HV : Hid (∀ W, W = w1.alloc (.cells #[.slice (some ⟨b, off, none⟩) m c] 140) → Calls Tryz.prog 91 #[.pointer (some ⟨w1.heap.size, 0, none⟩)] W fun e w' => ∃ u, e = .returned (.tuple #[u, .int .i64 (allD l).no]) ∧ EventsQ W w' w1.heap.size w1.heap.size u (allD l)) := fun W e => by
    subst e
    exact events_any w1.heap.size w1.heap.size _ l _ HR1 hL1 (by omega)
  clear hb1 HF HR hL1 HR1
  go_wp2_with fail
  refine (HV.out _ rfl).mono ?_
  rintro e w2 ⟨u, rfl, hq⟩
  have HB2 : Hid (Below w.heap.size w w2) := HB1.out.trans (((below_alloc _ _).trans hq.sans.old).mono hz1)
  clear HV
  by_cases hn : (allD l).no = 0
  · obtain ⟨R, hR, ho, hR1, hR2⟩ := hq.ok hn
    have HO : Hid (OwnE w2 w.heap.size u R) := ho.mono (by simp; omega)
    have HRR : Hid (R.map Prod.fst = (allD l).val ∧ R.length ≤ 1000 ∧ ∀ p ∈ R, p.1.data.length ≤ 1000) := ⟨hR, hR1, hR2⟩
    have HC : Hid (Calls Tryz.prog 57 #[u] w2 fun e w' => e = .returned (.int .i64 (chkNo (allD l).val)) ∧ Below w2.heap.size w2 w') := by
      rw [← hR]
      exact Check_any u _ w2 (ho.evs hR1 hR2).at_ (HL.out.below HB2.out)
    rw [hn]
    clear hq hR ho hR1 hR2 HL
    go_wp2_with fail
    refine HC.out.mono ?_
    rintro e w3 ⟨rfl, hb3⟩
    have HB3 : Hid (Below w.heap.size w w3) := HB2.out.trans (hb3.mono HB2.out.size)
    have HO3 : Hid (OwnE w3 w.heap.size u R) := HO.out.below hb3
    clear hb3 HC HO
    by_cases hc0 : chkNo (allD l).val = 0
    · have E : Hid (g = (0, (allD l).val)) := by
        show _ = _
        rw [HG.out, if_neg (by simp [hn]), if_neg (by simp [hc0])]
      rw [hc0]
      clear HG
      go_wp2_with fail
      go_ret2
      exact ⟨_, by rw [E.out]; rfl, HB3.out, fun _ => ⟨R, by rw [E.out]; exact HRR.out.1, HO3.out, HRR.out.2⟩, fun e => by rw [E.out] at e; exact absurd rfl e⟩
    · have E : Hid (g = (chkNo (allD l).val, [])) := by
        show _ = _
        rw [HG.out, if_neg (by simp [hn]), if_pos hc0]
      obtain ⟨en, hen⟩ : ∃ en, en = chkNo (allD l).val := ⟨_, rfl⟩
      rw [← hen] at hc0 E ⊢
      have hn' : (en == 0) = false := by simpa using hc0
      clear hen HG
      go_wp2_with fail
      go_ret2
      exact ⟨_, by rw [E.out]; rfl, HB3.out, fun e => by rw [E.out] at e; exact absurd e hc0, fun _ => rfl⟩
  · have E : Hid (g = ((allD l).no, [])) := by
      show _ = _
      rw [HG.out, if_pos hn]
    obtain ⟨en, hen⟩ : ∃ en, en = (allD l).no := ⟨_, rfl⟩
    rw [← hen] at hn E ⊢
    have hn' : (en == 0) = false := by simpa using hn
    clear hen HG hq HL
    go_wp2_with fail
    go_ret2
    exact ⟨_, by rw [E.out]; rfl, HB2.out, fun e => by rw [E.out] at e; exact absurd e hn, fun _ => rfl⟩

theorem Decode_any (v : Value) (l : List Int) (w : World) (h : BytesAt w v l) (hc : ∃ A c, v = .slice A l.length c ∧ l.length ≤ c) (hL : Laid w) :
    Calls Tryz.prog 56 #[v] w fun e w' => ∃ u, e = .returned (.tuple #[u, .int .i64 (decD l).1]) ∧ DecQ w w' u (decD l) := by
  obtain ⟨A, c, rfl, hcap⟩ := hc
  have h' := h
  obtain ⟨A', c', e, hl, hy, hcell⟩ := h'
  simp only [Value.slice.injEq] at e
  obtain ⟨rfl, -, rfl⟩ := e
  have fin : ∀ (en : Int), en ≠ 0 → decD l = (en, []) → (Calls Tryz.prog 56 #[.slice A l.length c] w fun e w' => e = .returned (.tuple #[.slice none 0 0, .int .i64 en]) ∧ Below w.heap.size w w') → Calls Tryz.prog 56 #[.slice A l.length c] w fun e w' => ∃ u, e = .returned (.tuple #[u, .int .i64 (decD l).1]) ∧ DecQ w w' u (decD l) := fun en h0 E H => H.mono fun e w' ⟨he, hb⟩ => ⟨_, by rw [E]; exact he, hb, fun e0 => by rw [E] at e0; exact absurd e0 h0, fun _ => rfl⟩
  by_cases h1 : 60000 < l.length
  · refine fin 1 (by simp) (by unfold decD; rw [if_pos h1]) (Decode_early _ 1 w (by simp) ?_)
    exact (withoutSum_size A l.length c w h1 hl).mono fun e w' ⟨he, hw⟩ => ⟨he, by rw [hw]; exact Below.refl _ _⟩
  by_cases h2 : l.length ≤ 4
  · refine fin 5 (by simp) (by unfold decD; rw [if_neg h1, if_pos h2]) (Decode_early _ 5 w (by simp) ?_)
    exact (withoutSum_short A l.length c w h2).mono fun e w' ⟨he, hw⟩ => ⟨he, by rw [hw]; exact Below.refl _ _⟩
  obtain ⟨b, off, rfl, hlt, hj⟩ := hcell (by omega)
  by_cases h3 : l.drop (l.length - 4) = sumB (l.take (l.length - 4))
  · refine Decode_body b off l.length c (l.take (l.length - 4)) w hL (by omega) (by omega) hcap (by simp) hlt (fun x hx => hy x (List.mem_of_mem_take hx)) (fun j hjl => ?_) _ ?_ (decD l) ?_
    · simp at hjl
      rw [hj j (by omega)]
      simp [List.getD, show j < l.length - 4 by omega, show j < l.length by omega]
    · exact (withoutSum_sum b off c l w h hcap (by omega) (by omega) true (by simp [h3])).mono fun e w' ⟨he, hb⟩ => ⟨by rw [he]; simp, hb⟩
    · unfold decD
      rw [if_neg h1, if_neg h2, if_neg (by simp [h3])]
  · refine fin 10 (by simp) (by unfold decD; rw [if_neg h1, if_neg h2, if_pos h3]) (Decode_early _ 10 w (by simp) ?_)
    exact (withoutSum_sum b off c l w h hcap (by omega) (by omega) false (by simp [h3])).mono fun e w' ⟨he, hb⟩ => ⟨by rw [he]; simp, hb⟩

end Go.Proofs.YtecpblabaelopaaGreatDoor
