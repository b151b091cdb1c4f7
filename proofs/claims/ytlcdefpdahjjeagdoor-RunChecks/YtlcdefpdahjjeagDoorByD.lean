/- Bytes read as events: plain notions, and that reading is the other way round of writing. -/
import Derived.Test.YtlcdefpdahjjeagDoorBySpoil
namespace Go.Proofs.YtlcdefpdahjjeagDoor
open Go.RowKit
set_option maxRecDepth 100000

/-- What was read: what is wrong (0: nothing), it, and what is left. -/
structure Got (α : Type) where
  no : Int
  val : α
  rest : List Int
/-- A number, from its byte i on. -/
def numG : Nat → Int → Int → List Int → Got Int
  | _, _, _, [] => ⟨5, 0, []⟩
  | i, n, u, b :: t => if i = 7 then ⟨4, 0, []⟩ else if 128 ≤ b then numG (i + 1) (n + b % 128 * u) (u * 128) t else if b = 0 ∧ 0 < i then ⟨4, 0, []⟩ else ⟨0, n + b % 128 * u, t⟩
def numD (l : List Int) : Got Int := numG 0 0 1 l
/-- The number of any kind that stands there as n. -/
def anyK (n : Int) : Int := if n % 2 = 1 then -((n + 1) / 2) else n / 2
def runsD : Nat → List Int → Int → List Int → Got (List Int)
  | 0, got, _, l => ⟨0, got, l⟩
  | f + 1, got, last, l =>
    if got.length < 16 then
      if (numD l).no ≠ 0 then ⟨(numD l).no, [], []⟩ else
      if (numD (numD l).rest).no ≠ 0 then ⟨(numD (numD l).rest).no, [], []⟩ else
      if (numD l).val < 1 ∨ 16 - (got.length : Int) < (numD l).val ∨ ((numD (numD l).rest).val = 0 ∧ 0 < got.length) then ⟨4, [], []⟩ else
      runsD f (got ++ List.replicate (numD l).val.toNat (last + anyK (numD (numD l).rest).val)) (last + anyK (numD (numD l).rest).val) (numD (numD l).rest).rest
    else ⟨0, got, l⟩
def eventD (last : Int) (l : List Int) : Got Ev :=
  if (numD l).no ≠ 0 then ⟨(numD l).no, noEv, []⟩ else
  if (numD l).val % 4 = 1 then ⟨0, ⟨last + (numD l).val / 4, 1, []⟩, (numD l).rest⟩ else
  if (numD l).val % 4 = 2 then
    if (runsD 16 [] 0 (numD l).rest).no ≠ 0 then ⟨(runsD 16 [] 0 (numD l).rest).no, noEv, []⟩ else ⟨0, ⟨last + (numD l).val / 4, 2, (runsD 16 [] 0 (numD l).rest).val⟩, (runsD 16 [] 0 (numD l).rest).rest⟩ else
  if (numD l).val % 4 = 3 then
    if (numD (numD l).rest).no ≠ 0 then ⟨(numD (numD l).rest).no, noEv, []⟩ else ⟨0, ⟨last + (numD l).val / 4, 3, [anyK (numD (numD l).rest).val]⟩, (numD (numD l).rest).rest⟩ else
  ⟨3, noEv, []⟩
def eventsD : Nat → Int → List Ev → List Int → Got (List Ev)
  | 0, _, got, l => ⟨0, got, l⟩
  | n + 1, last, got, l => if (eventD last l).no ≠ 0 then ⟨(eventD last l).no, [], []⟩ else eventsD n (eventD last l).val.at_ (got ++ [(eventD last l).val]) (eventD last l).rest
def allD (l : List Int) : Got (List Ev) :=
  if (numD l).no ≠ 0 then ⟨(numD l).no, [], []⟩ else
  if 1000 < (numD l).val then ⟨1, [], []⟩ else
  if (eventsD (numD l).val.toNat 0 [] (numD l).rest).no ≠ 0 then ⟨(eventsD (numD l).val.toNat 0 [] (numD l).rest).no, [], []⟩ else
  if 0 < (eventsD (numD l).val.toNat 0 [] (numD l).rest).rest.length then ⟨4, [], []⟩ else eventsD (numD l).val.toNat 0 [] (numD l).rest
def decD (l : List Int) : Int × List Ev :=
  if 60000 < l.length then (1, []) else
  if l.length ≤ 4 then (5, []) else
  if l.drop (l.length - 4) ≠ sumB (l.take (l.length - 4)) then (10, []) else
  if (allD (l.take (l.length - 4))).no ≠ 0 then ((allD (l.take (l.length - 4))).no, []) else
  if chkNo (allD (l.take (l.length - 4))).val ≠ 0 then (chkNo (allD (l.take (l.length - 4))).val, []) else (0, (allD (l.take (l.length - 4))).val)

/-- Numbers. -/
theorem numG_sevens : ∀ (k i n : Nat) (m u : Int) (t : List Int), i + k = 7 → n < 128 ^ k → (n = 0 → i = 0) → numG i m u (sevens n ++ t) = ⟨0, m + n * u, t⟩
  | 0, i, n, m, u, t, hk, hn, h0 => by
    simp at hn
    have := h0 hn
    omega
  | k + 1, i, n, m, u, t, hk, hn, h0 => by
    have h7 : ¬ i = 7 := by omega
    by_cases h1 : n < 128
    · rw [sevens_small h1, List.singleton_append, numG, if_neg h7, if_neg (by omega), if_neg (by omega)]
      rw [show (n : Int) % 128 = n by omega]
    · rw [sevens_more h1, List.cons_append, numG, if_neg h7, if_pos (by omega)]
      have hd : n / 128 < 128 ^ k := Nat.div_lt_of_lt_mul (by rw [Nat.pow_succ] at hn; omega)
      rw [numG_sevens k (i + 1) (n / 128) _ _ t (by omega) hd (by omega)]
      have e : (((128 + n % 128 : Nat) : Int) % 128) * u + ((n / 128 : Nat) : Int) * (u * 128) = (n : Int) * u := by
        rw [Int.mul_comm u 128, ← Int.mul_assoc, ← Int.add_mul]
        congr 1
        omega
      rw [Int.add_assoc, e]
theorem numD_sevens {n : Nat} (t : List Int) (hn : n < 562949953421312) : numD (sevens n ++ t) = ⟨0, n, t⟩ := by
  rw [numD, numG_sevens 7 0 n 0 1 t rfl (by simpa using hn) (fun _ => rfl)]
  simp
theorem numG_back : ∀ (l : List Int) (i : Nat) (m u : Int), (∀ x ∈ l, 0 ≤ x ∧ x ≤ 255) → i ≤ 7 → (numG i m u l).no = 0 → ∃ n : Nat, l = sevens n ++ (numG i m u l).rest ∧ (numG i m u l).val = m + n * u ∧ n < 128 ^ (7 - i) ∧ (n = 0 → i = 0)
  | [], i, m, u, hb, hi, h => by simp [numG] at h
  | b :: l, i, m, u, hb, hi, h => by
    have hb0 := hb b (by simp)
    rw [numG] at h ⊢
    split at h
    · simp at h
    · rename_i h7
      rw [if_neg h7]
      split at h
      · rename_i h1
        rw [if_pos h1]
        obtain ⟨n, e1, e2, e3, e4⟩ := numG_back l (i + 1) (m + b % 128 * u) (u * 128) (fun x hx => hb x (List.mem_cons_of_mem _ hx)) (by omega) h
        have hn : n ≠ 0 := fun e => by have := e4 e; omega
        refine ⟨b.toNat % 128 + 128 * n, ?_, ?_, ?_, by omega⟩
        · rw [sevens_more (by omega), List.cons_append]
          rw [show (b.toNat % 128 + 128 * n) / 128 = n by omega, ← e1]
          congr 1
          omega
        · rw [e2]
          have e : b % 128 * u + (n : Int) * (u * 128) = ((b.toNat % 128 + 128 * n : Nat) : Int) * u := by
            rw [Int.mul_comm u 128, ← Int.mul_assoc, ← Int.add_mul]
            congr 1
            omega
          rw [Int.add_assoc, e]
        · rw [show 7 - i = (7 - (i + 1)) + 1 by omega, Nat.pow_succ]
          omega
      · rename_i h1
        rw [if_neg h1]
        split at h
        · simp at h
        · rename_i h2
          rw [if_neg h2]
          refine ⟨b.toNat, ?_, ?_, ?_, fun e => ?_⟩
          · rw [sevens_small (by omega), List.singleton_append]
            congr 1
            omega
          · show m + b % 128 * u = _
            rw [show b % 128 = (b.toNat : Int) by omega]
          · rw [show 7 - i = (6 - i) + 1 by omega, Nat.pow_succ]
            have : 0 < 128 ^ (6 - i) := Nat.pow_pos (by omega)
            omega
          · by_cases hi0 : i = 0
            · exact hi0
            · exact absurd ⟨by omega, by omega⟩ h2
theorem numD_back {l : List Int} (hb : ∀ x ∈ l, 0 ≤ x ∧ x ≤ 255) (h : (numD l).no = 0) : ∃ n : Nat, l = sevens n ++ (numD l).rest ∧ (numD l).val = n ∧ n < 562949953421312 := by
  obtain ⟨n, h1, h2, h3, _⟩ := numG_back l 0 0 1 hb (by omega) h
  exact ⟨n, h1, by rw [numD, h2]; omega, by simpa using h3⟩
theorem rest_byte {l a r : List Int} (hb : ∀ x ∈ l, 0 ≤ x ∧ x ≤ 255) (h : l = a ++ r) : ∀ x ∈ r, 0 ≤ x ∧ x ≤ 255 := fun x hx => hb x (by rw [h]; exact List.mem_append_right _ hx)

/-- Numbers of any kind. -/
theorem zigs_of {z : Int} : ∃ n : Nat, zigs z = sevens n ∧ anyK n = z ∧ (-281474976710656 < z → z < 281474976710656 → n < 562949953421312) ∧ (n = 0 → z = 0) := by
  unfold zigs
  split
  · exact ⟨_, rfl, by unfold anyK; split <;> omega, by omega, by omega⟩
  · exact ⟨_, rfl, by unfold anyK; split <;> omega, by omega, by omega⟩
theorem zigs_anyK (n : Nat) : zigs (anyK n) = sevens n := by
  unfold zigs anyK
  split <;> split <;> congr 1 <;> omega
theorem anyK_zero {n : Nat} : anyK n = 0 ↔ n = 0 := by
  unfold anyK
  split <;> omega

/-- Runs. -/
theorem runsB_rep (x : Int) (e : List Int) (he : e.head? ≠ some x) : ∀ (a : Nat) (last : Int) (run : Nat), runsB last run (List.replicate (a + 1) x ++ e) = sevens (run + a + 1) ++ zigs (x - last) ++ runsB x 0 e
  | 0, last, run => by
    cases e with
    | nil => simp [runsB]
    | cons y t =>
      have : ¬ y = x := fun h => he (by simp [h])
      simp [runsB, this]
  | a + 1, last, run => by
    rw [List.replicate_succ, List.replicate_succ, List.cons_append, List.cons_append]
    rw [show runsB last run (x :: x :: (List.replicate a x ++ e)) = runsB last (run + 1) (x :: (List.replicate a x ++ e)) by simp [runsB]]
    rw [← List.cons_append, ← List.replicate_succ, runsB_rep x e he a last (run + 1)]
    rw [show run + 1 + a + 1 = run + (a + 1) + 1 by omega]
theorem split_rep (x : Int) : ∀ t : List Int, ∃ a e, x :: t = List.replicate (a + 1) x ++ e ∧ e.head? ≠ some x
  | [] => ⟨0, [], by simp, by simp⟩
  | y :: t => by
    by_cases h : y = x
    · subst h
      obtain ⟨a, e, h1, h2⟩ := split_rep y t
      exact ⟨a + 1, e, by rw [List.replicate_succ, List.cons_append, ← h1], h2⟩
    · exact ⟨0, y :: t, by simp, by simp [h]⟩
theorem runsD_runsB : ∀ (f : Nat) (got : List Int) (last : Int) (d t : List Int), got.length + d.length = 16 → d.length ≤ f → (-1099511627776 ≤ last ∧ last ≤ 1099511627776) → (∀ x ∈ d, -1099511627776 ≤ x ∧ x ≤ 1099511627776) → (0 < got.length → d.head? ≠ some last) → runsD f got last (runsB last 0 d ++ t) = ⟨0, got ++ d, t⟩
  | 0, got, last, d, t, h1, h2, _, _, _ => by
    obtain rfl : d = [] := List.length_eq_zero_iff.1 (by omega)
    simp [runsD, runsB]
  | f + 1, got, last, [], t, h1, h2, _, _, _ => by
    simp at h1
    simp [runsD, runsB, h1]
  | f + 1, got, last, x :: d, t, h1, h2, hl, hw, hh => by
    obtain ⟨a, e, h3, h4⟩ := split_rep x d
    rw [h3] at h1 h2 hw
    have hx := hw x (by simp)
    rw [h3, runsB_rep x e h4]
    simp at h1 h2
    obtain ⟨n, z1, z2, z3, z4⟩ := zigs_of (z := x - last)
    have z3' := z3 (by omega) (by omega)
    have n1 : numD (sevens (0 + a + 1) ++ zigs (x - last) ++ runsB x 0 e ++ t) = ⟨0, ((0 + a + 1 : Nat) : Int), zigs (x - last) ++ runsB x 0 e ++ t⟩ := by
      rw [List.append_assoc, List.append_assoc, numD_sevens _ (by omega), List.append_assoc]
    have n2 : numD (zigs (x - last) ++ runsB x 0 e ++ t) = ⟨0, (n : Int), runsB x 0 e ++ t⟩ := by
      rw [z1, List.append_assoc, numD_sevens _ z3']
    rw [runsD, if_pos (by omega), n1]
    simp only [n2]
    rw [if_neg (by simp), if_neg (by simp), if_neg, z2]
    · rw [show last + (x - last) = x by omega, show ((0 + a + 1 : Nat) : Int).toNat = a + 1 by omega]
      rw [runsD_runsB f _ x e t (by simp; omega) (by omega) hx (fun y hy => hw y (by simp [hy])) (fun _ => h4), List.append_assoc]
    · rintro (h | h | h)
      · omega
      · omega
      · have := z4 (by omega)
        exact hh h.2 (by simp; omega)
theorem runsD_back : ∀ (f : Nat) (got : List Int) (last : Int) (l : List Int), (∀ x ∈ l, 0 ≤ x ∧ x ≤ 255) → got.length ≤ 16 → 16 - got.length ≤ f → (runsD f got last l).no = 0 → ∃ e, (runsD f got last l).val = got ++ e ∧ got.length + e.length = 16 ∧ l = runsB last 0 e ++ (runsD f got last l).rest ∧ (0 < got.length → e.head? ≠ some last)
  | 0, got, last, l, hb, h1, h2, h => ⟨[], by simp [runsD], by simp; omega, by simp [runsD, runsB], by simp⟩
  | f + 1, got, last, l, hb, h1, h2, h => by
    rw [runsD] at h ⊢
    split at h
    · rename_i hlt
      rw [if_pos hlt]
      split at h
      · rename_i h3
        exact absurd h h3
      · rename_i h3
        rw [if_neg h3]
        simp only [ne_eq, Decidable.not_not] at h3
        obtain ⟨n, a1, a2, a3⟩ := numD_back hb h3
        split at h
        · rename_i h4
          exact absurd h h4
        · rename_i h4
          rw [if_neg h4]
          simp only [ne_eq, Decidable.not_not] at h4
          obtain ⟨m, b1, b2, b3⟩ := numD_back (rest_byte hb a1) h4
          split at h
          · simp at h
          · rename_i h5
            rw [if_neg h5]
            rw [a2, b2] at h5 h ⊢
            have hn1 : 1 ≤ n ∧ n ≤ 16 - got.length ∧ (m = 0 → ¬ 0 < got.length) := ⟨by omega, by omega, fun hm h0 => h5 (Or.inr (Or.inr ⟨by omega, h0⟩))⟩
            clear h5
            obtain ⟨e, c1, c2, c3, c4⟩ := runsD_back f (got ++ List.replicate (n : Int).toNat (last + anyK m)) (last + anyK m) _ (rest_byte (rest_byte hb a1) b1) (by simp; omega) (by simp; omega) h
            simp at c2 c4
            obtain ⟨k, rfl⟩ : ∃ k, n = k + 1 := ⟨n - 1, by omega⟩
            refine ⟨List.replicate (k + 1) (last + anyK m) ++ e, ?_, ?_, ?_, fun h0 => ?_⟩
            · rw [c1, List.append_assoc]
              simp
            · simp
              omega
            · rw [runsB_rep _ e (c4 (by omega)), show last + anyK m - last = anyK m by omega, zigs_anyK, show 0 + k + 1 = k + 1 by omega]
              rw [List.append_assoc, List.append_assoc, ← c3, ← b1, ← a1]
            · rw [List.replicate_succ]
              simp
              intro e0
              exact hn1.2.2 (anyK_zero.1 (by omega)) h0
    · rename_i hlt
      rw [if_neg hlt]
      exact ⟨[], by simp, by simp; omega, by simp [runsB], by simp⟩

end Go.Proofs.YtlcdefpdahjjeagDoor
