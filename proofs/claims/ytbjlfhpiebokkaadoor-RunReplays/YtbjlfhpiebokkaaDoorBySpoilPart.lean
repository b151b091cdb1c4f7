/- One byte that is another one is told by the sum. -/
import Derived.Test.YtbjlfhpiebokkaaDoorOwnFPart
import Derived.Test.YtbjlfhpiebokkaaDoorBySumPart
namespace Go.Proofs.YtbjlfhpiebokkaaDoor
open Go.RowKit
set_option maxRecDepth 100000

theorem sumP_fst (l : List Int) : (sumP l).1 = (1 + l.sum) % 65521 := by
  have key : ∀ (l : List Int) (s : Int × Int), 0 ≤ s.1 ∧ s.1 < 65521 → (l.foldl sumStep s).1 = (s.1 + l.sum) % 65521 := by
    intro l
    induction l with
    | nil => intro s h; simp; omega
    | cons b l ih =>
      intro s h
      rw [List.foldl_cons, ih _ (by simp only [sumStep]; omega), List.sum_cons]
      simp only [sumStep]
      omega
  exact key l (1, 0) (by simp)

theorem sum_set {l : List Int} {k : Nat} (hk : k < l.length) (z : Int) : (l.set k z).sum = l.sum - l.getD k 0 + z := by
  induction l generalizing k with
  | nil => simp at hk
  | cons a l ih =>
    cases k with
    | zero => simp; omega
    | succ k =>
      simp at hk
      have := ih hk
      simp only [List.set_cons_succ, List.sum_cons, List.getD_cons_succ]
      omega

theorem sumB_inj {l m : List Int} (h : sumB l = sumB m) : (sumP l).1 = (sumP m).1 := by
  simp only [sumB, List.cons.injEq] at h
  omega

theorem spoilt {l : List Int} {k : Nat} (hl : ∀ x ∈ l, 0 ≤ x ∧ x ≤ 255) (hk : k < (l ++ sumB l).length) {z : Int} (hz : 0 ≤ z ∧ z ≤ 255) (hne : z ≠ (l ++ sumB l).getD k 0) :
    ((l ++ sumB l).set k z).drop l.length ≠ sumB (((l ++ sumB l).set k z).take l.length) := by
  by_cases h : k < l.length
  · rw [List.set_append_left _ _ h]
    have e1 : (l.set k z ++ sumB l).drop l.length = sumB l := List.drop_left' (by simp)
    have e2 : (l.set k z ++ sumB l).take l.length = l.set k z := List.take_left' (by simp)
    rw [e1, e2]
    intro e
    have hp := sumB_inj e
    rw [sumP_fst, sumP_fst, sum_set h] at hp
    have hg : (l ++ sumB l).getD k 0 = l.getD k 0 := by simp [List.getD, List.getElem?_append_left h]
    rw [hg] at hne
    have hb := hl (l.getD k 0) (by simp [List.getD, h])
    omega
  · rw [List.set_append_right _ _ (by omega), List.drop_left, List.take_left]
    intro e
    have hk4 : k - l.length < (sumB l).length := by simp at hk; omega
    have := congrArg (fun m => m.getD (k - l.length) 0) e
    simp [List.getD, hk4] at this
    apply hne
    rw [this]
    simp [List.getD, List.getElem?_append_right (show l.length ≤ k by omega)]
    rw [List.getElem?_eq_getElem hk4]
    simp

theorem encB_len30 {L : List Ev} (h : chkNo L = 0) (h30 : L.length ≤ 30) : (encB L).length ≤ 6937 := by
  have h1 := encFrom_len L 0 (by simp) (ok_mem h)
  have h2 := sevens_len7 (n := L.length) (by omega)
  simp [encB]
  omega

theorem fullB_byte (L : List Ev) : ∀ x ∈ fullB L, 0 ≤ x ∧ x ≤ 255 := fun x hx => by
  rcases List.mem_append.1 hx with h | h
  · exact encB_byte L x h
  · exact sumB_byte _ x h

end Go.Proofs.YtbjlfhpiebokkaaDoor

/- Bytes read as events: plain notions, and that reading is the other way round of writing. -/

namespace Go.Proofs.YtbjlfhpiebokkaaDoor
open Go.RowKit
set_option maxRecDepth 100000

structure Got (α : Type) where
  no : Int
  val : α
  rest : List Int
def numG : Nat → Int → Int → List Int → Got Int
  | _, _, _, [] => ⟨5, 0, []⟩
  | i, n, u, b :: t => if i = 7 then ⟨4, 0, []⟩ else if 128 ≤ b then numG (i + 1) (n + b % 128 * u) (u * 128) t else if b = 0 ∧ 0 < i then ⟨4, 0, []⟩ else ⟨0, n + b % 128 * u, t⟩
def numD (l : List Int) : Got Int := numG 0 0 1 l
def anyK (n : Int) : Int := if n % 2 = 1 then -((n + 1) / 2) else n / 2
def runsD : Nat → List Int → Int → List Int → Got (List Int)
  | 0, got, _, l => ⟨0, got, l⟩
  | f + 1, got, last, l =>
    if got.length < 16 then
      if (numD l).no ≠ 0 then ⟨(numD l).no, [], []⟩ else
      if (numD (numD l).rest).no ≠ 0 then ⟨(numD (numD l).rest).no, [], []⟩ else
      if (numD l).val < 1 ∨ 16 - (got.length : Int) < (numD l).val ∨ ((numD (numD l).rest).val = 0 ∧ 0 < got.length) then ⟨4, [], []⟩ else
      runsD f (got ++ List.replicate (numD l).val.toNat (last + anyK (numD (numD l).rest).val)) (last + anyK (numD (numD l).rest).val) (numD (numD l).rest).rest
    else ⟨0, got, l⟩
def eventD (last : Int) (l : List Int) : Got Ev :=
  if (numD l).no ≠ 0 then ⟨(numD l).no, noEv, []⟩ else
  if (numD l).val % 4 = 1 then ⟨0, ⟨last + (numD l).val / 4, 1, []⟩, (numD l).rest⟩ else
  if (numD l).val % 4 = 2 then
    if (runsD 16 [] 0 (numD l).rest).no ≠ 0 then ⟨(runsD 16 [] 0 (numD l).rest).no, noEv, []⟩ else ⟨0, ⟨last + (numD l).val / 4, 2, (runsD 16 [] 0 (numD l).rest).val⟩, (runsD 16 [] 0 (numD l).rest).rest⟩ else
  if (numD l).val % 4 = 3 then
    if (numD (numD l).rest).no ≠ 0 then ⟨(numD (numD l).rest).no, noEv, []⟩ else ⟨0, ⟨last + (numD l).val / 4, 3, [anyK (numD (numD l).rest).val]⟩, (numD (numD l).rest).rest⟩ else
  ⟨3, noEv, []⟩
def eventsD : Nat → Int → List Ev → List Int → Got (List Ev)
  | 0, _, got, l => ⟨0, got, l⟩
  | n + 1, last, got, l => if (eventD last l).no ≠ 0 then ⟨(eventD last l).no, [], []⟩ else eventsD n (eventD last l).val.at_ (got ++ [(eventD last l).val]) (eventD last l).rest
def allD (l : List Int) : Got (List Ev) :=
  if (numD l).no ≠ 0 then ⟨(numD l).no, [], []⟩ else
  if 1000 < (numD l).val then ⟨1, [], []⟩ else
  if (eventsD (numD l).val.toNat 0 [] (numD l).rest).no ≠ 0 then ⟨(eventsD (numD l).val.toNat 0 [] (numD l).rest).no, [], []⟩ else
  if 0 < (eventsD (numD l).val.toNat 0 [] (numD l).rest).rest.length then ⟨4, [], []⟩ else eventsD (numD l).val.toNat 0 [] (numD l).rest
def decD (l : List Int) : Int × List Ev :=
  if 60000 < l.length then (1, []) else
  if l.length ≤ 4 then (5, []) else
  if l.drop (l.length - 4) ≠ sumB (l.take (l.length - 4)) then (10, []) else
  if (allD (l.take (l.length - 4))).no ≠ 0 then ((allD (l.take (l.length - 4))).no, []) else
  if chkNo (allD (l.take (l.length - 4))).val ≠ 0 then (chkNo (allD (l.take (l.length - 4))).val, []) else (0, (allD (l.take (l.length - 4))).val)

theorem numG_sevens : ∀ (k i n : Nat) (m u : Int) (t : List Int), i + k = 7 → n < 128 ^ k → (n = 0 → i = 0) → numG i m u (sevens n ++ t) = ⟨0, m + n * u, t⟩
  | 0, i, n, m, u, t, hk, hn, h0 => by
    simp at hn
    have := h0 hn
    omega
  | k + 1, i, n, m, u, t, hk, hn, h0 => by
    have h7 : ¬ i = 7 := by omega
    by_cases h1 : n < 128
    · rw [sevens_small h1, List.singleton_append, numG, if_neg h7, if_neg (by omega), if_neg (by omega)]
      rw [show (n : Int) % 128 = n by omega]
    · rw [sevens_more h1, List.cons_append, numG, if_neg h7, if_pos (by omega)]
      have hd : n / 128 < 128 ^ k := Nat.div_lt_of_lt_mul (by rw [Nat.pow_succ] at hn; omega)
      rw [numG_sevens k (i + 1) (n / 128) _ _ t (by omega) hd (by omega)]
      have e : (((128 + n % 128 : Nat) : Int) % 128) * u + ((n / 128 : Nat) : Int) * (u * 128) = (n : Int) * u := by
        rw [Int.mul_comm u 128, ← Int.mul_assoc, ← Int.add_mul]
        congr 1
        omega
      rw [Int.add_assoc, e]
theorem numD_sevens {n : Nat} (t : List Int) (hn : n < 562949953421312) : numD (sevens n ++ t) = ⟨0, n, t⟩ := by
  rw [numD, numG_sevens 7 0 n 0 1 t rfl (by simpa using hn) (fun _ => rfl)]
  simp
theorem numG_back : ∀ (l : List Int) (i : Nat) (m u : Int), (∀ x ∈ l, 0 ≤ x ∧ x ≤ 255) → i ≤ 7 → (numG i m u l).no = 0 → ∃ n : Nat, l = sevens n ++ (numG i m u l).rest ∧ (numG i m u l).val = m + n * u ∧ n < 128 ^ (7 - i) ∧ (n = 0 → i = 0)
  | [], i, m, u, hb, hi, h => by simp [numG] at h
  | b :: l, i, m, u, hb, hi, h => by
    have hb0 := hb b (by simp)
    rw [numG] at h ⊢
    split at h
    · simp at h
    · rename_i h7
      rw [if_neg h7]
      split at h
      · rename_i h1
        rw [if_pos h1]
        obtain ⟨n, e1, e2, e3, e4⟩ := numG_back l (i + 1) (m + b % 128 * u) (u * 128) (fun x hx => hb x (List.mem_cons_of_mem _ hx)) (by omega) h
        have hn : n ≠ 0 := fun e => by have := e4 e; omega
        refine ⟨b.toNat % 128 + 128 * n, ?_, ?_, ?_, by omega⟩
        · rw [sevens_more (by omega), List.cons_append]
          rw [show (b.toNat % 128 + 128 * n) / 128 = n by omega, ← e1]
          congr 1
          omega
        · rw [e2]
          have e : b % 128 * u + (n : Int) * (u * 128) = ((b.toNat % 128 + 128 * n : Nat) : Int) * u := by
            rw [Int.mul_comm u 128, ← Int.mul_assoc, ← Int.add_mul]
            congr 1
            omega
          rw [Int.add_assoc, e]
        · rw [show 7 - i = (7 - (i + 1)) + 1 by omega, Nat.pow_succ]
          omega
      · rename_i h1
        rw [if_neg h1]
        split at h
        · simp at h
        · rename_i h2
          rw [if_neg h2]
          refine ⟨b.toNat, ?_, ?_, ?_, fun e => ?_⟩
          · rw [sevens_small (by omega), List.singleton_append]
            congr 1
            omega
          · show m + b % 128 * u = _
            rw [show b % 128 = (b.toNat : Int) by omega]
          · rw [show 7 - i = (6 - i) + 1 by omega, Nat.pow_succ]
            have : 0 < 128 ^ (6 - i) := Nat.pow_pos (by omega)
            omega
          · by_cases hi0 : i = 0
            · exact hi0
            · exact absurd ⟨by omega, by omega⟩ h2
theorem numD_back {l : List Int} (hb : ∀ x ∈ l, 0 ≤ x ∧ x ≤ 255) (h : (numD l).no = 0) : ∃ n : Nat, l = sevens n ++ (numD l).rest ∧ (numD l).val = n ∧ n < 562949953421312 := by
  obtain ⟨n, h1, h2, h3, _⟩ := numG_back l 0 0 1 hb (by omega) h
  exact ⟨n, h1, by rw [numD, h2]; omega, by simpa using h3⟩
theorem rest_byte {l a r : List Int} (hb : ∀ x ∈ l, 0 ≤ x ∧ x ≤ 255) (h : l = a ++ r) : ∀ x ∈ r, 0 ≤ x ∧ x ≤ 255 := fun x hx => hb x (by rw [h]; exact List.mem_append_right _ hx)

theorem zigs_of {z : Int} : ∃ n : Nat, zigs z = sevens n ∧ anyK n = z ∧ (-281474976710656 < z → z < 281474976710656 → n < 562949953421312) ∧ (n = 0 → z = 0) := by
  unfold zigs
  split
  · exact ⟨_, rfl, by unfold anyK; split <;> omega, by omega, by omega⟩
  · exact ⟨_, rfl, by unfold anyK; split <;> omega, by omega, by omega⟩
theorem zigs_anyK (n : Nat) : zigs (anyK n) = sevens n := by
  unfold zigs anyK
  split <;> split <;> congr 1 <;> omega
theorem anyK_zero {n : Nat} : anyK n = 0 ↔ n = 0 := by
  unfold anyK
  split <;> omega

theorem runsB_rep (x : Int) (e : List Int) (he : e.head? ≠ some x) : ∀ (a : Nat) (last : Int) (run : Nat), runsB last run (List.replicate (a + 1) x ++ e) = sevens (run + a + 1) ++ zigs (x - last) ++ runsB x 0 e
  | 0, last, run => by
    cases e with
    | nil => simp [runsB]
    | cons y t =>
      have : ¬ y = x := fun h => he (by simp [h])
      simp [runsB, this]
  | a + 1, last, run => by
    rw [List.replicate_succ, List.replicate_succ, List.cons_append, List.cons_append]
    rw [show runsB last run (x :: x :: (List.replicate a x ++ e)) = runsB last (run + 1) (x :: (List.replicate a x ++ e)) by simp [runsB]]
    rw [← List.cons_append, ← List.replicate_succ, runsB_rep x e he a last (run + 1)]
    rw [show run + 1 + a + 1 = run + (a + 1) + 1 by omega]
theorem split_rep (x : Int) : ∀ t : List Int, ∃ a e, x :: t = List.replicate (a + 1) x ++ e ∧ e.head? ≠ some x
  | [] => ⟨0, [], by simp, by simp⟩
  | y :: t => by
    by_cases h : y = x
    · subst h
      obtain ⟨a, e, h1, h2⟩ := split_rep y t
      exact ⟨a + 1, e, by rw [List.replicate_succ, List.cons_append, ← h1], h2⟩
    · exact ⟨0, y :: t, by simp, by simp [h]⟩
theorem runsD_runsB : ∀ (f : Nat) (got : List Int) (last : Int) (d t : List Int), got.length + d.length = 16 → d.length ≤ f → (-1099511627776 ≤ last ∧ last ≤ 1099511627776) → (∀ x ∈ d, -1099511627776 ≤ x ∧ x ≤ 1099511627776) → (0 < got.length → d.head? ≠ some last) → runsD f got last (runsB last 0 d ++ t) = ⟨0, got ++ d, t⟩
  | 0, got, last, d, t, h1, h2, _, _, _ => by
    obtain rfl : d = [] := List.length_eq_zero_iff.1 (by omega)
    simp [runsD, runsB]
  | f + 1, got, last, [], t, h1, h2, _, _, _ => by
    simp at h1
    simp [runsD, runsB, h1]
  | f + 1, got, last, x :: d, t, h1, h2, hl, hw, hh => by
    obtain ⟨a, e, h3, h4⟩ := split_rep x d
    rw [h3] at h1 h2 hw
    have hx := hw x (by simp)
    rw [h3, runsB_rep x e h4]
    simp at h1 h2
    obtain ⟨n, z1, z2, z3, z4⟩ := zigs_of (z := x - last)
    have z3' := z3 (by omega) (by omega)
    have n1 : numD (sevens (0 + a + 1) ++ zigs (x - last) ++ runsB x 0 e ++ t) = ⟨0, ((0 + a + 1 : Nat) : Int), zigs (x - last) ++ runsB x 0 e ++ t⟩ := by
      rw [List.append_assoc, List.append_assoc, numD_sevens _ (by omega), List.append_assoc]
    have n2 : numD (zigs (x - last) ++ runsB x 0 e ++ t) = ⟨0, (n : Int), runsB x 0 e ++ t⟩ := by
      rw [z1, List.append_assoc, numD_sevens _ z3']
    rw [runsD, if_pos (by omega), n1]
    simp only [n2]
    rw [if_neg (by simp), if_neg (by simp), if_neg, z2]
    · rw [show last + (x - last) = x by omega, show ((0 + a + 1 : Nat) : Int).toNat = a + 1 by omega]
      rw [runsD_runsB f _ x e t (by simp; omega) (by omega) hx (fun y hy => hw y (by simp [hy])) (fun _ => h4), List.append_assoc]
    · rintro (h | h | h)
      · omega
      · omega
      · have := z4 (by omega)
        exact hh h.2 (by simp; omega)
theorem runsD_back : ∀ (f : Nat) (got : List Int) (last : Int) (l : List Int), (∀ x ∈ l, 0 ≤ x ∧ x ≤ 255) → got.length ≤ 16 → 16 - got.length ≤ f → (runsD f got last l).no = 0 → ∃ e, (runsD f got last l).val = got ++ e ∧ got.length + e.length = 16 ∧ l = runsB last 0 e ++ (runsD f got last l).rest ∧ (0 < got.length → e.head? ≠ some last)
  | 0, got, last, l, hb, h1, h2, h => ⟨[], by simp [runsD], by simp; omega, by simp [runsD, runsB], by simp⟩
  | f + 1, got, last, l, hb, h1, h2, h => by
    rw [runsD] at h ⊢
    split at h
    · rename_i hlt
      rw [if_pos hlt]
      split at h
      · rename_i h3
        exact absurd h h3
      · rename_i h3
        rw [if_neg h3]
        simp only [ne_eq, Decidable.not_not] at h3
        obtain ⟨n, a1, a2, a3⟩ := numD_back hb h3
        split at h
        · rename_i h4
          exact absurd h h4
        · rename_i h4
          rw [if_neg h4]
          simp only [ne_eq, Decidable.not_not] at h4
          obtain ⟨m, b1, b2, b3⟩ := numD_back (rest_byte hb a1) h4
          split at h
          · simp at h
          · rename_i h5
            rw [if_neg h5]
            rw [a2, b2] at h5 h ⊢
            have hn1 : 1 ≤ n ∧ n ≤ 16 - got.length ∧ (m = 0 → ¬ 0 < got.length) := ⟨by omega, by omega, fun hm h0 => h5 (Or.inr (Or.inr ⟨by omega, h0⟩))⟩
            clear h5
            obtain ⟨e, c1, c2, c3, c4⟩ := runsD_back f (got ++ List.replicate (n : Int).toNat (last + anyK m)) (last + anyK m) _ (rest_byte (rest_byte hb a1) b1) (by simp; omega) (by simp; omega) h
            simp at c2 c4
            obtain ⟨k, rfl⟩ : ∃ k, n = k + 1 := ⟨n - 1, by omega⟩
            refine ⟨List.replicate (k + 1) (last + anyK m) ++ e, ?_, ?_, ?_, fun h0 => ?_⟩
            · rw [c1, List.append_assoc]
              simp
            · simp
              omega
            · rw [runsB_rep _ e (c4 (by omega)), show last + anyK m - last = anyK m by omega, zigs_anyK, show 0 + k + 1 = k + 1 by omega]
              rw [List.append_assoc, List.append_assoc, ← c3, ← b1, ← a1]
            · rw [List.replicate_succ]
              simp
              intro e0
              exact hn1.2.2 (anyK_zero.1 (by omega)) h0
    · rename_i hlt
      rw [if_neg hlt]
      exact ⟨[], by simp, by simp; omega, by simp [runsB], by simp⟩

end Go.Proofs.YtbjlfhpiebokkaaDoor

/- The reader of bytes: what it is in memory; contracts of anyKind and reader.number. -/

namespace Go.Proofs.YtbjlfhpiebokkaaDoor
open Go.RowKit
set_option maxRecDepth 100000

structure Bys (w : World) (lo : Nat) (v : Value) (l : List Int) : Prop where
  at_ : ∃ (A : Option Addr) (c : Nat), v = .slice A l.length c ∧ l.length ≤ c ∧ (0 < l.length → ∃ g off, A = some ⟨g, off, none⟩ ∧ g < lo ∧ g < w.heap.size ∧ ∀ j, j < l.length → w.cell? ⟨g, off + j, none⟩ = some (.int .u8 (l.getD j 0)))
  few : l.length ≤ 60000
  byte : ∀ x ∈ l, 0 ≤ x ∧ x ≤ 255
theorem Bys.below {w w' : World} {lo : Nat} {v : Value} {l : List Int} (h : Bys w lo v l) (hb : Below lo w w') : Bys w' lo v l := by
  obtain ⟨⟨A, c, rfl, hc, hA⟩, hf, hy⟩ := h
  refine ⟨⟨A, c, rfl, hc, fun h0 => ?_⟩, hf, hy⟩
  obtain ⟨g, off, rfl, hg, hgs, hj⟩ := hA h0
  exact ⟨g, off, rfl, hg, Nat.lt_of_lt_of_le hgs hb.size, fun j hjl => (hb.cell (p := ⟨g, off + j, none⟩) hg).trans (hj j hjl)⟩
structure RdAt (w : World) (lo b : Nat) (v : Value) (l : List Int) : Prop where
  box : w.heap[b]? = some (.cells #[v] 114 (0, 0))
  own : lo ≤ b
  bys : Bys w lo v l
structure Sans (b lo : Nat) (w w' : World) : Prop where
  old : Below lo w w'
  size : w.heap.size ≤ w'.heap.size
  block : ∀ g, g < w.heap.size → g ≠ b → w'.heap[g]? = w.heap[g]?
theorem Sans.refl (b lo : Nat) (w : World) : Sans b lo w w := ⟨Below.refl _ _, Nat.le_refl _, fun _ _ _ => rfl⟩
theorem Sans.trans {b lo : Nat} {w w1 w2 : World} (h : Sans b lo w w1) (k : Sans b lo w1 w2) : Sans b lo w w2 :=
  ⟨h.old.trans k.old, Nat.le_trans h.size k.size, fun g hg hn => by rw [k.block g (Nat.lt_of_lt_of_le hg h.size) hn, h.block g hg hn]⟩
theorem Sans.of_below {b lo : Nat} {w w' : World} (h : Below w.heap.size w w') (hlo : lo ≤ w.heap.size) : Sans b lo w w' := ⟨h.mono hlo, h.size, fun g hg _ => h.block g hg⟩
theorem Sans.set {b lo : Nat} (w : World) (h : lo ≤ b) (u : Value) : Sans b lo w (w.setCell ⟨b, 0, none⟩ u) :=
  ⟨(Below.refl _ w).setCell (p := ⟨b, 0, none⟩) h u, by simp [World.setCell], fun g hg hn => Below.heap_setCell _ _ _ _ hn⟩
theorem Sans.owns {b lo : Nat} {w w' : World} (h : Sans b lo w w') {base : Nat} {e : TypeId} {size : Nat} {v : Value} {n : Nat} {xs : List Value} (k : w.ownsRow base e size v n xs) (hn : v.ownBlock ≠ some b) : w'.ownsRow base e size v n xs := by
  obtain ⟨h1, h2⟩ := k
  refine ⟨h1, ?_⟩
  rcases h2 with h2 | ⟨g, cap, cur, rfl, hg, hh, r⟩
  · exact Or.inl h2
  · exact Or.inr ⟨g, cap, cur, rfl, hg, by rw [h.block g (lt_of_block hh) (fun e => hn (by simp [Value.ownBlock, e]))]; exact hh, r⟩
theorem Sans.ints {b lo : Nat} {w w' : World} (h : Sans b lo w w') {base : Nat} {v : Value} {l : List Int} (k : OwnI w base v l) {cur : Array Value} (hb : w.heap[b]? = some (.cells cur 114 (0, 0))) : OwnI w' base v l :=
  h.owns k (own_ne k hb (by decide))
theorem RdAt.lt {w : World} {lo b : Nat} {v : Value} {l : List Int} (h : RdAt w lo b v l) : b < w.heap.size := lt_of_block h.box
theorem RdAt.cell {w : World} {lo b : Nat} {v : Value} {l : List Int} (h : RdAt w lo b v l) : w.cell? ⟨b, 0, none⟩ = some v ∧ w.frozen? ⟨b, 0, none⟩ = false := by
  have := h.box
  simp [World.cell?, World.frozen?, this]
theorem RdAt.below {w w' : World} {lo b : Nat} {v : Value} {l : List Int} (h : RdAt w lo b v l) (hb : Below w.heap.size w w') : RdAt w' lo b v l :=
  ⟨by rw [hb.block b h.lt]; exact h.box, h.own, h.bys.below (hb.mono (by have := h.own; have := h.lt; omega))⟩
theorem box1_set {w : World} {b i : Nat} {cur : Array Value} {t : TypeId} (h : w.heap[b]? = some (.cells cur t (0, 0))) (x : Value) : (w.setCell ⟨b, i, none⟩ x).heap[b]? = some (.cells (cur.setIfInBounds i x) t (0, 0)) := by
  simp [World.setCell, Array.getElem?_modify, h]
theorem RdAt.rest {w : World} {lo b : Nat} {A A' : Option Addr} {c c' n n' : Nat} {l : List Int} (h : RdAt w lo b (.slice A n c) l) (k : Nat) (hk : k ≤ l.length) (hn : n' = n - k) (hc : c' = c - k) (hA : k < l.length → ∀ g off, A = some ⟨g, off, none⟩ → A' = some ⟨g, off + k, none⟩) :
    RdAt (w.setCell ⟨b, 0, none⟩ (.slice A' n' c')) lo b (.slice A' n' c') (l.drop k) := by
  obtain ⟨hbox, hown, ⟨⟨A0, c0, e, hcc, hA0⟩, hf, hy⟩⟩ := h
  simp only [Value.slice.injEq] at e
  obtain ⟨rfl, rfl, rfl⟩ := e
  subst hn hc
  have hB : Below lo w (w.setCell ⟨b, 0, none⟩ (.slice A' (l.length - k) (c - k))) := (Below.refl _ w).setCell (p := ⟨b, 0, none⟩) hown _
  refine ⟨?_, hown, ⟨⟨A', c - k, by simp, by simp; omega, fun h0 => ?_⟩, by simp; omega, fun x hx => hy x (List.mem_of_mem_drop hx)⟩⟩
  · rw [box1_set hbox]
    rfl
  · simp at h0
    obtain ⟨g, off, rfl, hg, hgs, hj⟩ := hA0 (by omega)
    refine ⟨g, off + k, hA (by omega) g off rfl, hg, Nat.lt_of_lt_of_le hgs hB.size, fun j hjl => ?_⟩
    simp at hjl
    rw [Nat.add_assoc, hB.cell (p := ⟨g, off + (k + j), none⟩) hg, hj (k + j) (by omega)]
    simp [List.getD]

theorem anyKind_any (n : Int) (w : World) (h0 : 0 ≤ n) (h1 : n ≤ 4611686018427387904) :
    Calls Tryd.prog 123 #[.int .i64 n] w fun e w' => e = .returned (.int .i64 (anyK n)) ∧ w' = w := by
  by_cases h : n % 2 = 1
  · have HP : Hid (anyK n = -((n + 1) / 2)) := by show _ = _; simp [anyK, h]
    have hr : Int.tmod n 2 = 1 := by rw [Int.tmod_eq_emod_of_nonneg h0]; exact h
    have hw : IntKind.i64.wrap (n + 1) = n + 1 := IntWalk.i64_in _ (by omega)
    have hw2 : IntKind.i64.wrap (-(n + 1)) = -(n + 1) := IntWalk.i64_in _ (by omega)
    have hq : Int.tdiv (-(n + 1)) 2 = -((n + 1) / 2) := by rw [Int.neg_tdiv, Int.tdiv_eq_ediv_of_nonneg (by omega)]
    have hw3 : IntKind.i64.wrap (-((n + 1) / 2)) = -((n + 1) / 2) := IntWalk.i64_in _ (by omega)
    go_enter Tryd.func123, Tryd.ntmps123
    go_wp2
    go_ret
    rw [HP.out]
    exact ⟨rfl, rfl⟩
  · have HP : Hid (anyK n = n / 2) := by show _ = _; simp [anyK, h]
    have hr : Int.tmod n 2 = 0 := by rw [Int.tmod_eq_emod_of_nonneg h0]; omega
    have hq : Int.tdiv n 2 = n / 2 := Int.tdiv_eq_ediv_of_nonneg h0
    go_enter Tryd.func123, Tryd.ntmps123
    go_wp2
    go_ret
    rw [HP.out]
    exact ⟨rfl, rfl⟩

structure NumQ (w w' : World) (lo b : Nat) (v : Value) (l : List Int) : Prop where
  sans : Sans b lo w w'
  rd : (numD l).no = 0 → ∃ v', RdAt w' lo b v' (numD l).rest
  val : 0 ≤ (numD l).val ∧ (numD l).val < 562949953421312

theorem numG_end {i : Nat} {n u : Int} {l : List Int} {k : Nat} (hk : ¬ k < l.length) : numG i n u (l.drop k) = ⟨5, 0, []⟩ := by
  rw [List.drop_eq_nil_of_le (by omega), numG]
theorem drop_step {l : List Int} {k : Nat} (hk : k < l.length) : l.drop k = l.getD k 0 :: l.drop (k + 1) := by
  rw [List.drop_eq_getElem_cons hk]
  simp [List.getD, hk]

def pw (k : Nat) : Int := 128 ^ k
theorem pw_succ (k : Nat) : pw (k + 1) = pw k * 128 := Int.pow_succ _ _
theorem pw_next {k : Nat} (h : k < 7) : pw k * 128 ≤ 562949953421312 := by
  match k, h with
  | 0, _ => decide
  | 1, _ => decide
  | 2, _ => decide
  | 3, _ => decide
  | 4, _ => decide
  | 5, _ => decide
  | 6, _ => decide

set_option maxRecDepth 20000 in
set_option maxHeartbeats 2000000 in
theorem number_any (b lo : Nat) (v : Value) (l : List Int) (w : World) (h : RdAt w lo b v l) :
    Calls Tryd.prog 108 #[.pointer (some ⟨b, 0, none⟩)] w fun e w' => e = .returned (.tuple #[.int .i64 (numD l).val, .int .i64 (numD l).no]) ∧ NumQ w w' lo b v l := by
  have HR : Hid (RdAt w lo b v l) := h
  obtain ⟨⟨A, c, rfl, hcap, hA⟩, hfew, hby⟩ := h.bys
  obtain ⟨hc0, hf0⟩ := h.cell
  have hlt := h.lt
  clear h
  go_enter Tryd.func108, Tryd.ntmps108
  go_wp2_with fail
  go_loopw [4, 5, 13] (fun n u i wr => ∃ (k : Nat) (a q : Int), k ≤ l.length ∧ k ≤ 7 ∧ i = .int .i64 k ∧ n = .int .i64 a ∧ u = .int .i64 q ∧ Hid (numG k a q (l.drop k) = numD l) ∧ (0 ≤ a ∧ a < q ∧ q ≤ 562949953421312) ∧ Hid (q = pw k) ∧ wr = w) (fun _ _ i _ => l.length - (intOf i).toNat)
  case atStart => exact ⟨0, 0, 1, by omega, by omega, rfl, rfl, rfl, (by show _ = _; rw [List.drop_zero, numD]), by omega, (by show _ = _; rfl), rfl⟩
  case round =>
    obtain ⟨k, a, q, hk, hk7, rfl, rfl, rfl, HN, ⟨ha0, haq, hq⟩, HQ, hw⟩ := hrel
    subst wr
    by_cases hkl : k < l.length
    · have hki : (k : Int) < (l.length : Int) := by omega
      obtain ⟨g, off, rfl, hg, hgs, hj⟩ := hA (by omega)
      have hx := hj k hkl
      obtain ⟨x, hxe⟩ : ∃ x, x = l.getD k 0 := ⟨_, rfl⟩
      rw [← hxe] at hx
      have hxb : 0 ≤ x ∧ x ≤ 255 := by rw [hxe]; exact hby _ (by simp [List.getD, hkl])
      have HST : Hid (numD l = numG k a q (x :: l.drop (k + 1))) := by show _ = _; rw [← HN.out, drop_step hkl, ← hxe]
      clear hA hj HN hxe hby
      by_cases h7 : k = 7
      · subst h7
        have HD : Hid (numD l = ⟨4, 0, []⟩) := by show _ = _; rw [HST.out, numG, if_pos rfl]
        clear HST HQ
        go_wp2_with fail
        go_ret2
        rw [HD.out]
        exact ⟨rfl, Sans.refl _ _ _, fun e => by rw [HD.out] at e; simp at e, by rw [HD.out]; simp⟩
      · have hk7' : ¬ (k : Int) = 7 := by omega
        have hpb : 0 ≤ x % 128 ∧ x % 128 ≤ 127 := by omega
        have hpq : 0 ≤ x % 128 * q ∧ x % 128 * q ≤ 127 * q := ⟨Int.mul_nonneg hpb.1 (by omega), Int.mul_le_mul_of_nonneg_right hpb.2 (by omega)⟩
        have hqn : q * 128 ≤ 562949953421312 := by rw [HQ.out]; exact pw_next (by omega)
        have hw1 : IntKind.i64.wrap (x % 128 * q) = x % 128 * q := IntWalk.i64_in _ (by omega)
        have hw2 : IntKind.i64.wrap (a + x % 128 * q) = a + x % 128 * q := IntWalk.i64_in _ (by omega)
        have hw3 : IntKind.i64.wrap (q * 128) = q * 128 := IntWalk.i64_in _ (by omega)
        have HNX : Hid (0 ≤ a + x % 128 * q ∧ a + x % 128 * q < q * 128 ∧ q * 128 ≤ 562949953421312) := ⟨by omega, by omega, hqn⟩
        have HPW : Hid (q * 128 = pw (k + 1)) := by show _ = _; rw [HQ.out, pw_succ]
        clear HQ hqn hpq hpb
        by_cases h1 : 128 ≤ x
        · have HD : Hid (numG (k + 1) (a + x % 128 * q) (q * 128) (l.drop (k + 1)) = numD l) := by show _ = _; rw [HST.out, numG, if_neg h7, if_pos h1]
          clear HST
          go_wp2_with fail
          refine ⟨⟨k + 1, _, _, by omega, by omega, by go_num, rfl, rfl, HD, HNX.out, HPW, trivial⟩, ?_⟩
          simp [intOf]; omega
        · by_cases h2 : x = 0 ∧ 0 < k
          · obtain ⟨rfl, h0⟩ := h2
            have h0i : (0 : Int) < (k : Int) := by omega
            have HD : Hid (numD l = ⟨4, 0, []⟩) := by show _ = _; rw [HST.out, numG, if_neg h7, if_neg h1, if_pos ⟨rfl, h0⟩]
            clear HST
            go_wp2_with fail
            go_ret2
            rw [HD.out]
            exact ⟨rfl, Sans.refl _ _ _, fun e => by rw [HD.out] at e; simp at e, by rw [HD.out]; simp⟩
          · have HD : Hid (numD l = ⟨0, a + x % 128 * q, l.drop (k + 1)⟩) := by show _ = _; rw [HST.out, numG, if_neg h7, if_neg h1, if_neg h2]
            have HV : Hid (0 ≤ (numD l).val ∧ (numD l).val < 562949953421312) := by show _ ∧ _; rw [HD.out]; exact ⟨HNX.out.1, by have := HNX.out; show a + x % 128 * q < _; omega⟩
            have hwk : IntKind.i64.wrap ((k : Int) + 1) = (k : Int) + 1 := IntWalk.i64_in _ (by omega)
            have hk1 : (k : Int) + 1 ≤ (c : Int) := by omega
            have hk2 : (k : Int) + 1 ≤ (l.length : Int) := by omega
            have hk3 : ((k : Int) + 1).toNat = k + 1 := by omega
            have HA : Hid (∀ A' n' c', n' = l.length - (k + 1) → c' = c - (k + 1) → (k + 1 < l.length → A' = some ⟨g, off + (k + 1), none⟩) → RdAt (w.setCell ⟨b, 0, none⟩ (.slice A' n' c')) lo b (.slice A' n' c') (l.drop (k + 1)) ∧ Sans b lo w (w.setCell ⟨b, 0, none⟩ (.slice A' n' c'))) := fun A' n' c' e1 e2 e3 => ⟨HR.out.rest (k + 1) (by omega) e1 e2 (fun hh g' off' e => by simp only [Option.some.injEq, Addr.mk.injEq] at e; obtain ⟨rfl, rfl, -⟩ := e; exact e3 hh), Sans.set w HR.out.own _⟩
            have hcell : c = k + 1 → ¬ k + 1 < l.length := fun e => by omega
            clear HST HNX HPW HR
            by_cases hx0 : x = 0
            · subst hx0
              have hk0 : ¬ (0 : Int) < (k : Int) := by omega
              have HD0 : Hid (numD l = ⟨0, a, l.drop (k + 1)⟩) := by show _ = _; rw [HD.out]; simp
              clear HD
              by_cases hcc : c = k + 1
              · go_wp2_with fail
                go_ret2
                rw [HD0.out]
                obtain ⟨r1, r2⟩ := HA.out (some ⟨g, off, none⟩) _ 0 rfl (by omega) (fun hh => absurd hh (hcell hcc))
                exact ⟨rfl, r2, fun _ => ⟨_, by rw [HD0.out]; exact r1⟩, HV.out⟩
              · go_wp2_with fail
                go_ret2
                rw [HD0.out]
                obtain ⟨r1, r2⟩ := HA.out _ _ _ rfl rfl (fun _ => rfl)
                exact ⟨rfl, r2, fun _ => ⟨_, by rw [HD0.out]; exact r1⟩, HV.out⟩
            · by_cases hcc : c = k + 1
              · go_wp2_with fail
                go_ret2
                rw [HD.out]
                obtain ⟨r1, r2⟩ := HA.out (some ⟨g, off, none⟩) _ 0 rfl (by omega) (fun hh => absurd hh (hcell hcc))
                exact ⟨rfl, r2, fun _ => ⟨_, by rw [HD.out]; exact r1⟩, HV.out⟩
              · go_wp2_with fail
                go_ret2
                rw [HD.out]
                obtain ⟨r1, r2⟩ := HA.out _ _ _ rfl rfl (fun _ => rfl)
                exact ⟨rfl, r2, fun _ => ⟨_, by rw [HD.out]; exact r1⟩, HV.out⟩
    · have hki : ¬ (k : Int) < (l.length : Int) := by omega
      have HD : Hid (numD l = ⟨5, 0, []⟩) := by show _ = _; rw [← HN.out, numG_end hkl]
      clear hA HN HQ
      go_wp2_with fail
      go_ret2
      rw [HD.out]
      exact ⟨rfl, Sans.refl _ _ _, fun e => by rw [HD.out] at e; simp at e, by rw [HD.out]; simp⟩

end Go.Proofs.YtbjlfhpiebokkaaDoor
