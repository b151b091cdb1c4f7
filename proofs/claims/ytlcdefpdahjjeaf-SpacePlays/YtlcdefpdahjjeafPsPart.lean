/- P4: two spaces over frames, in plain words: what is written, by whom, and how many frames are known. -/
import Derived.Test.YtlcdefpdahjjeafWalkK
import Derived.Test.YtlcdefpdahjjeafWalkN
import Derived.Test.YtlcdefpdahjjeafOwnF
namespace Go.Proofs.Ytlcdefpdahjjeaf
open Go.RowKit

/-- Two spaces as the document tells them: their words, of each page whether both have one frame, who has a frame, and how many are known. -/
structure PS where
  a : List Int
  b : List Int
  sh : List Bool
  o0 : List Bool
  o1 : List Bool
  kn : Int
def PS.swap (S : PS) : PS := ⟨S.b, S.a, S.sh, S.o1, S.o0, S.kn⟩
theorem PS.swap_swap (S : PS) : S.swap.swap = S := rfl
/-- Does the first one need a frame to write page p? -/
def PS.need (S : PS) (p : Nat) : Bool := S.sh.getD p false || !S.o0.getD p false
/-- The first one writes. -/
def PS.put (S : PS) (k : Nat) (v : Int) : PS :=
  if S.sh.getD (k / 16) false = true then ⟨S.a.set k v, S.b, S.sh.set (k / 16) false, S.o0.set (k / 16) true, S.o1.set (k / 16) true, S.kn + 1⟩
  else if S.o0.getD (k / 16) false = true then ⟨S.a.set k v, S.b, S.sh, S.o0, S.o1, S.kn⟩
  else ⟨S.a.set k v, S.b, S.sh, S.o0.set (k / 16) true, S.o1, S.kn + 1⟩
/-- How many are known. -/
def cnt (R : List Int) : Nat := (R.filter (fun r => decide (r ≠ 0))).length

theorem cnt_set (R : List Int) (k : Nat) (x : Int) (hk : k < R.length) : cnt (R.set k x) + (if R.getD k 0 ≠ 0 then 1 else 0) = cnt R + (if x ≠ 0 then 1 else 0) := by
  induction R generalizing k with
  | nil => simp at hk
  | cons r R ih =>
    cases k with
    | zero =>
      simp only [cnt, List.set_cons_zero, List.filter_cons, List.getD_cons_zero]
      by_cases h1 : x = 0 <;> by_cases h2 : r = 0 <;> simp [h1, h2]
    | succ k =>
      have := ih k (by simpa using hk)
      simp only [cnt, List.set_cons_succ, List.filter_cons, List.getD_cons_succ] at this ⊢
      by_cases h2 : r = 0 <;> simp [h2] at this ⊢ <;> omega
theorem cnt_le (R : List Int) : cnt R ≤ R.length := List.length_filter_le _ _
theorem cnt_full {R : List Int} (h : NoneFree R) : cnt R = R.length := by
  unfold cnt
  congr 1
  rw [List.filter_eq_self]
  intro r hr
  obtain ⟨i, hi, rfl⟩ := List.mem_iff_getElem.1 hr
  have := h i hi
  simpa [List.getD, List.getElem?_eq_getElem hi] using this
theorem cnt_free {R : List Int} {k : Nat} (h : FirstAt R k) : cnt R < R.length := by
  have h1 := cnt_set R k 1 h.1
  have h2 := cnt_le (R.set k 1)
  have h3 := h.2.1
  rw [List.length_set] at h2
  rw [h3] at h1
  simp at h1
  omega
theorem cnt_zero (n : Nat) : cnt (List.replicate n 0) = 0 := by
  unfold cnt
  rw [List.filter_eq_nil_iff.2] 
  · rfl
  · intro r hr
    simp [(List.mem_replicate.1 hr).2]

/-- What the frames and the pages of two spaces have to do with it. -/
structure Rel (n : Nat) (D : List (List Int)) (R : List Int) (s t : List Int) (S : PS) : Prop where
  may : May D R
  len : R.length = n
  ls : s.length = 16
  lt : t.length = 16
  la : S.a.length = 256
  lb : S.b.length = 256
  lsh : S.sh.length = 16
  lo0 : S.o0.length = 16
  lo1 : S.o1.length = 16
  sOk : ∀ p, p < 16 → s.getD p 0 = -1 ∨ (0 ≤ s.getD p 0 ∧ s.getD p 0 < n ∧ R.getD (s.getD p 0).toNat 0 = if t.getD p 0 = s.getD p 0 then 2 else 1)
  tOk : ∀ p, p < 16 → t.getD p 0 = -1 ∨ (0 ≤ t.getD p 0 ∧ t.getD p 0 < n ∧ R.getD (t.getD p 0).toNat 0 = if s.getD p 0 = t.getD p 0 then 2 else 1)
  ss : ∀ p q, p < 16 → q < 16 → p ≠ q → s.getD p 0 ≠ -1 → s.getD p 0 ≠ s.getD q 0
  st : ∀ p q, p < 16 → q < 16 → p ≠ q → s.getD p 0 ≠ -1 → s.getD p 0 ≠ t.getD q 0
  ts : ∀ p q, p < 16 → q < 16 → p ≠ q → t.getD p 0 ≠ -1 → t.getD p 0 ≠ s.getD q 0
  tt : ∀ p q, p < 16 → q < 16 → p ≠ q → t.getD p 0 ≠ -1 → t.getD p 0 ≠ t.getD q 0
  sh : ∀ p, p < 16 → S.sh.getD p false = decide (s.getD p 0 ≠ -1 ∧ s.getD p 0 = t.getD p 0)
  o0 : ∀ p, p < 16 → (s.getD p 0 = -1 ∨ s.getD p 0 ≠ t.getD p 0) → S.o0.getD p false = decide (s.getD p 0 ≠ -1)
  o1 : ∀ p, p < 16 → (t.getD p 0 = -1 ∨ t.getD p 0 ≠ s.getD p 0) → S.o1.getD p false = decide (t.getD p 0 ≠ -1)
  wa : ∀ p i, p < 16 → i < 16 → S.a.getD (16 * p + i) 0 = if s.getD p 0 = -1 then 0 else (D.getD (s.getD p 0).toNat []).getD i 0
  wb : ∀ p i, p < 16 → i < 16 → S.b.getD (16 * p + i) 0 = if t.getD p 0 = -1 then 0 else (D.getD (t.getD p 0).toNat []).getD i 0
  kn : S.kn = cnt R

theorem Rel.swap {n : Nat} {D : List (List Int)} {R s t : List Int} {S : PS} (h : Rel n D R s t S) : Rel n D R t s S.swap :=
  ⟨h.may, h.len, h.lt, h.ls, h.lb, h.la, h.lsh, h.lo1, h.lo0, h.tOk, h.sOk, h.tt, h.ts, h.st, h.ss,
   fun p hp => by
     have := h.sh p hp
     show S.sh.getD p false = _
     rw [this]
     congr 1
     apply propext
     constructor
     · rintro ⟨h1, h2⟩; exact ⟨by omega, h2.symm⟩
     · rintro ⟨h1, h2⟩; exact ⟨by omega, h2.symm⟩,
   h.o1, h.o0, h.wb, h.wa, h.kn⟩

theorem Rel.known {n : Nat} {D : List (List Int)} {R s t : List Int} {S : PS} (h : Rel n D R s t S) {p : Nat} (hp : p < 16) (h1 : s.getD p 0 ≠ -1) : ∃ j : Nat, s.getD p 0 = (j : Int) ∧ Known R j ∧ j < n ∧ (D.getD j []).length = 16 ∧ R.getD j 0 = if t.getD p 0 = s.getD p 0 then 2 else 1 := by
  rcases h.sOk p hp with h2 | ⟨h2, h3, h4⟩
  · exact absurd h2 h1
  · obtain ⟨j, hj⟩ := Int.eq_ofNat_of_zero_le h2
    rw [hj] at h4 h3 ⊢
    simp only [Int.toNat_natCast] at h4
    have hjn : j < n := by omega
    have hne : R.getD j 0 ≠ 0 := by rw [h4]; split <;> omega
    refine ⟨j, rfl, ⟨by omega, by have := h.len; omega, by simpa using hne⟩, hjn, ?_, h4⟩
    have := (h.may.2.2 j (by have := h.len; omega)).2.2
    rw [wordsB, if_neg hne] at this
    omega

end Go.Proofs.Ytlcdefpdahjjeaf

/- P4: what a write does to frames and pages, held against the document's words. -/

namespace Go.Proofs.Ytlcdefpdahjjeaf
open Go.RowKit

theorem Rel.offk {n : Nat} {D : List (List Int)} {R s t : List Int} {S : PS} (h : Rel n D R s t S) {k q : Nat} (hk : FirstAt R k) (hq : q < 16) : s.getD q 0 ≠ (k : Int) := by
  intro e
  rcases h.sOk q hq with h1 | ⟨_, _, h1⟩
  · omega
  · rw [e] at h1
    simp only [Int.toNat_natCast] at h1
    rw [hk.2.1] at h1
    split at h1 <;> omega

theorem put_a (S : PS) (k : Nat) (v : Int) : (S.put k v).a = S.a.set k v := by unfold PS.put; split; · rfl
                                                                               split <;> rfl
theorem put_b (S : PS) (k : Nat) (v : Int) : (S.put k v).b = S.b := by unfold PS.put; split; · rfl
                                                                       split <;> rfl

theorem at_div {p i : Nat} (hi : i < 16) : (16 * p + i) / 16 = p := by omega

set_option maxHeartbeats 1000000 in
theorem Rel.fresh {n : Nat} {D : List (List Int)} {R s t : List Int} {S : PS} (h : Rel n D R s t S) {p i k : Nat} (v : Int) (hp : p < 16) (hi : i < 16) (hk : FirstAt R k) (R1 : List Int) (hlen : R1.length = n) (hRk : R1.getD k 0 = 1)
    (hRo : ∀ x : Nat, x ≠ k → (s.getD p 0 ≠ -1 → (x : Int) ≠ s.getD p 0) → R1.getD x 0 = R.getD x 0) (hRs : s.getD p 0 ≠ -1 → t.getD p 0 = s.getD p 0 ∧ R1.getD (s.getD p 0).toNat 0 = 1) (hcnt : cnt R1 = cnt R + 1)
    (old : List Int) (hold : old.length = 16) (hold2 : ∀ i, i < 16 → old.getD i 0 = if s.getD p 0 = -1 then 0 else (D.getD (s.getD p 0).toNat []).getD i 0) :
    Rel n (D.set k (old.set i v)) R1 (s.set p k) t (S.put (16 * p + i) v) := by
  have hkn : k < n := by have := hk.1; have := h.len; omega
  have hDl : D.length = n := by rw [h.may.1, h.len]
  have gs : ∀ q, (s.set p (k : Int)).getD q 0 = if q = p then (k : Int) else s.getD q 0 := fun q => getD_set _ _ _ _ _ (by rw [h.ls]; exact hp)
  have gD : ∀ q, (D.set k (old.set i v)).getD q [] = if q = k then old.set i v else D.getD q [] := fun q => getD_set _ _ _ _ _ (by rw [hDl]; exact hkn)
  have ga : ∀ q, (S.a.set (16 * p + i) v).getD q 0 = if q = 16 * p + i then v else S.a.getD q 0 := fun q => getD_set _ _ _ _ _ (by rw [h.la]; omega)
  have go : ∀ q, (old.set i v).getD q 0 = if q = i then v else old.getD q 0 := fun q => getD_set _ _ _ _ _ (by rw [hold]; exact hi)
  have gsh : ∀ q, (S.sh.set p false).getD q false = if q = p then false else S.sh.getD q false := fun q => getD_set _ _ _ _ _ (by rw [h.lsh]; exact hp)
  have go0 : ∀ q, (S.o0.set p true).getD q false = if q = p then true else S.o0.getD q false := fun q => getD_set _ _ _ _ _ (by rw [h.lo0]; exact hp)
  have go1 : ∀ q, (S.o1.set p true).getD q false = if q = p then true else S.o1.getD q false := fun q => getD_set _ _ _ _ _ (by rw [h.lo1]; exact hp)
  have hsk : ∀ q, q < 16 → s.getD q 0 ≠ (k : Int) := fun q hq => h.offk hk hq
  have htk : ∀ q, q < 16 → t.getD q 0 ≠ (k : Int) := fun q hq => h.swap.offk hk hq
  have hshp := h.sh p hp
  have hsb : S.sh.getD p false = true → s.getD p 0 ≠ -1 := fun e => by rw [e] at hshp; have := of_decide_eq_true hshp.symm; exact this.1
  have hsn : S.sh.getD p false = false → s.getD p 0 = -1 := fun e => by
    rw [e] at hshp
    have h1 := of_decide_eq_false hshp.symm
    by_cases h2 : s.getD p 0 = -1
    · exact h2
    · exact absurd ⟨h2, (hRs h2).1.symm⟩ h1
  have hno : S.sh.getD p false = false → S.o0.getD p false = false := fun e => by
    have h1 := hsn e
    rw [h.o0 p hp (Or.inl h1), decide_eq_false (fun e => e h1)]
  -- the three lists of the document, page by page
  have psh : ∀ q, (S.put (16 * p + i) v).sh.getD q false = if q = p then false else S.sh.getD q false := fun q => by
    unfold PS.put
    rw [at_div hi]
    cases hs : S.sh.getD p false with
    | true => simp only [if_true]; exact gsh q
    | false =>
      rw [hno hs]
      simp only [Bool.false_eq_true, if_false]
      by_cases e : q = p
      · rw [e, hs]; simp
      · rw [if_neg e]
  have po0 : ∀ q, (S.put (16 * p + i) v).o0.getD q false = if q = p then true else S.o0.getD q false := fun q => by
    unfold PS.put
    rw [at_div hi]
    cases hs : S.sh.getD p false with
    | true => simp only [if_true]; exact go0 q
    | false =>
      rw [hno hs]
      simp only [Bool.false_eq_true, if_false]
      exact go0 q
  have po1 : ∀ q, (S.put (16 * p + i) v).o1.getD q false = if q = p then (if s.getD p 0 = -1 then S.o1.getD p false else true) else S.o1.getD q false := fun q => by
    unfold PS.put
    rw [at_div hi]
    cases hs : S.sh.getD p false with
    | true => simp only [if_true]; rw [go1 q, if_neg (hsb hs)]
    | false =>
      rw [hno hs]
      simp only [Bool.false_eq_true, if_false]
      by_cases e : q = p
      · rw [e, if_pos rfl, if_pos (hsn hs)]
      · rw [if_neg e]
  have pl : (S.put (16 * p + i) v).sh.length = 16 ∧ (S.put (16 * p + i) v).o0.length = 16 ∧ (S.put (16 * p + i) v).o1.length = 16 := by
    unfold PS.put
    split
    · simp [h.lsh, h.lo0, h.lo1]
    · split <;> simp [h.lsh, h.lo0, h.lo1]
  have pk : (S.put (16 * p + i) v).kn = S.kn + 1 := by
    unfold PS.put
    rw [at_div hi]
    cases hs : S.sh.getD p false with
    | true => simp
    | false => rw [hno hs]; simp
  -- R1 at the frames of the other pages
  have hRq : ∀ q, q < 16 → q ≠ p → s.getD q 0 ≠ -1 → R1.getD (s.getD q 0).toNat 0 = R.getD (s.getD q 0).toNat 0 := fun q hq hqp hq1 => by
    obtain ⟨j, hj, _⟩ := h.known hq hq1
    have h1 := hsk q hq
    have h2 := h.ss q p hq hp hqp hq1
    rw [hj] at h1 h2 ⊢
    simp only [Int.toNat_natCast]
    exact hRo j (by omega) (fun _ => h2)
  have hRt : ∀ q, q < 16 → q ≠ p → t.getD q 0 ≠ -1 → R1.getD (t.getD q 0).toNat 0 = R.getD (t.getD q 0).toNat 0 := fun q hq hqp hq1 => by
    obtain ⟨j, hj, _⟩ := h.swap.known hq hq1
    have h1 := htk q hq
    have h2 := h.ts q p hq hp hqp hq1
    rw [hj] at h1 h2 ⊢
    simp only [Int.toNat_natCast]
    exact hRo j (by omega) (fun _ => h2)
  refine ⟨⟨by rw [List.length_set, hDl, hlen], by rw [hlen, ← h.len]; exact h.may.2.1, ?_⟩, hlen, by rw [List.length_set]; exact h.ls, h.lt, by rw [put_a, List.length_set]; exact h.la, by rw [put_b]; exact h.lb, pl.1, pl.2.1, pl.2.2, ?_, ?_, ?_, ?_, ?_, h.tt, ?_, ?_, ?_, ?_, ?_, ?_⟩
  · intro x hx
    unfold okAt
    rw [gD]
    by_cases e : x = k
    · rw [e, hRk, if_pos rfl, List.length_set, hold]
      exact ⟨by omega, by omega, rfl⟩
    · rw [if_neg e]
      have hok := h.may.2.2 x (by rw [h.len]; omega)
      by_cases e1 : s.getD p 0 ≠ -1 ∧ (x : Int) = s.getD p 0
      · obtain ⟨j, hj, hkj, hjn, hjl, hjR⟩ := h.known hp e1.1
        have e2 : x = j := by omega
        have e3 := (hRs e1.1).2
        rw [hj] at e3
        simp only [Int.toNat_natCast] at e3
        rw [e2, e3, hjl]
        exact ⟨by omega, by omega, rfl⟩
      · rw [hRo x e (fun h1 h2 => e1 ⟨h1, h2⟩)]
        exact hok
  · intro q hq
    rw [gs]
    by_cases e : q = p
    · subst e
      rw [if_pos rfl]
      refine Or.inr ⟨by omega, by omega, ?_⟩
      simp only [Int.toNat_natCast]
      rw [hRk, if_neg (htk q hq)]
    · rw [if_neg e]
      rcases h.sOk q hq with h1 | ⟨h1, h2, h3⟩
      · exact Or.inl h1
      · refine Or.inr ⟨h1, h2, ?_⟩
        rw [hRq q hq e (by omega)]
        exact h3
  · intro q hq
    rw [gs]
    by_cases e : q = p
    · subst e
      rw [if_pos rfl]
      rcases h.tOk q hq with h1 | ⟨h1, h2, h3⟩
      · exact Or.inl h1
      · refine Or.inr ⟨h1, h2, ?_⟩
        rw [if_neg (fun e => htk q hq e.symm)]
        by_cases e1 : s.getD q 0 = -1
        · obtain ⟨j, hj, _⟩ := h.swap.known hq (show t.getD q 0 ≠ -1 by omega)
          have h5 := htk q hq
          rw [hj] at h5 h3 ⊢
          simp only [Int.toNat_natCast] at h3 ⊢
          rw [hRo j (by omega) (fun h6 => absurd e1 h6), h3, if_neg (by omega)]
        · obtain ⟨h5, h6⟩ := hRs e1
          rw [h5]
          exact h6
    · rw [if_neg e]
      rcases h.tOk q hq with h1 | ⟨h1, h2, h3⟩
      · exact Or.inl h1
      · refine Or.inr ⟨h1, h2, ?_⟩
        rw [hRt q hq e (by omega)]
        exact h3
  · intro x q hx hq hne h1
    rw [gs] at h1
    rw [gs, gs]
    by_cases e : x = p
    · rw [if_pos e, if_neg (by omega)]
      exact fun e => hsk q hq e.symm
    · rw [if_neg e] at h1 ⊢
      by_cases e2 : q = p
      · rw [if_pos e2]; exact hsk x hx
      · rw [if_neg e2]; exact h.ss x q hx hq hne h1
  · intro x q hx hq hne h1
    rw [gs] at h1
    rw [gs]
    by_cases e : x = p
    · rw [if_pos e]
      exact fun e => htk q hq e.symm
    · rw [if_neg e] at h1 ⊢
      exact h.st x q hx hq hne h1
  · intro x q hx hq hne h1
    rw [gs]
    by_cases e2 : q = p
    · rw [if_pos e2]; exact htk x hx
    · rw [if_neg e2]; exact h.ts x q hx hq hne h1
  · intro q hq
    rw [psh, gs]
    by_cases e : q = p
    · subst e
      rw [if_pos rfl, if_pos rfl, decide_eq_false]
      rintro ⟨_, h2⟩
      exact htk q hq h2.symm
    · rw [if_neg e, if_neg e]; exact h.sh q hq
  · intro q hq
    rw [po0, gs]
    by_cases e : q = p
    · rw [if_pos e, if_pos e]
      intro _
      rw [decide_eq_true (by omega)]
    · rw [if_neg e, if_neg e]; exact h.o0 q hq
  · intro q hq
    rw [po1, gs]
    by_cases e : q = p
    · subst e
      rw [if_pos rfl, if_pos rfl]
      intro _
      by_cases e1 : s.getD q 0 = -1
      · rw [if_pos e1]
        exact h.o1 q hq (by omega)
      · rw [if_neg e1, (hRs e1).1, decide_eq_true e1]
    · rw [if_neg e, if_neg e]; exact h.o1 q hq
  · intro q x hq hx
    rw [put_a, ga, gs]
    by_cases e : q = p
    · subst e
      rw [if_pos rfl, if_neg (show ¬ (k : Int) = -1 by omega)]
      simp only [Int.toNat_natCast]
      rw [gD, if_pos rfl, go]
      by_cases e2 : x = i
      · rw [if_pos (show 16 * q + x = 16 * q + i by omega), if_pos e2]
      · rw [if_neg (show ¬ 16 * q + x = 16 * q + i by omega), if_neg e2, hold2 x hx]
        exact h.wa q x hq hx
    · rw [if_neg (show ¬ 16 * q + x = 16 * p + i by omega), if_neg e, h.wa q x hq hx]
      by_cases e1 : s.getD q 0 = -1
      · rw [if_pos e1, if_pos e1]
      · obtain ⟨j, hj, _⟩ := h.known hq e1
        have h5 := hsk q hq
        rw [hj] at h5
        rw [if_neg e1, if_neg e1, hj, gD]
        simp only [Int.toNat_natCast]
        rw [if_neg (by omega)]
  · intro q x hq hx
    rw [put_b, h.wb q x hq hx]
    by_cases e1 : t.getD q 0 = -1
    · rw [if_pos e1, if_pos e1]
    · obtain ⟨j, hj, _⟩ := h.swap.known hq e1
      have h5 := htk q hq
      rw [hj] at h5
      rw [if_neg e1, if_neg e1, hj, gD]
      simp only [Int.toNat_natCast]
      rw [if_neg (by omega)]
  · rw [pk, hcnt, h.kn]
    omega

end Go.Proofs.Ytlcdefpdahjjeaf

/- P4: the ways of a write, the fork, the whole play, in plain words. -/

namespace Go.Proofs.Ytlcdefpdahjjeaf
open Go.RowKit

/-- What is told of a write of the first one: 2, 7, or 0. -/
def PS.err (n : Int) (S : PS) (k : Int) : Int := if ¬ (0 ≤ k ∧ k ≤ 255) then 2 else if S.need (k.toNat / 16) = true ∧ S.kn = n then 7 else 0

theorem PS.err_range {n : Int} {S : PS} {k : Int} (h : ¬ (0 ≤ k ∧ k ≤ 255)) : S.err n k = 2 := if_pos h
theorem PS.err_at {n : Int} {S : PS} {p i : Nat} (hp : p < 16) (hi : i < 16) : S.err n ((16 * p + i : Nat) : Int) = if S.need p = true ∧ S.kn = n then 7 else 0 := by
  unfold PS.err
  rw [if_neg (by omega), Int.toNat_natCast, at_div hi]

theorem Rel.need {n : Nat} {D : List (List Int)} {R s t : List Int} {S : PS} (h : Rel n D R s t S) {p : Nat} (hp : p < 16) : S.need p = decide (s.getD p 0 = -1 ∨ s.getD p 0 = t.getD p 0) := by
  unfold PS.need
  rw [h.sh p hp]
  by_cases e1 : s.getD p 0 = -1
  · rw [h.o0 p hp (Or.inl e1), decide_eq_false (fun e => e.1 e1), decide_eq_false (fun e => e e1), decide_eq_true (Or.inl e1)]; rfl
  · by_cases e2 : s.getD p 0 = t.getD p 0
    · rw [decide_eq_true (show s.getD p 0 ≠ -1 ∧ s.getD p 0 = t.getD p 0 from ⟨e1, e2⟩), decide_eq_true (Or.inr e2)]; rfl
    · rw [h.o0 p hp (Or.inr e2), decide_eq_false (fun e => e2 e.2), decide_eq_true e1, decide_eq_false (fun e => e.elim e1 e2)]; rfl

theorem Rel.kfull {n : Nat} {D : List (List Int)} {R s t : List Int} {S : PS} (h : Rel n D R s t S) (hf : NoneFree R) : S.kn = n := by rw [h.kn, cnt_full hf, h.len]
theorem Rel.kfree {n k : Nat} {D : List (List Int)} {R s t : List Int} {S : PS} (h : Rel n D R s t S) (hf : FirstAt R k) : S.kn ≠ n := by
  have := cnt_free hf
  have := h.len
  rw [h.kn]
  omega

theorem Rel.errFull {n : Nat} {D : List (List Int)} {R s t : List Int} {S : PS} (h : Rel n D R s t S) {p i : Nat} (hp : p < 16) (hi : i < 16) (hn : s.getD p 0 = -1 ∨ s.getD p 0 = t.getD p 0) (hf : NoneFree R) : S.err n ((16 * p + i : Nat) : Int) = 7 := by
  rw [PS.err_at hp hi, if_pos ⟨by rw [h.need hp, decide_eq_true hn], h.kfull hf⟩]
theorem Rel.errFree {n k : Nat} {D : List (List Int)} {R s t : List Int} {S : PS} (h : Rel n D R s t S) {p i : Nat} (hp : p < 16) (hi : i < 16) (hf : FirstAt R k) : S.err n ((16 * p + i : Nat) : Int) = 0 := by
  rw [PS.err_at hp hi, if_neg (fun e => h.kfree hf e.2)]
theorem Rel.errOne {n : Nat} {D : List (List Int)} {R s t : List Int} {S : PS} (h : Rel n D R s t S) {p i : Nat} (hp : p < 16) (hi : i < 16) (h1 : s.getD p 0 ≠ -1) (h2 : s.getD p 0 ≠ t.getD p 0) : S.err n ((16 * p + i : Nat) : Int) = 0 := by
  rw [PS.err_at hp hi, if_neg (fun e => by have := e.1; rw [h.need hp, decide_eq_false (fun e => e.elim h1 h2)] at this; cases this)]

theorem getD_zeros {i n : Nat} : (List.replicate n (0 : Int)).getD i 0 = 0 := by
  simp only [List.getD, List.getElem?_replicate]
  split <;> rfl

/-- A page without a frame takes one. -/
theorem Rel.new {n : Nat} {D : List (List Int)} {R s t : List Int} {S : PS} (h : Rel n D R s t S) {p i k : Nat} (v : Int) (hp : p < 16) (hi : i < 16) (hk : FirstAt R k) (h1 : s.getD p 0 = -1) :
    Rel n (D.set k ((List.replicate 16 0).set i v)) (R.set k 1) (s.set p k) t (S.put (16 * p + i) v) := by
  refine h.fresh v hp hi hk (R.set k 1) (by rw [List.length_set]; exact h.len) ?_ ?_ (fun e => absurd h1 e) ?_ (List.replicate 16 0) rfl ?_
  · rw [getD_set _ _ _ _ _ hk.1, if_pos rfl]
  · intro x hx _
    rw [getD_set _ _ _ _ _ hk.1, if_neg hx]
  · have := cnt_set R k 1 hk.1
    rw [hk.2.1] at this
    simpa using this
  · intro j _
    rw [if_pos h1, getD_zeros]

/-- A frame that both know is copied. -/
theorem Rel.many {n : Nat} {D : List (List Int)} {R s t : List Int} {S : PS} (h : Rel n D R s t S) {p i k j : Nat} (v : Int) (hp : p < 16) (hi : i < 16) (hk : FirstAt R k) (h1 : s.getD p 0 = j) (h2 : s.getD p 0 = t.getD p 0) :
    Rel n (D.set k ((D.getD j []).set i v)) ((R.set j (R.getD j 0 - 1)).set k 1) (s.set p k) t (S.put (16 * p + i) v) := by
  obtain ⟨j', hj', hkn, hjn, hjl, hjR⟩ := h.known hp (show s.getD p 0 ≠ -1 by omega)
  have ej : j' = j := by omega
  subst ej
  rw [if_pos h2.symm] at hjR
  have hjl2 : j' < R.length := by rw [h.len]; exact hjn
  have hne : j' ≠ k := fun e => by rw [e, hk.2.1] at hjR; omega
  have gR : ∀ x, ((R.set j' (R.getD j' 0 - 1)).set k 1).getD x 0 = if x = k then 1 else if x = j' then R.getD j' 0 - 1 else R.getD x 0 := fun x => by
    rw [getD_set _ _ _ _ _ (by rw [List.length_set]; exact hk.1), getD_set _ _ _ _ _ hjl2]
  refine h.fresh v hp hi hk _ (by simp [h.len]) (by rw [gR, if_pos rfl]) ?_ ?_ ?_ (D.getD j' []) hjl ?_
  · intro x hx hx2
    rw [gR, if_neg hx, if_neg (by have := hx2 (by omega); omega)]
  · intro _
    refine ⟨h2.symm, ?_⟩
    rw [hj', Int.toNat_natCast, gR, if_neg hne, if_pos rfl, hjR]
    rfl
  · have c1 := cnt_set R j' (R.getD j' 0 - 1) hjl2
    have c2 := cnt_set (R.set j' (R.getD j' 0 - 1)) k 1 (by rw [List.length_set]; exact hk.1)
    rw [getD_set _ _ _ _ _ hjl2, if_neg (Ne.symm hne), hk.2.1] at c2
    rw [hjR] at c1 c2 ⊢
    simp at c1 c2 ⊢
    omega
  · intro x _
    rw [if_neg (by omega), hj', Int.toNat_natCast]

/-- A frame that nobody else knows is written. -/
theorem Rel.one {n : Nat} {D : List (List Int)} {R s t : List Int} {S : PS} (h : Rel n D R s t S) {p i j : Nat} (v : Int) (hp : p < 16) (hi : i < 16) (h1 : s.getD p 0 = j) (h2 : s.getD p 0 ≠ t.getD p 0) :
    Rel n (D.set j ((D.getD j []).set i v)) R (s.set p j) t (S.put (16 * p + i) v) := by
  have h1' : s.getD p 0 ≠ -1 := by omega
  obtain ⟨j', hj', hkn, hjn, hjl, hjR⟩ := h.known hp h1'
  have ej : j' = j := by omega
  subst ej
  have hDl : D.length = n := by rw [h.may.1, h.len]
  have es : s.set p (j' : Int) = s := by
    refine List.ext_getElem (by simp) fun q h3 h4 => ?_
    rw [List.getElem_set]
    by_cases e : p = q
    · subst e
      rw [if_pos rfl, ← hj']
      simp [List.getD, List.getElem?_eq_getElem h4]
    · rw [if_neg e]
  rw [es]
  have ga : ∀ q, (S.a.set (16 * p + i) v).getD q 0 = if q = 16 * p + i then v else S.a.getD q 0 := fun q => getD_set _ _ _ _ _ (by rw [h.la]; omega)
  have gD : ∀ q, (D.set j' ((D.getD j' []).set i v)).getD q [] = if q = j' then (D.getD j' []).set i v else D.getD q [] := fun q => getD_set _ _ _ _ _ (by rw [hDl]; exact hjn)
  have go : ∀ q, ((D.getD j' []).set i v).getD q 0 = if q = i then v else (D.getD j' []).getD q 0 := fun q => getD_set _ _ _ _ _ (by rw [hjl]; exact hi)
  have hput : S.put (16 * p + i) v = ⟨S.a.set (16 * p + i) v, S.b, S.sh, S.o0, S.o1, S.kn⟩ := by
    unfold PS.put
    rw [at_div hi, h.sh p hp, decide_eq_false (fun e => h2 e.2), h.o0 p hp (Or.inr h2), decide_eq_true h1']
    rfl
  rw [hput]
  refine ⟨⟨by rw [List.length_set]; exact h.may.1, h.may.2.1, ?_⟩, h.len, h.ls, h.lt, by rw [List.length_set]; exact h.la, h.lb, h.lsh, h.lo0, h.lo1, h.sOk, h.tOk, h.ss, h.st, h.ts, h.tt, h.sh, h.o0, h.o1, ?_, ?_, h.kn⟩
  · intro x hx
    have hok := h.may.2.2 x hx
    unfold okAt at hok ⊢
    rw [gD]
    by_cases e : x = j'
    · subst e
      rw [if_pos rfl, List.length_set]
      exact hok
    · rw [if_neg e]; exact hok
  · intro q x hq hx
    show (S.a.set (16 * p + i) v).getD _ 0 = _
    rw [ga]
    by_cases e : q = p
    · subst e
      rw [if_neg h1', hj', Int.toNat_natCast, gD, if_pos rfl, go]
      by_cases e2 : x = i
      · rw [if_pos (show 16 * q + x = 16 * q + i by omega), if_pos e2]
      · rw [if_neg (show ¬ 16 * q + x = 16 * q + i by omega), if_neg e2, h.wa q x hq hx, if_neg h1', hj', Int.toNat_natCast]
    · rw [if_neg (show ¬ 16 * q + x = 16 * p + i by omega), h.wa q x hq hx]
      by_cases e1 : s.getD q 0 = -1
      · rw [if_pos e1, if_pos e1]
      · obtain ⟨j, hj, _⟩ := h.known hq e1
        have h5 := h.ss q p hq hp e e1
        rw [if_neg e1, if_neg e1, hj, gD, Int.toNat_natCast, if_neg (by omega)]
  · intro q x hq hx
    show S.b.getD _ 0 = _
    rw [h.wb q x hq hx]
    by_cases e1 : t.getD q 0 = -1
    · rw [if_pos e1, if_pos e1]
    · obtain ⟨j, hj, _⟩ := h.swap.known hq e1
      have h5 : j ≠ j' := by
        intro e
        by_cases eq : q = p
        · subst eq; apply h2; rw [hj', hj, e]
        · have := h.ts q p hq hp eq e1
          omega
      rw [if_neg e1, if_neg e1, hj, gD, Int.toNat_natCast, if_neg h5]

/-- Nothing is known, nothing was written. -/
def PS.start : PS := ⟨List.replicate 256 0, List.replicate 256 0, List.replicate 16 false, List.replicate 16 false, List.replicate 16 false, 0⟩
def blank : List Int := List.replicate 16 (-1)
theorem getD_blank {p : Nat} (hp : p < 16) : blank.getD p 0 = -1 := by
  simp only [blank, List.getD, List.getElem?_replicate]
  rw [if_pos hp]
  rfl
theorem getD_no {p : Nat} : (List.replicate 16 false).getD p false = false := by
  simp only [List.getD, List.getElem?_replicate]
  split <;> rfl
theorem Rel.start {n : Nat} (hn : n ≤ 200) : Rel n (List.replicate n []) (List.replicate n 0) blank blank PS.start := by
  refine ⟨⟨by simp, by simpa using hn, ?_⟩, by simp, rfl, rfl, List.length_replicate, List.length_replicate, rfl, rfl, rfl, fun p hp => Or.inl (getD_blank hp), fun p hp => Or.inl (getD_blank hp), fun p q hp _ _ h => absurd (getD_blank hp) h, fun p q hp _ _ h => absurd (getD_blank hp) h, fun p q hp _ _ h => absurd (getD_blank hp) h, fun p q hp _ _ h => absurd (getD_blank hp) h, ?_, ?_, ?_, ?_, ?_, ?_⟩
  · intro i hi
    have hi' : i < n := by simpa using hi
    unfold okAt
    rw [getD_zeros]
    refine ⟨by omega, by omega, ?_⟩
    simp [List.getD, hi', wordsB]
  · intro p hp
    rw [getD_blank hp]
    exact getD_no
  · intro p hp _
    rw [getD_blank hp]
    exact getD_no
  · intro p hp _
    rw [getD_blank hp]
    exact getD_no
  · intro p i hp _
    rw [if_pos (getD_blank hp)]
    exact getD_zeros
  · intro p i hp _
    rw [if_pos (getD_blank hp)]
    exact getD_zeros
  · rw [cnt_zero]; rfl

def PS.fork (S : PS) : PS := ⟨S.a, S.a, S.o0, List.replicate 16 false, List.replicate 16 false, S.kn⟩
/-- The fork, page by page: m pages are shared. -/
structure Fork (n : Nat) (D : List (List Int)) (R s : List Int) (S : PS) (m : Nat) : Prop where
  may : May D R
  len : R.length = n
  ls : s.length = 16
  la : S.a.length = 256
  lo0 : S.o0.length = 16
  sOk : ∀ p, p < 16 → s.getD p 0 = -1 ∨ (0 ≤ s.getD p 0 ∧ s.getD p 0 < n ∧ R.getD (s.getD p 0).toNat 0 = if p < m then 2 else 1)
  ss : ∀ p q, p < 16 → q < 16 → p ≠ q → s.getD p 0 ≠ -1 → s.getD p 0 ≠ s.getD q 0
  o0 : ∀ p, p < 16 → S.o0.getD p false = decide (s.getD p 0 ≠ -1)
  wa : ∀ p i, p < 16 → i < 16 → S.a.getD (16 * p + i) 0 = if s.getD p 0 = -1 then 0 else (D.getD (s.getD p 0).toNat []).getD i 0
  kn : S.kn = cnt R
theorem Rel.toFork {n : Nat} {D : List (List Int)} {R s : List Int} {S : PS} (h : Rel n D R s blank S) : Fork n D R s S 0 := by
  refine ⟨h.may, h.len, h.ls, h.la, h.lo0, ?_, h.ss, ?_, h.wa, h.kn⟩
  · intro p hp
    rcases h.sOk p hp with h1 | ⟨h1, h2, h3⟩
    · exact Or.inl h1
    · refine Or.inr ⟨h1, h2, ?_⟩
      rw [h3, getD_blank hp, if_neg (by omega), if_neg (by omega)]
  · intro p hp
    exact h.o0 p hp (by rw [getD_blank hp]; omega)
theorem Fork.known {n : Nat} {D : List (List Int)} {R s : List Int} {S : PS} {m : Nat} (h : Fork n D R s S m) {p : Nat} (hp : p < 16) (h1 : s.getD p 0 ≠ -1) : ∃ j : Nat, s.getD p 0 = (j : Int) ∧ Known R j ∧ j < R.length ∧ R.getD j 0 = if p < m then 2 else 1 := by
  rcases h.sOk p hp with h2 | ⟨h2, h3, h4⟩
  · exact absurd h2 h1
  · obtain ⟨j, hj⟩ := Int.eq_ofNat_of_zero_le h2
    rw [hj] at h4 h3 ⊢
    simp only [Int.toNat_natCast] at h4
    have := h.len
    have hne : R.getD j 0 ≠ 0 := by rw [h4]; split <;> omega
    exact ⟨j, rfl, ⟨by omega, by omega, by simpa using hne⟩, by omega, h4⟩
theorem Fork.skip {n : Nat} {D : List (List Int)} {R s : List Int} {S : PS} {m : Nat} (h : Fork n D R s S m) (h1 : s.getD m 0 = -1) : Fork n D R s S (m + 1) := by
  refine ⟨h.may, h.len, h.ls, h.la, h.lo0, ?_, h.ss, h.o0, h.wa, h.kn⟩
  intro p hp
  rcases h.sOk p hp with h2 | ⟨h2, h3, h4⟩
  · exact Or.inl h2
  · refine Or.inr ⟨h2, h3, ?_⟩
    have : p ≠ m := fun e => by rw [e] at h2; omega
    rw [h4]
    by_cases e : p < m
    · rw [if_pos e, if_pos (by omega)]
    · rw [if_neg e, if_neg (by omega)]
theorem Fork.next {n : Nat} {D : List (List Int)} {R s : List Int} {S : PS} {m j : Nat} (h : Fork n D R s S m) (hm : m < 16) (h1 : s.getD m 0 = j) : Fork n D (R.set j (R.getD j 0 + 1)) s S (m + 1) := by
  obtain ⟨j', hj', hk, hjl, hjR⟩ := h.known hm (by omega)
  have ej : j' = j := by omega
  subst ej
  rw [if_neg (by omega)] at hjR
  have gR : ∀ x, (R.set j' (R.getD j' 0 + 1)).getD x 0 = if x = j' then R.getD j' 0 + 1 else R.getD x 0 := fun x => getD_set _ _ _ _ _ hjl
  refine ⟨⟨by rw [List.length_set]; exact h.may.1, by rw [List.length_set]; exact h.may.2.1, ?_⟩, by rw [List.length_set]; exact h.len, h.ls, h.la, h.lo0, ?_, h.ss, h.o0, h.wa, ?_⟩
  · intro x hx
    have hok := h.may.2.2 x (by simpa using hx)
    unfold okAt at hok ⊢
    rw [gR]
    by_cases e : x = j'
    · subst e
      rw [if_pos rfl]
      rw [hjR] at hok ⊢
      exact ⟨by omega, by omega, hok.2.2⟩
    · rw [if_neg e]; exact hok
  · intro p hp
    rcases h.sOk p hp with h2 | ⟨h2, h3, h4⟩
    · exact Or.inl h2
    · refine Or.inr ⟨h2, h3, ?_⟩
      rw [gR]
      by_cases e : p = m
      · subst e
        rw [if_pos (by omega), hjR, if_pos (by omega)]
        rfl
      · have := h.ss p m hp hm e (by omega)
        rw [if_neg (by omega), h4]
        by_cases e2 : p < m
        · rw [if_pos e2, if_pos (by omega)]
        · rw [if_neg e2, if_neg (by omega)]
  · have := cnt_set R j' (R.getD j' 0 + 1) hjl
    rw [hjR] at this ⊢
    simp at this
    have e : (1 : Int) + 1 = 2 := rfl
    rw [h.kn, e, this]
theorem Fork.done {n : Nat} {D : List (List Int)} {R s : List Int} {S : PS} (h : Fork n D R s S 16) : Rel n D R s s S.fork := by
  have ok : ∀ p, p < 16 → s.getD p 0 = -1 ∨ (0 ≤ s.getD p 0 ∧ s.getD p 0 < n ∧ R.getD (s.getD p 0).toNat 0 = if s.getD p 0 = s.getD p 0 then 2 else 1) := fun p hp => by
    rcases h.sOk p hp with h1 | ⟨h1, h2, h3⟩
    · exact Or.inl h1
    · refine Or.inr ⟨h1, h2, ?_⟩
      rw [h3, if_pos hp, if_pos rfl]
  refine ⟨h.may, h.len, h.ls, h.ls, h.la, h.la, h.lo0, rfl, rfl, ok, ok, h.ss, h.ss, h.ss, h.ss, ?_, ?_, ?_, h.wa, h.wa, h.kn⟩
  · intro p hp
    show S.o0.getD p false = _
    rw [h.o0 p hp]
    simp
  · intro p hp h1
    show (List.replicate 16 false).getD p false = _
    rw [getD_no]
    rcases h1 with h1 | h1
    · rw [decide_eq_false (fun e => e h1)]
    · exact absurd rfl h1
  · intro p hp h1
    show (List.replicate 16 false).getD p false = _
    rw [getD_no]
    rcases h1 with h1 | h1
    · rw [decide_eq_false (fun e => e h1)]
    · exact absurd rfl h1

/-- The writes ahead of the fork: what stands then, and what is told. -/
def playF (n : Int) : PS → List (Int × Int) → PS × Int
  | S, [] => (S, 0)
  | S, x :: l => if S.err n x.1 = 0 then playF n (S.put x.1.toNat x.2) l else (S, S.err n x.1)
def PS.errW (n : Int) (S : PS) (x : Int × Int × Int) : Int := if x.2.2 = 0 then S.err n x.1 else S.swap.err n x.1
def PS.putW (S : PS) (x : Int × Int × Int) : PS := if x.2.2 = 0 then S.put x.1.toNat x.2.1 else (S.swap.put x.1.toNat x.2.1).swap
/-- The writes behind it. -/
def playB (n : Int) : PS → List (Int × Int × Int) → PS × Int
  | S, [] => (S, 0)
  | S, x :: l => if S.errW n x = 0 then playB n (S.putW x) l else (S, S.errW n x)
/-- All that is told of a play. -/
def played (n : Int) (first : List (Int × Int)) (writes : List (Int × Int × Int)) : List Int × List Int × Int × Int :=
  if ¬ (0 ≤ n ∧ n ≤ 200) then ([], [], 0, 2)
  else if (playF n PS.start first).2 ≠ 0 then ([], [], 0, (playF n PS.start first).2)
  else if (playB n (playF n PS.start first).1.fork writes).2 ≠ 0 then ([], [], 0, (playB n (playF n PS.start first).1.fork writes).2)
  else ((playB n (playF n PS.start first).1.fork writes).1.a, (playB n (playF n PS.start first).1.fork writes).1.b, (playB n (playF n PS.start first).1.fork writes).1.kn, 0)

end Go.Proofs.Ytlcdefpdahjjeaf
