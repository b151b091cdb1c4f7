/- One byte that is another one is told by the sum. -/
import Derived.Test.YtlcdefpdahjjeagDoorByEnc
namespace Go.Proofs.YtlcdefpdahjjeagDoor
open Go.RowKit
set_option maxRecDepth 100000

theorem sumP_fst (l : List Int) : (sumP l).1 = (1 + l.sum) % 65521 := by
  have key : ∀ (l : List Int) (s : Int × Int), 0 ≤ s.1 ∧ s.1 < 65521 → (l.foldl sumStep s).1 = (s.1 + l.sum) % 65521 := by
    intro l
    induction l with
    | nil => intro s h; simp; omega
    | cons b l ih =>
      intro s h
      rw [List.foldl_cons, ih _ (by simp only [sumStep]; omega), List.sum_cons]
      simp only [sumStep]
      omega
  exact key l (1, 0) (by simp)

theorem sum_set {l : List Int} {k : Nat} (hk : k < l.length) (z : Int) : (l.set k z).sum = l.sum - l.getD k 0 + z := by
  induction l generalizing k with
  | nil => simp at hk
  | cons a l ih =>
    cases k with
    | zero => simp; omega
    | succ k =>
      simp at hk
      have := ih hk
      simp only [List.set_cons_succ, List.sum_cons, List.getD_cons_succ]
      omega

theorem sumB_inj {l m : List Int} (h : sumB l = sumB m) : (sumP l).1 = (sumP m).1 := by
  simp only [sumB, List.cons.injEq] at h
  omega

theorem spoilt {l : List Int} {k : Nat} (hl : ∀ x ∈ l, 0 ≤ x ∧ x ≤ 255) (hk : k < (l ++ sumB l).length) {z : Int} (hz : 0 ≤ z ∧ z ≤ 255) (hne : z ≠ (l ++ sumB l).getD k 0) :
    ((l ++ sumB l).set k z).drop l.length ≠ sumB (((l ++ sumB l).set k z).take l.length) := by
  by_cases h : k < l.length
  · rw [List.set_append_left _ _ h]
    have e1 : (l.set k z ++ sumB l).drop l.length = sumB l := List.drop_left' (by simp)
    have e2 : (l.set k z ++ sumB l).take l.length = l.set k z := List.take_left' (by simp)
    rw [e1, e2]
    intro e
    have hp := sumB_inj e
    rw [sumP_fst, sumP_fst, sum_set h] at hp
    have hg : (l ++ sumB l).getD k 0 = l.getD k 0 := by simp [List.getD, List.getElem?_append_left h]
    rw [hg] at hne
    have hb := hl (l.getD k 0) (by simp [List.getD, h])
    omega
  · rw [List.set_append_right _ _ (by omega), List.drop_left, List.take_left]
    intro e
    have hk4 : k - l.length < (sumB l).length := by simp at hk; omega
    have := congrArg (fun m => m.getD (k - l.length) 0) e
    simp [List.getD, hk4] at this
    apply hne
    rw [this]
    simp [List.getD, List.getElem?_append_right (show l.length ≤ k by omega)]
    rw [List.getElem?_eq_getElem hk4]
    simp

theorem encB_len30 {L : List Ev} (h : chkNo L = 0) (h30 : L.length ≤ 30) : (encB L).length ≤ 6937 := by
  have h1 := encFrom_len L 0 (by simp) (ok_mem h)
  have h2 := sevens_len7 (n := L.length) (by omega)
  simp [encB]
  omega

theorem fullB_byte (L : List Ev) : ∀ x ∈ fullB L, 0 ≤ x ∧ x ≤ 255 := fun x hx => by
  rcases List.mem_append.1 hx with h | h
  · exact encB_byte L x h
  · exact sumB_byte _ x h

end Go.Proofs.YtlcdefpdahjjeagDoor
