/- space.write, held against the document's words. -/
import Derived.Test.YtlcdefpdahjjeafWrW
namespace Go.Proofs.Ytlcdefpdahjjeaf
open Go.RowKit

theorem ffor_has {w : World} {A B : Option Addr} {c c' : Nat} {D : List (List Int)} {R : List Int} {x : Int} (hd : RowsAt w (.slice A D.length c) D) (hr : IntsAt w (.slice B R.length c') R) (hx : x ≠ -1) : FFor w A B D.length c R.length c' x D R x 0 := fun X _ _ =>
  (frameFor_has A B D.length c R.length c' x X hx).mono fun _ _ ⟨he, hb⟩ => ⟨A, c, B, c', he, Or.inl ⟨hd, hr⟩, hb⟩
theorem ffor_take {w : World} {A B : Option Addr} {c c' : Nat} {D D1 : List (List Int)} {R R1 : List Int} {i er : Int} (ht : ∀ W, Below w.heap.size w W → Calls Try.prog 33 #[.agg #[.slice A D.length c, .slice B R.length c']] W fun e w' => Res3 W D1 R1 i er e w') : FFor w A B D.length c R.length c' (-1) D1 R1 i er := fun X hX h4 =>
  (frameFor_take A B D.length c R.length c' D1 R1 i er X (fun W hW => ht W (hX.trans (hW.mono hX.size)))).mono fun _ _ ⟨A1, k1, B1, k1', he, h1, h2, hb⟩ => ⟨A1, k1, B1, k1', he, Or.inr ⟨h1.mono h4, h2.mono h4⟩, hb⟩

/-- What a write of a space answers. -/
def WrAns (n : Nat) (t : List Int) (S : PS) (a v : Int) (w : World) (e : Ending) (w' : World) : Prop :=
  (S.err n a ≠ 0 ∧ WrPost w [] [] zeros (S.err n a) e w') ∨ (S.err n a = 0 ∧ ∃ D' R' s', Rel n D' R' s' t (S.put a.toNat v) ∧ WrPost w D' R' s' 0 e w')

theorem write_rel (A B : Option Addr) (c c' n : Nat) (D : List (List Int)) (R s t : List Int) (S : PS) (a v : Int) (w : World) (h : Rel n D R s t S) (hd : RowsAt w (.slice A D.length c) D) (hr : IntsAt w (.slice B R.length c') R) :
    Calls Try.prog 16 #[.agg #[.slice A D.length c, .slice B R.length c'], .agg (pgc s), .int .i64 a, .int .i64 v] w fun e w' => WrAns n t S a v w e w' := by
  by_cases ha : ¬ (0 ≤ a ∧ a ≤ 255)
  · refine (write_range A B c c' D R s a v w h.ls ha).mono fun e w' hp => Or.inl ?_
    rw [PS.err_range ha]
    exact ⟨by decide, hp⟩
  replace ha : 0 ≤ a ∧ a ≤ 255 := by omega
  obtain ⟨q, hq⟩ := Int.eq_ofNat_of_zero_le ha.1
  obtain ⟨p, i, hp, hi, hpi⟩ : ∃ p i : Nat, p < 16 ∧ i < 16 ∧ a = ((16 * p + i : Nat) : Int) := ⟨q / 16, q % 16, by omega, by omega, by omega⟩
  have hat : a.toNat = 16 * p + i := by omega
  have no7 : ∀ e w', S.err n a = 7 → WrPost w [] [] zeros 7 e w' → WrAns n t S a v w e w' := fun e w' h7 hp => Or.inl ⟨by rw [h7]; decide, by rw [h7]; exact hp⟩
  have yes : ∀ e w' D' R' s', S.err n a = 0 → Rel n D' R' s' t (S.put (16 * p + i) v) → WrPost w D' R' s' 0 e w' → WrAns n t S a v w e w' := fun e w' D' R' s' h0 hr hp => Or.inr ⟨h0, D', R', s', by rw [hat]; exact hr, hp⟩
  by_cases hs1 : s.getD p 0 = -1
  · rcases first_or R with hn | ⟨k, hk⟩
    · refine (write_noframe A B c c' D R s a v w h.ls p i hp hi hpi [] [] 0 7 ?_ (by decide)).mono fun e w' hp' => no7 e w' ?_ hp'
      · rw [hs1]
        exact ffor_take fun W hW => Take_full _ _ D R W (hd.below hW) (hr.below hW) h.may hn
      · rw [hpi]; exact h.errFull hp hi (Or.inl hs1) hn
    · have hkD : k < D.length := by have := h.may.1; have := hk.1; omega
      have hm1 : May (D.set k (List.replicate 16 0)) (R.set k 1) := (h.new (i := 0) 0 hp (by omega) hk hs1).may
      have hk1 : (R.set k 1).getD k 0 = 1 := by rw [getD_set _ _ _ _ _ hk.1, if_pos rfl]
      have hkn : Known (R.set k 1) (k : Int) := ⟨by omega, by rw [List.length_set]; have := hk.1; omega, by rw [Int.toNat_natCast, hk1]; decide⟩
      have hD1 : (D.set k (List.replicate 16 (0 : Int))).getD k [] = List.replicate 16 0 := by rw [getD_set _ _ _ _ _ hkD, if_pos rfl]
      refine (write_done A B c c' D R s a v w h.ls p i hp hi hpi (D.set k (List.replicate 16 0)) (D.set k ((List.replicate 16 0).set i v)) (R.set k 1) (R.set k 1) k k ?_ ?_).mono fun e w' hp' => yes e w' _ _ _ ?_ (h.new v hp hi hk hs1) hp'
      · rw [hs1]
        exact ffor_take fun W hW => Take_ok _ _ D R k W (hd.below hW) (hr.below hW) h.may hk
      · intro X A1 B1 k1 k1' h1 h2
        have := Write_one _ _ (D.set k (List.replicate 16 0)) (R.set k 1) k i v X h1 h2 hm1 hkn hi hk1
        rw [hD1, List.set_set] at this
        exact this
      · rw [hpi]; exact h.errFree hp hi hk
  · obtain ⟨j, hj, hkn, hjn, hjl, hjR⟩ := h.known hp hs1
    by_cases ht : t.getD p 0 = s.getD p 0
    · rw [if_pos ht] at hjR
      rcases first_or R with hn | ⟨k, hk⟩
      · refine (write_noroom A B c c' D R s a v w h.ls p i hp hi hpi D [] R [] j 0 7 ?_ ?_ (by decide)).mono fun e w' hp' => no7 e w' ?_ hp'
        · rw [hj]; exact ffor_has hd hr (by omega)
        · intro X A1 B1 k1 k1' h1 h2
          exact Write_full _ _ D R j i v X h1 h2 h.may hkn hi (by rw [hjR]; decide) hn
        · rw [hpi]; exact h.errFull hp hi (Or.inr ht.symm) hn
      · refine (write_done A B c c' D R s a v w h.ls p i hp hi hpi D (D.set k ((D.getD j []).set i v)) R ((R.set j (R.getD j 0 - 1)).set k 1) j k ?_ ?_).mono fun e w' hp' => yes e w' _ _ _ ?_ (h.many v hp hi hk hj ht.symm) hp'
        · rw [hj]; exact ffor_has hd hr (by omega)
        · intro X A1 B1 k1 k1' h1 h2
          exact Write_many _ _ D R j i k v X h1 h2 h.may hkn hi (by rw [hjR]; decide) hk
        · rw [hpi]; exact h.errFree hp hi hk
    · rw [if_neg ht] at hjR
      refine (write_done A B c c' D R s a v w h.ls p i hp hi hpi D (D.set j ((D.getD j []).set i v)) R R j j ?_ ?_).mono fun e w' hp' => yes e w' _ _ _ ?_ (h.one v hp hi hj (fun e => ht e.symm)) hp'
      · rw [hj]; exact ffor_has hd hr (by omega)
      · intro X A1 B1 k1 k1' h1 h2
        exact Write_one _ _ D R j i v X h1 h2 h.may hkn hi hjR
      · rw [hpi]; exact h.errOne hp hi hs1 (fun e => ht e.symm)

end Go.Proofs.Ytlcdefpdahjjeaf
