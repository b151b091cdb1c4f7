/- Contracts of evlog.appendData and evlog.Encode. -/
import Derived.Test.YtlcdefpdahjjeagDoorByAPart
import Derived.Test.YtlcdefpdahjjeagDoorBySumPart
import Derived.Test.YtlcdefpdahjjeagDoorEvChkPart
namespace Go.Proofs.YtlcdefpdahjjeagDoor
open Go.RowKit
set_option maxRecDepth 100000

/-- The slice has room for what is in it. -/
def Fits (u : Value) : Prop := ∃ A n c, u = .slice A n c ∧ n ≤ c
/-- Events, their words' slices being such. -/
structure EvsF (w : World) (v : Value) (L : List Ev) : Prop where
  at_ : EvsAt w v L
  fit : ∀ b off c, v = .slice (some ⟨b, off, none⟩) L.length c → ∀ j, j < L.length → ∀ u, w.cell? ⟨b, off + j * 3 + 2, none⟩ = some u → Fits u
theorem EvsF.below {w w' : World} {v : Value} {L : List Ev} (h : EvsF w v L) (hB : Below w.heap.size w w') : EvsF w' v L := by
  refine ⟨h.at_.below hB, fun b off c e j hj u hu => h.fit b off c e j hj u ?_⟩
  obtain ⟨A, c', e', _, hc⟩ := h.at_
  obtain ⟨b', off', e2, hlt, _⟩ := hc (by omega)
  rw [e] at e'
  simp only [Value.slice.injEq] at e'
  have e3 := e'.1.trans e2
  simp only [Option.some.injEq, Addr.mk.injEq] at e3
  obtain ⟨rfl, rfl, -⟩ := e3
  rw [← hu]
  exact (hB.cell (p := ⟨b, off + j * 3 + 2, none⟩) hlt).symm

/-- The count of the event ahead. -/
def prevAt (L : List Ev) (k : Nat) : Int := if k = 0 then 0 else (L.getD (k - 1) noEv).at_
theorem chk_zero {L : List Ev} (h : chkNo L = 0) : L.length ≤ 1000 ∧ ∀ k, k < L.length → verdict L k = 0 := by
  by_cases h1 : 1000 < L.length
  · simp [chkNo, h1] at h
  · refine ⟨by omega, ?_⟩
    have h0 : chk L 0 = 0 := by simpa [chkNo, h1] using h
    have hall : ∀ k, k ≤ L.length → chk L k = 0 := by
      intro k
      induction k with
      | zero => intro _; exact h0
      | succ k ih =>
        intro hk
        have := ih (by omega)
        by_cases hv : verdict L k = 0
        · rw [← chk_ok (by omega) hv]; exact this
        · rw [chk_no (by omega) hv] at this; exact absurd this hv
    intro k hk
    by_cases hv : verdict L k = 0
    · exact hv
    · have := hall k (by omega)
      rw [chk_no hk hv] at this
      exact absurd this hv
theorem ok_at {L : List Ev} (h : chkNo L = 0) (k : Nat) (hk : k < L.length) : evNo (L.getD k noEv) = 0 ∧ 0 ≤ prevAt L k ∧ prevAt L k ≤ (L.getD k noEv).at_ := by
  obtain ⟨_, hv⟩ := chk_zero h
  have he := verdict_ev (hv k hk)
  refine ⟨he, ?_⟩
  rcases k with _ | j
  · simp only [prevAt, if_pos]
    exact ⟨Int.le_refl 0, (evNo_bd he).2.1.1⟩
  · have hj := verdict_ev (hv j (by omega))
    have hb := hv (j + 1) hk
    unfold verdict at hb
    rw [if_pos he, if_neg (by omega), Nat.add_sub_cancel] at hb
    have hbb : behind (L.getD (j + 1) noEv) (L.getD j noEv) = true := by
      cases e : behind (L.getD (j + 1) noEv) (L.getD j noEv) with
      | true => rfl
      | false => rw [e] at hb; simp at hb
    have h1 := evNo_bd he
    have h2 := evNo_bd hj
    simp only [prevAt, if_neg (show ¬ j + 1 = 0 by omega), Nat.add_sub_cancel]
    unfold behind at hbb
    have hbb := of_decide_eq_true hbb
    exact ⟨h2.2.1.1, by omega⟩
theorem prevAt_succ (L : List Ev) (k : Nat) : prevAt L (k + 1) = (L.getD k noEv).at_ := by simp [prevAt]

/-- Bytes are bytes. -/
theorem zigs_byte {z : Int} : ∀ x ∈ zigs z, 0 ≤ x ∧ x ≤ 255 := by
  unfold zigs
  split <;> exact sevens_byte
theorem runsB_byte : ∀ (l : List Int) (last : Int) (run : Nat), ∀ x ∈ runsB last run l, 0 ≤ x ∧ x ≤ 255
  | [], _, _, x, hx => by simp [runsB] at hx
  | [y], last, run, x, hx => by
    simp only [runsB, List.mem_append] at hx
    rcases hx with hx | hx
    · exact sevens_byte x hx
    · exact zigs_byte x hx
  | y :: z :: t, last, run, x, hx => by
    by_cases h : z = y
    · simp only [runsB, if_pos h] at hx
      exact runsB_byte (z :: t) _ _ x hx
    · simp only [runsB, if_neg h, List.mem_append] at hx
      rcases hx with (hx | hx) | hx
      · exact sevens_byte x hx
      · exact zigs_byte x hx
      · exact runsB_byte (z :: t) _ _ x hx
theorem dataB_byte (y : Ev) : ∀ x ∈ dataB y, 0 ≤ x ∧ x ≤ 255 := by
  unfold dataB
  split
  · exact runsB_byte _ _ _
  · split
    · exact zigs_byte
    · simp
theorem encFrom_byte : ∀ (L : List Ev) (last : Int), ∀ x ∈ encFrom last L, 0 ≤ x ∧ x ≤ 255
  | [], _, x, hx => by simp [encFrom] at hx
  | y :: L, last, x, hx => by
    simp only [encFrom, evB, List.mem_append] at hx
    rcases hx with (hx | hx) | hx
    · exact sevens_byte x hx
    · exact dataB_byte y x hx
    · exact encFrom_byte L _ x hx
theorem encB_byte (L : List Ev) : ∀ x ∈ encB L, 0 ≤ x ∧ x ≤ 255 := by
  intro x hx
  simp only [encB, List.mem_append] at hx
  rcases hx with hx | hx
  · exact sevens_byte x hx
  · exact encFrom_byte L _ x hx
theorem encFrom_len : ∀ (L : List Ev) (last : Int), 0 ≤ last → (∀ x ∈ L, evNo x = 0) → (encFrom last L).length ≤ 231 * L.length
  | [], _, _, _ => by simp [encFrom]
  | y :: L, last, hl, he => by
    have hy := he y (by simp)
    have h1 := evNo_bd hy
    have h2 := sevens_len7 (n := (4 * (y.at_ - last) + y.kind).toNat) (by omega)
    have h3 := dataB_len hy
    have h4 := encFrom_len L y.at_ h1.2.1.1 (fun x hx => he x (List.mem_cons_of_mem _ hx))
    simp [encFrom, evB]
    omega
theorem ok_mem {L : List Ev} (h : chkNo L = 0) : ∀ x ∈ L, evNo x = 0 := fun x hx => by
  obtain ⟨i, hi, rfl⟩ := List.getElem_of_mem hx
  have := (ok_at h i hi).1
  simpa [List.getD, hi] using this
theorem encB_len {L : List Ev} (h : chkNo L = 0) : (encB L).length ≤ 231007 := by
  have h1 := encFrom_len L 0 (by simp) (ok_mem h)
  have h2 := (chk_zero h).1
  have h3 := sevens_len7 (n := L.length) (by omega)
  simp [encB]
  omega
theorem enc_step {L : List Ev} {k : Nat} (hk : k < L.length) (last : Int) : encFrom last (L.drop k) = sevens (4 * ((L.getD k noEv).at_ - last) + (L.getD k noEv).kind).toNat ++ dataB (L.getD k noEv) ++ encFrom (L.getD k noEv).at_ (L.drop (k + 1)) := by
  rw [List.drop_eq_getElem_cons hk]
  have : L[k] = L.getD k noEv := by simp [List.getD, hk]
  rw [this]
  rfl

set_option maxHeartbeats 1000000 in
theorem appendData_any (v u : Value) (bs : List Int) (a k : Int) (d : List Int) (lo : Nat) (w : World) (h : OwnB w lo v bs) (hlo : lo ≤ w.heap.size) (he : evNo ⟨a, k, d⟩ = 0) (hi : IntsAt w u d) (hu : Fits u) (hub : ∀ b off n c, 0 < d.length → u = .slice (some ⟨b, off, none⟩) n c → b < lo) (hlen : bs.length ≤ 1000000) :
    Calls Tryd.prog 64 #[v, .agg #[.int .i64 a, .int .i64 k, u]] w fun e w' => ∃ v', e = .returned v' ∧ Appd lo w w' v v' (bs ++ dataB ⟨a, k, d⟩) := by
  obtain ⟨hk, ha, hw, hl⟩ := evNo_bd he
  simp only at hk ha hw hl
  have HI : Hid (IntsAt w u d) := hi
  obtain ⟨A, c, rfl, h8, hc⟩ := hi
  obtain ⟨A', n', c', e', hcap⟩ := hu
  simp only [Value.slice.injEq] at e'
  obtain ⟨rfl, rfl, rfl⟩ := e'
  have hb0 := below_alloc w (.cells #[.int .i64 a, .int .i64 k, .slice A d.length c] 56)
  have HO : Hid (OwnB (w.alloc (.cells #[.int .i64 a, .int .i64 k, .slice A d.length c] 56)) lo v bs) := h.below hb0
  by_cases k2 : k = 2
  · subst k2
    have h16 : d.length = 16 := by simp [wordsN] at hl; omega
    obtain ⟨b, off, rfl, hbs, hcell⟩ := hc (by omega)
    have HF : Hid (∀ W, W = w.alloc (.cells #[.int .i64 a, .int .i64 2, .slice (some ⟨b, off, none⟩) d.length c] 56) → Calls Tryd.prog 103 #[v, .slice (some ⟨b, off, none⟩) d.length c] W fun e w' => ∃ v', e = .returned v' ∧ Appd lo w w' v v' (bs ++ dataB ⟨a, 2, d⟩)) := fun W e => by
      subst e
      refine (appendRuns_any v _ bs d lo _ HO.out (by simp; omega) ⟨b, off, c, rfl, hcap, hub b off _ c (by omega) rfl⟩ (HI.out.below hb0) (by omega) (allB_mem hw) (by omega)).mono ?_
      rintro e w' ⟨v', rfl, ha'⟩
      refine ⟨v', rfl, ?_⟩
      have : dataB ⟨a, 2, d⟩ = runsB 0 0 d := by simp [dataB]
      rw [this]
      exact ha'.pre hb0 hlo
    clear hc hcell hw hl HI hub HO hb0 he h hk ha h16
    go_enter Tryd.func64, Tryd.ntmps64
    go_wp2_with fail
    refine (HF.out _ rfl).mono ?_
    rintro e w' ⟨v', rfl, ha'⟩
    have HA : Hid (Appd lo w w' v v' (bs ++ dataB ⟨a, 2, d⟩)) := ha'
    clear ha' HF
    go_wp2_with fail
    go_ret
    exact ⟨v', rfl, HA.out⟩
  · by_cases k3 : k = 3
    · subst k3
      have h1 : d.length = 1 := by simp [wordsN] at hl; omega
      obtain ⟨x, rfl⟩ : ∃ x, d = [x] := by
        match d, h1 with
        | [x], _ => exact ⟨x, rfl⟩
      obtain ⟨b, off, rfl, hbs, hcell⟩ := hc (by simp)
      have hx := allB_mem hw x (by simp)
      have c0 : w.cell? ⟨b, off, none⟩ = some (.int .i64 x) := by simpa using hcell 0 (by simp)
      have hbn : ¬ b = w.heap.size := by omega
      have HF : Hid (∀ W, W = w.alloc (.cells #[.int .i64 a, .int .i64 3, .slice (some ⟨b, off, none⟩) 1 c] 56) → Calls Tryd.prog 104 #[v, .int .i64 x] W fun e w' => ∃ v', e = .returned v' ∧ Appd lo w w' v v' (bs ++ dataB ⟨a, 3, [x]⟩)) := fun W e => by
        subst e
        refine (appendAnyKind_any v bs x lo _ HO.out (by simp; omega) (by omega) (by omega)).mono ?_
        rintro e w' ⟨v', rfl, ha'⟩
        refine ⟨v', rfl, ?_⟩
        have : dataB ⟨a, 3, [x]⟩ = zigs x := by simp [dataB]
        rw [this]
        exact ha'.pre hb0 hlo
      clear hc hcell hw hl HI hub HO hb0 he h hk ha
      simp only [List.length_singleton]
      go_enter Tryd.func64, Tryd.ntmps64
      go_wp2_with fail
      refine (HF.out _ rfl).mono ?_
      rintro e w' ⟨v', rfl, ha'⟩
      have HA : Hid (Appd lo w w' v v' (bs ++ dataB ⟨a, 3, [x]⟩)) := ha'
      clear ha' HF
      go_wp2_with fail
      go_ret
      exact ⟨v', rfl, HA.out⟩
    · have HD : Hid (bs ++ dataB ⟨a, k, d⟩ = bs) := by show _ = _; simp [dataB, k2, k3]
      have HA : Hid (Appd lo w (w.alloc (.cells #[.int .i64 a, .int .i64 k, .slice A d.length c] 56)) v v bs) := ⟨HO.out, hb0.mono hlo, (Grown.refl _ _).post hb0⟩
      clear hc hw hl HI hub HO hb0 he h hk ha
      go_enter Tryd.func64, Tryd.ntmps64
      go_wp2_with fail
      go_ret
      exact ⟨v, rfl, by rw [HD.out]; exact HA.out⟩

end Go.Proofs.YtlcdefpdahjjeagDoor

/- One byte that is another one is told by the sum. -/

namespace Go.Proofs.YtlcdefpdahjjeagDoor
open Go.RowKit
set_option maxRecDepth 100000

theorem sumP_fst (l : List Int) : (sumP l).1 = (1 + l.sum) % 65521 := by
  have key : ∀ (l : List Int) (s : Int × Int), 0 ≤ s.1 ∧ s.1 < 65521 → (l.foldl sumStep s).1 = (s.1 + l.sum) % 65521 := by
    intro l
    induction l with
    | nil => intro s h; simp; omega
    | cons b l ih =>
      intro s h
      rw [List.foldl_cons, ih _ (by simp only [sumStep]; omega), List.sum_cons]
      simp only [sumStep]
      omega
  exact key l (1, 0) (by simp)

theorem sum_set {l : List Int} {k : Nat} (hk : k < l.length) (z : Int) : (l.set k z).sum = l.sum - l.getD k 0 + z := by
  induction l generalizing k with
  | nil => simp at hk
  | cons a l ih =>
    cases k with
    | zero => simp; omega
    | succ k =>
      simp at hk
      have := ih hk
      simp only [List.set_cons_succ, List.sum_cons, List.getD_cons_succ]
      omega

theorem sumB_inj {l m : List Int} (h : sumB l = sumB m) : (sumP l).1 = (sumP m).1 := by
  simp only [sumB, List.cons.injEq] at h
  omega

theorem spoilt {l : List Int} {k : Nat} (hl : ∀ x ∈ l, 0 ≤ x ∧ x ≤ 255) (hk : k < (l ++ sumB l).length) {z : Int} (hz : 0 ≤ z ∧ z ≤ 255) (hne : z ≠ (l ++ sumB l).getD k 0) :
    ((l ++ sumB l).set k z).drop l.length ≠ sumB (((l ++ sumB l).set k z).take l.length) := by
  by_cases h : k < l.length
  · rw [List.set_append_left _ _ h]
    have e1 : (l.set k z ++ sumB l).drop l.length = sumB l := List.drop_left' (by simp)
    have e2 : (l.set k z ++ sumB l).take l.length = l.set k z := List.take_left' (by simp)
    rw [e1, e2]
    intro e
    have hp := sumB_inj e
    rw [sumP_fst, sumP_fst, sum_set h] at hp
    have hg : (l ++ sumB l).getD k 0 = l.getD k 0 := by simp [List.getD, List.getElem?_append_left h]
    rw [hg] at hne
    have hb := hl (l.getD k 0) (by simp [List.getD, h])
    omega
  · rw [List.set_append_right _ _ (by omega), List.drop_left, List.take_left]
    intro e
    have hk4 : k - l.length < (sumB l).length := by simp at hk; omega
    have := congrArg (fun m => m.getD (k - l.length) 0) e
    simp [List.getD, hk4] at this
    apply hne
    rw [this]
    simp [List.getD, List.getElem?_append_right (show l.length ≤ k by omega)]
    rw [List.getElem?_eq_getElem hk4]
    simp

theorem encB_len30 {L : List Ev} (h : chkNo L = 0) (h30 : L.length ≤ 30) : (encB L).length ≤ 6937 := by
  have h1 := encFrom_len L 0 (by simp) (ok_mem h)
  have h2 := sevens_len7 (n := L.length) (by omega)
  simp [encB]
  omega

theorem fullB_byte (L : List Ev) : ∀ x ∈ fullB L, 0 ≤ x ∧ x ≤ 255 := fun x hx => by
  rcases List.mem_append.1 hx with h | h
  · exact encB_byte L x h
  · exact sumB_byte _ x h

end Go.Proofs.YtlcdefpdahjjeagDoor
