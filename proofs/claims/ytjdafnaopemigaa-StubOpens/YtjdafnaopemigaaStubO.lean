/- Contracts of stub.Open and of the document's OpenedOf. -/
import Derived.Test.YtjdafnaopemigaaStubP
namespace Go.Proofs.Ytjdafnaopemigaa
open Go.RowKit
set_option maxRecDepth 100000
set_option linter.unusedVariables false

theorem Good.doc {p : ByteArray} {m t : List UInt8} (h : Good p m t) : p.size = m.length + 4 ∧ p.data.toList[0]? = some 36 ∧ p.data.toList[p.size - 3]? = some 35 ∧ (p.extract 1 (p.size - 3)).data.toList = m ∧ (p.extract (p.size - 2) p.size).data.toList = t := by
  obtain ⟨hL, ht, hm⟩ := h
  have hs : p.size = m.length + 4 := by rw [Lib.size_eq, hL]; simp; omega
  refine ⟨hs, by rw [hL]; rfl, ?_, ?_, ?_⟩
  · rw [hs, hL, show m.length + 4 - 3 = m.length + 1 by omega]
    simp
  · rw [hs, extract_list, hL, show m.length + 4 - 3 - 1 = m.length by omega]
    simp
  · rw [hs, extract_list, hL, show m.length + 4 - 2 = m.length + 2 by omega]
    simp
    rw [← ht, List.take_length]

theorem good_of_doc {p : ByteArray} (h4 : 4 ≤ p.size) (h0 : p.data.toList[0]? = some 36) (h3 : p.data.toList[p.size - 3]? = some 35) (hm : marksB (p.extract 1 (p.size - 3)) = false) :
    Good p (p.extract 1 (p.size - 3)).data.toList (p.extract (p.size - 2) p.size).data.toList := by
  refine ⟨?_, ?_, (marksB_false _).1 hm⟩
  · rw [extract_list, extract_list]
    have hl : p.data.toList.length = p.size := (Lib.size_eq p).symm
    apply List.ext_getElem?
    intro i
    by_cases e0 : i = 0
    · subst e0; rw [h0]; rfl
    · obtain ⟨j, rfl⟩ : ∃ j, i = j + 1 := ⟨i - 1, by omega⟩
      rw [List.getElem?_cons_succ]
      by_cases e1 : j < p.size - 4
      · rw [List.getElem?_append_left (by simp; omega), List.getElem?_take_of_lt (by omega), List.getElem?_drop]
        congr 1; omega
      · rw [List.getElem?_append_right (by simp; omega)]
        have hlen : ((p.data.toList.drop 1).take (p.size - 3 - 1)).length = p.size - 4 := by simp; omega
        rw [hlen]
        by_cases e2 : j = p.size - 4
        · rw [show j - (p.size - 4) = 0 by omega, show j + 1 = p.size - 3 by omega, h3]; rfl
        · obtain ⟨q, hq⟩ : ∃ q, j - (p.size - 4) = q + 1 := ⟨j - (p.size - 4) - 1, by omega⟩
          rw [hq, List.getElem?_cons_succ, List.take_of_length_le (by simp), List.getElem?_drop]
          congr 1; omega
  · rw [extract_list]
    simp
    omega

/-- What opening a packet is answered. -/
def openNo (p : ByteArray) : Int := if 200 < p.size then 1 else if formB p then (if (dgB p).toList == (twoL (txB p)).toList then 0 else 10) else 4
def openTx (p : ByteArray) : ByteArray := if openNo p = 0 then txB p else ⟨#[]⟩

theorem open_long {p : ByteArray} (h : 200 < p.size) : openNo p = 1 ∧ openTx p = ⟨#[]⟩ := by
  have e : openNo p = 1 := by rw [openNo, if_pos h]
  exact ⟨e, by rw [openTx, e, if_neg (by decide)]⟩
theorem open_bad {p : ByteArray} (h : ¬ 200 < p.size) (hf : formB p = false) : openNo p = 4 ∧ openTx p = ⟨#[]⟩ := by
  have e : openNo p = 4 := by rw [openNo, if_neg h, hf]; rfl
  exact ⟨e, by rw [openTx, e, if_neg (by decide)]⟩
theorem open_sum {p : ByteArray} (h : ¬ 200 < p.size) (hf : formB p = true) (hd : ((dgB p).toList == (twoL (txB p)).toList) = false) : openNo p = 10 ∧ openTx p = ⟨#[]⟩ := by
  have e : openNo p = 10 := by rw [openNo, if_neg h, hf, if_pos rfl, hd]; rfl
  exact ⟨e, by rw [openTx, e, if_neg (by decide)]⟩
theorem open_ok {p : ByteArray} (h : ¬ 200 < p.size) (hf : formB p = true) (hd : ((dgB p).toList == (twoL (txB p)).toList) = true) : openNo p = 0 ∧ openTx p = txB p := by
  have e : openNo p = 0 := by rw [openNo, if_neg h, hf, if_pos rfl, hd]; rfl
  exact ⟨e, by rw [openTx, e, if_pos rfl]⟩

theorem txB_size (p : ByteArray) (h : p.size ≤ 200) : (bhB p).size ≤ 200 ∧ (txB p).size ≤ 200 ∧ (dgB p).size ≤ 200 := by
  have e : ∀ (s : ByteArray) a b, b ≤ s.size → (s.extract a b).size ≤ s.size := fun s a b hb => by simp; omega
  have h1 : (bhB p).size ≤ 200 := by
    rw [bhB]
    split
    · exact Nat.le_trans (e _ _ _ (Nat.le_refl _)) h
    · exact h
  refine ⟨h1, ?_, ?_⟩
  · rw [txB, cutA]
    split
    · rename_i h0
      have := indexByte_lt _ _ h0
      rw [← Lib.size_eq] at this
      exact Nat.le_trans (e _ _ _ (by omega)) h1
    · exact h1
  · rw [dgB, cutB]
    split
    · exact Nat.le_trans (e _ _ _ (Nat.le_refl _)) h1
    · decide

set_option maxHeartbeats 2000000 in
theorem Open_any (p : ByteArray) (w : World) (hs : p.size ≤ 9223372036854775807) :
    Calls Try.prog 9 #[.string p] w fun e w' => e = .returned (.tuple #[.string (openTx p), .int .i64 (openNo p)]) ∧ Below w.heap.size w w' := by
  by_cases h2 : 200 < p.size
  · have hz : (200 : Int) < (p.size : Int) := by omega
    rw [(open_long h2).1, (open_long h2).2]
    go_enter Try.func9, Try.ntmps9
    go_wp2_with fail
    go_ret2
    exact ⟨rfl, Below.refl _ _⟩
  · have hz : ¬ (200 : Int) < (p.size : Int) := by omega
    obtain ⟨hs1, hs2, hs3⟩ := txB_size p (by omega)
    have H1 : Hid (∀ W, Calls Try.prog 19 #[.string p, .string ⟨#[36]⟩] W fun e w' => e = .returned (.tuple #[.string (bhB p), .bool (headIs p 36)]) ∧ w' = W) := fun W => CutPrefix_one p 36 W hs
    have H2 : Hid (∀ W, Calls Try.prog 20 #[.string (bhB p), .string ⟨#[35]⟩] W fun e w' => e = .returned (.tuple #[.string (txB p), .string (dgB p), .bool (decide (0 ≤ ixB p))]) ∧ Below W.heap.size W w') := fun W => Cut_one (bhB p) 35 W (by omega)
    have H3 : Hid (∀ W, Calls Try.prog 15 #[.string (txB p)] W fun e w' => e = .returned (.bool (marksB (txB p))) ∧ Below W.heap.size W w') := fun W => HasMarks_any _ W (by omega)
    have H4 : Hid (∀ W, Calls Try.prog 16 #[.string (txB p)] W fun e w' => e = .returned (.string (twoL (txB p))) ∧ Below W.heap.size W w') := fun W => SumOf_any _ W (by omega)
    have HF : Hid (formB p = (headIs p 36 && (decide (0 ≤ ixB p) && (!marksB (txB p) && (dgB p).size == 2)))) := rfl
    have HD : Hid (∀ b, ((dgB p).toList == (twoL (txB p)).toList) = b → formB p = true → openNo p = (if b then 0 else 10) ∧ openTx p = (if b then txB p else ⟨#[]⟩)) := by
      intro b hb hf
      cases b
      · exact open_sum h2 hf hb
      · exact open_ok h2 hf hb
    have HN : Hid (formB p = false → openNo p = 4 ∧ openTx p = ⟨#[]⟩) := open_bad h2
    clear hs1 hs2 hs3
    revert H1 H2 H3 H4 HF HD HN
    generalize headIs p 36 = t1
    generalize decide (0 ≤ ixB p) = t2
    generalize marksB (txB p) = t3
    generalize formB p = F
    generalize twoL (txB p) = T
    generalize txB p = x
    generalize bhB p = y
    generalize dgB p = d
    generalize openNo p = N
    generalize openTx p = X
    intro H1 H2 H3 H4 HF HD HN
    cases t1
    · obtain ⟨rfl, rfl⟩ := HN.out HF.out
      go_enter Try.func9, Try.ntmps9
      go_wp2_with fail
      refine (H1.out _).mono ?_
      rintro e w1 ⟨rfl, hw1⟩
      rw [hw1]
      clear hw1 w1
      go_wp2_with fail
      refine (H2.out _).mono ?_
      rintro e w1 ⟨rfl, hb1⟩
      go_wp2_with fail
      go_ret2
      exact ⟨rfl, hb1⟩
    · cases t2
      · obtain ⟨rfl, rfl⟩ := HN.out HF.out
        go_enter Try.func9, Try.ntmps9
        go_wp2_with fail
        refine (H1.out _).mono ?_
        rintro e w1 ⟨rfl, hw1⟩
        rw [hw1]
        clear hw1 w1
        go_wp2_with fail
        refine (H2.out _).mono ?_
        rintro e w1 ⟨rfl, hb1⟩
        go_wp2_with fail
        go_ret2
        exact ⟨rfl, hb1⟩
      · cases t3
        · by_cases hd : d.size = 2
          · have hd2 : (((d.size : Nat) : Int) == 2) = true := by rw [hd]; rfl
            have hF : F = true := by rw [HF.out, hd]; rfl
            cases hq : (d.toList == T.toList)
            all_goals
              have hN := HD.out _ hq hF
              obtain ⟨rfl, rfl⟩ := hN
              go_enter Try.func9, Try.ntmps9
              go_wp2_with fail
              refine (H1.out _).mono ?_
              rintro e w1 ⟨rfl, hw1⟩
              rw [hw1]
              clear hw1 w1
              go_wp2_with fail
              refine (H2.out _).mono ?_
              rintro e w1 ⟨rfl, hb1⟩
              have HB1 : Hid (Below w.heap.size w w1) := hb1
              clear hb1
              go_wp2_with fail
              refine (H3.out _).mono ?_
              rintro e w2 ⟨rfl, hb2⟩
              have HB2 : Hid (Below w.heap.size w w2) := HB1.out.trans (hb2.mono HB1.out.size)
              clear hb2
              go_wp2_with fail
              refine (H4.out _).mono ?_
              rintro e w3 ⟨rfl, hb3⟩
              have HB3 : Hid (Below w.heap.size w w3) := HB2.out.trans (hb3.mono HB2.out.size)
              clear hb3
              go_wp2_with fail
              go_ret2
              exact ⟨rfl, HB3.out⟩
          · have hd2 : (((d.size : Nat) : Int) == 2) = false := beq_eq_false_iff_ne.2 (by omega)
            obtain ⟨rfl, rfl⟩ := HN.out (by rw [HF.out]; simp [hd])
            go_enter Try.func9, Try.ntmps9
            go_wp2_with fail
            refine (H1.out _).mono ?_
            rintro e w1 ⟨rfl, hw1⟩
            rw [hw1]
            clear hw1 w1
            go_wp2_with fail
            refine (H2.out _).mono ?_
            rintro e w1 ⟨rfl, hb1⟩
            have HB1 : Hid (Below w.heap.size w w1) := hb1
            clear hb1
            go_wp2_with fail
            refine (H3.out _).mono ?_
            rintro e w2 ⟨rfl, hb2⟩
            have HB2 : Hid (Below w.heap.size w w2) := HB1.out.trans (hb2.mono HB1.out.size)
            clear hb2
            go_wp2_with fail
            go_ret2
            exact ⟨rfl, HB2.out⟩
        · obtain ⟨rfl, rfl⟩ := HN.out HF.out
          go_enter Try.func9, Try.ntmps9
          go_wp2_with fail
          refine (H1.out _).mono ?_
          rintro e w1 ⟨rfl, hw1⟩
          rw [hw1]
          clear hw1 w1
          go_wp2_with fail
          refine (H2.out _).mono ?_
          rintro e w1 ⟨rfl, hb1⟩
          have HB1 : Hid (Below w.heap.size w w1) := hb1
          clear hb1
          go_wp2_with fail
          refine (H3.out _).mono ?_
          rintro e w2 ⟨rfl, hb2⟩
          have HB2 : Hid (Below w.heap.size w w2) := HB1.out.trans (hb2.mono HB1.out.size)
          clear hb2
          go_wp2_with fail
          go_ret2
          exact ⟨rfl, HB2.out⟩

set_option maxHeartbeats 4000000 in
theorem OpenedOf_any (p : ByteArray) (w : World) (hs : p.size ≤ 9223372036854775807) :
    Calls Try.prog 10 #[.string p] w fun e w' => e = .returned (.tuple #[.string (openTx p), .int .i64 (openNo p)]) ∧ Below w.heap.size w w' := by
  by_cases h2 : 200 < p.size
  · have hz : (200 : Int) < (p.size : Int) := by omega
    rw [(open_long h2).1, (open_long h2).2]
    go_enter Try.func10, Try.ntmps10
    go_wp2_with fail
    go_ret2
    exact ⟨rfl, Below.refl _ _⟩
  · have hz : ¬ (200 : Int) < (p.size : Int) := by omega
    have HN : Hid ((∀ m t, ¬ Good p m t) → openNo p = 4 ∧ openTx p = ⟨#[]⟩) := fun h => open_bad h2 (by
      cases hf : formB p
      · rfl
      · exact absurd (good_of_code hf) (h _ _))
    by_cases h4 : p.size < 4
    · obtain ⟨e1, e2⟩ := HN.out (fun m t h => by have := h.doc.1; omega)
      rw [e1, e2]
      go_enter Try.func10, Try.ntmps10
      go_wp2_with fail
      go_ret2
      exact ⟨rfl, Below.refl _ _⟩
    · have h0l : 0 < p.size := by omega
      have h3l : p.size - 3 < p.size := by omega
      obtain ⟨x, hx⟩ : ∃ x : UInt8, p[0]'h0l = x := ⟨_, rfl⟩
      have Hx : Hid (p.data.toList[0]? = some x) := by rw [← hx]; exact Lib.data_getElem? p 0 h0l
      obtain ⟨y, hy⟩ : ∃ y : UInt8, p[p.size - 3]'h3l = y := ⟨_, rfl⟩
      have Hy : Hid (p.data.toList[p.size - 3]? = some y) := by rw [← hy]; exact Lib.data_getElem? p _ h3l
      have hi3 : (p.size : Int) - 3 = ((p.size - 3 : Nat) : Int) := by omega
      have hi2 : (p.size : Int) - 2 = ((p.size - 2 : Nat) : Int) := by omega
      have hb1 : (1 : Int) ≤ ((p.size - 3 : Nat) : Int) := by omega
      have hb2 : ((p.size - 3 : Nat) : Int) ≤ (p.size : Int) := by omega
      have hb3 : ((p.size - 2 : Nat) : Int) ≤ (p.size : Int) := by omega
      have hb4 : (0 : Int) ≤ ((p.size - 2 : Nat) : Int) := by omega
      have hw1 : IntKind.i64.wrap ((p.size - 3 : Nat) : Int) = ((p.size - 3 : Nat) : Int) := IntWalk.i64_in _ (by omega)
      have hw2 : IntKind.i64.wrap ((p.size - 2 : Nat) : Int) = ((p.size - 2 : Nat) : Int) := IntWalk.i64_in _ (by omega)
      by_cases e36 : x = 36
      · subst e36
        by_cases e35 : y = 35
        · subst e35
          obtain ⟨m, hm⟩ : ∃ m, p.extract 1 (p.size - 3) = m := ⟨_, rfl⟩
          obtain ⟨t, ht⟩ : ∃ t, p.extract (p.size - 2) p.size = t := ⟨_, rfl⟩
          have hms : m.size ≤ 200 := by rw [← hm]; simp; omega
          have H3 : Hid (∀ W, Calls Try.prog 17 #[.string m] W fun e w' => e = .returned (.bool (marksB m)) ∧ w' = W) := fun W => HasMark_any _ W (by omega)
          have H4 : Hid (∀ W, Calls Try.prog 18 #[.string m] W fun e w' => e = .returned (.string (twoL m)) ∧ Below W.heap.size W w') := fun W => TwoHex_any _ W (by omega)
          cases hk : marksB m
          · have HG : Hid (∀ b, ((twoL m).toList == t.toList) = b → openNo p = (if b then 0 else 10) ∧ openTx p = (if b then m else ⟨#[]⟩)) := by
              have hg := good_of_doc (by omega) Hx.out Hy.out (by rw [hm]; exact hk)
              obtain ⟨hf, ha, hb⟩ := hg.code
              have ea : txB p = m := by rw [← hm]; exact ba_ext ha
              have eb : dgB p = t := by rw [← ht]; exact ba_ext hb
              intro b hq
              rw [← ea, ← eb] at hq
              rw [← ea]
              have hq' : ((dgB p).toList == (twoL (txB p)).toList) = b := by rw [← hq]; exact BEq.comm
              cases b
              · exact open_sum h2 hf hq'
              · exact open_ok h2 hf hq'
            clear HN
            cases hq : ((twoL m).toList == t.toList)
            all_goals
              obtain ⟨e1, e2⟩ := HG.out _ hq
              rw [e1, e2]
              clear e1 e2 HG
              go_enter Try.func10, Try.ntmps10
              go_wp2_with (go_at_call 17; refine (H3.out _).mono ?_; rintro e w1 ⟨rfl, hw1⟩; rw [hw1, hk]; clear hw1 w1)
              go_region_law (go_simp; go_at_call 18; refine (H4.out _).mono ?_; rintro e w2 ⟨rfl, hb2⟩; have HB2 : Hid (Below w.heap.size w w2) := ((Below.refl _ w).drew).trans hb2; clear hb2)
              all_goals
                go_wp2_with fail
                go_ret2
                exact ⟨rfl, HB2.out⟩
          · obtain ⟨e1, e2⟩ := HN.out (fun m' t' h => by
              have h1 := h.doc.2.2.2.1
              rw [hm] at h1
              have : marksB m = false := (marksB_false _).2 (by rw [h1]; exact h.2.2)
              rw [hk] at this; cases this)
            rw [e1, e2]
            go_enter Try.func10, Try.ntmps10
            go_wp2_with (go_at_call 17; refine (H3.out _).mono ?_; rintro e w1 ⟨rfl, hw1⟩; rw [hw1, hk]; clear hw1 w1)
            go_ret2
            exact ⟨rfl, Below.refl _ _⟩
        · have h35 : ((y.toNat : Int) != 35) = true := by rw [bne, u8_35 e35]; rfl
          obtain ⟨e1, e2⟩ := HN.out (fun m t h => by have := h.doc.2.2.1; rw [Hy.out] at this; exact e35 (Option.some.inj this))
          rw [e1, e2]
          go_enter Try.func10, Try.ntmps10
          go_wp2_with fail
          go_ret2
          exact ⟨rfl, Below.refl _ _⟩
      · have h36 : ((x.toNat : Int) != 36) = true := by rw [bne, u8_36 e36]; rfl
        obtain ⟨e1, e2⟩ := HN.out (fun m t h => by have := h.doc.2.1; rw [Hx.out] at this; exact e36 (Option.some.inj this))
        rw [e1, e2]
        go_enter Try.func10, Try.ntmps10
        go_wp2_with fail
        go_ret2
        exact ⟨rfl, Below.refl _ _⟩

end Go.Proofs.Ytjdafnaopemigaa
