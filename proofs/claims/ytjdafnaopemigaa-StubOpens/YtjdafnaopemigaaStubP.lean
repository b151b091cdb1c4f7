/- Packets, plainly: what opens, as code and document read it. -/
import Derived.Test.YtjdafnaopemigaaStrE
import Derived.Test.YtjdafnaopemigaaStub
namespace Go.Proofs.Ytjdafnaopemigaa
open Go.RowKit
set_option maxRecDepth 100000
set_option linter.unusedVariables false

theorem ba_ext {a b : ByteArray} (h : a.data.toList = b.data.toList) : a = b := by
  obtain ⟨⟨a⟩⟩ := a
  obtain ⟨⟨b⟩⟩ := b
  simpa using h

theorem extract_list (s : ByteArray) (a b : Nat) : (s.extract a b).data.toList = (s.data.toList.drop a).take (b - a) := by
  rw [ByteArray.data_extract, Array.toList_extract, List.extract_eq_take_drop]

theorem indexAny_iff (cs : List UInt8) : ∀ l : List UInt8, 0 ≤ Lib.indexAny l cs ↔ ∃ b ∈ l, cs.contains b = true
  | [] => by simp [Lib.indexAny]
  | b :: l => by
    have ih := indexAny_iff cs l
    have hg := Lib.indexAny_ge cs l
    unfold Lib.indexAny
    cases hb : cs.contains b
    · simp only [Bool.false_eq_true, if_false]
      constructor
      · intro h
        have : 0 ≤ Lib.indexAny l cs := by
          split at h
          · omega
          · rename_i h1; have : ¬ Lib.indexAny l cs = -1 := by simpa using h1
            omega
        obtain ⟨x, hx, hc⟩ := ih.1 this
        exact ⟨x, List.mem_cons_of_mem _ hx, hc⟩
      · rintro ⟨x, hx, hc⟩
        rcases List.mem_cons.1 hx with rfl | hx
        · rw [hb] at hc; cases hc
        · have := ih.2 ⟨x, hx, hc⟩
          rw [if_neg (by simp; omega)]
          omega
    · simp only [if_true]
      exact ⟨fun _ => ⟨b, List.mem_cons_self .., hb⟩, fun _ => Int.le_refl _⟩

theorem marksB_false (s : ByteArray) : marksB s = false ↔ ∀ b ∈ s.data.toList, b ≠ 36 ∧ b ≠ 35 := by
  rw [marksB, Lib.containsAny, decide_eq_false_iff_not, indexAny_iff]
  constructor
  · intro h b hb
    by_cases e : b = 36
    · exact absurd ⟨b, hb, by subst e; decide⟩ h
    · by_cases f : b = 35
      · exact absurd ⟨b, hb, by subst f; decide⟩ h
      · exact ⟨e, f⟩
  · rintro h ⟨b, hb, hc⟩
    have := h b hb
    simp at hc
    rcases hc with rfl | rfl
    · exact this.1 rfl
    · exact this.2 rfl

theorem indexByte_split (c : UInt8) : ∀ r : List UInt8, 0 ≤ Lib.indexByte r c → ∃ m t, r = m ++ c :: t ∧ (∀ b ∈ m, b ≠ c) ∧ Lib.indexByte r c = m.length
  | [], h => by simp [Lib.indexByte] at h
  | b :: l, h => by
    have hg := Lib.indexByte_ge l c
    by_cases e : b = c
    · exact ⟨[], l, by rw [e]; rfl, by simp, by simp [Lib.indexByte, e]⟩
    · have hb : (b == c) = false := by simpa using e
      have hu : Lib.indexByte (b :: l) c = if Lib.indexByte l c == -1 then -1 else Lib.indexByte l c + 1 := by
        rw [Lib.indexByte, hb]; rfl
      rw [hu] at h ⊢
      have hn : ¬ Lib.indexByte l c = -1 := by
        intro e1
        rw [e1] at h
        simp at h
      obtain ⟨m, t, h1, h2, h3⟩ := indexByte_split c l (by omega)
      refine ⟨b :: m, t, by rw [h1]; rfl, fun x hx => ?_, ?_⟩
      · rcases List.mem_cons.1 hx with rfl | hx
        · exact e
        · exact h2 x hx
      · rw [if_neg (by simpa using hn), h3]
        simp

theorem indexByte_app (c : UInt8) (t : List UInt8) : ∀ m : List UInt8, (∀ b ∈ m, b ≠ c) → Lib.indexByte (m ++ c :: t) c = m.length
  | [], _ => by simp [Lib.indexByte]
  | b :: m, h => by
    have ih := indexByte_app c t m (fun x hx => h x (List.mem_cons_of_mem _ hx))
    have hb : (b == c) = false := by simpa using h b (List.mem_cons_self ..)
    rw [List.cons_append, Lib.indexByte, hb, ih, if_neg (by simp), if_neg (by simp)]
    simp

/-- A packet in form: its text, and its two digits. -/
def Good (p : ByteArray) (m t : List UInt8) : Prop := p.data.toList = 36 :: (m ++ 35 :: t) ∧ t.length = 2 ∧ ∀ b ∈ m, b ≠ 36 ∧ b ≠ 35

/-- As the code reads it. -/
def bhB (p : ByteArray) : ByteArray := if headIs p 36 then p.extract 1 p.size else p
def ixB (p : ByteArray) : Int := Lib.indexByte (bhB p).data.toList 35
def txB (p : ByteArray) : ByteArray := cutA (bhB p) 35
def dgB (p : ByteArray) : ByteArray := cutB (bhB p) 35
def formB (p : ByteArray) : Bool := headIs p 36 && (decide (0 ≤ ixB p) && (!marksB (txB p) && (dgB p).size == 2))

theorem Good.code {p : ByteArray} {m t : List UInt8} (h : Good p m t) : formB p = true ∧ (txB p).data.toList = m ∧ (dgB p).data.toList = t := by
  obtain ⟨hL, ht, hm⟩ := h
  have hh : headIs p 36 = true := by rw [headIs, hL]; rfl
  have hbl : (bhB p).data.toList = m ++ 35 :: t := by
    rw [bhB, hh, if_pos rfl, extract_list, Lib.size_eq, hL]
    exact List.take_of_length_le (by simp)
  have hix : Lib.indexByte (bhB p).data.toList 35 = m.length := by rw [hbl]; exact indexByte_app 35 t m fun b hb => (hm b hb).2
  have h0 : 0 ≤ Lib.indexByte (bhB p).data.toList 35 := by omega
  have htx : (txB p).data.toList = m := by
    rw [txB, cutA, if_pos h0, hix, extract_list, hbl]
    simp
  have hdg : (dgB p).data.toList = t := by
    rw [dgB, cutB, if_pos h0, hix, extract_list, hbl, Lib.size_eq, hbl]
    simp
    rw [show m.length + (t.length + 1) - (m.length + 1) = t.length by omega, List.take_length]
  refine ⟨?_, htx, hdg⟩
  rw [formB, hh, ixB, hix]
  have h1 : marksB (txB p) = false := (marksB_false _).2 (by rw [htx]; exact hm)
  have h2 : (dgB p).size = 2 := by rw [Lib.size_eq, hdg]; exact ht
  simp [h1, h2]

theorem good_of_code {p : ByteArray} (h : formB p = true) : Good p (txB p).data.toList (dgB p).data.toList := by
  rw [formB] at h
  simp only [Bool.and_eq_true, decide_eq_true_eq, Bool.not_eq_true', beq_iff_eq] at h
  obtain ⟨hh, h0, hm, hd⟩ := h
  have hL : ∃ r, p.data.toList = 36 :: r := by
    rw [headIs] at hh
    cases hl : p.data.toList with
    | nil => rw [hl] at hh; simp at hh
    | cons a r => rw [hl] at hh; simp at hh; exact ⟨r, by rw [hh]⟩
  obtain ⟨r, hL⟩ := hL
  have hbl : (bhB p).data.toList = r := by
    rw [bhB, hh, if_pos rfl, extract_list, Lib.size_eq, hL]
    simp
  rw [ixB, hbl] at h0
  obtain ⟨m, t, h1, h2, h3⟩ := indexByte_split 35 r h0
  have h0' : 0 ≤ Lib.indexByte (bhB p).data.toList 35 := by rw [hbl]; exact h0
  have hix : Lib.indexByte (bhB p).data.toList 35 = m.length := by rw [hbl]; exact h3
  have htx : (txB p).data.toList = m := by
    rw [txB, cutA, if_pos h0', hix, extract_list, hbl, h1]
    simp
  have hdg : (dgB p).data.toList = t := by
    rw [dgB, cutB, if_pos h0', hix, extract_list, hbl, Lib.size_eq, hbl, h1]
    simp
    rw [show m.length + (t.length + 1) - (m.length + 1) = t.length by omega, List.take_length]
  refine ⟨by rw [hL, htx, hdg, h1], by rw [← Lib.size_eq]; exact hd, (marksB_false _).1 hm⟩

end Go.Proofs.Ytjdafnaopemigaa
