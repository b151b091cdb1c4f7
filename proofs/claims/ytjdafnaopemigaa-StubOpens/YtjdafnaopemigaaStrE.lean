/- Contracts of strings.CutPrefix and Cut at one byte. -/
import Derived.Test.YtjdafnaopemigaaStrD
namespace Go.Proofs.Ytjdafnaopemigaa
open Go.RowKit
set_option maxRecDepth 100000
set_option linter.unusedVariables false

/-- Does a string begin with this byte? -/
def headIs (s : ByteArray) (c : UInt8) : Bool := s.data.toList.head? == some c

theorem extract_one (s : ByteArray) (h : 0 < s.size) : (s.extract 0 1).toList = [s[0]'h] := by
  rw [ByteArray.toList_eq]
  have e : (s.extract 0 1).data.toList = (s.data.toList.drop 0).take 1 := by
    rw [ByteArray.data_extract, Array.toList_extract, List.extract_eq_take_drop]
  rw [e, List.drop_zero]
  cases hl : s.data.toList with
  | nil => have := Lib.size_eq s; rw [hl, List.length_nil] at this; omega
  | cons a l =>
    have := Lib.data_getElem? s 0 h
    rw [hl] at this
    simp at this
    simp [this]

theorem headIs_eq (s : ByteArray) (c : UInt8) (h : 0 < s.size) : headIs s c = ((s.extract 0 1).toList == [c]) := by
  rw [extract_one s h, headIs]
  have := Lib.data_getElem? s 0 h
  rw [← List.head?_eq_getElem?] at this
  rw [this]
  by_cases e : s[0]'h = c
  · simp [e]
  · simp

theorem headIs_none (s : ByteArray) (c : UInt8) (h : s.size = 0) : headIs s c = false := by
  rw [headIs]
  have : s.data.toList = [] := List.eq_nil_of_length_eq_zero (by rw [← Lib.size_eq]; exact h)
  rw [this]
  rfl

theorem one_toList (c : UInt8) : (ByteArray.mk #[c]).toList = [c] := by rw [ByteArray.toList_eq]

theorem HasPrefix_one (s : ByteArray) (c : UInt8) (w : World) :
    Calls Try.prog 32 #[.string s, .string ⟨#[c]⟩] w fun e w' => e = .returned (.bool (headIs s c)) ∧ w' = w := by
  have hone : (ByteArray.mk #[c]).size = 1 := rfl
  have hot := one_toList c
  by_cases h : 0 < s.size
  · rw [headIs_eq s c h]
    have h1 : (1 : Int) ≤ (s.size : Int) := by omega
    go_enter Try.func32, Try.ntmps32
    go_wp2
    go_ret
    simp
  · rw [headIs_none s c (by omega)]
    have h1 : ¬ (1 : Int) ≤ (s.size : Int) := by omega
    go_enter Try.func32, Try.ntmps32
    go_wp2
    go_ret
    exact ⟨rfl, rfl⟩

theorem LiteCutPrefix_one (s : ByteArray) (c : UInt8) (w : World) (hs : s.size ≤ 9223372036854775807) :
    Calls Try.prog 26 #[.string s, .string ⟨#[c]⟩] w fun e w' => e = .returned (.tuple #[.string (if headIs s c then s.extract 1 s.size else s), .bool (headIs s c)]) ∧ w' = w := by
  have hone : (ByteArray.mk #[c]).size = 1 := rfl
  cases hh : headIs s c
  · go_enter Try.func26, Try.ntmps26
    go_wp2_with (go_at_call 32; refine (HasPrefix_one s c _).mono ?_; rintro e w' ⟨rfl, hw⟩; rw [hw, hh]; clear hw w')
    go_ret2
    exact ⟨rfl, rfl⟩
  · have h0 : 0 < s.size := by
      by_cases h : s.size = 0
      · rw [headIs_none s c h] at hh; cases hh
      · omega
    have h1 : (1 : Int) ≤ (s.size : Int) := by omega
    go_enter Try.func26, Try.ntmps26
    go_wp2_with (go_at_call 32; refine (HasPrefix_one s c _).mono ?_; rintro e w' ⟨rfl, hw⟩; rw [hw, hh]; clear hw w')
    go_ret2
    exact ⟨rfl, rfl⟩

theorem CutPrefix_one (s : ByteArray) (c : UInt8) (w : World) (hs : s.size ≤ 9223372036854775807) :
    Calls Try.prog 19 #[.string s, .string ⟨#[c]⟩] w fun e w' => e = .returned (.tuple #[.string (if headIs s c then s.extract 1 s.size else s), .bool (headIs s c)]) ∧ w' = w := by
  obtain ⟨r, hr⟩ : ∃ r, (if headIs s c then s.extract 1 s.size else s) = r := ⟨_, rfl⟩
  rw [hr]
  have H : Hid (∀ W, Calls Try.prog 26 #[.string s, .string ⟨#[c]⟩] W fun e w' => e = .returned (.tuple #[.string r, .bool (headIs s c)]) ∧ w' = W) := fun W => hr ▸ LiteCutPrefix_one s c W hs
  clear hr
  go_enter Try.func19, Try.ntmps19
  go_wp2_with (go_at_call 26; refine (H.out _).mono ?_; rintro e w' ⟨rfl, hw⟩; rw [hw]; clear hw w')
  go_ret2
  exact ⟨rfl, rfl⟩

theorem Index_one (s : ByteArray) (c : UInt8) (w : World) :
    Calls Try.prog 33 #[.string s, .string ⟨#[c]⟩] w fun e w' => e = .returned (.int .i64 (Lib.indexByte s.data.toList c)) ∧ w' = w := by
  have hone : (ByteArray.mk #[c]).size = 1 := rfl
  have hot := one_toList c
  cases hh : ([c] == s.toList)
  · go_enter Try.func33, Try.ntmps33
    go_wp2_with (go_at_call 38; refine (LiteIndexByte_any s _ _).mono ?_; rintro e w' ⟨rfl, hw⟩; rw [hw]; clear hw w')
    go_ret
    exact ⟨by simp; rfl, rfl⟩
  · have e : s.data.toList = [c] := by rw [← ByteArray.toList_eq]; exact (beq_iff_eq.1 hh).symm
    have e0 : Lib.indexByte s.data.toList c = 0 := by rw [e]; simp [Lib.indexByte]
    rw [e0]
    go_enter Try.func33, Try.ntmps33
    go_wp2
    go_ret
    exact ⟨rfl, rfl⟩

/-- What stands ahead of the first such byte, and behind it. -/
def cutA (s : ByteArray) (c : UInt8) : ByteArray := if 0 ≤ Lib.indexByte s.data.toList c then s.extract 0 (Lib.indexByte s.data.toList c).toNat else s
def cutB (s : ByteArray) (c : UInt8) : ByteArray := if 0 ≤ Lib.indexByte s.data.toList c then s.extract ((Lib.indexByte s.data.toList c).toNat + 1) s.size else ⟨#[]⟩

theorem indexByte_lt : ∀ (l : List UInt8) (c : UInt8), 0 ≤ Lib.indexByte l c → Lib.indexByte l c < l.length
  | [], _, h => by simp [Lib.indexByte] at h
  | b :: l, c, h => by
    have ih := indexByte_lt l c
    have := Lib.indexByte_ge l c
    unfold Lib.indexByte at h ⊢
    split
    · simp
    · split
      · simp; omega
      · rename_i h1 h2
        have h3 : ¬ Lib.indexByte l c = -1 := by simpa using h2
        have := ih (by omega)
        simp
        omega

theorem LiteCut_one (s : ByteArray) (c : UInt8) (w : World) (hs : s.size ≤ 9223372036854775807) :
    Calls Try.prog 27 #[.string s, .string ⟨#[c]⟩] w fun e w' => e = .returned (.tuple #[.string (cutA s c), .string (cutB s c), .bool (decide (0 ≤ Lib.indexByte s.data.toList c))]) ∧ Below w.heap.size w w' := by
  have hone : (ByteArray.mk #[c]).size = 1 := rfl
  have H : Hid (∀ W, Calls Try.prog 33 #[.string s, .string ⟨#[c]⟩] W fun e w' => e = .returned (.int .i64 (Lib.indexByte s.data.toList c)) ∧ w' = W) := fun W => Index_one s c W
  by_cases h0 : 0 ≤ Lib.indexByte s.data.toList c
  · have hlt := indexByte_lt _ _ h0
    rw [← Lib.size_eq] at hlt
    have HA : Hid (cutA s c = s.extract 0 (Lib.indexByte s.data.toList c).toNat) := by rw [Hid, cutA, if_pos h0]
    have HB : Hid (cutB s c = s.extract ((Lib.indexByte s.data.toList c).toNat + 1) s.size) := by rw [Hid, cutB, if_pos h0]
    obtain ⟨n, hn⟩ : ∃ n : Nat, Lib.indexByte s.data.toList c = n := ⟨_, (Int.toNat_of_nonneg h0).symm⟩
    rw [hn] at H hlt HA HB ⊢
    have hd : decide (0 ≤ (n : Int)) = true := by simp
    rw [hd]
    have HA2 : Hid (cutA s c = s.extract 0 n) := HA.out
    have HB2 : Hid (cutB s c = s.extract (n + 1) s.size) := HB.out
    clear HA HB hn h0 hd
    have h1 : (n : Int) + 1 ≤ (s.size : Int) := by omega
    have h2 : (n : Int) ≤ (s.size : Int) := by omega
    have h3 : (0 : Int) ≤ (n : Int) := by omega
    go_enter Try.func27, Try.ntmps27
    go_wp2_with (go_at_call 33; refine (H.out _).mono ?_; rintro e w' ⟨rfl, hw⟩; rw [hw]; clear hw w')
    go_quiet (fail)
    go_wp2_with fail
    exact bodyPost_ret (v := .tuple #[.string (cutA s c), .string (cutB s c), .bool true]) (by rw [HA2.out, HB2.out]; simp [results, Try.results27, go_sem]) rfl ⟨rfl, below_drewS (Below.refl _ _) _⟩
  · have HA : Hid (cutA s c = s) := by rw [Hid, cutA, if_neg h0]
    have HB : Hid (cutB s c = ⟨#[]⟩) := by rw [Hid, cutB, if_neg h0]
    have hd : decide (0 ≤ Lib.indexByte s.data.toList c) = false := by simpa using h0
    rw [hd]
    obtain ⟨n, hn⟩ : ∃ n : Int, Lib.indexByte s.data.toList c = n := ⟨_, rfl⟩
    rw [hn] at H h0
    go_enter Try.func27, Try.ntmps27
    go_wp2_with (go_at_call 33; refine (H.out _).mono ?_; rintro e w' ⟨rfl, hw⟩; rw [hw]; clear hw w')
    exact bodyPost_ret (v := .tuple #[.string (cutA s c), .string (cutB s c), .bool false]) (by rw [HA.out, HB.out]; simp [results, Try.results27, go_sem]) rfl ⟨rfl, Below.refl _ _⟩

theorem Cut_one (s : ByteArray) (c : UInt8) (w : World) (hs : s.size ≤ 9223372036854775807) :
    Calls Try.prog 20 #[.string s, .string ⟨#[c]⟩] w fun e w' => e = .returned (.tuple #[.string (cutA s c), .string (cutB s c), .bool (decide (0 ≤ Lib.indexByte s.data.toList c))]) ∧ Below w.heap.size w w' := by
  have H : Hid (∀ W, Calls Try.prog 27 #[.string s, .string ⟨#[c]⟩] W fun e w' => e = .returned (.tuple #[.string (cutA s c), .string (cutB s c), .bool (decide (0 ≤ Lib.indexByte s.data.toList c))]) ∧ Below W.heap.size W w') := fun W => LiteCut_one s c W hs
  revert H
  generalize decide (0 ≤ Lib.indexByte s.data.toList c) = t
  generalize cutA s c = x
  generalize cutB s c = y
  intro H
  go_enter Try.func20, Try.ntmps20
  go_wp2_with (go_at_call 27; refine (H.out _).mono ?_; rintro e w' ⟨rfl, hb⟩)
  exact bodyPost_ret (v := .tuple #[.string x, .string y, .bool t]) (by simp [results, Try.results20, go_sem]) rfl ⟨rfl, hb⟩

end Go.Proofs.Ytjdafnaopemigaa
