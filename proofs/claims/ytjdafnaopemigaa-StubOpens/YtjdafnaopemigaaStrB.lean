/- Contracts of strings.IndexRune, IndexAny, ContainsAny, looking for bytes below 128 in whatever string. -/
import Derived.Test.YtjdafnaopemigaaStrA
import Derived.Test.YtjdafnaopemigaaBase
import Derived.Test.YtjdafnaopemigaaNum
namespace Go.Proofs.Ytjdafnaopemigaa
open Go.RowKit
set_option maxRecDepth 100000
set_option linter.unusedVariables false

/-- All bytes of this rune are 128 or more. -/
theorem encode_high (r : Int) (h : 128 ≤ r) : ∀ b ∈ (Utf8.encode r).data.toList, 128 ≤ b.toNat := by
  unfold Utf8.encode
  intro b hb
  revert hb
  split
  · rename_i hv
    have hv' : r ≤ 1114111 := by simp [Utf8.valid] at hv; omega
    have hc : ¬ r.toNat < 128 := by omega
    simp only [hc, if_false]
    repeat' split
    all_goals
      intro hb
      simp at hb
      rcases hb with rfl | rfl | rfl | rfl <;> simp <;> omega
  · simp only [Utf8.runeError]
    intro hb
    simp at hb
    rcases hb with rfl | rfl | rfl <;> simp

theorem encode_four (r : Int) : (Utf8.encode r).size ≤ 4 := by
  unfold Utf8.encode
  dsimp only
  repeat' split
  all_goals first | exact (show 1 ≤ 4 by decide) | exact (show 2 ≤ 4 by decide) | exact (show 3 ≤ 4 by decide) | exact (show 4 ≤ 4 by decide)

theorem encode_two (r : Int) (h : 128 ≤ r) : 2 ≤ (Utf8.encode r).size := by
  unfold Utf8.encode
  split
  · have hc : ¬ r.toNat < 128 := by omega
    simp only [hc, if_false]
    repeat' split
    all_goals simp [ByteArray.size]
  · simp [Utf8.runeError, ByteArray.size]


set_option maxHeartbeats 1000000 in
theorem IndexRune_err (s : ByteArray) (w : World) (hs : Ascii s.data.toList) (h8 : s.size < 1000) :
    Calls Try.prog 28 #[.string s, .int .i32 65533] w fun e w' => e = .returned (.int .i64 (-1)) ∧ Below w.heap.size w w' := by
  have HS : Hid (Ascii s.data.toList) := hs
  clear hs
  go_enter Try.func28, Try.ntmps28
  go_wp2
  go_loopg [5, 6] s.size (fun g _ _ wx => ∃ i : Nat, i + g = s.size ∧ wx = w.iter s i)
  case atStart => exact ⟨0, by omega, rfl⟩
  case round =>
    obtain ⟨i, hig, rfl⟩ := hrel
    cases gk with
    | zero =>
      obtain rfl : i = s.size := by omega
      have hnx := run_next_end (P := Try.prog) w s s.size
      go_wp2
      go_ret
      exact ⟨rfl, below_alloc _ _⟩
    | succ g =>
      have hi : i < s.size := by omega
      obtain ⟨x, hx⟩ : ∃ x : UInt8, s[i]'hi = x := ⟨_, rfl⟩
      have hxl : s.data.toList[i]? = some x := by rw [← hx]; exact Lib.data_getElem? s i hi
      have hx128 : x.toNat < 128 := HS.out i x hxl
      have hnx := fun ty => run_next_ascii (P := Try.prog) w s i ty hi (by rw [hx]; exact hx128)
      rw [hx] at hnx
      have hne : ¬ ((x.toNat : Int) = 65533) := by omega
      go_wp2
      go_roundg g
      case measure => omega
      case rel => exact ⟨i + 1, by omega, rfl⟩

theorem below_drewS {B : Nat} {a w : World} (h : Below B a w) (n : Nat) : Below B a (w.drewN n) := ⟨h.os, h.tape, h.output, h.size, h.block⟩

theorem Ascii.extract {s : ByteArray} (h : Ascii s.data.toList) (a b : Nat) : Ascii (s.extract a b).data.toList := by
  intro j x hx
  rw [ByteArray.data_extract, Array.toList_extract, List.extract_eq_take_drop, List.getElem?_take] at hx
  split at hx
  · rw [List.getElem?_drop] at hx
    exact h _ _ hx
  · cases hx

theorem IndexByte_none (s : ByteArray) (y : UInt8) (w : World) (hs : Ascii s.data.toList) (hy : 128 ≤ y.toNat) :
    Calls Try.prog 34 #[.string s, .int .u8 y.toNat] w fun e w' => e = .returned (.int .i64 (-1)) ∧ w' = w :=
  (StrIndexByte_any s _ w).mono fun e w' ⟨he, hw⟩ => ⟨by rw [he, show ((y.toNat : Int)).toNat.toUInt8 = y by simp, indexByte_no (hs.ne hy)], hw⟩

set_option maxHeartbeats 2000000 in
theorem IndexRune_high (s : ByteArray) (r : Int) (w : World) (hs : Ascii s.data.toList) (h8 : s.size < 1000) (h1 : 128 ≤ r) (h2 : r ≤ 2147483647) (hne : r ≠ 65533) :
    Calls Try.prog 28 #[.string s, .int .i32 r] w fun e w' => e = .returned (.int .i64 (-1)) ∧ Below w.heap.size w w' := by
  have hr0 : 0 ≤ r := by omega
  have hr1 : ¬ r < 128 := by omega
  cases hv : Utf8.valid r
  · go_enter Try.func28, Try.ntmps28
    go_wp2_with (go_at_call 35; refine (ValidRune_any _ _).mono ?_; rintro e w' ⟨rfl, rfl⟩; rw [hv])
    go_ret
    exact ⟨rfl, Below.refl _ _⟩
  · have H1 := encode_two r h1
    have H4 := encode_four r
    have HE : Hid (∀ b ∈ (Utf8.encode r).data.toList, 128 ≤ b.toNat) := encode_high r h1
    obtain ⟨rs, hrs⟩ : ∃ rs, Utf8.encode r = rs := ⟨_, rfl⟩
    rw [hrs] at H1 H4 HE
    have HS : Hid (Ascii s.data.toList) := hs
    clear hs
    obtain ⟨n, hn⟩ : ∃ n, rs.size = n + 1 := ⟨rs.size - 1, by omega⟩
    have hnz : ((rs.size : Int) - 1) = (n : Int) := by omega
    by_cases hlt : n < s.size
    · go_enter Try.func28, Try.ntmps28
      go_wp2_with (go_at_call 35; refine (ValidRune_any _ _).mono ?_; rintro e w' ⟨rfl, hw'⟩; rw [hw', hv]; clear hw' w')
      go_step3
      go_wp2
      go_loopg [9, 10, 11, 12] 0 (fun g a b c d wx => a = .int .i64 (n : Int) ∧ wx = w)
      case atStart => exact ⟨by simp, rfl⟩
      case round =>
        obtain ⟨rfl, rfl⟩ := hrel
        go_wp2
        go_step3
        obtain ⟨x, hx⟩ : ∃ x : UInt8, s[n]'hlt = x := ⟨_, rfl⟩
        obtain ⟨y, hy⟩ : ∃ y : UInt8, rs[n]'(by omega) = y := ⟨_, rfl⟩
        have hx128 : x.toNat < 128 := HS.out n x (by rw [← hx]; exact Lib.data_getElem? s n hlt)
        have hy128 : 128 ≤ y.toNat := HE.out y (List.mem_of_getElem? (by rw [← hy]; exact Lib.data_getElem? rs n (by omega)))
        have hxy : ¬ ((x.toNat : Int) = (y.toNat : Int)) := by omega
        have hnr : n < rs.size := by omega
        go_wp2
        go_quiet (skip)
        go_wp2
        have hext : (n : Int) + 1 ≤ (s.size : Int) := by omega
        go_quiet ((go_at_call 34; exact quiet_same2 (IndexByte_none _ _ _ (HS.out.extract _ _) hy128)))
        go_wp2
        simp only [Exit.noGoto, Exit.inBlock, Exit.then]
        go_ret
        exact ⟨rfl, below_drewS (Below.refl _ _) _⟩
    · go_enter Try.func28, Try.ntmps28
      go_wp2_with (go_at_call 35; refine (ValidRune_any _ _).mono ?_; rintro e w' ⟨rfl, hw'⟩; rw [hw', hv]; clear hw' w')
      go_step3
      go_wp2
      go_loopg [9, 10, 11, 12] 0 (fun g a b c d wx => a = .int .i64 (n : Int) ∧ wx = w)
      case atStart => exact ⟨by simp, rfl⟩
      case round =>
        obtain ⟨rfl, rfl⟩ := hrel
        go_wp2
        simp only [Exit.noGoto, Exit.inBlock]
        go_ret
        exact ⟨rfl, Below.refl _ _⟩

end Go.Proofs.Ytjdafnaopemigaa
