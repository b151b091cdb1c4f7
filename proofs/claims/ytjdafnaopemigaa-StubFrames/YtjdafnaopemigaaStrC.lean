/- Contract of strings.IndexAny and ContainsAny, looking for some bytes below 128 in whatever string. -/
import Derived.Test.YtjdafnaopemigaaStrB
namespace Go.Proofs.Ytjdafnaopemigaa
open Go.RowKit
set_option maxRecDepth 1000000
set_option linter.unusedVariables false

theorem Use_any (n : Int) (w : World) : Calls Try.prog 29 #[.int .i64 n] w fun e w' => e = .returned (.bool (decide (8 < n))) ∧ w' = w := by
  by_cases h : 8 < n
  all_goals
    go_enter Try.func29, Try.ntmps29
    go_wp2
    go_ret
    simp [h]

/-- Whatever rune: is it one of these bytes, all below 128? -/
theorem IndexRune_all (s : ByteArray) (r : Int) (w : World) (hs : Ascii s.data.toList) (h8 : s.size < 1000) (h0 : 0 ≤ r) (h1 : r ≤ 2147483647) :
    Calls Try.prog 28 #[.string s, .int .i32 r] w fun e w' => e = .returned (.int .i64 (if r < 128 then Lib.indexByte s.data.toList r.toNat.toUInt8 else -1)) ∧ Below w.heap.size w w' := by
  by_cases h : r < 128
  · exact (IndexRune_low s r w h0 h).mono fun e w' ⟨he, hw⟩ => ⟨by rw [he, if_pos h], hw ▸ Below.refl _ _⟩
  · by_cases he : r = 65533
    · subst he
      exact (IndexRune_err s w hs h8).mono fun e w' ⟨he, hw⟩ => ⟨by rw [he]; rfl, hw⟩
    · exact (IndexRune_high s r w hs h8 (by omega) h1 he).mono fun e w' ⟨he, hw⟩ => ⟨by rw [he, if_neg h], hw⟩

theorem NoAny.span {s : ByteArray} {chars : List UInt8} {i : Nat} (hc : Ascii chars) (h : Lib.NoAny s.data.toList chars i) (hi : i < s.size) (ha : 128 ≤ (s[i]'hi).toNat) : Lib.NoAny s.data.toList chars (i + (Utf8.decode s i).2) := by
  intro j b hj hb
  by_cases hji : j < i
  · exact h j b hji hb
  · have := (decode_span s i hi ha).2 (j - i) (by omega) b (by rw [show i + (j - i) = j by omega]; exact hb)
    cases hq : chars.contains b
    · rfl
    · have hm := List.contains_iff_mem.1 hq
      obtain ⟨k, hk⟩ := List.mem_iff_getElem?.1 hm
      have := hc k b hk
      omega

set_option maxHeartbeats 4000000 in
/-- At most eight bytes. -/
theorem IndexAny_short (s chars : ByteArray) (w : World) (h2 : 2 ≤ chars.size) (hcs : chars.size < 1000) (h8 : s.size ≤ 8) (hac : Ascii chars.data.toList) :
    Calls Try.prog 24 #[.string s, .string chars] w fun e w' => e = .returned (.int .i64 (Lib.indexAny s.data.toList chars.data.toList)) ∧ Below w.heap.size w w' := by
  have HA : Hid (Ascii chars.data.toList) := hac
  clear hac
  have hemp : chars.toList.isEmpty = false := by
    rw [Lib.toList_data]
    cases h : chars.data.toList with
    | nil => have := Lib.size_eq chars; rw [h, List.length_nil] at this; omega
    | cons _ _ => rfl
  have hn1 : ((chars.size : Int) == 1) = false := beq_eq_false_iff_ne.2 (by omega)
  have h8z : decide ((8 : Int) < (s.size : Int)) = false := decide_eq_false (by omega)
  go_enter Try.func24, Try.ntmps24
  go_wp2_with (go_at_call 29; refine (Use_any _ _).mono ?_; rintro e w' ⟨rfl, hw⟩; rw [hw, h8z])
  go_loopg [9, 10] s.size (fun g _ _ wx => ∃ i : Nat, i + g ≥ s.size ∧ i ≤ s.size ∧ Hid (wx.heap[w.heap.size]? = some (.stringIter s i) ∧ Below w.heap.size w wx) ∧ Hid (Lib.NoAny s.data.toList chars.data.toList i))
  case atStart => exact ⟨0, by omega, by omega, ⟨World.iter_heap _ _ _, below_alloc _ _⟩, Lib.NoAny.zero _ _⟩
  case round =>
    obtain ⟨i, hig, his, HW, HN⟩ := hrel
    by_cases hi : i < s.size
    · obtain ⟨g, rfl⟩ : ∃ g, gk = g + 1 := ⟨gk - 1, by omega⟩
      have HI : Hid (∀ p, (wr.iterAt w.heap.size s p).heap[w.heap.size]? = some (.stringIter s p) ∧ Below w.heap.size w (wr.iterAt w.heap.size s p)) := fun p => ⟨Lib.iterAt_heap _ _ _ _ _ HW.out.1, Lib.below_iterAt HW.out.2 (Nat.le_refl _) _ _⟩
      by_cases ha : (s[i]'hi).toNat < 128
      · have hnx := fun ty => Lib.run_next_ascii_at (P := Try.prog) wr w.heap.size s i ty HW.out.1 hi ha
        obtain ⟨x, hx⟩ : ∃ x : UInt8, s[i]'hi = x := ⟨_, rfl⟩
        rw [hx] at hnx ha
        have Hx : Hid (s.data.toList[i]? = some x) := by rw [← hx]; exact Lib.data_getElem? s i hi
        clear hx HW
        have hcon := Lib.contains_iff_indexByte chars.data.toList x
        obtain ⟨N, hN⟩ : ∃ N, Lib.indexByte chars.data.toList x = N := ⟨_, rfl⟩
        rw [hN] at hcon
        have HR : Hid (∀ W, Calls Try.prog 28 #[.string chars, .int .i32 (x.toNat : Int)] W fun e w' => e = .returned (.int .i64 N) ∧ Below W.heap.size W w') := fun W =>
          (IndexRune_all chars _ W HA.out hcs (by omega) (by omega)).mono fun e w' ⟨he, hw⟩ => ⟨by rw [he, if_pos (by omega), show ((x.toNat : Int)).toNat.toUInt8 = x by simp, hN], hw⟩
        clear hN
        have HC : Hid (chars.data.toList.contains x = decide (0 ≤ N)) := hcon
        clear hcon
        by_cases h0 : 0 ≤ N
        · go_wp2_with (go_at_call 28; refine (HR.out _).mono ?_; rintro e w2 ⟨rfl, hb2⟩)
          go_ret
          exact ⟨by rw [Lib.indexAny_hit HN.out Hx.out (by rw [HC.out]; simp [h0])]; rfl, (HI.out _).2.trans (hb2.mono (HI.out _).2.size)⟩
        · go_wp2_with (go_at_call 28; refine (HR.out _).mono ?_; rintro e w2 ⟨rfl, hb2⟩)
          go_roundg g
          case measure => omega
          case rel => exact ⟨i + 1, by omega, by omega, ⟨(hb2.block _ (lt_of_block (HI.out _).1)).trans (HI.out _).1, (HI.out _).2.trans (hb2.mono (HI.out _).2.size)⟩, HN.out.succ Hx.out (by rw [HC.out]; simp [h0])⟩
      · have hnx := fun ty => Lib.run_next_any_at (P := Try.prog) wr w.heap.size s i ty HW.out.1 hi
        have hdl := Lib.decode_width_pos s i hi
        have hds := (decode_span s i hi (by omega)).1
        have hdh := (decode_high s i hi (by omega)).1
        have hdm := decode_le s i
        have HN' : Hid (Lib.NoAny s.data.toList chars.data.toList (i + (Utf8.decode s i).2)) := NoAny.span HA.out HN.out hi (by omega)
        clear HW HN ha
        revert hnx hdl hds hdh hdm HN'
        generalize (Utf8.decode s i).1 = r
        generalize (Utf8.decode s i).2 = d
        intro hnx hdl hds hdh hdm HN'
        have HR : Hid (∀ W, Calls Try.prog 28 #[.string chars, .int .i32 (r : Int)] W fun e w' => e = .returned (.int .i64 (-1)) ∧ Below W.heap.size W w') := fun W =>
          (IndexRune_all chars _ W HA.out hcs (by omega) (by omega)).mono fun e w' ⟨he, hw⟩ => ⟨by rw [he, if_neg (by omega)], hw⟩
        go_wp2_with (go_at_call 28; refine (HR.out _).mono ?_; rintro e w2 ⟨rfl, hb2⟩)
        go_roundg g
        case measure => omega
        case rel => exact ⟨i + d, by omega, by omega, ⟨(hb2.block _ (lt_of_block (HI.out _).1)).trans (HI.out _).1, (HI.out _).2.trans (hb2.mono (HI.out _).2.size)⟩, HN'.out⟩
    · obtain rfl : i = s.size := by omega
      have hnx := fun ty => Lib.run_next_end_at (P := Try.prog) wr w.heap.size s s.size ty HW.out.1 hi
      go_wp2
      go_ret
      exact ⟨by rw [Lib.indexAny_none (by rw [← Lib.size_eq]; exact HN.out)]; rfl, HW.out.2⟩

end Go.Proofs.Ytjdafnaopemigaa
