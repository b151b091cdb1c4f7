/- Contracts of what the library finds in a string: a byte, a rune, whichever of some bytes that are below 128. -/
import Derived.WalkKit
import Derived.WalkSmall
import Derived.Deep.Draws
import Derived.Deep.RegionHeld3
import Derived.Deep.RegionLaw
import Derived.Deep.LoopGhost
import Derived.Deep.WholeRow
import Derived.Lib.Walk
import Derived.Lib.Strings
import Derived.Lib.Bytealg
import Derived.Lib.IndexAny
import Derived.Lib.RuneCount
import Derived.Lib.OthersKept
import Derived.Laws.RangeAny
import Derived.Deep.QuietTactic
import Derived.BigQuiet
import Derived.Test.YtjdafnaopemigaaProg
namespace Go.Proofs.Ytjdafnaopemigaa
open Go.RowKit
set_option maxRecDepth 100000
set_option linter.unusedVariables false

theorem LiteIndexByte_any (s : ByteArray) (c : Int) (w : World) :
    Calls Try.prog 38 #[.string s, .int .u8 c] w fun e w' => e = .returned (.int .i64 (Lib.indexByte s.data.toList c.toNat.toUInt8)) ∧ w' = w := by
  go_enter Try.func38, Try.ntmps38
  go_wp2
  rw [run_callFunc_extern Try.func40 (by kernel_rfl) (by kernel_rfl) (by kernel_rfl) (e := Extern.BytealgIndexByte.indexByte) (by kernel_rfl), Lib.run_indexByteString]
  simp only [Result.andThen]
  rw [Oper.upon_value]
  go_wp2
  go_ret
  exact ⟨rfl, rfl⟩

theorem StrIndexByte_any (s : ByteArray) (c : Int) (w : World) :
    Calls Try.prog 34 #[.string s, .int .u8 c] w fun e w' => e = .returned (.int .i64 (Lib.indexByte s.data.toList c.toNat.toUInt8)) ∧ w' = w := by
  go_enter Try.func34, Try.ntmps34
  go_wp2_with (go_at_call 38; refine (LiteIndexByte_any _ _ _).mono ?_; rintro e w' ⟨rfl, rfl⟩)
  go_ret
  exact ⟨rfl, rfl⟩

theorem IndexRune_low (s : ByteArray) (r : Int) (w : World) (h0 : 0 ≤ r) (h1 : r < 128) :
    Calls Try.prog 28 #[.string s, .int .i32 r] w fun e w' => e = .returned (.int .i64 (Lib.indexByte s.data.toList r.toNat.toUInt8)) ∧ w' = w := by
  have hr : IntKind.u8.wrap r = r := by simp [IntKind.wrap, IntKind.bits, IntKind.signed]; omega
  go_enter Try.func28, Try.ntmps28
  go_wp2_with (go_at_call 34; refine (StrIndexByte_any _ _ _).mono ?_; rintro e w' ⟨rfl, rfl⟩)
  go_ret
  exact ⟨rfl, rfl⟩

theorem ValidRune_any (r : Int) (w : World) : Calls Try.prog 35 #[.int .i32 r] w fun e w' => e = .returned (.bool (Utf8.valid r)) ∧ w' = w := by
  by_cases h1 : 0 ≤ r <;> by_cases h2 : r < 55296 <;> by_cases h3 : 57343 < r <;> by_cases h4 : r ≤ 1114111
  all_goals first | (exfalso; omega) | skip
  all_goals
    go_enter Try.func35, Try.ntmps35
    go_wp2
    go_ret
    exact ⟨by simp [Utf8.valid]; omega, rfl⟩

/-- All bytes are below 128. -/
def Ascii (l : List UInt8) : Prop := ∀ (j : Nat) b, l[j]? = some b → b.toNat < 128

theorem indexByte_no : ∀ {l : List UInt8} {c : UInt8}, (∀ b ∈ l, b ≠ c) → Lib.indexByte l c = -1
  | [], _, _ => rfl
  | b :: l, c, h => by
    have hb : (b == c) = false := by simpa using h b (List.mem_cons_self ..)
    rw [Lib.indexByte, hb, indexByte_no (fun x hx => h x (List.mem_cons_of_mem _ hx))]
    rfl

theorem Ascii.ne {l : List UInt8} (h : Ascii l) {c : UInt8} (hc : 128 ≤ c.toNat) : ∀ b ∈ l, b ≠ c := by
  intro b hb e
  obtain ⟨j, hj⟩ := List.mem_iff_getElem?.1 hb
  have := h j b hj
  subst e
  omega

/-- What a rune of 128 or more takes of a string: bytes of 128 or more. -/
theorem decode_span (s : ByteArray) (pos : Nat) (h : pos < s.size) (ha : 128 ≤ (s[pos]'h).toNat) :
    pos + (Utf8.decode s pos).2 ≤ s.size ∧ ∀ k, k < (Utf8.decode s pos).2 → ∀ b, s.data.toList[pos + k]? = some b → 128 ≤ b.toNat := by
  have hn : ¬ (s[pos]'h).toNat < 128 := by omega
  have hat : ∀ k (hk : k < s.size), s.data.toList[k]? = some (s[k]'hk) := fun k hk => Lib.data_getElem? s k hk
  have hget : ∀ k (hk : k < s.size), s.get! k = s[k]'hk := fun k hk => by simpa using get_at s k hk
  have z : ∀ b, s.data.toList[pos + 0]? = some b → 128 ≤ b.toNat := by
    intro b hb
    rw [Nat.add_zero, hat pos h] at hb
    cases hb
    exact ha
  have c : ∀ k, pos + k < s.size → (s.get! (pos + k)).toNat / 64 = 2 → ∀ b, s.data.toList[pos + k]? = some b → 128 ≤ b.toNat := by
    intro k hk h2 b hb
    rw [hat _ hk] at hb
    rw [hget _ hk] at h2
    cases hb
    omega
  have one : pos + 1 ≤ s.size ∧ ∀ k, k < 1 → ∀ b, s.data.toList[pos + k]? = some b → 128 ≤ b.toNat := ⟨by omega, fun k hk => (show k = 0 by omega) ▸ z⟩
  simp only [Utf8.decode, get_at s pos h, hn, if_false]
  split
  · rename_i e
    simp only [Bool.and_eq_true, decide_eq_true_eq, beq_iff_eq] at e
    split
    · refine ⟨by simp; omega, fun k hk => ?_⟩
      have hk' : k < 2 := hk
      rcases (by omega : k = 0 ∨ k = 1) with rfl | rfl
      · exact z
      · exact c 1 e.2.1 e.2.2
    · exact one
  · split
    · rename_i e
      simp only [Bool.and_eq_true, decide_eq_true_eq, beq_iff_eq] at e
      split
      · refine ⟨by simp; omega, fun k hk => ?_⟩
        have hk' : k < 3 := hk
        rcases (by omega : k = 0 ∨ k = 1 ∨ k = 2) with rfl | rfl | rfl
        · exact z
        · exact c 1 e.1.2.1 e.1.2.2
        · exact c 2 e.2.1 e.2.2
      · exact one
    · split
      · rename_i e
        simp only [Bool.and_eq_true, decide_eq_true_eq, beq_iff_eq] at e
        split
        · refine ⟨by simp; omega, fun k hk => ?_⟩
          have hk' : k < 4 := hk
          rcases (by omega : k = 0 ∨ k = 1 ∨ k = 2 ∨ k = 3) with rfl | rfl | rfl | rfl
          · exact z
          · exact c 1 e.1.1.2.1 e.1.1.2.2
          · exact c 2 e.1.2.1 e.1.2.2
          · exact c 3 e.2.1 e.2.2
        · exact one
      · exact one

end Go.Proofs.Ytjdafnaopemigaa
