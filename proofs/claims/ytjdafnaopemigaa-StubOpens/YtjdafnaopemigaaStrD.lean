/- Contract of strings.IndexAny and ContainsAny at whatever string, looking for some bytes below 128. -/
import Derived.Test.YtjdafnaopemigaaStrC
import Derived.Test.YtjdafnaopemigaaStrL
import Derived.Lib.Builder
namespace Go.Proofs.Ytjdafnaopemigaa
open Go.RowKit
set_option maxRecDepth 1000000
set_option linter.unusedVariables false

theorem set_info : (∀ w, (zeroValue 49).run Try.prog w = .ok (.agg (Array.replicate 256 (.bool false))) w) ∧ (Try.prog.info? 49).map (·.size) = some 256 := zero_of_info (by kernel_rfl)

theorem MakeSet_any (chars : ByteArray) (w : World) (hcs : chars.size < 1000) (hac : Ascii chars.data.toList) :
    Calls Try.prog 30 #[.string chars] w fun e w' => e = .returned (.tuple #[.agg (Lib.setCells chars.data.toList), .bool true]) ∧ w' = w.alloc (.cells (Lib.setCells chars.data.toList) 49) :=
  Any.strings_makeASCIISet lays227 set_info.1 set_info.2 chars w (by omega) hac

theorem SetHas_any (b : Nat) (x : UInt8) (v : Bool) (w : World) (hc : w.cell? ⟨b, x.toNat, none⟩ = some (.bool v)) :
    Calls Try.prog 31 #[.pointer (some ⟨b, 0, none⟩), .int .u8 x.toNat] w fun e w' => e = .returned (.bool v) ∧ w' = w := by
  have hx256 : (x.toNat : Int) < 256 := by have := UInt8.toNat_lt x; omega
  go_enter Try.func31, Try.ntmps31
  go_wp2
  go_ret
  exact ⟨rfl, rfl⟩

set_option maxHeartbeats 8000000 in
/-- More than eight bytes. -/
theorem IndexAny_long (s chars : ByteArray) (w : World) (h2 : 2 ≤ chars.size) (hcs : chars.size < 1000) (h8 : 8 < s.size) (hs : s.size ≤ 9223372036854775807) (hac : Ascii chars.data.toList) :
    Calls Try.prog 24 #[.string s, .string chars] w fun e w' => e = .returned (.int .i64 (Lib.indexAny s.data.toList chars.data.toList)) ∧ Below w.heap.size w w' := by
  have hM := MakeSet_any chars w hcs hac
  clear hac
  have hemp : chars.toList.isEmpty = false := by
    rw [Lib.toList_data]
    cases h : chars.data.toList with
    | nil => have := Lib.size_eq chars; rw [h, List.length_nil] at this; omega
    | cons _ _ => rfl
  have hn1 : ((chars.size : Int) == 1) = false := beq_eq_false_iff_ne.2 (by omega)
  have h8z : decide ((8 : Int) < (s.size : Int)) = true := decide_eq_true (by omega)
  obtain ⟨C, hC⟩ : ∃ C, C = Lib.setCells chars.data.toList := ⟨_, rfl⟩
  have hsz : C.size = 256 := by rw [hC]; exact Lib.setCells_size _
  have HC : Hid (∀ x : UInt8, ((w.alloc (.cells C 49)).alloc (.cells C 49)).cell? ⟨w.heap.size + 1, x.toNat, none⟩ = some (.bool (chars.data.toList.contains x))) := fun x => by
    rw [World.cell?_alloc_at _ _ _ _ (by simp), hC, Lib.setCells_at]
  have hsc : (storeCells ⟨w.heap.size + 1, 0, none⟩ C.toList 0).run Try.prog ((w.alloc (.cells C 49)).alloc (.cells (Array.replicate 256 (.bool false)) 49)) = .ok () ((w.alloc (.cells C 49)).alloc (.cells C 49)) := by
    have := run_storeCells_new (P := Try.prog) (w.alloc (.cells C 49)) 49 (Array.replicate 256 (.bool false)) C (by rw [hsz]; kernel_rfl) (by rw [hsz, Array.size_replicate]) (by rw [hC]; exact Lib.setCells_one _)
    simpa using this
  rw [← hC] at hM
  clear hC
  have hv := set_info.1
  go_enter Try.func24, Try.ntmps24
  go_wp2_with (first
    | (go_at_call 29; refine (Use_any _ _).mono ?_; rintro e w' ⟨rfl, hw⟩; rw [hw, h8z])
    | (go_at_call 30; refine hM.mono ?_; rintro e w' ⟨rfl, hw⟩; rw [hw]))
  clear hM hsc
  go_loopg [8] s.size (fun g s8 wx => ∃ i : Nat, i + g = s.size ∧ s8 = .int .i64 i ∧ wx = ((w.alloc (.cells C 49)).alloc (.cells C 49)) ∧ Hid (Lib.NoAny s.data.toList chars.data.toList i))
  case atStart => exact ⟨0, by omega, rfl, rfl, Lib.NoAny.zero _ _⟩
  case round =>
    obtain ⟨i, hig, rfl, rfl, HN⟩ := hrel
    cases gk with
    | zero =>
      obtain rfl : i = s.size := by omega
      have hiz : ¬ ((s.size : Int) < (s.size : Int)) := by omega
      go_wp2
      go_ret
      exact ⟨by rw [Lib.indexAny_none (by rw [← Lib.size_eq]; exact HN.out)]; rfl, ((Below.refl _ _).alloc (Nat.le_refl _) _).alloc (by simp) _⟩
    | succ g =>
      have hi : i < s.size := by omega
      have hiz : (i : Int) < (s.size : Int) := by omega
      obtain ⟨x, hx⟩ : ∃ x : UInt8, s[i]'hi = x := ⟨_, rfl⟩
      have Hx : Hid (s.data.toList[i]? = some x) := by rw [← hx]; exact Lib.data_getElem? s i hi
      have hcx := HC.out x
      cases hin : chars.data.toList.contains x <;> rw [hin] at hcx
      · go_wp2_with (go_at_call 31; refine (SetHas_any _ x _ _ hcx).mono ?_; rintro e w' ⟨rfl, hw⟩; rw [hw])
        go_roundg g
        case measure => omega
        case rel => exact ⟨i + 1, by omega, by first | rfl | simp, rfl, HN.out.succ Hx.out hin⟩
      · go_wp2_with (go_at_call 31; refine (SetHas_any _ x _ _ hcx).mono ?_; rintro e w' ⟨rfl, hw⟩; rw [hw])
        go_ret
        exact ⟨by rw [Lib.indexAny_hit HN.out Hx.out hin]; rfl, ((Below.refl _ _).alloc (Nat.le_refl _) _).alloc (by simp) _⟩

/-- Whatever string: the place of the first byte that is one of these, all below 128. -/
theorem IndexAny_any (s chars : ByteArray) (w : World) (h2 : 2 ≤ chars.size) (hcs : chars.size < 1000) (hs : s.size ≤ 9223372036854775807) (hac : Ascii chars.data.toList) :
    Calls Try.prog 24 #[.string s, .string chars] w fun e w' => e = .returned (.int .i64 (Lib.indexAny s.data.toList chars.data.toList)) ∧ Below w.heap.size w w' := by
  by_cases h8 : s.size ≤ 8
  · exact IndexAny_short s chars w h2 hcs h8 hac
  · exact IndexAny_long s chars w h2 hcs (by omega) hs hac

theorem ContainsAny_any (s chars : ByteArray) (w : World) (h2 : 2 ≤ chars.size) (hcs : chars.size < 1000) (hs : s.size ≤ 9223372036854775807) (hac : Ascii chars.data.toList) :
    Calls Try.prog 13 #[.string s, .string chars] w fun e w' => e = .returned (.bool (Lib.containsAny s.data.toList chars.data.toList)) ∧ Below w.heap.size w w' := by
  go_enter Try.func13, Try.ntmps13
  go_wp2_with (go_at_call 24; refine (IndexAny_any s chars _ h2 hcs hs hac).mono ?_; rintro e w' ⟨rfl, hw⟩)
  go_ret
  exact ⟨rfl, hw⟩

end Go.Proofs.Ytjdafnaopemigaa
