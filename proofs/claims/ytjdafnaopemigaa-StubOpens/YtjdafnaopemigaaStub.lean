/- Contracts of package stub's packets, and of the document's: marks, digits. -/
import Derived.Test.YtjdafnaopemigaaStrD
import Derived.Laws.IdiomStrings
import Derived.Deep.RegionWith
namespace Go.Proofs.Ytjdafnaopemigaa
open Go.RowKit
set_option maxRecDepth 100000
set_option linter.unusedVariables false

/-- Has a text a $ or a #? -/
def marksB (s : ByteArray) : Bool := Lib.containsAny s.data.toList [36, 35]

theorem marks_ascii : Ascii (ByteArray.mk #[36, 35]).data.toList := by
  intro j b h
  have : b ∈ [(36 : UInt8), 35] := List.mem_of_getElem? h
  simp at this
  rcases this with rfl | rfl <;> decide

theorem ret_str {a b : ByteArray} (h : a = b) : Ending.returned (.string a) = .returned (.string b) := by rw [h]

theorem HasMarks_any (s : ByteArray) (w : World) (hs : s.size ≤ 9223372036854775807) :
    Calls Try.prog 15 #[.string s] w fun e w' => e = .returned (.bool (marksB s)) ∧ Below w.heap.size w w' := by
  go_enter Try.func15, Try.ntmps15
  go_wp2_with (go_at_call 13; refine (ContainsAny_any s _ _ (by decide) (by decide) hs marks_ascii).mono ?_; rintro e w' ⟨rfl, hw⟩)
  go_ret
  exact ⟨rfl, hw⟩

theorem u8_36 {x : UInt8} (h : x ≠ 36) : ((x.toNat : Int) == 36) = false := by
  refine beq_eq_false_iff_ne.2 fun e => ?_
  apply h
  apply UInt8.toNat_inj.1
  have : x.toNat = 36 := by omega
  simpa using this
theorem u8_35 {x : UInt8} (h : x ≠ 35) : ((x.toNat : Int) == 35) = false := by
  refine beq_eq_false_iff_ne.2 fun e => ?_
  apply h
  apply UInt8.toNat_inj.1
  have : x.toNat = 35 := by omega
  simpa using this

theorem HasMark_any (s : ByteArray) (w : World) (hs : s.size ≤ 9223372036854775807) :
    Calls Try.prog 17 #[.string s] w fun e w' => e = .returned (.bool (marksB s)) ∧ w' = w := by
  go_enter Try.func17, Try.ntmps17
  go_wp2
  go_loop [3] (fun i => ∃ k : Nat, k ≤ s.size ∧ i = .int .i64 k ∧ Hid (Lib.NoAny s.data.toList [36, 35] k)) (fun i => s.size - (intOf i).toNat)
  case atStart => exact ⟨0, by omega, rfl, Lib.NoAny.zero _ _⟩
  case round =>
    obtain ⟨k, hk, rfl, HN⟩ := hrel
    by_cases hlt : k < s.size
    · obtain ⟨x, hx⟩ : ∃ x : UInt8, s[k]'hlt = x := ⟨_, rfl⟩
      have Hx : Hid (s.data.toList[k]? = some x) := by rw [← hx]; exact Lib.data_getElem? s k hlt
      by_cases h1 : x = 36
      · subst h1
        go_wp2
        go_ret
        exact ⟨by rw [marksB, Lib.containsAny, Lib.indexAny_hit HN.out Hx.out (by decide)]; simp, rfl⟩
      · have h1' := u8_36 h1
        by_cases h2 : x = 35
        · subst h2
          go_wp2
          go_ret
          exact ⟨by rw [marksB, Lib.containsAny, Lib.indexAny_hit HN.out Hx.out (by decide)]; simp, rfl⟩
        · have h2' := u8_35 h2
          go_wp2
          go_round
          case rel => exact ⟨k + 1, by omega, by go_num, HN.out.succ Hx.out (by simp [h1, h2])⟩
          case measure => simp [intOf]; omega
    · obtain rfl : k = s.size := by omega
      go_wp2
      go_ret
      exact ⟨by rw [marksB, Lib.containsAny, Lib.indexAny_none (by rw [← Lib.size_eq]; exact HN.out)]; rfl, rfl⟩

/-- The sum of the bytes. -/
def sumB (l : List UInt8) : Nat := (l.map (·.toNat)).sum
/-- A digit to the base 16. -/
def hexU (n : Nat) : UInt8 := if n < 10 then UInt8.ofNat (48 + n) else UInt8.ofNat (87 + n)
/-- The last eight bits of the sum, as two digits. -/
def twoL (s : ByteArray) : ByteArray := ⟨#[hexU (sumB s.data.toList % 256 / 16), hexU (sumB s.data.toList % 256 % 16)]⟩

theorem sumB_take (s : ByteArray) (k : Nat) (h : k < s.size) : sumB (s.data.toList.take (k + 1)) = sumB (s.data.toList.take k) + (s[k]'h).toNat := by
  rw [List.take_add_one, Lib.data_getElem? s k h]
  simp [sumB]

theorem Hex_any (n : Nat) (hn : n < 16) (w : World) : Calls Try.prog 25 #[.int .i64 n] w fun e w' => e = .returned (.int .u8 (hexU n).toNat) ∧ w' = w := by
  rcases (by omega : n = 0 ∨ n = 1 ∨ n = 2 ∨ n = 3 ∨ n = 4 ∨ n = 5 ∨ n = 6 ∨ n = 7 ∨ n = 8 ∨ n = 9 ∨ n = 10 ∨ n = 11 ∨ n = 12 ∨ n = 13 ∨ n = 14 ∨ n = 15) with rfl | rfl | rfl | rfl | rfl | rfl | rfl | rfl | rfl | rfl | rfl | rfl | rfl | rfl | rfl | rfl
  all_goals
    go_enter Try.func25, Try.ntmps25
    go_wp2
    go_ret
    exact ⟨by kernel_rfl, rfl⟩

theorem two_back (w : World) (x y : UInt8) :
    (convert 27 9 (.slice (some ⟨w.heap.size, 0, none⟩) 2 2)).run Try.prog (w.alloc (.cells #[.int .u8 x.toNat, .int .u8 y.toNat] 5)) = .ok (.string ⟨#[x, y]⟩) (w.alloc (.cells #[.int .u8 x.toNat, .int .u8 y.toNat] 5)) := by
  refine run_convert_bytes_back (P := Try.prog) _ 27 9 5 ⟨w.heap.size, 0, none⟩ 2 [x, y] Try.underlying27 Try.underlying5 Try.underlying9 (fun j hj => ?_)
  have hj2 : j < 2 := hj
  rcases (by omega : j = 0 ∨ j = 1) with rfl | rfl
  · exact (two_cells (Go.Deep.blk_alloc_new w _)).1
  · exact (two_cells (Go.Deep.blk_alloc_new w _)).2.1

theorem two_drew (w : World) (x y : UInt8) :
    (convert 27 9 (.slice (some ⟨w.heap.size, 0, none⟩) 2 2)).run Try.prog (w.alloc (.cells #[.int .u8 x.toNat, .int .u8 y.toNat] 5)).drew = .ok (.string ⟨#[x, y]⟩) (w.alloc (.cells #[.int .u8 x.toNat, .int .u8 y.toNat] 5)).drew := by
  refine run_convert_bytes_back (P := Try.prog) _ 27 9 5 ⟨w.heap.size, 0, none⟩ 2 [x, y] Try.underlying27 Try.underlying5 Try.underlying9 (fun j hj => ?_)
  have hj2 : j < 2 := hj
  rcases (by omega : j = 0 ∨ j = 1) with rfl | rfl
  · exact (two_cells (Go.Deep.blk_alloc_new w _)).1
  · exact (two_cells (Go.Deep.blk_alloc_new w _)).2.1

set_option maxHeartbeats 2000000 in
theorem TwoHex_any (s : ByteArray) (w : World) (hs : s.size ≤ 9223372036854775807) :
    Calls Try.prog 18 #[.string s] w fun e w' => e = .returned (.string (twoL s)) ∧ Below w.heap.size w w' := by
  go_enter Try.func18, Try.ntmps18
  go_wp2
  go_loop [3, 4] (fun n i => ∃ k : Nat, k ≤ s.size ∧ i = .int .i64 k ∧ n = .int .i64 ((sumB (s.data.toList.take k) % 256 : Nat) : Int)) (fun _ i => s.size - (intOf i).toNat)
  case atStart => exact ⟨0, by omega, rfl, by simp [sumB]⟩
  case round =>
    obtain ⟨k, hk, rfl, rfl⟩ := hrel
    by_cases hlt : k < s.size
    · have HT : Hid (sumB (s.data.toList.take (k + 1)) = sumB (s.data.toList.take k) + (s[k]'hlt).toNat) := sumB_take s k hlt
      obtain ⟨x, hx⟩ : ∃ x : UInt8, s[k]'hlt = x := ⟨_, rfl⟩
      rw [hx] at HT
      have hx256 : (x.toNat : Int) < 256 := by have := UInt8.toNat_lt x; omega
      obtain ⟨a, ha⟩ : ∃ a, sumB (s.data.toList.take k) = a := ⟨_, rfl⟩
      rw [ha] at HT ⊢
      go_wp2
      go_round
      case rel => exact ⟨k + 1, by omega, by go_num, by rw [HT.out]; congr 1; omega⟩
      case measure => simp [intOf]; omega
    · obtain rfl : k = s.size := by omega
      rw [show s.data.toList.take s.size = s.data.toList from List.take_of_length_le (by rw [← Lib.size_eq]; exact Nat.le_refl _)]
      obtain ⟨a, ha⟩ : ∃ a, sumB s.data.toList % 256 = a := ⟨_, rfl⟩
      have ha256 : a < 256 := by omega
      have HA : Hid (twoL s = ⟨#[hexU (a / 16), hexU (a % 16)]⟩) := by rw [← ha]; rfl
      rw [ha]
      obtain ⟨p, hp⟩ : ∃ p : Nat, a / 16 = p := ⟨_, rfl⟩
      obtain ⟨q, hq⟩ : ∃ q : Nat, a % 16 = q := ⟨_, rfl⟩
      have e1 : ((a : Int)) / 16 = (p : Int) := by omega
      have e2 : ((a : Int)) % 16 = (q : Int) := by omega
      have hp16 : p < 16 := by omega
      have hq16 : q < 16 := by omega
      rw [hp, hq] at HA
      clear hp hq ha
      have hcv := two_back w (hexU p) (hexU q)
      go_wp2_with (first
        | (go_at_call_of 25 (Value.int IntKind.i64 (p : Int)); refine (Hex_any _ (by assumption) _).mono ?_; rintro e w' ⟨rfl, hw⟩; rw [hw]; clear hw w')
        | (go_at_call_of 25 (Value.int IntKind.i64 (q : Int)); refine (Hex_any _ (by assumption) _).mono ?_; rintro e w' ⟨rfl, hw⟩; rw [hw]; clear hw w'))
      go_ret
      exact ⟨ret_str HA.out.symm, below_alloc _ _⟩

set_option maxHeartbeats 2000000 in
theorem SumOf_any (s : ByteArray) (w : World) (hs : s.size ≤ 60000) :
    Calls Try.prog 16 #[.string s] w fun e w' => e = .returned (.string (twoL s)) ∧ Below w.heap.size w w' := by
  have hcv := run_bytes_of_string (P := Try.prog) w 9 27 5 s Try.underlying9 Try.underlying27 Try.underlying5
  obtain ⟨cap, hcap⟩ : ∃ cap, grownCap w s.size 0 5 = cap := ⟨_, rfl⟩
  rw [hcap] at hcv
  obtain ⟨W, hW⟩ : ∃ W, w.drew.alloc (.cells (bytesRow s cap) 5 ((bytesRow s cap).size, (bytesRow s cap).size + 1)) = W := ⟨_, rfl⟩
  have HC : Hid (∀ k (h : k < s.size), W.cell? ⟨w.heap.size, k, none⟩ = some (.int .u8 (s[k]'h).toNat)) := by
    intro k h
    rw [← hW]
    show (w.drew.alloc _).cell? ⟨w.drew.heap.size, k, none⟩ = _
    have hb := Go.Deep.blk_alloc_new w.drew (.cells (bytesRow s cap) 5 ((bytesRow s cap).size, (bytesRow s cap).size + 1))
    simp only [World.cell?, hb]
    rw [bytesRow, Array.getElem?_append_left (by simpa using h)]
    simp
    exact ⟨s[k]'h, Array.getElem?_eq_getElem h, rfl⟩
  have HB : Hid (Below w.heap.size w W) := by rw [← hW]; exact ((Below.refl _ _).drew).alloc (Nat.le_refl _) _
  rw [hW] at hcv
  clear hW hcap
  go_enter Try.func16, Try.ntmps16
  go_wp2
  go_loop [3, 5, 9] (fun n _ i => ∃ k : Nat, k ≤ s.size ∧ i = .int .i64 k ∧ n = .int .u8 ((sumB (s.data.toList.take k) % 256 : Nat) : Int)) (fun _ _ i => s.size - (intOf i).toNat)
  case atStart => exact ⟨0, by omega, rfl, by simp [sumB]⟩
  case round =>
    obtain ⟨k, hk, rfl, rfl⟩ := hrel
    by_cases hlt : k < s.size
    · have HT : Hid (sumB (s.data.toList.take (k + 1)) = sumB (s.data.toList.take k) + (s[k]'hlt).toNat) := sumB_take s k hlt
      have hc := HC.out k hlt
      obtain ⟨x, hx⟩ : ∃ x : UInt8, s[k]'hlt = x := ⟨_, rfl⟩
      rw [hx] at HT hc
      have hx256 : (x.toNat : Int) < 256 := by have := UInt8.toNat_lt x; omega
      obtain ⟨a, ha⟩ : ∃ a, sumB (s.data.toList.take k) = a := ⟨_, rfl⟩
      rw [ha] at HT ⊢
      go_wp2
      go_round
      case rel => exact ⟨k + 1, by omega, by go_num, by rw [HT.out]; congr 1; omega⟩
      case measure => simp [intOf]; omega
    · obtain rfl : k = s.size := by omega
      rw [show s.data.toList.take s.size = s.data.toList from List.take_of_length_le (by rw [← Lib.size_eq]; exact Nat.le_refl _)]
      obtain ⟨a, ha⟩ : ∃ a, sumB s.data.toList % 256 = a := ⟨_, rfl⟩
      have ha256 : a < 256 := by omega
      have HA : Hid (twoL s = ⟨#[hexU (a / 16), hexU (a % 16)]⟩) := by rw [← ha]; rfl
      rw [ha]
      obtain ⟨p, hp⟩ : ∃ p : Nat, a / 16 = p := ⟨_, rfl⟩
      obtain ⟨q, hq⟩ : ∃ q : Nat, a % 16 = q := ⟨_, rfl⟩
      have e1 : ((a : Int)) / 16 = (p : Int) := by omega
      have e2 : ((a : Int)) % 16 = (q : Int) := by omega
      have hp16 : p < 16 := by omega
      have hq16 : q < 16 := by omega
      rw [hp, hq] at HA
      clear hp hq ha
      have hd : ∀ n (h : n < 16), (ByteArray.mk #[48, 49, 50, 51, 52, 53, 54, 55, 56, 57, 97, 98, 99, 100, 101, 102])[n]'h = hexU n := by decide
      have hd1 := hd p hp16
      have hd2 := hd q hq16
      clear hd
      have hcv2 := two_drew W (hexU p) (hexU q)
      have e3 : ((a : Int)).tmod 16 = (q : Int) := by rw [Int.tmod_eq_emod_of_nonneg (by omega)]; exact e2
      have e4 : IntKind.u8.wrap (p : Int) = (p : Int) := by simp [IntKind.wrap, IntKind.bits, IntKind.signed]; omega
      have e5 : (p : Int) < 16 := by omega
      have e6 : (q : Int) < 16 := by omega
      go_wp2
      go_region_law (fail)
      all_goals
        go_wp2_with fail
        go_ret
        exact ⟨ret_str HA.out.symm, HB.out.trans (by first | exact ((below_alloc W _).drew).mono HB.out.size | exact (((Below.refl _ W).drew).alloc (Nat.le_refl _) _).mono HB.out.size)⟩

/-- A text as a packet. -/
def packB (s : ByteArray) : ByteArray := ⟨#[36]⟩ ++ s ++ ⟨#[35]⟩ ++ twoL s
/-- What framing a text is answered. -/
def frameNo (s : ByteArray) : Int := if 60000 < s.size then 1 else if marksB s then 4 else 0
def frameTx (s : ByteArray) : ByteArray := if frameNo s = 0 then packB s else ⟨#[]⟩

theorem twoL_size (s : ByteArray) : (twoL s).size = 2 := rfl
theorem headed_size (s : ByteArray) : (ByteArray.mk #[36] ++ s ++ ByteArray.mk #[35]).size = s.size + 2 := by
  rw [ByteArray.size_append, ByteArray.size_append]
  show 1 + s.size + 1 = s.size + 2
  omega

theorem Frame_any (s : ByteArray) (w : World) (hs : s.size ≤ 9223372036854775807) :
    Calls Try.prog 7 #[.string s] w fun e w' => e = .returned (.tuple #[.string (frameTx s), .int .i64 (frameNo s)]) ∧ Below w.heap.size w w' := by
  by_cases h1 : 60000 < s.size
  · have hz : (60000 : Int) < (s.size : Int) := by omega
    rw [frameTx, frameNo, if_pos h1, if_neg (by decide)]
    go_enter Try.func7, Try.ntmps7
    go_wp2_with fail
    go_ret2
    exact ⟨rfl, Below.refl _ _⟩
  · have hz : ¬ (60000 : Int) < (s.size : Int) := by omega
    cases hm : marksB s
    · have e : frameNo s = 0 := by rw [frameNo, if_neg h1, hm]; rfl
      rw [frameTx, e, if_pos rfl]
      clear e
      go_enter Try.func7, Try.ntmps7
      go_wp2_with fail
      refine (HasMarks_any s _ hs).mono ?_
      rintro e w1 ⟨rfl, hb1⟩
      rw [hm]
      go_wp2_with fail
      refine (SumOf_any s _ (by omega)).mono ?_
      rintro e w2 ⟨rfl, hb2⟩
      have ht := twoL_size s
      have hl := headed_size s
      go_wp2_with fail
      go_ret2
      exact ⟨rfl, hb1.trans (hb2.mono hb1.size)⟩
    · have e : frameNo s = 4 := by rw [frameNo, if_neg h1, hm]; rfl
      rw [frameTx, e, if_neg (by decide)]
      clear e
      go_enter Try.func7, Try.ntmps7
      go_wp2_with fail
      refine (HasMarks_any s _ hs).mono ?_
      rintro e w1 ⟨rfl, hb1⟩
      rw [hm]
      go_wp2_with fail
      go_ret2
      exact ⟨rfl, hb1⟩

theorem FramedOf_any (s : ByteArray) (w : World) (hs : s.size ≤ 9223372036854775807) :
    Calls Try.prog 8 #[.string s] w fun e w' => e = .returned (.tuple #[.string (frameTx s), .int .i64 (frameNo s)]) ∧ Below w.heap.size w w' := by
  by_cases h1 : 60000 < s.size
  · have hz : (60000 : Int) < (s.size : Int) := by omega
    rw [frameTx, frameNo, if_pos h1, if_neg (by decide)]
    go_enter Try.func8, Try.ntmps8
    go_wp2_with fail
    go_ret2
    exact ⟨rfl, Below.refl _ _⟩
  · have hz : ¬ (60000 : Int) < (s.size : Int) := by omega
    cases hm : marksB s
    · have e : frameNo s = 0 := by rw [frameNo, if_neg h1, hm]; rfl
      rw [frameTx, e, if_pos rfl]
      clear e
      go_enter Try.func8, Try.ntmps8
      go_wp2_with fail
      refine (HasMark_any s _ hs).mono ?_
      rintro e w1 ⟨rfl, hw1⟩
      rw [hm, hw1]
      go_wp2_with fail
      refine (TwoHex_any s _ (by omega)).mono ?_
      rintro e w2 ⟨rfl, hb2⟩
      have ht := twoL_size s
      have hl := headed_size s
      go_wp2_with fail
      go_ret2
      exact ⟨rfl, hb2⟩
    · have e : frameNo s = 4 := by rw [frameNo, if_neg h1, hm]; rfl
      rw [frameTx, e, if_neg (by decide)]
      clear e
      go_enter Try.func8, Try.ntmps8
      go_wp2_with fail
      refine (HasMark_any s _ hs).mono ?_
      rintro e w1 ⟨rfl, hw1⟩
      rw [hm, hw1]
      go_wp2_with fail
      go_ret2
      exact ⟨rfl, Below.refl _ _⟩

end Go.Proofs.Ytjdafnaopemigaa
