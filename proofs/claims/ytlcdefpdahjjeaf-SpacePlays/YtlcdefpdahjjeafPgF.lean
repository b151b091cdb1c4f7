/- Contracts of space.frameFor and space.known. -/
import Derived.Test.YtlcdefpdahjjeafPg
import Derived.Test.YtlcdefpdahjjeafWalkL
namespace Go.Proofs.Ytlcdefpdahjjeaf
open Go.RowKit

/-- The page has a frame. -/
theorem frameFor_has (A B : Option Addr) (a c b c' : Nat) (n : Int) (w : World) (hn : n ≠ -1) :
    Calls Try.prog 27 #[.agg #[.slice A a c, .slice B b c'], .int .i64 n] w fun e w' => e = .returned (.tuple #[.agg #[.slice A a c, .slice B b c'], .int .i64 n, .int .i64 0]) ∧ Below w.heap.size w w' := by
  have h1 : (n != -1) = true := by simpa using hn
  go_enter Try.func27, Try.ntmps27
  go_wp2_with fail
  refine bodyPost_ret (v := .tuple #[.agg #[.slice A a c, .slice B b c'], .int .i64 n, .int .i64 0]) (by simp [results, Try.results27, go_sem]) rfl ?_
  exact ⟨rfl, (below_alloc _ _).alloc (by simp) _⟩

/-- It has none: what Take answers. -/
theorem frameFor_take (A B : Option Addr) (a c b c' : Nat) (D : List (List Int)) (R : List Int) (i er : Int) (w : World)
    (ht : ∀ W, Below w.heap.size w W → Calls Try.prog 33 #[.agg #[.slice A a c, .slice B b c']] W fun e w' => Res3 W D R i er e w') :
    Calls Try.prog 27 #[.agg #[.slice A a c, .slice B b c'], .int .i64 (-1)] w fun e w' => Res3 w D R i er e w' := by
  have HT : Hid (∀ W, Below w.heap.size w W → Calls Try.prog 33 #[.agg #[.slice A a c, .slice B b c']] W fun e w' => Res3 W D R i er e w') := ht
  clear ht
  go_enter Try.func27, Try.ntmps27
  go_wp2_with fail
  refine (HT.out _ ((below_alloc _ _).alloc (by simp) _)).mono ?_
  rintro e w1 ⟨A1, c1, B1, c1', rfl, h1, h2, hb⟩
  obtain ⟨b0, b1, b2⟩ := two_boxes hb
  obtain ⟨y0, y1, yf, yl⟩ := two_cells b1
  have hs : w.heap.size + 2 ≤ ((w.alloc (.cells #[.slice A a c, .slice B b c'] 44)).alloc (.cells #[.slice none 0 0, .slice none 0 0] 44)).heap.size := by simp
  have HE : Hid (RowsLo (w.heap.size + 2) w1 (.slice A1 D.length c1) D ∧ IntsLo (w.heap.size + 2) w1 (.slice B1 R.length c1') R ∧ Below w.heap.size w w1) := ⟨h1.mono hs, h2.mono hs, b2⟩
  clear h1 h2 hb b0 b1 b2 hs HT
  go_wp2_with fail
  refine bodyPost_ret (v := .tuple #[.agg #[.slice A1 D.length c1, .slice B1 R.length c1'], .int .i64 i, .int .i64 er]) (by simp [results, Try.results27, go_sem, y0, y1]) rfl ?_
  exact ⟨A1, c1, B1, c1', rfl, ((HE.out.1.setCell (by simp) _).setCell (by simp) _).mono (by omega), ((HE.out.2.1.setCell (by simp) _).setCell (by simp) _).mono (by omega), (HE.out.2.2.setCell (by simp) _).setCell (by simp) _⟩

theorem cnt_take (R : List Int) (k : Nat) (h : k < R.length) : cnt (R.take (k + 1)) = cnt (R.take k) + if R.getD k 0 ≠ 0 then 1 else 0 := by
  have e : R.take (k + 1) = R.take k ++ [R.getD k 0] := by
    rw [List.take_succ_eq_append_getElem h]; simp [List.getD, h]
  rw [e]
  unfold cnt
  rw [List.filter_append, List.length_append]
  congr 1
  by_cases h1 : R.getD k 0 = 0
  · rw [if_neg (fun e => e h1), h1]; rfl
  · rw [if_pos h1]
    simp only [List.filter_cons, List.filter_nil]
    rw [decide_eq_true h1]
    rfl

set_option maxHeartbeats 1000000 in
theorem known_any (dv rv : Value) (R : List Int) (w : World) (hr : IntsAt w rv R) (h0 : ∀ i, i < R.length → 0 ≤ R.getD i 0) (hdv : ∃ A n c, dv = .slice A n c) :
    Calls Try.prog 20 #[.agg #[dv, rv]] w fun e w' => e = .returned (.int .i64 (cnt R)) ∧ Below w.heap.size w w' := by
  obtain ⟨A, n, c, rfl⟩ := hdv
  obtain ⟨B, cb, rfl, hl, hc⟩ := hr
  have HB : Hid (Below w.heap.size w (w.alloc (.cells #[.slice A n c, .slice B R.length cb] 44))) := below_alloc _ _
  have HC : Hid (0 < R.length → ∃ b off, B = some ⟨b, off, none⟩ ∧ b < w.heap.size ∧ ∀ j, j < R.length → w.cell? ⟨b, off + j, none⟩ = some (.int .i64 (R.getD j 0))) := hc
  have H0 : Hid (∀ i, i < R.length → 0 ≤ R.getD i 0) := h0
  have hL : R.length ≤ 100000000000000 := by omega
  clear hc h0 hl
  go_enter Try.func20, Try.ntmps20
  go_wp2_with fail
  go_loopw [3, 9] (fun q i wr => ∃ k : Nat, k ≤ R.length ∧ i = .int .i64 (k : Int) ∧ q = .int .i64 (cnt (R.take k) : Int) ∧ Below w.heap.size w wr) (fun _ i _ => R.length - (intOf i).toNat)
  case atStart => exact ⟨0, Nat.zero_le _, rfl, rfl, HB.out⟩
  case round =>
    obtain ⟨k, hk, rfl, rfl, hB⟩ := hrel
    have HBk : Hid (Below w.heap.size w wr) := hB
    have hck : cnt (R.take k) ≤ k := by have := cnt_le (R.take k); simp at this; omega
    by_cases hlt : k < R.length
    · obtain ⟨b, off, rfl, hb, hj⟩ := HC.out (by omega)
      have hcell := (hB.cell (p := ⟨b, off + k, none⟩) hb).trans (hj k hlt)
      have hbs : b < wr.heap.size := Nat.lt_of_lt_of_le hb hB.size
      have hl : (k : Int) < (R.length : Int) := by omega
      have hT : Hid (cnt (R.take (k + 1)) = cnt (R.take k) + if R.getD k 0 ≠ 0 then 1 else 0) := cnt_take R k hlt
      have hge := H0.out k hlt
      have hw1 : IntKind.i64.wrap ((cnt (R.take k) : Int) + 1) = (cnt (R.take k) : Int) + 1 := IntWalk.i64_in _ (by omega)
      have hw2 : IntKind.i64.wrap ((k : Int) + 1) = (k : Int) + 1 := IntWalk.i64_in _ (by omega)
      clear hj hB
      revert hcell hT hge
      generalize R.getD k 0 = x
      intro hcell hT hge
      by_cases hx : 0 < x
      · rw [if_pos (by omega)] at hT
        clear hge
        go_wp2_with fail
        refine ⟨⟨k + 1, by omega, by go_num, ?_, HBk.out⟩, ?_⟩
        · rw [hT.out]; go_num
        · simp [intOf]; omega
      · rw [if_neg (by omega)] at hT
        clear hge
        go_wp2_with fail
        refine ⟨⟨k + 1, by omega, by go_num, ?_, HBk.out⟩, ?_⟩
        · rw [hT.out]; rfl
        · simp [intOf]; omega
    · have e : k = R.length := by omega
      subst e
      have HT : Hid (R.take R.length = R) := List.take_length
      have hnl : ¬ (R.length : Int) < (R.length : Int) := by omega
      clear hB
      rw [HT.out]
      go_wp2_with fail
      go_ret
      exact ⟨rfl, HBk.out⟩

end Go.Proofs.Ytlcdefpdahjjeaf
