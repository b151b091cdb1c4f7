/- Contract of space.words: the words of a space, page by page. -/
import Derived.Test.YtlcdefpdahjjeafPgI
import Derived.Test.YtlcdefpdahjjeafStepCopy
import Derived.Test.YtlcdefpdahjjeafWalkQ
import Derived.Test.YtlcdefpdahjjeafMadeZ
import Derived.Deep.RegionLaw
namespace Go.Proofs.Ytlcdefpdahjjeaf
open Go.RowKit

/-- The words of the first k pages. -/
def wK (T : List Int) (k : Nat) : List Int := T.take (16 * k) ++ List.replicate (256 - 16 * k) 0
theorem wK_len {T : List Int} (hT : T.length = 256) {k : Nat} (hk : k ≤ 16) : (wK T k).length = 256 := by simp [wK, hT]; omega
theorem wK_0 (T : List Int) : wK T 0 = List.replicate 256 0 := by unfold wK; rw [Nat.mul_zero, List.take_zero, List.nil_append]
theorem wK_16 {T : List Int} (hT : T.length = 256) : wK T 16 = T := by simp [wK, List.take_of_length_le (show T.length ≤ 256 by omega)]
theorem take_page {T : List Int} {k : Nat} : T.take (16 * (k + 1)) = T.take (16 * k) ++ (T.drop (16 * k)).take 16 := by
  rw [show 16 * (k + 1) = 16 * k + 16 by omega, List.take_add]
theorem page_of {T row : List Int} (hT : T.length = 256) {k : Nat} (hk : k < 16) (hr : row.length = 16) (h : ∀ i, i < 16 → T.getD (16 * k + i) 0 = row.getD i 0) : (T.drop (16 * k)).take 16 = row := by
  refine List.ext_getElem (by simp; omega) fun i h1 h2 => ?_
  have h3 : i < 16 := by omega
  have := h i h3
  simp only [List.getElem_take, List.getElem_drop]
  simp [List.getD, show 16 * k + i < T.length by omega, show i < row.length by omega] at this
  exact this
theorem wK_row {T row : List Int} (hT : T.length = 256) {k : Nat} (hk : k < 16) (hr : row.length = 16) (h : ∀ i, i < 16 → T.getD (16 * k + i) 0 = row.getD i 0) : (wK T k).take (16 * k) ++ row ++ (wK T k).drop (16 * k + row.length) = wK T (k + 1) := by
  have e1 : (T.take (16 * k)).length = 16 * k := by simp; omega
  unfold wK
  rw [take_page, page_of hT hk hr h, List.take_append_of_le_length (by omega), List.take_of_length_le (by omega), List.drop_append, e1, List.drop_of_length_le (by omega), List.nil_append, hr, List.drop_replicate]
  congr 2
  omega
theorem wK_zero {T : List Int} (hT : T.length = 256) {k : Nat} (hk : k < 16) (h : ∀ i, i < 16 → T.getD (16 * k + i) 0 = 0) : wK T k = wK T (k + 1) := by
  unfold wK
  rw [take_page, page_of (row := List.replicate 16 0) hT hk (by simp) (fun i hi => by rw [h i hi, getD_zeros]), List.append_assoc, List.replicate_append_replicate]
  congr 2
  omega

set_option maxRecDepth 100000 in
set_option maxHeartbeats 4000000 in
theorem words_pages (A B : Option Addr) (c b0 c' : Nat) (D : List (List Int)) (s T : List Int) (w : World) (hd : RowsAt w (.slice A D.length c) D) (hs : s.length = 16) (hT : T.length = 256)
    (hok : ∀ p, p < 16 → s.getD p 0 = -1 ∨ ∃ j : Nat, s.getD p 0 = (j : Int) ∧ j < D.length ∧ (D.getD j []).length = 16)
    (hw : ∀ p i, p < 16 → i < 16 → T.getD (16 * p + i) 0 = if s.getD p 0 = -1 then 0 else (D.getD (s.getD p 0).toNat []).getD i 0) :
    Calls Try.prog 19 #[.agg #[.slice A D.length c, .slice B b0 c'], .agg (pgc s)] w fun e w' => ∃ g k, e = .returned (.slice (some ⟨g, 0, none⟩) 256 k) ∧ IntsLo w.heap.size w' (.slice (some ⟨g, 0, none⟩) T.length k) T ∧ Below w.heap.size w w' := by
  obtain ⟨s0, s1, s2, s3, s4, s5, s6, s7, s8, s9, s10, s11, s12, s13, s14, s15, hsl⟩ := list16 hs
  have e0 : Value.agg (pgc s) = .agg #[.int .i64 s0, .int .i64 s1, .int .i64 s2, .int .i64 s3, .int .i64 s4, .int .i64 s5, .int .i64 s6, .int .i64 s7, .int .i64 s8, .int .i64 s9, .int .i64 s10, .int .i64 s11, .int .i64 s12, .int .i64 s13, .int .i64 s14, .int .i64 s15] := by rw [hsl]; rfl
  rw [e0]
  have HSL : Hid (s = [s0, s1, s2, s3, s4, s5, s6, s7, s8, s9, s10, s11, s12, s13, s14, s15]) := hsl
  have HD : Hid (RowsAt w (.slice A D.length c) D) := hd
  have HS : Hid (s.length = 16) := hs
  have HOK : Hid (∀ p, p < 16 → s.getD p 0 = -1 ∨ ∃ j : Nat, s.getD p 0 = (j : Int) ∧ j < D.length ∧ (D.getD j []).length = 16) := hok
  have HWD : Hid (∀ p i, p < 16 → i < 16 → T.getD (16 * p + i) 0 = if s.getD p 0 = -1 then 0 else (D.getD (s.getD p 0).toNat []).getD i 0) := hw
  have HT : Hid (T.length = 256) := hT
  have hmk : ∀ W : World, (Instr.makeSlice 24 (.int .i64 256) (.int .i64 256)).run Try.prog W = .ok (.slice (some ⟨W.heap.size, 0, none⟩) 256 256) (W.alloc (.cells (madeCells #[.int .i64 0] 256) 3)) := fun W => run_make_row' (P := Try.prog) 24 3 (.int .i64 0) 8 Try.underlying24 infoInt rfl .i64 .i64 256 (by omega) (by omega) W
  have hmc : madeCells #[.int .i64 0] 256 = pgc (wK T 0) := by
    apply Array.ext'
    rw [toList_madeCells_one, wK_0]
    simp [pgc]
  have HST : Hid (Below w.heap.size w (((w.alloc (.cells #[.slice A D.length c, .slice B b0 c'] 44)).alloc (.cells #[.int .i64 s0, .int .i64 s1, .int .i64 s2, .int .i64 s3, .int .i64 s4, .int .i64 s5, .int .i64 s6, .int .i64 s7, .int .i64 s8, .int .i64 s9, .int .i64 s10, .int .i64 s11, .int .i64 s12, .int .i64 s13, .int .i64 s14, .int .i64 s15] 48)).alloc (.cells (pgc (wK T 0)) 3)) ∧ (((w.alloc (.cells #[.slice A D.length c, .slice B b0 c'] 44)).alloc (.cells #[.int .i64 s0, .int .i64 s1, .int .i64 s2, .int .i64 s3, .int .i64 s4, .int .i64 s5, .int .i64 s6, .int .i64 s7, .int .i64 s8, .int .i64 s9, .int .i64 s10, .int .i64 s11, .int .i64 s12, .int .i64 s13, .int .i64 s14, .int .i64 s15] 48)).alloc (.cells (pgc (wK T 0)) 3)).heap[w.heap.size]? = some (.cells #[.slice A D.length c, .slice B b0 c'] 44 (0, 0)) ∧ (((w.alloc (.cells #[.slice A D.length c, .slice B b0 c'] 44)).alloc (.cells #[.int .i64 s0, .int .i64 s1, .int .i64 s2, .int .i64 s3, .int .i64 s4, .int .i64 s5, .int .i64 s6, .int .i64 s7, .int .i64 s8, .int .i64 s9, .int .i64 s10, .int .i64 s11, .int .i64 s12, .int .i64 s13, .int .i64 s14, .int .i64 s15] 48)).alloc (.cells (pgc (wK T 0)) 3)).heap[w.heap.size + 2]? = some (.cells (pgc (wK T 0)) 3 (0, 0))) := by
    obtain ⟨q0, q1, q2⟩ := two_boxes (below_alloc ((w.alloc (.cells #[.slice A D.length c, .slice B b0 c'] 44)).alloc (.cells #[.int .i64 s0, .int .i64 s1, .int .i64 s2, .int .i64 s3, .int .i64 s4, .int .i64 s5, .int .i64 s6, .int .i64 s7, .int .i64 s8, .int .i64 s9, .int .i64 s10, .int .i64 s11, .int .i64 s12, .int .i64 s13, .int .i64 s14, .int .i64 s15] 48)) (.cells (pgc (wK T 0)) 3))
    have q3 := Go.Deep.blk_alloc_new ((w.alloc (.cells #[.slice A D.length c, .slice B b0 c'] 44)).alloc (.cells #[.int .i64 s0, .int .i64 s1, .int .i64 s2, .int .i64 s3, .int .i64 s4, .int .i64 s5, .int .i64 s6, .int .i64 s7, .int .i64 s8, .int .i64 s9, .int .i64 s10, .int .i64 s11, .int .i64 s12, .int .i64 s13, .int .i64 s14, .int .i64 s15] 48)) (.cells (pgc (wK T 0)) 3)
    exact ⟨q2, q0, by simpa using q3⟩
  rw [hmc] at hmk
  have hsi : (Try.prog.info? 3).map (·.size) = some 1 := by kernel_rfl
  clear hmc hd hs hok hw hT e0 hsl
  go_enter Try.func19, Try.ntmps19
  go_wp2_with fail
  go_loopw [10] (fun i wr => ∃ k : Nat, k ≤ 16 ∧ i = .int .i64 (k : Int) ∧ Below w.heap.size w wr ∧ wr.heap[w.heap.size]? = some (.cells #[.slice A D.length c, .slice B b0 c'] 44 (0, 0)) ∧ wr.heap[w.heap.size + 2]? = some (.cells (pgc (wK T k)) 3 (0, 0))) (fun i _ => 16 - (intOf i).toNat)
  case atStart => exact ⟨0, by omega, rfl, HST.out⟩
  case round =>
    obtain ⟨k, hk, rfl, hB, hf, hg⟩ := hrel
    by_cases hlt : k < 16
    · have hl : (k : Int) < 16 := by omega
      obtain ⟨x, hx⟩ : ∃ x, x = s.getD k 0 := ⟨_, rfl⟩
      have hix : (Instr.index 48 (.agg #[.int .i64 s0, .int .i64 s1, .int .i64 s2, .int .i64 s3, .int .i64 s4, .int .i64 s5, .int .i64 s6, .int .i64 s7, .int .i64 s8, .int .i64 s9, .int .i64 s10, .int .i64 s11, .int .i64 s12, .int .i64 s13, .int .i64 s14, .int .i64 s15]) (.int .i64 (k : Int))).run Try.prog wr = .ok (.int .i64 x) wr := by
        have h0 := index_pg s HS.out k hlt wr
        rw [← hx, HSL.out] at h0
        exact h0
      have hw2 : IntKind.i64.wrap ((k : Int) + 1) = (k : Int) + 1 := IntWalk.i64_in _ (by omega)
      by_cases hx1 : x = -1
      · have d0 : (x != -1) = false := by simp [hx1]
        have HN : Hid (Below w.heap.size w wr ∧ wr.heap[w.heap.size]? = some (.cells #[.slice A D.length c, .slice B b0 c'] 44 (0, 0)) ∧ wr.heap[w.heap.size + 2]? = some (.cells (pgc (wK T (k + 1))) 3 (0, 0))) := ⟨hB, hf, by rw [← wK_zero HT.out hlt (fun i hi => by rw [HWD.out k i hlt hi, if_pos (by rw [← hx]; exact hx1)])]; exact hg⟩
        clear hB hf hg hx hx1
        go_wp2_with fail
        refine ⟨⟨k + 1, by omega, by go_num, HN.out⟩, ?_⟩
        simp [intOf]; omega
      · have d0 : (x != -1) = true := by simpa using hx1
        obtain ⟨j, hj, hjD, hjl⟩ : ∃ j : Nat, x = (j : Int) ∧ j < D.length ∧ (D.getD j []).length = 16 := by
          rcases HOK.out k hlt with h | ⟨j, h⟩
          · rw [← hx] at h; exact absurd h hx1
          · rw [← hx] at h; exact ⟨j, h⟩
        obtain ⟨bd, od, cd, b2, o2, c2, eA, hbd, hcd, hb2, hrow⟩ := rowAt (HD.out.below hB) hjD hjl
        simp only [Value.slice.injEq, true_and] at eA
        obtain ⟨rfl, rfl⟩ := eA
        have hrw : ∀ i, i < 16 → T.getD (16 * k + i) 0 = (D.getD j []).getD i 0 := fun i hi => by
          rw [HWD.out k i hlt hi, ← hx, if_neg hx1, hj, Int.toNat_natCast]
        obtain ⟨row, hr0⟩ : ∃ row, row = D.getD j [] := ⟨_, rfl⟩
        rw [← hr0] at hjl hrow hrw
        have hcopy : ∀ i v, (row.map (Value.int .i64))[i]? = some v → wr.drew.cell? ((⟨b2, o2, none⟩ : Addr).add i) = some v := fun i v hv => by
          have hil : i < row.length := by
            by_cases hh : i < row.length
            · exact hh
            · simp [List.getElem?_eq_none (show row.length ≤ i by omega)] at hv
          rw [Go.WideShapes.add_plain]
          have := hrow i (by omega)
          simp [hil] at hv
          simpa [List.getD, hil, hv] using this
        have HP : Hid (∀ w4, w4 = wr.drew.setRow (w.heap.size + 2) ((pgc (wK T k)).toList.take (16 * k) ++ row.map (Value.int .i64) ++ (pgc (wK T k)).toList.drop (16 * k + (row.map (Value.int .i64)).length)).toArray → Below w.heap.size w w4 ∧ w4.heap[w.heap.size]? = some (.cells #[.slice (some ⟨bd, od, none⟩) D.length c, .slice B b0 c'] 44 (0, 0)) ∧ w4.heap[w.heap.size + 2]? = some (.cells (pgc (wK T (k + 1))) 3 (0, 0))) := fun w4 e => by
          subst e
          refine ⟨below_setRow hB.drew (by omega) _, by rw [setRow_other _ _ _ _ (by omega)]; exact hf, ?_⟩
          rw [setRow_heap wr.drew (w.heap.size + 2) (pgc (wK T k)) _ 3 (0, 0) hg, ← wK_row HT.out hlt hjl hrw]
          simp [pgc, List.map_take, List.map_drop]
        have HC : Hid (_ ∧ wr.drew.heap[w.heap.size + 2]? = some (.cells (pgc (wK T k)) 3 (0, 0)) ∧ (pgc (wK T k)).size = 256 ∧ row.length = 16) := ⟨hcopy, hg, by simp [pgc, wK_len HT.out hk], hjl⟩
        obtain ⟨f0, f1, ff, fl⟩ := two_cells hf
        have j1 : 0 ≤ (k : Int) * 16 := by omega
        have j2 : (k : Int) * 16 ≤ 256 := by omega
        have j3 : ((k : Int) * 16).toNat = 16 * k := by omega
        have hwr : IntKind.i64.wrap ((k : Int) * 16) = (k : Int) * 16 := IntWalk.i64_in _ (by omega)
        have j4 : ¬ 256 = 16 * k := by omega
        have jd : (j : Int) < (D.length : Int) := by omega
        have HMIN : Hid ((row.map (Value.int .i64)).length = Nat.min 16 (256 - 16 * k)) := by show _ = _; simp only [List.length_map]; rw [hjl]; exact (Nat.min_eq_left (by omega)).symm
        have HK : Hid (k < 16) := hlt
        subst hj
        clear hB hf hg hx hx1 hcopy hrow hrw hr0 hjl hjD
        go_wp2_with fail
        go_region_law ((refine step_copy_row1 rfl (.tmp 19) (.tmp 24) 24 24 rfl 3 Try.underlying24 hsi (w.heap.size + 2) (16 * k) (256 - 16 * k) (256 - 16 * k) ⟨b2, o2, none⟩ 16 c2 (by rfl) (by rfl) (pgc (wK T k)) 3 HC.out.2.1 (row.map (Value.int .i64)) HMIN.out HC.out.1 (by simp; have := HC.out.2.2.1; have := HC.out.2.2.2; have := HK.out; omega) (ints_oneCell _ _) ?_; intro w4 hw4; have HN : Hid (_) := HP.out w4 hw4; clear hw4))
        all_goals
          go_wp2_with fail
          refine ⟨⟨k + 1, by omega, by go_num, HN.out⟩, ?_⟩
          simp [intOf]; omega
    · have e : k = 16 := by omega
      subst e
      rw [wK_16 HT.out] at hg
      have HE : Hid (Below w.heap.size w wr ∧ wr.heap[w.heap.size + 2]? = some (.cells (pgc T) 3 (0, 0))) := ⟨hB, hg⟩
      clear hB hf hg
      go_wp2_with fail
      go_ret
      refine ⟨w.heap.size + 2, 256, rfl, ⟨_, _, rfl, by rw [HT.out]; decide, fun _ => ⟨w.heap.size + 2, 0, rfl, by omega, lt_of_block HE.out.2, fun i hi => ?_⟩⟩, HE.out.1⟩
      rw [Nat.zero_add]
      exact (pg_cell HE.out.2 hi).1

end Go.Proofs.Ytlcdefpdahjjeaf
