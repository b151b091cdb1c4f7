/- Contract of space.write: the whole. (Written by tools/gen_wr.py.) -/
import Derived.Test.YtlcdefpdahjjeafWrR
import Derived.Test.YtlcdefpdahjjeafWrE
namespace Go.Proofs.Ytlcdefpdahjjeaf
open Go.RowKit

theorem wrS0 : rst 0 (Try.f16.body.getD .skip) = .seq (stm 0 (Try.f16.body.getD .skip)) (rst 1 (Try.f16.body.getD .skip)) := by kernel_rfl
theorem wrS1 : rst 1 (Try.f16.body.getD .skip) = .seq (stm 1 (Try.f16.body.getD .skip)) (rst 2 (Try.f16.body.getD .skip)) := by kernel_rfl
theorem wrS2 : rst 2 (Try.f16.body.getD .skip) = .seq (stm 2 (Try.f16.body.getD .skip)) (rst 3 (Try.f16.body.getD .skip)) := by kernel_rfl
theorem wrS3 : rst 3 (Try.f16.body.getD .skip) = .seq (stm 3 (Try.f16.body.getD .skip)) (rst 4 (Try.f16.body.getD .skip)) := by kernel_rfl
theorem wrS4 : rst 4 (Try.f16.body.getD .skip) = .seq (stm 4 (Try.f16.body.getD .skip)) (rst 5 (Try.f16.body.getD .skip)) := by kernel_rfl
theorem wrS5 : rst 5 (Try.f16.body.getD .skip) = .seq (stm 5 (Try.f16.body.getD .skip)) (rst 6 (Try.f16.body.getD .skip)) := by kernel_rfl
theorem wrS6 : rst 6 (Try.f16.body.getD .skip) = .seq (stm 6 (Try.f16.body.getD .skip)) (rst 7 (Try.f16.body.getD .skip)) := by kernel_rfl

/-- What a space's page knows, as the callee tells it. -/
abbrev FFor (w : World) (A B : Option Addr) (a0 c b0 c' : Nat) (x : Int) (D1 : List (List Int)) (R1 : List Int) (n1 e1 : Int) : Prop :=
  ∀ X, Below w.heap.size w X → w.heap.size + 4 ≤ X.heap.size → Calls Try.prog 27 #[.agg #[.slice A a0 c, .slice B b0 c'], .int .i64 x] X fun e w' => ∃ A1 k1 B1 k1', e = .returned (.tuple #[.agg #[.slice A1 D1.length k1, .slice B1 R1.length k1'], .int .i64 n1, .int .i64 e1]) ∧ FrI w w' (.slice A1 D1.length k1) (.slice B1 R1.length k1') D1 R1 ∧ Below X.heap.size X w'
abbrev FWri (D1 : List (List Int)) (R1 : List Int) (n1 i v : Int) (D2 : List (List Int)) (R2 : List Int) (n2 e2 : Int) : Prop :=
  ∀ (X : World) (A B : Option Addr) (c c' : Nat), RowsAt X (.slice A D1.length c) D1 → IntsAt X (.slice B R1.length c') R1 → Calls Try.prog 28 #[.agg #[.slice A D1.length c, .slice B R1.length c'], .int .i64 n1, .int .i64 i, .int .i64 v] X fun e w' => Res3 X D2 R2 n2 e2 e w'

set_option maxRecDepth 100000 in
set_option maxHeartbeats 4000000 in
theorem write_range (A B : Option Addr) (c c' : Nat) (D : List (List Int)) (R s : List Int) (a v : Int) (w : World) (hs : s.length = 16) (ha : ¬ (0 ≤ a ∧ a ≤ 255)) :
    Calls Try.prog 16 #[.agg #[.slice A D.length c, .slice B R.length c'], .agg (pgc s), .int .i64 a, .int .i64 v] w fun e w' => WrPost w [] [] zeros 2 e w' := by
  obtain ⟨s0, s1, s2, s3, s4, s5, s6, s7, s8, s9, s10, s11, s12, s13, s14, s15, hsl⟩ := list16 hs
  have e0 : Value.agg (pgc s) = .agg #[.int .i64 s0, .int .i64 s1, .int .i64 s2, .int .i64 s3, .int .i64 s4, .int .i64 s5, .int .i64 s6, .int .i64 s7, .int .i64 s8, .int .i64 s9, .int .i64 s10, .int .i64 s11, .int .i64 s12, .int .i64 s13, .int .i64 s14, .int .i64 s15] := by rw [hsl]; rfl
  rw [e0]
  go_enter Try.func16, Try.ntmps16
  refine wp_stm (k := 0) wrS0 (wr0 _ _ _ _ _ _ _ _ _ _ _ _ _ _ _ _ _ _ _ _ _ _ _ _ _ _ _ _ _ _ _ _ _ _ _ _ _ _ _ _ _ _ _ _ _ _ _ _ _ _ _ _ _ _ _ A B D.length c R.length c' s0 s1 s2 s3 s4 s5 s6 s7 s8 s9 s10 s11 s12 s13 s14 s15 w _ _ ?_)
  intro W0 h0
  rw [← hsl] at h0
  by_cases h1 : a < 0
  · exact wp_stm wrS1 (wr1ra _ _ _ _ _ _ _ _ _ _ _ _ _ _ _ _ _ _ _ _ _ _ _ _ _ _ _ _ _ _ _ _ _ _ _ _ _ _ _ _ _ _ _ _ _ _ _ _ _ _ _ _ a _ _ s w W0 _ h0 h1)
  · exact wp_stm wrS1 (wr1rb _ _ _ _ _ _ _ _ _ _ _ _ _ _ _ _ _ _ _ _ _ _ _ _ _ _ _ _ _ _ _ _ _ _ _ _ _ _ _ _ _ _ _ _ _ _ _ _ _ _ _ _ a _ _ s w W0 _ h0 (by omega))

set_option maxRecDepth 100000 in
set_option maxHeartbeats 4000000 in
theorem write_noframe (A B : Option Addr) (c c' : Nat) (D : List (List Int)) (R s : List Int) (a v : Int) (w : World) (hs : s.length = 16) (p i : Nat) (hp : p < 16) (hi : i < 16) (ha : a = ((16 * p + i : Nat) : Int)) (D1 : List (List Int)) (R1 : List Int) (n1 e1 : Int) (hc1 : FFor w A B D.length c R.length c' (s.getD p 0) D1 R1 n1 e1) (he : e1 ≠ 0) :
    Calls Try.prog 16 #[.agg #[.slice A D.length c, .slice B R.length c'], .agg (pgc s), .int .i64 a, .int .i64 v] w fun e w' => WrPost w [] [] zeros e1 e w' := by
  obtain ⟨s0, s1, s2, s3, s4, s5, s6, s7, s8, s9, s10, s11, s12, s13, s14, s15, hsl⟩ := list16 hs
  have e0 : Value.agg (pgc s) = .agg #[.int .i64 s0, .int .i64 s1, .int .i64 s2, .int .i64 s3, .int .i64 s4, .int .i64 s5, .int .i64 s6, .int .i64 s7, .int .i64 s8, .int .i64 s9, .int .i64 s10, .int .i64 s11, .int .i64 s12, .int .i64 s13, .int .i64 s14, .int .i64 s15] := by rw [hsl]; rfl
  rw [e0]
  go_enter Try.func16, Try.ntmps16
  refine wp_stm (k := 0) wrS0 (wr0 _ _ _ _ _ _ _ _ _ _ _ _ _ _ _ _ _ _ _ _ _ _ _ _ _ _ _ _ _ _ _ _ _ _ _ _ _ _ _ _ _ _ _ _ _ _ _ _ _ _ _ _ _ _ _ A B D.length c R.length c' s0 s1 s2 s3 s4 s5 s6 s7 s8 s9 s10 s11 s12 s13 s14 s15 w _ _ ?_)
  intro W0 h0
  rw [← hsl] at h0
  have hq1 : a.tdiv 16 = (p : Int) := by rw [ha, Int.tdiv_eq_ediv_of_nonneg (by omega)]; omega
  refine wp_stm wrS1 (wr1 _ _ _ _ _ _ _ _ _ _ _ _ _ _ _ _ _ _ _ _ _ _ _ _ _ _ _ _ _ _ _ _ _ _ _ _ _ _ _ _ _ _ _ _ _ _ _ _ _ _ _ _ a w W0 _ _ (by omega) (by omega) ?_)
  intro u13 u14 u15 u16 u17 u18 W1 e1'
  subst e1'
  refine wp_stm wrS2 (wr2 _ _ _ _ _ _ _ _ _ _ _ _ _ _ _ _ _ _ _ _ _ _ _ _ _ _ _ _ _ _ _ _ _ _ _ _ _ _ _ _ _ _ _ _ _ _ _ _ _ _ _ _ a A B D.length c R.length c' s p D1 R1 n1 e1 w W1 _ _ h0 (by omega) hs hq1 hc1 ?_)
  intro u21 u22 u23 u24 u25 u26 u27 u28 u29 u30 A1 k1 B1 k1' W2 h2 f2
  clear f2
  exact wp_stm wrS3 (wr3r _ _ _ _ _ _ _ _ _ _ _ _ _ _ _ _ _ _ _ _ _ _ _ _ _ _ _ _ _ _ _ _ _ _ _ _ _ _ _ _ _ _ _ _ _ _ _ _ _ _ _ _ e1 _ _ s w W2 _ h2 he)

set_option maxRecDepth 100000 in
set_option maxHeartbeats 4000000 in
theorem write_noroom (A B : Option Addr) (c c' : Nat) (D : List (List Int)) (R s : List Int) (a v : Int) (w : World) (hs : s.length = 16) (p i : Nat) (hp : p < 16) (hi : i < 16) (ha : a = ((16 * p + i : Nat) : Int)) (D1 D2 : List (List Int)) (R1 R2 : List Int) (n1 n2 e2 : Int) (hc1 : FFor w A B D.length c R.length c' (s.getD p 0) D1 R1 n1 0) (hc2 : FWri D1 R1 n1 (i : Int) v D2 R2 n2 e2) (he : e2 ≠ 0) :
    Calls Try.prog 16 #[.agg #[.slice A D.length c, .slice B R.length c'], .agg (pgc s), .int .i64 a, .int .i64 v] w fun e w' => WrPost w [] [] zeros e2 e w' := by
  obtain ⟨s0, s1, s2, s3, s4, s5, s6, s7, s8, s9, s10, s11, s12, s13, s14, s15, hsl⟩ := list16 hs
  have e0 : Value.agg (pgc s) = .agg #[.int .i64 s0, .int .i64 s1, .int .i64 s2, .int .i64 s3, .int .i64 s4, .int .i64 s5, .int .i64 s6, .int .i64 s7, .int .i64 s8, .int .i64 s9, .int .i64 s10, .int .i64 s11, .int .i64 s12, .int .i64 s13, .int .i64 s14, .int .i64 s15] := by rw [hsl]; rfl
  rw [e0]
  go_enter Try.func16, Try.ntmps16
  refine wp_stm (k := 0) wrS0 (wr0 _ _ _ _ _ _ _ _ _ _ _ _ _ _ _ _ _ _ _ _ _ _ _ _ _ _ _ _ _ _ _ _ _ _ _ _ _ _ _ _ _ _ _ _ _ _ _ _ _ _ _ _ _ _ _ A B D.length c R.length c' s0 s1 s2 s3 s4 s5 s6 s7 s8 s9 s10 s11 s12 s13 s14 s15 w _ _ ?_)
  intro W0 h0
  rw [← hsl] at h0
  have hq1 : a.tdiv 16 = (p : Int) := by rw [ha, Int.tdiv_eq_ediv_of_nonneg (by omega)]; omega
  have hq2 : a.tmod 16 = (i : Int) := by rw [ha, Int.tmod_eq_emod_of_nonneg (by omega)]; omega
  refine wp_stm wrS1 (wr1 _ _ _ _ _ _ _ _ _ _ _ _ _ _ _ _ _ _ _ _ _ _ _ _ _ _ _ _ _ _ _ _ _ _ _ _ _ _ _ _ _ _ _ _ _ _ _ _ _ _ _ _ a w W0 _ _ (by omega) (by omega) ?_)
  intro u13 u14 u15 u16 u17 u18 W1 e1'
  subst e1'
  refine wp_stm wrS2 (wr2 _ _ _ _ _ _ _ _ _ _ _ _ _ _ _ _ _ _ _ _ _ _ _ _ _ _ _ _ _ _ _ _ _ _ _ _ _ _ _ _ _ _ _ _ _ _ _ _ _ _ _ _ a A B D.length c R.length c' s p D1 R1 n1 0 w W1 _ _ h0 (by omega) hs hq1 hc1 ?_)
  intro u21 u22 u23 u24 u25 u26 u27 u28 u29 u30 A1 k1 B1 k1' W2 h2 f2
  refine wp_stm wrS3 (wr3 _ _ _ _ _ _ _ _ _ _ _ _ _ _ _ _ _ _ _ _ _ _ _ _ _ _ _ _ _ _ _ _ _ _ _ _ _ _ _ _ _ _ _ _ _ _ _ _ _ _ _ _ w W2 _ _ ?_)
  intro u31 u32 W3 e3
  subst e3
  refine wp_stm wrS4 (wr4 _ _ _ _ _ _ _ _ _ _ _ _ _ _ _ _ _ _ _ _ _ _ _ _ _ _ _ _ _ _ _ _ _ _ _ _ _ _ _ _ _ _ _ _ _ _ _ _ _ _ a v n1 A1 B1 k1 k1' s i D1 D2 R1 R2 n2 e2 w W3 _ _ h2 f2 hi hq2 (fun X h1 h2 => hc2 X A1 B1 k1 k1' h1 h2) ?_)
  intro u36 u37 u38 u39 u40 u41 u42 u43 u44 u45 A2 k2 B2 k2' W4 h4 f4
  clear f4
  exact wp_stm wrS5 (wr5r _ _ _ _ _ _ _ _ _ _ _ _ _ _ _ _ _ _ _ _ _ _ _ _ _ _ _ _ _ _ _ _ _ _ _ _ _ _ _ _ _ _ _ _ _ _ _ _ _ _ _ _ e2 _ _ s w W4 _ h4 he)

set_option maxRecDepth 100000 in
set_option maxHeartbeats 4000000 in
theorem write_done (A B : Option Addr) (c c' : Nat) (D : List (List Int)) (R s : List Int) (a v : Int) (w : World) (hs : s.length = 16) (p i : Nat) (hp : p < 16) (hi : i < 16) (ha : a = ((16 * p + i : Nat) : Int)) (D1 D2 : List (List Int)) (R1 R2 : List Int) (n1 n2 : Int) (hc1 : FFor w A B D.length c R.length c' (s.getD p 0) D1 R1 n1 0) (hc2 : FWri D1 R1 n1 (i : Int) v D2 R2 n2 0) :
    Calls Try.prog 16 #[.agg #[.slice A D.length c, .slice B R.length c'], .agg (pgc s), .int .i64 a, .int .i64 v] w fun e w' => WrPost w D2 R2 (s.set p n2) 0 e w' := by
  obtain ⟨s0, s1, s2, s3, s4, s5, s6, s7, s8, s9, s10, s11, s12, s13, s14, s15, hsl⟩ := list16 hs
  have e0 : Value.agg (pgc s) = .agg #[.int .i64 s0, .int .i64 s1, .int .i64 s2, .int .i64 s3, .int .i64 s4, .int .i64 s5, .int .i64 s6, .int .i64 s7, .int .i64 s8, .int .i64 s9, .int .i64 s10, .int .i64 s11, .int .i64 s12, .int .i64 s13, .int .i64 s14, .int .i64 s15] := by rw [hsl]; rfl
  rw [e0]
  go_enter Try.func16, Try.ntmps16
  refine wp_stm (k := 0) wrS0 (wr0 _ _ _ _ _ _ _ _ _ _ _ _ _ _ _ _ _ _ _ _ _ _ _ _ _ _ _ _ _ _ _ _ _ _ _ _ _ _ _ _ _ _ _ _ _ _ _ _ _ _ _ _ _ _ _ A B D.length c R.length c' s0 s1 s2 s3 s4 s5 s6 s7 s8 s9 s10 s11 s12 s13 s14 s15 w _ _ ?_)
  intro W0 h0
  rw [← hsl] at h0
  have hq1 : a.tdiv 16 = (p : Int) := by rw [ha, Int.tdiv_eq_ediv_of_nonneg (by omega)]; omega
  have hq2 : a.tmod 16 = (i : Int) := by rw [ha, Int.tmod_eq_emod_of_nonneg (by omega)]; omega
  refine wp_stm wrS1 (wr1 _ _ _ _ _ _ _ _ _ _ _ _ _ _ _ _ _ _ _ _ _ _ _ _ _ _ _ _ _ _ _ _ _ _ _ _ _ _ _ _ _ _ _ _ _ _ _ _ _ _ _ _ a w W0 _ _ (by omega) (by omega) ?_)
  intro u13 u14 u15 u16 u17 u18 W1 e1'
  subst e1'
  refine wp_stm wrS2 (wr2 _ _ _ _ _ _ _ _ _ _ _ _ _ _ _ _ _ _ _ _ _ _ _ _ _ _ _ _ _ _ _ _ _ _ _ _ _ _ _ _ _ _ _ _ _ _ _ _ _ _ _ _ a A B D.length c R.length c' s p D1 R1 n1 0 w W1 _ _ h0 (by omega) hs hq1 hc1 ?_)
  intro u21 u22 u23 u24 u25 u26 u27 u28 u29 u30 A1 k1 B1 k1' W2 h2 f2
  refine wp_stm wrS3 (wr3 _ _ _ _ _ _ _ _ _ _ _ _ _ _ _ _ _ _ _ _ _ _ _ _ _ _ _ _ _ _ _ _ _ _ _ _ _ _ _ _ _ _ _ _ _ _ _ _ _ _ _ _ w W2 _ _ ?_)
  intro u31 u32 W3 e3
  subst e3
  refine wp_stm wrS4 (wr4 _ _ _ _ _ _ _ _ _ _ _ _ _ _ _ _ _ _ _ _ _ _ _ _ _ _ _ _ _ _ _ _ _ _ _ _ _ _ _ _ _ _ _ _ _ _ _ _ _ _ a v n1 A1 B1 k1 k1' s i D1 D2 R1 R2 n2 0 w W3 _ _ h2 f2 hi hq2 (fun X h1 h2 => hc2 X A1 B1 k1 k1' h1 h2) ?_)
  intro u36 u37 u38 u39 u40 u41 u42 u43 u44 u45 A2 k2 B2 k2' W4 h4 f4
  refine wp_stm wrS5 (wr5 _ _ _ _ _ _ _ _ _ _ _ _ _ _ _ _ _ _ _ _ _ _ _ _ _ _ _ _ _ _ _ _ _ _ _ _ _ _ _ _ _ _ _ _ _ _ _ _ _ _ _ _ w W4 _ _ ?_)
  intro u46 u47 W5 e5
  subst e5
  refine wp_stm wrS6 (wr6 _ _ _ _ _ _ _ _ _ _ _ _ _ _ _ _ _ _ _ _ _ _ _ _ _ _ _ _ _ _ _ _ _ _ _ _ _ _ _ _ _ _ _ _ _ _ _ _ _ _ _ a n2 _ _ s p w W5 _ _ h4 (by omega) hs hq1 ?_)
  intro u51 u52 u53 u54 W6 e6
  subst e6
  have f6 : RowsLo (w.heap.size + 4) (W5.setCell ⟨w.heap.size + 1, p, none⟩ (.int .i64 n2)) (.slice A2 D2.length k2) D2 ∧ IntsLo (w.heap.size + 4) (W5.setCell ⟨w.heap.size + 1, p, none⟩ (.int .i64 n2)) (.slice B2 R2.length k2') R2 := ⟨f4.1.setCell (by simp <;> omega) _, f4.2.setCell (by simp <;> omega) _⟩
  exact wr7 _ _ _ _ _ _ _ _ _ _ _ _ _ _ _ _ _ _ _ _ _ _ _ _ _ _ _ _ _ _ _ _ _ _ _ _ _ _ _ _ _ _ _ _ _ _ _ _ _ _ _ _ _ A2 B2 k2 k2' D2 R2 (s.set p n2) w _ (h4.setP p n2) (by rw [List.length_set]; exact hs) f6

end Go.Proofs.Ytlcdefpdahjjeaf
