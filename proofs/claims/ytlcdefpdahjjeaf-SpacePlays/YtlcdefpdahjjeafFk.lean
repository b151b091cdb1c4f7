/- Contract of space.fork. (Written by tools/gen_fk.py.) -/
import Derived.Test.YtlcdefpdahjjeafWrW
import Derived.Test.YtlcdefpdahjjeafWalkShare
import Derived.Test.YtlcdefpdahjjeafPgI
namespace Go.Proofs.Ytlcdefpdahjjeaf
open Go.RowKit

/-- What a fork answers: the frames, those that were handed in or new ones, and the pages. -/
def FkPost (w : World) (d r : Value) (n : Nat) (D : List (List Int)) (R s : List Int) (S : PS) (e : Ending) (w' : World) : Prop :=
  ∃ R' A c B c', e = .returned (.tuple #[.agg #[.slice A D.length c, .slice B R'.length c'], .agg (pgc s), .int .i64 0]) ∧ Rel n D R' s s S.fork ∧
    ((.slice A D.length c = d ∧ .slice B R'.length c' = r ∧ R' = R) ∨ (RowsLo w.heap.size w' (.slice A D.length c) D ∧ IntsLo w.heap.size w' (.slice B R'.length c') R')) ∧ Below w.heap.size w w'

set_option maxRecDepth 100000 in
set_option maxHeartbeats 4000000 in
theorem fk0 (c2 c3 c4 c5 c6 c7 c8 c9 c10 c11 c12 c13 c14 c15 c16 c17 c18 c19 c20 c21 c22 c23 c24 c25 c26 c27 c28 c29 : Value) (A B : Option Addr) (a0 c b0 c' : Nat) (s0 s1 s2 s3 s4 s5 s6 s7 s8 s9 s10 s11 s12 s13 s14 s15 : Int) (W : World) (K : Act → World → Prop) (Rr : Ending → World → Prop)
    
    (hK : ∀ (W' : World), WrI W W' (.slice A a0 c) (.slice B b0 c') [s0, s1, s2, s3, s4, s5, s6, s7, s8, s9, s10, s11, s12, s13, s14, s15] → K ⟨#[.agg #[.slice A a0 c, .slice B b0 c'], .agg #[.int .i64 s0, .int .i64 s1, .int .i64 s2, .int .i64 s3, .int .i64 s4, .int .i64 s5, .int .i64 s6, .int .i64 s7, .int .i64 s8, .int .i64 s9, .int .i64 s10, .int .i64 s11, .int .i64 s12, .int .i64 s13, .int .i64 s14, .int .i64 s15], .pointer (some ⟨W.heap.size, 0, none⟩), .pointer (some ⟨W.heap.size + 1, 0, none⟩), .pointer (some ⟨W.heap.size + 2, 0, none⟩), .pointer (some ⟨W.heap.size + 3, 0, none⟩), .int .i64 0, c7, c8, c9, c10, c11, c12, c13, c14, c15, c16, c17, c18, c19, c20, c21, c22, c23, c24, c25, c26, c27, c28, c29], []⟩ W') :
    Code.wp Try.prog (stm 0 (Try.f17.body.getD .skip)) (Exit.then K (bodyPost Try.prog Try.f17 Rr)) ⟨#[.agg #[.slice A a0 c, .slice B b0 c'], .agg #[.int .i64 s0, .int .i64 s1, .int .i64 s2, .int .i64 s3, .int .i64 s4, .int .i64 s5, .int .i64 s6, .int .i64 s7, .int .i64 s8, .int .i64 s9, .int .i64 s10, .int .i64 s11, .int .i64 s12, .int .i64 s13, .int .i64 s14, .int .i64 s15], c2, c3, c4, c5, c6, c7, c8, c9, c10, c11, c12, c13, c14, c15, c16, c17, c18, c19, c20, c21, c22, c23, c24, c25, c26, c27, c28, c29], []⟩ W := by
  have HK : Hid (∀ (W' : World), WrI W W' (.slice A a0 c) (.slice B b0 c') [s0, s1, s2, s3, s4, s5, s6, s7, s8, s9, s10, s11, s12, s13, s14, s15] → K ⟨#[.agg #[.slice A a0 c, .slice B b0 c'], .agg #[.int .i64 s0, .int .i64 s1, .int .i64 s2, .int .i64 s3, .int .i64 s4, .int .i64 s5, .int .i64 s6, .int .i64 s7, .int .i64 s8, .int .i64 s9, .int .i64 s10, .int .i64 s11, .int .i64 s12, .int .i64 s13, .int .i64 s14, .int .i64 s15], .pointer (some ⟨W.heap.size, 0, none⟩), .pointer (some ⟨W.heap.size + 1, 0, none⟩), .pointer (some ⟨W.heap.size + 2, 0, none⟩), .pointer (some ⟨W.heap.size + 3, 0, none⟩), .int .i64 0, c7, c8, c9, c10, c11, c12, c13, c14, c15, c16, c17, c18, c19, c20, c21, c22, c23, c24, c25, c26, c27, c28, c29], []⟩ W') := hK
  clear hK
  conv => arg 2; whnf
  have HI : Hid (WrI W ((((W.alloc (.cells #[.slice A a0 c, .slice B b0 c'] 44)).alloc (.cells (pgc [s0, s1, s2, s3, s4, s5, s6, s7, s8, s9, s10, s11, s12, s13, s14, s15]) 48)).alloc (.cells #[nilv, nilv] 44)).alloc (.cells zero16 48)) (.slice A a0 c) (.slice B b0 c') [s0, s1, s2, s3, s4, s5, s6, s7, s8, s9, s10, s11, s12, s13, s14, s15]) := by
    obtain ⟨b1, b2, b3, b4, b5⟩ := four_boxes W (.cells #[.slice A a0 c, .slice B b0 c'] 44) (.cells (pgc [s0, s1, s2, s3, s4, s5, s6, s7, s8, s9, s10, s11, s12, s13, s14, s15]) 48) (.cells #[nilv, nilv] 44) (.cells zero16 48)
    exact ⟨b1, b2, b3, b4, b5⟩
  go_wp2_with fail
  exact HK.out _ HI.out


set_option maxRecDepth 100000 in
set_option maxHeartbeats 4000000 in
theorem res_fork (c0 c1 c7 c8 c9 c10 c11 c12 c13 c14 c15 c16 c17 c18 c19 c20 c21 c22 c23 c24 c25 c26 c27 c28 c29 : Value) (er : Int) (d r : Value) (t0 t1 t2 t3 t4 t5 t6 t7 t8 t9 t10 t11 t12 t13 t14 t15 : Int) (w W : World) (h : W.heap[w.heap.size + 2]? = some (.cells #[d, r] 44 (0, 0))) (h2 : W.heap[w.heap.size + 3]? = some (.cells #[.int .i64 t0, .int .i64 t1, .int .i64 t2, .int .i64 t3, .int .i64 t4, .int .i64 t5, .int .i64 t6, .int .i64 t7, .int .i64 t8, .int .i64 t9, .int .i64 t10, .int .i64 t11, .int .i64 t12, .int .i64 t13, .int .i64 t14, .int .i64 t15] 48 (0, 0))) :
    (results Try.f17 (Act.tmps (⟨#[c0, c1, .pointer (some ⟨w.heap.size, 0, none⟩), .pointer (some ⟨w.heap.size + 1, 0, none⟩), .pointer (some ⟨w.heap.size + 2, 0, none⟩), .pointer (some ⟨w.heap.size + 3, 0, none⟩), .int .i64 er, c7, c8, c9, c10, c11, c12, c13, c14, c15, c16, c17, c18, c19, c20, c21, c22, c23, c24, c25, c26, c27, c28, c29], []⟩ : Act))).run Try.prog W = .ok (.tuple #[.agg #[d, r], .agg #[.int .i64 t0, .int .i64 t1, .int .i64 t2, .int .i64 t3, .int .i64 t4, .int .i64 t5, .int .i64 t6, .int .i64 t7, .int .i64 t8, .int .i64 t9, .int .i64 t10, .int .i64 t11, .int .i64 t12, .int .i64 t13, .int .i64 t14, .int .i64 t15], .int .i64 er]) W := by
  obtain ⟨x0, x1, xf, xl⟩ := two_cells h
  obtain ⟨⟨y0, y1, y2, y3, y4, y5, y6, y7, y8, y9, y10, y11, y12, y13, y14, y15⟩, yf, yl⟩ := sixteen_cells h2
  clear h h2
  simp [results, Try.results17, go_sem, x0, x1, y0, y1, y2, y3, y4, y5, y6, y7, y8, y9, y10, y11, y12, y13, y14, y15]

set_option maxRecDepth 100000 in
set_option maxHeartbeats 4000000 in
theorem fkT (c0 c1 c7 c8 c9 c10 c11 c12 c13 c14 c15 c16 c17 c18 c19 c20 c21 c22 c23 c24 c25 c26 c27 c28 c29 : Value) (A B : Option Addr) (c c' n : Nat) (D : List (List Int)) (R s : List Int) (S : PS) (w W : World) 
    (h : WrI w W (.slice A D.length c) (.slice B R.length c') s) (hd : RowsAt w (.slice A D.length c) D) (hr : IntsAt w (.slice B R.length c') R) (hf : Fork n D R s S 0) :
    Code.wp Try.prog (rst 1 (Try.f17.body.getD .skip)) (bodyPost Try.prog Try.f17 (fun e w' => FkPost w (.slice A D.length c) (.slice B R.length c') n D R s S e w')) ⟨#[c0, c1, .pointer (some ⟨w.heap.size, 0, none⟩), .pointer (some ⟨w.heap.size + 1, 0, none⟩), .pointer (some ⟨w.heap.size + 2, 0, none⟩), .pointer (some ⟨w.heap.size + 3, 0, none⟩), .int .i64 0, c7, c8, c9, c10, c11, c12, c13, c14, c15, c16, c17, c18, c19, c20, c21, c22, c23, c24, c25, c26, c27, c28, c29], []⟩ W := by
  conv => arg 2; whnf
  obtain ⟨s0, s1, s2, s3, s4, s5, s6, s7, s8, s9, s10, s11, s12, s13, s14, s15, hsl⟩ := list16 hf.ls
  have hsb : W.heap[w.heap.size + 1]? = some (.cells #[.int .i64 s0, .int .i64 s1, .int .i64 s2, .int .i64 s3, .int .i64 s4, .int .i64 s5, .int .i64 s6, .int .i64 s7, .int .i64 s8, .int .i64 s9, .int .i64 s10, .int .i64 s11, .int .i64 s12, .int .i64 s13, .int .i64 s14, .int .i64 s15] 48 (0, 0)) := by have := h.sb; rw [hsl] at this; exact this
  obtain ⟨⟨z0, z1, z2, z3, z4, z5, z6, z7, z8, z9, z10, z11, z12, z13, z14, z15⟩, zf, zl⟩ := sixteen_cells hsb
  have H0 : Hid (WrI w W (.slice A D.length c) (.slice B R.length c') s ∧ RowsAt w (.slice A D.length c) D ∧ IntsAt w (.slice B R.length c') R ∧ Fork n D R s S 0) := ⟨h, hd, hr, hf⟩
  have HSL : Hid (s = [s0, s1, s2, s3, s4, s5, s6, s7, s8, s9, s10, s11, s12, s13, s14, s15]) := hsl
  clear h hd hr hf hsb hsl
  go_wp2_with fail
  go_loopw [11] (fun i wr => ∃ (k : Nat) (R1 : List Int) (A1 B1 : Option Addr) (k1 k1' : Nat), k ≤ 16 ∧ i = .int .i64 (k : Int) ∧ WrI w wr (.slice A1 D.length k1) (.slice B1 R1.length k1') s ∧ ((.slice A1 D.length k1 = Value.slice A D.length c ∧ .slice B1 R1.length k1' = Value.slice B R.length c' ∧ R1 = R) ∨ (RowsLo (w.heap.size + 4) wr (.slice A1 D.length k1) D ∧ IntsLo (w.heap.size + 4) wr (.slice B1 R1.length k1') R1)) ∧ Fork n D R1 s S k) (fun i _ => 16 - (intOf i).toNat)
  case atStart => exact ⟨0, R, A, B, c, c', by omega, rfl, H0.out.1, Or.inl ⟨rfl, rfl, rfl⟩, H0.out.2.2.2⟩
  case round =>
    obtain ⟨k, R1, A1, B1, k1, k1', hk, rfl, hI, hF, hFk⟩ := hrel
    by_cases hlt : k < 16
    · have hl : (k : Int) < 16 := by omega
      obtain ⟨x, hx⟩ : ∃ x, x = s.getD k 0 := ⟨_, rfl⟩
      have hix : (Instr.index 48 (.agg #[.int .i64 s0, .int .i64 s1, .int .i64 s2, .int .i64 s3, .int .i64 s4, .int .i64 s5, .int .i64 s6, .int .i64 s7, .int .i64 s8, .int .i64 s9, .int .i64 s10, .int .i64 s11, .int .i64 s12, .int .i64 s13, .int .i64 s14, .int .i64 s15]) (.int .i64 (k : Int))).run Try.prog wr = .ok (.int .i64 x) wr := by
        have h0 := index_pg s hFk.ls k hlt wr
        rw [← hx, HSL.out] at h0
        exact h0
      have hw2 : IntKind.i64.wrap ((k : Int) + 1) = (k : Int) + 1 := IntWalk.i64_in _ (by omega)
      clear z0 z1 z2 z3 z4 z5 z6 z7 z8 z9 z10 z11 z12 z13 z14 z15 zf zl
      by_cases hx1 : x = -1
      · have d0 : (x == -1) = true := by simp [hx1]
        have HN : Hid (WrI w wr (.slice A1 D.length k1) (.slice B1 R1.length k1') s ∧ ((.slice A1 D.length k1 = Value.slice A D.length c ∧ .slice B1 R1.length k1' = Value.slice B R.length c' ∧ R1 = R) ∨ (RowsLo (w.heap.size + 4) wr (.slice A1 D.length k1) D ∧ IntsLo (w.heap.size + 4) wr (.slice B1 R1.length k1') R1)) ∧ Fork n D R1 s S (k + 1)) := ⟨hI, hF, hFk.skip (by rw [← hx]; exact hx1)⟩
        clear hI hF hFk hx hx1
        go_wp2_with fail
        refine ⟨⟨k + 1, R1, A1, B1, k1, k1', by omega, by go_num, HN.out⟩, ?_⟩
        simp [intOf]; omega
      · have d0 : (x == -1) = false := by simpa using hx1
        obtain ⟨j, hj, hkn, hjl, hjR⟩ := hFk.known hlt (by rw [← hx]; exact hx1)
        have hxj : x = (j : Int) := by rw [hx]; exact hj
        have hat : RowsAt wr (.slice A1 D.length k1) D ∧ IntsAt wr (.slice B1 R1.length k1') R1 := by
          rcases hF with ⟨e1, e2, e3⟩ | hF
          · rw [e1, e2, e3]
            exact ⟨H0.out.2.1.below hI.old, H0.out.2.2.1.below hI.old⟩
          · exact ⟨hF.1.at, hF.2.at⟩
        have HC : Hid (Calls Try.prog 29 #[.agg #[.slice A1 D.length k1, .slice B1 R1.length k1'], .int .i64 x] wr fun e w' => Res2 wr D (R1.set j (R1.getD j 0 + 1)) 0 e w') := by
          rw [hxj]
          exact Share_ok _ _ D R1 j wr hat.1 hat.2 hFk.may hkn (by rw [hjR]; split <;> omega)
        have HN : Hid (WrI w wr (.slice A1 D.length k1) (.slice B1 R1.length k1') s ∧ Fork n D (R1.set j (R1.getD j 0 + 1)) s S (k + 1)) := ⟨hI, hFk.next hlt hj⟩
        obtain ⟨f0, f1, ff, fl⟩ := two_cells hI.fb
        revert HC HN
        generalize R1.set j (R1.getD j 0 + 1) = R2
        intro HC HN
        clear hI hF hFk hx hat hjR hkn hj hxj
        go_wp2_with fail
        refine HC.out.mono ?_
        rintro e w1 ⟨A2, k2, B2, k2', rfl, hD, hR, hb1⟩
        have hI1 := HN.out.1.below hb1
        have hsz := HN.out.1.size
        have HI1 : Hid (WrI w w1 (.slice A1 D.length k1) (.slice B1 R1.length k1') s ∧ RowsLo (w.heap.size + 4) w1 (.slice A2 D.length k2) D ∧ IntsLo (w.heap.size + 4) w1 (.slice B2 R2.length k2') R2) := ⟨hI1, hD.mono hsz, hR.mono hsz⟩
        clear f0 f1 ff fl
        obtain ⟨f0, f1, ff, fl⟩ := two_cells hI1.fb
        clear hI1 hD hR hb1 hsz HC
        dsimp only
        go_wp2_with fail
        refine ⟨⟨k + 1, R2, A2, B2, k2, k2', by omega, by go_num, HI1.out.1.setF _ _, Or.inr ⟨(HI1.out.2.1.setCell (by simp <;> omega) _).setCell (by simp <;> omega) _, (HI1.out.2.2.setCell (by simp <;> omega) _).setCell (by simp <;> omega) _⟩, HN.out.2⟩, ?_⟩
        simp [intOf]; omega
    · have e : k = 16 := by omega
      subst e
      have hsb2 : wr.heap[w.heap.size + 1]? = some (.cells #[.int .i64 s0, .int .i64 s1, .int .i64 s2, .int .i64 s3, .int .i64 s4, .int .i64 s5, .int .i64 s6, .int .i64 s7, .int .i64 s8, .int .i64 s9, .int .i64 s10, .int .i64 s11, .int .i64 s12, .int .i64 s13, .int .i64 s14, .int .i64 s15] 48 (0, 0)) := by have := hI.sb; rw [HSL.out] at this; exact this
      clear z0 z1 z2 z3 z4 z5 z6 z7 z8 z9 z10 z11 z12 z13 z14 z15 zf zl
      obtain ⟨f0, f1, ff, fl⟩ := two_cells hI.fb
      obtain ⟨⟨z0, z1, z2, z3, z4, z5, z6, z7, z8, z9, z10, z11, z12, z13, z14, z15⟩, zf, zl⟩ := sixteen_cells hsb2
      obtain ⟨⟨y0, y1, y2, y3, y4, y5, y6, y7, y8, y9, y10, y11, y12, y13, y14, y15⟩, yf, yl⟩ := sixteen_cells hI.rs
      obtain ⟨x0, x1, xf, xl⟩ := two_cells hI.rb
      have HE : Hid (Below w.heap.size w wr) := hI.old
      have HB : Hid (wr.heap[w.heap.size + 2]? = some (.cells #[nilv, nilv] 44 (0, 0)) ∧ wr.heap[w.heap.size + 3]? = some (.cells zero16 48 (0, 0))) := ⟨hI.rb, hI.rs⟩
      have HF : Hid (((.slice A1 D.length k1 = Value.slice A D.length c ∧ .slice B1 R1.length k1' = Value.slice B R.length c' ∧ R1 = R) ∨ (RowsLo (w.heap.size + 4) wr (.slice A1 D.length k1) D ∧ IntsLo (w.heap.size + 4) wr (.slice B1 R1.length k1') R1)) ∧ Rel n D R1 s s S.fork) := ⟨hF, hFk.done⟩
      have n3 : ¬ w.heap.size + 2 = w.heap.size := by omega
      have n4 : ¬ w.heap.size + 3 = w.heap.size := by omega
      have n5 : ¬ w.heap.size + 2 = w.heap.size + 1 := by omega
      have n6 : ¬ w.heap.size + 3 = w.heap.size + 1 := by omega
      clear hI hF hFk hsb2
      go_wp2_with fail
      go_region
      all_goals
        go_wp2_with fail
        change bodyPost Try.prog Try.f17 _ _ _ _
        refine bodyPost_ret (v := .tuple #[.agg #[.slice A1 D.length k1, .slice B1 R1.length k1'], .agg #[.int .i64 s0, .int .i64 s1, .int .i64 s2, .int .i64 s3, .int .i64 s4, .int .i64 s5, .int .i64 s6, .int .i64 s7, .int .i64 s8, .int .i64 s9, .int .i64 s10, .int .i64 s11, .int .i64 s12, .int .i64 s13, .int .i64 s14, .int .i64 s15], .int .i64 0]) (res_fork _ _ _ _ _ _ _ _ _ _ _ _ _ _ _ _ _ _ _ _ _ _ _ _ _ _ _ _ _ _ _ _ _ _ _ _ _ _ _ _ _ _ _ _ w _ ?_ ?_) rfl ?_
        · rw [heap_drew]
          exact set16_other (set1 (set0 HB.out.1 _) _) (by omega) _ _ _ _ _ _ _ _ _ _ _ _ _ _ _ _
        · rw [heap_drew]
          exact set16_box (other_block (other_block HB.out.2 (by omega) _) (by omega) _) rfl _ _ _ _ _ _ _ _ _ _ _ _ _ _ _ _
        · refine ⟨R1, A1, k1, B1, k1', by rw [HSL.out]; rfl, HF.out.2, ?_, ((((((((((((((((((HE.out.setCell (by simp <;> omega) _).setCell (by simp <;> omega) _).setCell (by simp <;> omega) _).setCell (by simp <;> omega) _).setCell (by simp <;> omega) _).setCell (by simp <;> omega) _).setCell (by simp <;> omega) _).setCell (by simp <;> omega) _).setCell (by simp <;> omega) _).setCell (by simp <;> omega) _).setCell (by simp <;> omega) _).setCell (by simp <;> omega) _).setCell (by simp <;> omega) _).setCell (by simp <;> omega) _).setCell (by simp <;> omega) _).setCell (by simp <;> omega) _).setCell (by simp <;> omega) _).setCell (by simp <;> omega) _).drew⟩
          rcases HF.out.1 with h1 | h1
          · exact Or.inl h1
          · exact Or.inr ⟨((((((((((((((((((h1.1.setCell (by simp <;> omega) _).setCell (by simp <;> omega) _).setCell (by simp <;> omega) _).setCell (by simp <;> omega) _).setCell (by simp <;> omega) _).setCell (by simp <;> omega) _).setCell (by simp <;> omega) _).setCell (by simp <;> omega) _).setCell (by simp <;> omega) _).setCell (by simp <;> omega) _).setCell (by simp <;> omega) _).setCell (by simp <;> omega) _).setCell (by simp <;> omega) _).setCell (by simp <;> omega) _).setCell (by simp <;> omega) _).setCell (by simp <;> omega) _).setCell (by simp <;> omega) _).setCell (by simp <;> omega) _).drew.mono (by omega), ((((((((((((((((((h1.2.setCell (by simp <;> omega) _).setCell (by simp <;> omega) _).setCell (by simp <;> omega) _).setCell (by simp <;> omega) _).setCell (by simp <;> omega) _).setCell (by simp <;> omega) _).setCell (by simp <;> omega) _).setCell (by simp <;> omega) _).setCell (by simp <;> omega) _).setCell (by simp <;> omega) _).setCell (by simp <;> omega) _).setCell (by simp <;> omega) _).setCell (by simp <;> omega) _).setCell (by simp <;> omega) _).setCell (by simp <;> omega) _).setCell (by simp <;> omega) _).setCell (by simp <;> omega) _).setCell (by simp <;> omega) _).drew.mono (by omega)⟩


theorem fkS0 : rst 0 (Try.f17.body.getD .skip) = .seq (stm 0 (Try.f17.body.getD .skip)) (rst 1 (Try.f17.body.getD .skip)) := by kernel_rfl

set_option maxRecDepth 100000 in
set_option maxHeartbeats 4000000 in
theorem fork_any (A B : Option Addr) (c c' n : Nat) (D : List (List Int)) (R s : List Int) (S : PS) (w : World) (hd : RowsAt w (.slice A D.length c) D) (hr : IntsAt w (.slice B R.length c') R) (hf : Fork n D R s S 0) :
    Calls Try.prog 17 #[.agg #[.slice A D.length c, .slice B R.length c'], .agg (pgc s)] w fun e w' => FkPost w (.slice A D.length c) (.slice B R.length c') n D R s S e w' := by
  obtain ⟨s0, s1, s2, s3, s4, s5, s6, s7, s8, s9, s10, s11, s12, s13, s14, s15, hsl⟩ := list16 hf.ls
  have e0 : Value.agg (pgc s) = .agg #[.int .i64 s0, .int .i64 s1, .int .i64 s2, .int .i64 s3, .int .i64 s4, .int .i64 s5, .int .i64 s6, .int .i64 s7, .int .i64 s8, .int .i64 s9, .int .i64 s10, .int .i64 s11, .int .i64 s12, .int .i64 s13, .int .i64 s14, .int .i64 s15] := by rw [hsl]; rfl
  rw [e0]
  go_enter Try.func17, Try.ntmps17
  refine wp_stm (k := 0) fkS0 (fk0 _ _ _ _ _ _ _ _ _ _ _ _ _ _ _ _ _ _ _ _ _ _ _ _ _ _ _ _ A B D.length c R.length c' s0 s1 s2 s3 s4 s5 s6 s7 s8 s9 s10 s11 s12 s13 s14 s15 w _ _ ?_)
  intro W0 h0
  rw [← hsl] at h0
  exact fkT _ _ _ _ _ _ _ _ _ _ _ _ _ _ _ _ _ _ _ _ _ _ _ _ _ A B c c' n D R s S w W0 h0 hd hr hf

end Go.Proofs.Ytlcdefpdahjjeaf
