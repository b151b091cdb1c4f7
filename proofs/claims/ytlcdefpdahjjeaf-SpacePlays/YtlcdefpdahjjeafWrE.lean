/- Contract of space.write: where it ends. (Written by tools/gen_wr.py.) -/
import Derived.Test.YtlcdefpdahjjeafWr
namespace Go.Proofs.Ytlcdefpdahjjeaf
open Go.RowKit

set_option maxRecDepth 100000 in
set_option maxHeartbeats 4000000 in
theorem wr7 (c0 c1 c2 c3 c6 c7 c10 c11 c12 c13 c14 c15 c16 c17 c18 c19 c20 c21 c22 c23 c24 c25 c26 c27 c28 c29 c30 c31 c32 c33 c34 c35 c36 c37 c38 c39 c40 c41 c42 c43 c44 c45 c46 c47 c48 c49 c50 c51 c52 c53 c54 c55 c56 : Value) (A B : Option Addr) (c c' : Nat) (D : List (List Int)) (R s : List Int) (w W : World) 
    (h : WrI w W (.slice A D.length c) (.slice B R.length c') s) (hs : s.length = 16) (hf : RowsLo (w.heap.size + 4) W (.slice A D.length c) D ∧ IntsLo (w.heap.size + 4) W (.slice B R.length c') R) :
    Code.wp Try.prog (rst 7 (Try.f16.body.getD .skip)) (bodyPost Try.prog Try.f16 (fun e w' => WrPost w D R s 0 e w')) ⟨#[c0, c1, c2, c3, .pointer (some ⟨w.heap.size, 0, none⟩), .pointer (some ⟨w.heap.size + 1, 0, none⟩), c6, c7, .pointer (some ⟨w.heap.size + 2, 0, none⟩), .pointer (some ⟨w.heap.size + 3, 0, none⟩), c10, c11, c12, c13, c14, c15, c16, c17, c18, c19, c20, c21, c22, c23, c24, c25, c26, c27, c28, c29, c30, c31, c32, c33, c34, c35, c36, c37, c38, c39, c40, c41, c42, c43, c44, c45, c46, c47, c48, c49, c50, c51, c52, c53, c54, c55, c56], []⟩ W := by
  conv => arg 2; whnf
  obtain ⟨s0, s1, s2, s3, s4, s5, s6, s7, s8, s9, s10, s11, s12, s13, s14, s15, rfl⟩ := list16 hs
  obtain ⟨f0, f1, ff, fl⟩ := two_cells h.fb
  have hsb : W.heap[w.heap.size + 1]? = some (.cells #[.int .i64 s0, .int .i64 s1, .int .i64 s2, .int .i64 s3, .int .i64 s4, .int .i64 s5, .int .i64 s6, .int .i64 s7, .int .i64 s8, .int .i64 s9, .int .i64 s10, .int .i64 s11, .int .i64 s12, .int .i64 s13, .int .i64 s14, .int .i64 s15] 48 (0, 0)) := h.sb
  obtain ⟨⟨z0, z1, z2, z3, z4, z5, z6, z7, z8, z9, z10, z11, z12, z13, z14, z15⟩, zf, zl⟩ := sixteen_cells hsb
  obtain ⟨⟨y0, y1, y2, y3, y4, y5, y6, y7, y8, y9, y10, y11, y12, y13, y14, y15⟩, yf, yl⟩ := sixteen_cells h.rs
  obtain ⟨x0, x1, xf, xl⟩ := two_cells h.rb
  have HE : Hid (Below w.heap.size w W) := h.old
  have HF : Hid (RowsLo (w.heap.size + 4) W (.slice A D.length c) D ∧ IntsLo (w.heap.size + 4) W (.slice B R.length c') R) := hf
  have HB : Hid (W.heap[w.heap.size + 2]? = some (.cells #[nilv, nilv] 44 (0, 0)) ∧ W.heap[w.heap.size + 3]? = some (.cells zero16 48 (0, 0))) := ⟨h.rb, h.rs⟩
  have n3 : ¬ w.heap.size + 2 = w.heap.size := by omega
  have n4 : ¬ w.heap.size + 3 = w.heap.size := by omega
  have n5 : ¬ w.heap.size + 2 = w.heap.size + 1 := by omega
  have n6 : ¬ w.heap.size + 3 = w.heap.size + 1 := by omega
  clear h hs hsb hf
  go_wp2_with fail
  go_region
  all_goals
    go_wp2_with fail
    change bodyPost Try.prog Try.f16 _ _ _ _
    refine bodyPost_ret (v := .tuple #[.agg #[.slice A D.length c, .slice B R.length c'], .agg #[.int .i64 s0, .int .i64 s1, .int .i64 s2, .int .i64 s3, .int .i64 s4, .int .i64 s5, .int .i64 s6, .int .i64 s7, .int .i64 s8, .int .i64 s9, .int .i64 s10, .int .i64 s11, .int .i64 s12, .int .i64 s13, .int .i64 s14, .int .i64 s15], .int .i64 0]) (res_write _ _ _ _ _ _ _ _ _ _ _ _ _ _ _ _ _ _ _ _ _ _ _ _ _ _ _ _ _ _ _ _ _ _ _ _ _ _ _ _ _ _ _ _ _ _ _ _ _ _ _ _ _ _ _ _ _ _ _ _ _ _ _ _ _ _ _ _ _ _ _ w _ ?_ ?_) rfl ?_
    · rw [heap_drew]
      exact set16_other (set1 (set0 HB.out.1 _) _) (by omega) _ _ _ _ _ _ _ _ _ _ _ _ _ _ _ _
    · rw [heap_drew]
      exact set16_box (other_block (other_block HB.out.2 (by omega) _) (by omega) _) rfl _ _ _ _ _ _ _ _ _ _ _ _ _ _ _ _
    · exact ⟨A, c, B, c', rfl, ((((((((((((((((((HF.out.1.setCell (by simp <;> omega) _).setCell (by simp <;> omega) _).setCell (by simp <;> omega) _).setCell (by simp <;> omega) _).setCell (by simp <;> omega) _).setCell (by simp <;> omega) _).setCell (by simp <;> omega) _).setCell (by simp <;> omega) _).setCell (by simp <;> omega) _).setCell (by simp <;> omega) _).setCell (by simp <;> omega) _).setCell (by simp <;> omega) _).setCell (by simp <;> omega) _).setCell (by simp <;> omega) _).setCell (by simp <;> omega) _).setCell (by simp <;> omega) _).setCell (by simp <;> omega) _).setCell (by simp <;> omega) _).drew.mono (by omega), ((((((((((((((((((HF.out.2.setCell (by simp <;> omega) _).setCell (by simp <;> omega) _).setCell (by simp <;> omega) _).setCell (by simp <;> omega) _).setCell (by simp <;> omega) _).setCell (by simp <;> omega) _).setCell (by simp <;> omega) _).setCell (by simp <;> omega) _).setCell (by simp <;> omega) _).setCell (by simp <;> omega) _).setCell (by simp <;> omega) _).setCell (by simp <;> omega) _).setCell (by simp <;> omega) _).setCell (by simp <;> omega) _).setCell (by simp <;> omega) _).setCell (by simp <;> omega) _).setCell (by simp <;> omega) _).setCell (by simp <;> omega) _).drew.mono (by omega), ((((((((((((((((((HE.out.setCell (by simp <;> omega) _).setCell (by simp <;> omega) _).setCell (by simp <;> omega) _).setCell (by simp <;> omega) _).setCell (by simp <;> omega) _).setCell (by simp <;> omega) _).setCell (by simp <;> omega) _).setCell (by simp <;> omega) _).setCell (by simp <;> omega) _).setCell (by simp <;> omega) _).setCell (by simp <;> omega) _).setCell (by simp <;> omega) _).setCell (by simp <;> omega) _).setCell (by simp <;> omega) _).setCell (by simp <;> omega) _).setCell (by simp <;> omega) _).setCell (by simp <;> omega) _).setCell (by simp <;> omega) _).drew⟩


end Go.Proofs.Ytlcdefpdahjjeaf
