/- Contract of space.write: where it ends. (Written by tools/gen_wr.py.) -/
import Derived.Test.YtlcdefpdahjjeafWr
namespace Go.Proofs.Ytlcdefpdahjjeaf
open Go.RowKit

set_option maxRecDepth 100000 in
set_option maxHeartbeats 4000000 in
theorem wr1ra (c0 c1 c3 c6 c7 c10 c11 c12 c13 c14 c15 c16 c17 c18 c19 c20 c21 c22 c23 c24 c25 c26 c27 c28 c29 c30 c31 c32 c33 c34 c35 c36 c37 c38 c39 c40 c41 c42 c43 c44 c45 c46 c47 c48 c49 c50 c51 c52 c53 c54 c55 c56 : Value) (a : Int) (d r : Value) (s : List Int) (w W : World) (K : Act → World → Prop)
    (h : WrI w W d r s) (h1 : a < 0) :
    Code.wp Try.prog (stm 1 (Try.f16.body.getD .skip)) (Exit.then K (bodyPost Try.prog Try.f16 (fun e w' => WrPost w [] [] zeros 2 e w'))) ⟨#[c0, c1, .int .i64 a, c3, .pointer (some ⟨w.heap.size, 0, none⟩), .pointer (some ⟨w.heap.size + 1, 0, none⟩), c6, c7, .pointer (some ⟨w.heap.size + 2, 0, none⟩), .pointer (some ⟨w.heap.size + 3, 0, none⟩), c10, c11, c12, c13, c14, c15, c16, c17, c18, c19, c20, c21, c22, c23, c24, c25, c26, c27, c28, c29, c30, c31, c32, c33, c34, c35, c36, c37, c38, c39, c40, c41, c42, c43, c44, c45, c46, c47, c48, c49, c50, c51, c52, c53, c54, c55, c56], []⟩ W := by
  conv => arg 2; whnf
  obtain ⟨⟨y0, y1, y2, y3, y4, y5, y6, y7, y8, y9, y10, y11, y12, y13, y14, y15⟩, yf, yl⟩ := sixteen_cells h.rs
  obtain ⟨x0, x1, xf, xl⟩ := two_cells h.rb
  have HE : Hid (Below w.heap.size w W) := h.old
  have HB : Hid (W.heap[w.heap.size + 2]? = some (.cells #[nilv, nilv] 44 (0, 0)) ∧ W.heap[w.heap.size + 3]? = some (.cells zero16 48 (0, 0))) := ⟨h.rb, h.rs⟩
  clear h
  go_wp2_with fail
  change bodyPost Try.prog Try.f16 _ _ _ _
  refine bodyPost_ret (v := .tuple #[.agg #[nilv, nilv], .agg zero16, .int .i64 2]) (res_write _ _ _ _ _ _ _ _ _ _ _ _ _ _ _ _ _ _ _ _ _ _ _ _ _ _ _ _ _ _ _ _ _ _ _ _ _ _ _ _ _ _ _ _ _ _ _ _ _ _ _ _ _ _ _ _ _ _ _ _ _ _ _ _ _ _ _ _ _ _ _ w _ (set16_other (set1 (set0 HB.out.1 _) _) (by omega) _ _ _ _ _ _ _ _ _ _ _ _ _ _ _ _) (set16_box (other_block (other_block HB.out.2 (by omega) _) (by omega) _) rfl _ _ _ _ _ _ _ _ _ _ _ _ _ _ _ _)) rfl ?_
  exact wrPost_no (set16_below ((HE.out.setCell (by simp) _).setCell (by simp) _) (by omega) _ _ _ _ _ _ _ _ _ _ _ _ _ _ _ _)


set_option maxRecDepth 100000 in
set_option maxHeartbeats 4000000 in
theorem wr1rb (c0 c1 c3 c6 c7 c10 c11 c12 c13 c14 c15 c16 c17 c18 c19 c20 c21 c22 c23 c24 c25 c26 c27 c28 c29 c30 c31 c32 c33 c34 c35 c36 c37 c38 c39 c40 c41 c42 c43 c44 c45 c46 c47 c48 c49 c50 c51 c52 c53 c54 c55 c56 : Value) (a : Int) (d r : Value) (s : List Int) (w W : World) (K : Act → World → Prop)
    (h : WrI w W d r s) (h1 : 256 ≤ a) :
    Code.wp Try.prog (stm 1 (Try.f16.body.getD .skip)) (Exit.then K (bodyPost Try.prog Try.f16 (fun e w' => WrPost w [] [] zeros 2 e w'))) ⟨#[c0, c1, .int .i64 a, c3, .pointer (some ⟨w.heap.size, 0, none⟩), .pointer (some ⟨w.heap.size + 1, 0, none⟩), c6, c7, .pointer (some ⟨w.heap.size + 2, 0, none⟩), .pointer (some ⟨w.heap.size + 3, 0, none⟩), c10, c11, c12, c13, c14, c15, c16, c17, c18, c19, c20, c21, c22, c23, c24, c25, c26, c27, c28, c29, c30, c31, c32, c33, c34, c35, c36, c37, c38, c39, c40, c41, c42, c43, c44, c45, c46, c47, c48, c49, c50, c51, c52, c53, c54, c55, c56], []⟩ W := by
  conv => arg 2; whnf
  have d0 : ¬ a < 0 := by omega
  obtain ⟨⟨y0, y1, y2, y3, y4, y5, y6, y7, y8, y9, y10, y11, y12, y13, y14, y15⟩, yf, yl⟩ := sixteen_cells h.rs
  obtain ⟨x0, x1, xf, xl⟩ := two_cells h.rb
  have HE : Hid (Below w.heap.size w W) := h.old
  have HB : Hid (W.heap[w.heap.size + 2]? = some (.cells #[nilv, nilv] 44 (0, 0)) ∧ W.heap[w.heap.size + 3]? = some (.cells zero16 48 (0, 0))) := ⟨h.rb, h.rs⟩
  clear h
  go_wp2_with fail
  change bodyPost Try.prog Try.f16 _ _ _ _
  refine bodyPost_ret (v := .tuple #[.agg #[nilv, nilv], .agg zero16, .int .i64 2]) (res_write _ _ _ _ _ _ _ _ _ _ _ _ _ _ _ _ _ _ _ _ _ _ _ _ _ _ _ _ _ _ _ _ _ _ _ _ _ _ _ _ _ _ _ _ _ _ _ _ _ _ _ _ _ _ _ _ _ _ _ _ _ _ _ _ _ _ _ _ _ _ _ w _ (set16_other (set1 (set0 HB.out.1 _) _) (by omega) _ _ _ _ _ _ _ _ _ _ _ _ _ _ _ _) (set16_box (other_block (other_block HB.out.2 (by omega) _) (by omega) _) rfl _ _ _ _ _ _ _ _ _ _ _ _ _ _ _ _)) rfl ?_
  exact wrPost_no (set16_below ((HE.out.setCell (by simp) _).setCell (by simp) _) (by omega) _ _ _ _ _ _ _ _ _ _ _ _ _ _ _ _)


set_option maxRecDepth 100000 in
set_option maxHeartbeats 4000000 in
theorem wr3r (c0 c1 c2 c3 c6 c7 c10 c11 c13 c14 c15 c16 c17 c18 c19 c20 c21 c22 c23 c24 c25 c26 c27 c28 c29 c30 c31 c32 c33 c34 c35 c36 c37 c38 c39 c40 c41 c42 c43 c44 c45 c46 c47 c48 c49 c50 c51 c52 c53 c54 c55 c56 : Value) (e1 : Int) (d r : Value) (s : List Int) (w W : World) (K : Act → World → Prop)
    (h : WrI w W d r s) (he : e1 ≠ 0) :
    Code.wp Try.prog (stm 3 (Try.f16.body.getD .skip)) (Exit.then K (bodyPost Try.prog Try.f16 (fun e w' => WrPost w [] [] zeros e1 e w'))) ⟨#[c0, c1, c2, c3, .pointer (some ⟨w.heap.size, 0, none⟩), .pointer (some ⟨w.heap.size + 1, 0, none⟩), c6, c7, .pointer (some ⟨w.heap.size + 2, 0, none⟩), .pointer (some ⟨w.heap.size + 3, 0, none⟩), c10, c11, .int .i64 e1, c13, c14, c15, c16, c17, c18, c19, c20, c21, c22, c23, c24, c25, c26, c27, c28, c29, c30, c31, c32, c33, c34, c35, c36, c37, c38, c39, c40, c41, c42, c43, c44, c45, c46, c47, c48, c49, c50, c51, c52, c53, c54, c55, c56], []⟩ W := by
  conv => arg 2; whnf
  have d0 : (e1 != 0) = true := by simpa using he
  clear he
  obtain ⟨⟨y0, y1, y2, y3, y4, y5, y6, y7, y8, y9, y10, y11, y12, y13, y14, y15⟩, yf, yl⟩ := sixteen_cells h.rs
  obtain ⟨x0, x1, xf, xl⟩ := two_cells h.rb
  have HE : Hid (Below w.heap.size w W) := h.old
  have HB : Hid (W.heap[w.heap.size + 2]? = some (.cells #[nilv, nilv] 44 (0, 0)) ∧ W.heap[w.heap.size + 3]? = some (.cells zero16 48 (0, 0))) := ⟨h.rb, h.rs⟩
  clear h
  go_wp2_with fail
  change bodyPost Try.prog Try.f16 _ _ _ _
  refine bodyPost_ret (v := .tuple #[.agg #[nilv, nilv], .agg zero16, .int .i64 e1]) (res_write _ _ _ _ _ _ _ _ _ _ _ _ _ _ _ _ _ _ _ _ _ _ _ _ _ _ _ _ _ _ _ _ _ _ _ _ _ _ _ _ _ _ _ _ _ _ _ _ _ _ _ _ _ _ _ _ _ _ _ _ _ _ _ _ _ _ _ _ _ _ _ w _ (set16_other (set1 (set0 HB.out.1 _) _) (by omega) _ _ _ _ _ _ _ _ _ _ _ _ _ _ _ _) (set16_box (other_block (other_block HB.out.2 (by omega) _) (by omega) _) rfl _ _ _ _ _ _ _ _ _ _ _ _ _ _ _ _)) rfl ?_
  exact wrPost_no (set16_below ((HE.out.setCell (by simp) _).setCell (by simp) _) (by omega) _ _ _ _ _ _ _ _ _ _ _ _ _ _ _ _)


set_option maxRecDepth 100000 in
set_option maxHeartbeats 4000000 in
theorem wr5r (c0 c1 c2 c3 c6 c7 c10 c11 c13 c14 c15 c16 c17 c18 c19 c20 c21 c22 c23 c24 c25 c26 c27 c28 c29 c30 c31 c32 c33 c34 c35 c36 c37 c38 c39 c40 c41 c42 c43 c44 c45 c46 c47 c48 c49 c50 c51 c52 c53 c54 c55 c56 : Value) (e1 : Int) (d r : Value) (s : List Int) (w W : World) (K : Act → World → Prop)
    (h : WrI w W d r s) (he : e1 ≠ 0) :
    Code.wp Try.prog (stm 5 (Try.f16.body.getD .skip)) (Exit.then K (bodyPost Try.prog Try.f16 (fun e w' => WrPost w [] [] zeros e1 e w'))) ⟨#[c0, c1, c2, c3, .pointer (some ⟨w.heap.size, 0, none⟩), .pointer (some ⟨w.heap.size + 1, 0, none⟩), c6, c7, .pointer (some ⟨w.heap.size + 2, 0, none⟩), .pointer (some ⟨w.heap.size + 3, 0, none⟩), c10, c11, .int .i64 e1, c13, c14, c15, c16, c17, c18, c19, c20, c21, c22, c23, c24, c25, c26, c27, c28, c29, c30, c31, c32, c33, c34, c35, c36, c37, c38, c39, c40, c41, c42, c43, c44, c45, c46, c47, c48, c49, c50, c51, c52, c53, c54, c55, c56], []⟩ W := by
  conv => arg 2; whnf
  have d0 : (e1 != 0) = true := by simpa using he
  clear he
  obtain ⟨⟨y0, y1, y2, y3, y4, y5, y6, y7, y8, y9, y10, y11, y12, y13, y14, y15⟩, yf, yl⟩ := sixteen_cells h.rs
  obtain ⟨x0, x1, xf, xl⟩ := two_cells h.rb
  have HE : Hid (Below w.heap.size w W) := h.old
  have HB : Hid (W.heap[w.heap.size + 2]? = some (.cells #[nilv, nilv] 44 (0, 0)) ∧ W.heap[w.heap.size + 3]? = some (.cells zero16 48 (0, 0))) := ⟨h.rb, h.rs⟩
  clear h
  go_wp2_with fail
  change bodyPost Try.prog Try.f16 _ _ _ _
  refine bodyPost_ret (v := .tuple #[.agg #[nilv, nilv], .agg zero16, .int .i64 e1]) (res_write _ _ _ _ _ _ _ _ _ _ _ _ _ _ _ _ _ _ _ _ _ _ _ _ _ _ _ _ _ _ _ _ _ _ _ _ _ _ _ _ _ _ _ _ _ _ _ _ _ _ _ _ _ _ _ _ _ _ _ _ _ _ _ _ _ _ _ _ _ _ _ w _ (set16_other (set1 (set0 HB.out.1 _) _) (by omega) _ _ _ _ _ _ _ _ _ _ _ _ _ _ _ _) (set16_box (other_block (other_block HB.out.2 (by omega) _) (by omega) _) rfl _ _ _ _ _ _ _ _ _ _ _ _ _ _ _ _)) rfl ?_
  exact wrPost_no (set16_below ((HE.out.setCell (by simp) _).setCell (by simp) _) (by omega) _ _ _ _ _ _ _ _ _ _ _ _ _ _ _ _)


end Go.Proofs.Ytlcdefpdahjjeaf
