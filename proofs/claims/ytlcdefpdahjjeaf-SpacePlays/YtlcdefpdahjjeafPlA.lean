/- space.Play: New, the first space, the fork, both. (Written by tools/gen_pl.py.) -/
import Derived.Test.YtlcdefpdahjjeafPl
namespace Go.Proofs.Ytlcdefpdahjjeaf
open Go.RowKit

set_option maxRecDepth 100000 in
set_option maxHeartbeats 4000000 in
theorem pl0 (c0 c1 c2 c3 c4 c5 c6 c7 c8 c9 c10 c11 c12 c13 c14 c15 c16 c17 c18 c19 c20 c21 c22 c23 c24 c25 c26 c27 c28 c29 c30 c31 c32 c33 c34 c35 c36 c37 c38 c39 c40 c41 c42 c43 c44 c45 c46 c47 c48 c49 c50 c51 c52 c53 c54 c55 c56 c57 c58 c59 c60 c61 c62 c63 c64 c65 c66 c67 c68 c69 c70 c71 c72 c73 c74 c75 c76 c77 c78 c79 c80 c81 c82 c83 c84 c85 c86 c87 c88 c89 c90 c91 c92 c93 c94 c95 c96 c97 c98 c99 c100 : Value)  (W : World) (K : Act → World → Prop) (Rr : Ending → World → Prop)
    
    (hK : ∀ (u6 u7 u8 u9 : Value) (W' : World), W' = W → K ⟨#[c0, c1, c2, c3, c4, c5, u6, u7, u8, u9, c10, c11, c12, c13, c14, c15, c16, c17, c18, c19, c20, c21, c22, c23, c24, c25, c26, c27, c28, c29, c30, c31, c32, c33, c34, c35, c36, c37, c38, c39, c40, c41, c42, c43, c44, c45, c46, c47, c48, c49, c50, c51, c52, c53, c54, c55, c56, c57, c58, c59, c60, c61, c62, c63, c64, c65, c66, c67, c68, c69, c70, c71, c72, c73, c74, c75, c76, c77, c78, c79, c80, c81, c82, c83, c84, c85, c86, c87, c88, c89, c90, c91, c92, c93, c94, c95, c96, c97, c98, c99, c100], []⟩ W') :
    Code.wp Try.prog (stm 0 (Try.f6.body.getD .skip)) (Exit.then K (bodyPost Try.prog Try.f6 Rr)) ⟨#[c0, c1, c2, c3, c4, c5, c6, c7, c8, c9, c10, c11, c12, c13, c14, c15, c16, c17, c18, c19, c20, c21, c22, c23, c24, c25, c26, c27, c28, c29, c30, c31, c32, c33, c34, c35, c36, c37, c38, c39, c40, c41, c42, c43, c44, c45, c46, c47, c48, c49, c50, c51, c52, c53, c54, c55, c56, c57, c58, c59, c60, c61, c62, c63, c64, c65, c66, c67, c68, c69, c70, c71, c72, c73, c74, c75, c76, c77, c78, c79, c80, c81, c82, c83, c84, c85, c86, c87, c88, c89, c90, c91, c92, c93, c94, c95, c96, c97, c98, c99, c100], []⟩ W := by
  have HK : Hid (∀ (u6 u7 u8 u9 : Value) (W' : World), W' = W → K ⟨#[c0, c1, c2, c3, c4, c5, u6, u7, u8, u9, c10, c11, c12, c13, c14, c15, c16, c17, c18, c19, c20, c21, c22, c23, c24, c25, c26, c27, c28, c29, c30, c31, c32, c33, c34, c35, c36, c37, c38, c39, c40, c41, c42, c43, c44, c45, c46, c47, c48, c49, c50, c51, c52, c53, c54, c55, c56, c57, c58, c59, c60, c61, c62, c63, c64, c65, c66, c67, c68, c69, c70, c71, c72, c73, c74, c75, c76, c77, c78, c79, c80, c81, c82, c83, c84, c85, c86, c87, c88, c89, c90, c91, c92, c93, c94, c95, c96, c97, c98, c99, c100], []⟩ W') := hK
  clear hK
  conv => arg 2; whnf
  go_wp2_with fail
  exact HK.out _ _ _ _ _ rfl


set_option maxRecDepth 100000 in
set_option maxHeartbeats 4000000 in
theorem pl1 (c1 c2 c3 c4 c5 c6 c7 c8 c9 c10 c11 c12 c13 c14 c15 c16 c17 c18 c19 c20 c21 c22 c23 c24 c25 c26 c27 c28 c29 c30 c31 c32 c33 c34 c35 c36 c37 c38 c39 c40 c41 c42 c43 c44 c45 c46 c47 c48 c49 c50 c51 c52 c53 c54 c55 c56 c57 c58 c59 c60 c61 c62 c63 c64 c65 c66 c67 c68 c69 c70 c71 c72 c73 c74 c75 c76 c77 c78 c79 c80 c81 c82 c83 c84 c85 c86 c87 c88 c89 c90 c91 c92 c93 c94 c95 c96 c97 c98 c99 c100 : Value) (n : Int) (w W : World) (K : Act → World → Prop) (Rr : Ending → World → Prop)
    (hW : Below w.heap.size w W)
    (hK : ∀ (u20 u21 u22 u23 u24 : Value) (bf : Nat) (A B : Option Addr) (c c' : Nat) (W' : World), W'.heap[bf]? = some (.cells #[.slice A (newD n).length c, .slice B (newR n).length c'] 44 (0, 0)) → RowsB (fun b => b ≠ bf) W' (.slice A (newD n).length c) (newD n) → IntsB (fun b => b ≠ bf) W' (.slice B (newR n).length c') (newR n) → w.heap.size ≤ bf → Below w.heap.size w W' → K ⟨#[.int .i64 n, c1, c2, c3, c4, c5, c6, c7, c8, c9, .pointer (some ⟨bf, 0, none⟩), .int .i64 (newE n), c12, c13, c14, c15, c16, c17, c18, c19, u20, u21, u22, u23, u24, c25, c26, c27, c28, c29, c30, c31, c32, c33, c34, c35, c36, c37, c38, c39, c40, c41, c42, c43, c44, c45, c46, c47, c48, c49, c50, c51, c52, c53, c54, c55, c56, c57, c58, c59, c60, c61, c62, c63, c64, c65, c66, c67, c68, c69, c70, c71, c72, c73, c74, c75, c76, c77, c78, c79, c80, c81, c82, c83, c84, c85, c86, c87, c88, c89, c90, c91, c92, c93, c94, c95, c96, c97, c98, c99, c100], []⟩ W') :
    Code.wp Try.prog (stm 1 (Try.f6.body.getD .skip)) (Exit.then K (bodyPost Try.prog Try.f6 Rr)) ⟨#[.int .i64 n, c1, c2, c3, c4, c5, c6, c7, c8, c9, c10, c11, c12, c13, c14, c15, c16, c17, c18, c19, c20, c21, c22, c23, c24, c25, c26, c27, c28, c29, c30, c31, c32, c33, c34, c35, c36, c37, c38, c39, c40, c41, c42, c43, c44, c45, c46, c47, c48, c49, c50, c51, c52, c53, c54, c55, c56, c57, c58, c59, c60, c61, c62, c63, c64, c65, c66, c67, c68, c69, c70, c71, c72, c73, c74, c75, c76, c77, c78, c79, c80, c81, c82, c83, c84, c85, c86, c87, c88, c89, c90, c91, c92, c93, c94, c95, c96, c97, c98, c99, c100], []⟩ W := by
  have HK : Hid (∀ (u20 u21 u22 u23 u24 : Value) (bf : Nat) (A B : Option Addr) (c c' : Nat) (W' : World), W'.heap[bf]? = some (.cells #[.slice A (newD n).length c, .slice B (newR n).length c'] 44 (0, 0)) → RowsB (fun b => b ≠ bf) W' (.slice A (newD n).length c) (newD n) → IntsB (fun b => b ≠ bf) W' (.slice B (newR n).length c') (newR n) → w.heap.size ≤ bf → Below w.heap.size w W' → K ⟨#[.int .i64 n, c1, c2, c3, c4, c5, c6, c7, c8, c9, .pointer (some ⟨bf, 0, none⟩), .int .i64 (newE n), c12, c13, c14, c15, c16, c17, c18, c19, u20, u21, u22, u23, u24, c25, c26, c27, c28, c29, c30, c31, c32, c33, c34, c35, c36, c37, c38, c39, c40, c41, c42, c43, c44, c45, c46, c47, c48, c49, c50, c51, c52, c53, c54, c55, c56, c57, c58, c59, c60, c61, c62, c63, c64, c65, c66, c67, c68, c69, c70, c71, c72, c73, c74, c75, c76, c77, c78, c79, c80, c81, c82, c83, c84, c85, c86, c87, c88, c89, c90, c91, c92, c93, c94, c95, c96, c97, c98, c99, c100], []⟩ W') := hK
  clear hK
  conv => arg 2; whnf
  have HW : Hid (Below w.heap.size w W) := hW
  have HC : Hid (Calls Try.prog 14 #[.int .i64 n] W fun e w' => NewPost n W e w') := New_any n W
  clear hW
  go_wp2_with fail
  refine HC.out.mono ?_
  rintro e w1 ⟨A, c, B, c', rfl, hD, hR, hb⟩
  have HE : Hid (RowsB (fun b => b ≠ w1.heap.size) w1 (.slice A (newD n).length c) (newD n) ∧ IntsB (fun b => b ≠ w1.heap.size) w1 (.slice B (newR n).length c') (newR n) ∧ Below w.heap.size w w1) := ⟨hD.at.inB.mono (fun b h _ => by omega), hR.at.inB.mono (fun b h _ => by omega), HW.out.trans (hb.mono HW.out.size)⟩
  obtain ⟨dl, hdl⟩ : ∃ dl, dl = (newD n).length := ⟨_, rfl⟩
  obtain ⟨rl, hrl⟩ : ∃ rl, rl = (newR n).length := ⟨_, rfl⟩
  obtain ⟨en, hen⟩ : ∃ en, en = newE n := ⟨_, rfl⟩
  rw [← hdl, ← hrl] at HE HK
  rw [← hen] at HK
  rw [← hdl, ← hrl, ← hen]
  clear hD hR hb HC HW hdl hrl hen
  dsimp only
  go_wp2_with fail
  exact HK.out _ _ _ _ _ _ _ _ _ _ _ (Go.Deep.blk_alloc_new _ _) (HE.out.1.below (below_alloc _ _)) (HE.out.2.1.below (below_alloc _ _)) HE.out.2.2.size (HE.out.2.2.alloc HE.out.2.2.size _)


set_option maxRecDepth 100000 in
set_option maxHeartbeats 4000000 in
theorem pl2 (c0 c1 c2 c3 c4 c5 c6 c7 c8 c9 c10 c12 c13 c14 c15 c16 c17 c18 c19 c20 c21 c22 c23 c24 c25 c26 c27 c28 c29 c30 c31 c32 c33 c34 c35 c36 c37 c38 c39 c40 c41 c42 c43 c44 c45 c46 c47 c48 c49 c50 c51 c52 c53 c54 c55 c56 c57 c58 c59 c60 c61 c62 c63 c64 c65 c66 c67 c68 c69 c70 c71 c72 c73 c74 c75 c76 c77 c78 c79 c80 c81 c82 c83 c84 c85 c86 c87 c88 c89 c90 c91 c92 c93 c94 c95 c96 c97 c98 c99 c100 : Value)  (W : World) (K : Act → World → Prop) (Rr : Ending → World → Prop)
    
    (hK : ∀ (u25 u26 : Value) (W' : World), W' = W → K ⟨#[c0, c1, c2, c3, c4, c5, c6, c7, c8, c9, c10, .int .i64 0, c12, c13, c14, c15, c16, c17, c18, c19, c20, c21, c22, c23, c24, u25, u26, c27, c28, c29, c30, c31, c32, c33, c34, c35, c36, c37, c38, c39, c40, c41, c42, c43, c44, c45, c46, c47, c48, c49, c50, c51, c52, c53, c54, c55, c56, c57, c58, c59, c60, c61, c62, c63, c64, c65, c66, c67, c68, c69, c70, c71, c72, c73, c74, c75, c76, c77, c78, c79, c80, c81, c82, c83, c84, c85, c86, c87, c88, c89, c90, c91, c92, c93, c94, c95, c96, c97, c98, c99, c100], []⟩ W') :
    Code.wp Try.prog (stm 2 (Try.f6.body.getD .skip)) (Exit.then K (bodyPost Try.prog Try.f6 Rr)) ⟨#[c0, c1, c2, c3, c4, c5, c6, c7, c8, c9, c10, .int .i64 0, c12, c13, c14, c15, c16, c17, c18, c19, c20, c21, c22, c23, c24, c25, c26, c27, c28, c29, c30, c31, c32, c33, c34, c35, c36, c37, c38, c39, c40, c41, c42, c43, c44, c45, c46, c47, c48, c49, c50, c51, c52, c53, c54, c55, c56, c57, c58, c59, c60, c61, c62, c63, c64, c65, c66, c67, c68, c69, c70, c71, c72, c73, c74, c75, c76, c77, c78, c79, c80, c81, c82, c83, c84, c85, c86, c87, c88, c89, c90, c91, c92, c93, c94, c95, c96, c97, c98, c99, c100], []⟩ W := by
  have HK : Hid (∀ (u25 u26 : Value) (W' : World), W' = W → K ⟨#[c0, c1, c2, c3, c4, c5, c6, c7, c8, c9, c10, .int .i64 0, c12, c13, c14, c15, c16, c17, c18, c19, c20, c21, c22, c23, c24, u25, u26, c27, c28, c29, c30, c31, c32, c33, c34, c35, c36, c37, c38, c39, c40, c41, c42, c43, c44, c45, c46, c47, c48, c49, c50, c51, c52, c53, c54, c55, c56, c57, c58, c59, c60, c61, c62, c63, c64, c65, c66, c67, c68, c69, c70, c71, c72, c73, c74, c75, c76, c77, c78, c79, c80, c81, c82, c83, c84, c85, c86, c87, c88, c89, c90, c91, c92, c93, c94, c95, c96, c97, c98, c99, c100], []⟩ W') := hK
  clear hK
  conv => arg 2; whnf
  go_wp2_with fail
  exact HK.out _ _ _ rfl


set_option maxRecDepth 100000 in
set_option maxHeartbeats 4000000 in
theorem pl6 (c0 c1 c2 c3 c4 c5 c6 c7 c8 c9 c10 c12 c13 c14 c15 c16 c17 c18 c19 c20 c21 c22 c23 c24 c25 c26 c27 c28 c29 c30 c31 c32 c33 c34 c35 c36 c37 c38 c39 c40 c41 c42 c43 c44 c45 c46 c47 c48 c49 c50 c51 c52 c53 c54 c55 c56 c57 c58 c59 c60 c61 c62 c63 c64 c65 c66 c67 c68 c69 c70 c71 c72 c73 c74 c75 c76 c77 c78 c79 c80 c81 c82 c83 c84 c85 c86 c87 c88 c89 c90 c91 c92 c93 c94 c95 c96 c97 c98 c99 c100 : Value)  (W : World) (K : Act → World → Prop) (Rr : Ending → World → Prop)
    
    (hK : ∀ (u57 u58 : Value) (W' : World), W' = W → K ⟨#[c0, c1, c2, c3, c4, c5, c6, c7, c8, c9, c10, .int .i64 0, c12, c13, c14, c15, c16, c17, c18, c19, c20, c21, c22, c23, c24, c25, c26, c27, c28, c29, c30, c31, c32, c33, c34, c35, c36, c37, c38, c39, c40, c41, c42, c43, c44, c45, c46, c47, c48, c49, c50, c51, c52, c53, c54, c55, c56, u57, u58, c59, c60, c61, c62, c63, c64, c65, c66, c67, c68, c69, c70, c71, c72, c73, c74, c75, c76, c77, c78, c79, c80, c81, c82, c83, c84, c85, c86, c87, c88, c89, c90, c91, c92, c93, c94, c95, c96, c97, c98, c99, c100], []⟩ W') :
    Code.wp Try.prog (stm 6 (Try.f6.body.getD .skip)) (Exit.then K (bodyPost Try.prog Try.f6 Rr)) ⟨#[c0, c1, c2, c3, c4, c5, c6, c7, c8, c9, c10, .int .i64 0, c12, c13, c14, c15, c16, c17, c18, c19, c20, c21, c22, c23, c24, c25, c26, c27, c28, c29, c30, c31, c32, c33, c34, c35, c36, c37, c38, c39, c40, c41, c42, c43, c44, c45, c46, c47, c48, c49, c50, c51, c52, c53, c54, c55, c56, c57, c58, c59, c60, c61, c62, c63, c64, c65, c66, c67, c68, c69, c70, c71, c72, c73, c74, c75, c76, c77, c78, c79, c80, c81, c82, c83, c84, c85, c86, c87, c88, c89, c90, c91, c92, c93, c94, c95, c96, c97, c98, c99, c100], []⟩ W := by
  have HK : Hid (∀ (u57 u58 : Value) (W' : World), W' = W → K ⟨#[c0, c1, c2, c3, c4, c5, c6, c7, c8, c9, c10, .int .i64 0, c12, c13, c14, c15, c16, c17, c18, c19, c20, c21, c22, c23, c24, c25, c26, c27, c28, c29, c30, c31, c32, c33, c34, c35, c36, c37, c38, c39, c40, c41, c42, c43, c44, c45, c46, c47, c48, c49, c50, c51, c52, c53, c54, c55, c56, u57, u58, c59, c60, c61, c62, c63, c64, c65, c66, c67, c68, c69, c70, c71, c72, c73, c74, c75, c76, c77, c78, c79, c80, c81, c82, c83, c84, c85, c86, c87, c88, c89, c90, c91, c92, c93, c94, c95, c96, c97, c98, c99, c100], []⟩ W') := hK
  clear hK
  conv => arg 2; whnf
  go_wp2_with fail
  exact HK.out _ _ _ rfl


set_option maxRecDepth 100000 in
set_option maxHeartbeats 4000000 in
theorem pl2r (c0 c1 c2 c3 c4 c5 c6 c7 c8 c9 c10 c12 c13 c14 c15 c16 c17 c18 c19 c20 c21 c22 c23 c24 c25 c26 c27 c28 c29 c30 c31 c32 c33 c34 c35 c36 c37 c38 c39 c40 c41 c42 c43 c44 c45 c46 c47 c48 c49 c50 c51 c52 c53 c54 c55 c56 c57 c58 c59 c60 c61 c62 c63 c64 c65 c66 c67 c68 c69 c70 c71 c72 c73 c74 c75 c76 c77 c78 c79 c80 c81 c82 c83 c84 c85 c86 c87 c88 c89 c90 c91 c92 c93 c94 c95 c96 c97 c98 c99 c100 : Value) (e1 : Int) (w W : World) (K : Act → World → Prop)
    (he : e1 ≠ 0) (hb : Below w.heap.size w W) :
    Code.wp Try.prog (stm 2 (Try.f6.body.getD .skip)) (Exit.then K (bodyPost Try.prog Try.f6 (fun e w' => PlayPost w ([], [], 0, e1) e w'))) ⟨#[c0, c1, c2, c3, c4, c5, c6, c7, c8, c9, c10, .int .i64 e1, c12, c13, c14, c15, c16, c17, c18, c19, c20, c21, c22, c23, c24, c25, c26, c27, c28, c29, c30, c31, c32, c33, c34, c35, c36, c37, c38, c39, c40, c41, c42, c43, c44, c45, c46, c47, c48, c49, c50, c51, c52, c53, c54, c55, c56, c57, c58, c59, c60, c61, c62, c63, c64, c65, c66, c67, c68, c69, c70, c71, c72, c73, c74, c75, c76, c77, c78, c79, c80, c81, c82, c83, c84, c85, c86, c87, c88, c89, c90, c91, c92, c93, c94, c95, c96, c97, c98, c99, c100], []⟩ W := by
  conv => arg 2; whnf
  have d0 : (e1 != 0) = true := by simpa using he
  have HB : Hid (Below w.heap.size w W) := hb
  clear he hb
  go_wp2_with fail
  change bodyPost Try.prog Try.f6 _ _ _ _
  exact bodyPost_ret (v := .tuple #[.slice none 0 0, .slice none 0 0, .int .i64 0, .int .i64 e1]) (by simp [results, Try.results6, go_sem]) rfl (playPost_no HB.out)


set_option maxRecDepth 100000 in
set_option maxHeartbeats 4000000 in
theorem pl3 (c0 c1 c2 c3 c4 c5 c6 c7 c8 c9 c11 c12 c13 c14 c15 c16 c17 c18 c19 c20 c21 c22 c23 c24 c25 c26 c27 c28 c29 c30 c31 c32 c33 c34 c35 c36 c37 c38 c39 c40 c41 c42 c43 c44 c45 c46 c47 c48 c49 c50 c51 c52 c53 c54 c55 c56 c57 c58 c59 c60 c61 c62 c63 c64 c65 c66 c67 c68 c69 c70 c71 c72 c73 c74 c75 c76 c77 c78 c79 c80 c81 c82 c83 c84 c85 c86 c87 c88 c89 c90 c91 c92 c93 c94 c95 c96 c97 c98 c99 c100 : Value) (bf : Nat) (A B : Option Addr) (c c' : Nat) (D : List (List Int)) (R : List Int) (w W : World) (K : Act → World → Prop) (Rr : Ending → World → Prop)
    (hf : W.heap[bf]? = some (.cells #[.slice A D.length c, .slice B R.length c'] 44 (0, 0))) (hD : RowsB (fun b => b ≠ bf) W (.slice A D.length c) D) (hR : IntsB (fun b => b ≠ bf) W (.slice B R.length c') R) (hlf : w.heap.size ≤ bf) (hW : Below w.heap.size w W)
    (hK : ∀ (u28 : Value) (bs : Nat) (W' : World), PlI w W' bf bs (.slice A D.length c) (.slice B R.length c') blank D R → K ⟨#[c0, c1, c2, c3, c4, c5, c6, c7, c8, c9, .pointer (some ⟨bf, 0, none⟩), c11, .pointer (some ⟨bs, 0, none⟩), c13, c14, c15, c16, c17, c18, c19, c20, c21, c22, c23, c24, c25, c26, c27, u28, c29, c30, c31, c32, c33, c34, c35, c36, c37, c38, c39, c40, c41, c42, c43, c44, c45, c46, c47, c48, c49, c50, c51, c52, c53, c54, c55, c56, c57, c58, c59, c60, c61, c62, c63, c64, c65, c66, c67, c68, c69, c70, c71, c72, c73, c74, c75, c76, c77, c78, c79, c80, c81, c82, c83, c84, c85, c86, c87, c88, c89, c90, c91, c92, c93, c94, c95, c96, c97, c98, c99, c100], []⟩ W') :
    Code.wp Try.prog (stm 3 (Try.f6.body.getD .skip)) (Exit.then K (bodyPost Try.prog Try.f6 Rr)) ⟨#[c0, c1, c2, c3, c4, c5, c6, c7, c8, c9, .pointer (some ⟨bf, 0, none⟩), c11, c12, c13, c14, c15, c16, c17, c18, c19, c20, c21, c22, c23, c24, c25, c26, c27, c28, c29, c30, c31, c32, c33, c34, c35, c36, c37, c38, c39, c40, c41, c42, c43, c44, c45, c46, c47, c48, c49, c50, c51, c52, c53, c54, c55, c56, c57, c58, c59, c60, c61, c62, c63, c64, c65, c66, c67, c68, c69, c70, c71, c72, c73, c74, c75, c76, c77, c78, c79, c80, c81, c82, c83, c84, c85, c86, c87, c88, c89, c90, c91, c92, c93, c94, c95, c96, c97, c98, c99, c100], []⟩ W := by
  have HK : Hid (∀ (u28 : Value) (bs : Nat) (W' : World), PlI w W' bf bs (.slice A D.length c) (.slice B R.length c') blank D R → K ⟨#[c0, c1, c2, c3, c4, c5, c6, c7, c8, c9, .pointer (some ⟨bf, 0, none⟩), c11, .pointer (some ⟨bs, 0, none⟩), c13, c14, c15, c16, c17, c18, c19, c20, c21, c22, c23, c24, c25, c26, c27, u28, c29, c30, c31, c32, c33, c34, c35, c36, c37, c38, c39, c40, c41, c42, c43, c44, c45, c46, c47, c48, c49, c50, c51, c52, c53, c54, c55, c56, c57, c58, c59, c60, c61, c62, c63, c64, c65, c66, c67, c68, c69, c70, c71, c72, c73, c74, c75, c76, c77, c78, c79, c80, c81, c82, c83, c84, c85, c86, c87, c88, c89, c90, c91, c92, c93, c94, c95, c96, c97, c98, c99, c100], []⟩ W') := hK
  clear hK
  conv => arg 2; whnf
  have HC : Hid (Calls Try.prog 15 #[] W fun e w' => e = .returned (.agg #[.int .i64 (-1), .int .i64 (-1), .int .i64 (-1), .int .i64 (-1), .int .i64 (-1), .int .i64 (-1), .int .i64 (-1), .int .i64 (-1), .int .i64 (-1), .int .i64 (-1), .int .i64 (-1), .int .i64 (-1), .int .i64 (-1), .int .i64 (-1), .int .i64 (-1), .int .i64 (-1)]) ∧ Below W.heap.size W w') := blank_any W
  have HN : Hid (∀ w1, Below W.heap.size W w1 → PlI w (w1.alloc (.cells (pgc blank) 48)) bf w1.heap.size (.slice A D.length c) (.slice B R.length c') blank D R) := fun w1 hb => by
    have hf1 := (hb.block _ (lt_of_block hf)).trans hf
    have hlt := lt_of_block hf1
    have h1 := below_alloc w1 (.cells (pgc blank) 48)
    exact ⟨(h1.block _ hlt).trans hf1, Go.Deep.blk_alloc_new _ _, ((hD.below hb).mono (fun b h h2 => ⟨h2, by omega⟩)).below h1, ((hR.below hb).mono (fun b h h2 => ⟨h2, by omega⟩)).below h1, hlf, Nat.le_trans hW.size hb.size, by omega, (hW.trans (hb.mono hW.size)).trans (h1.mono (Nat.le_trans hW.size hb.size))⟩
  clear hf hD hR hlf hW
  go_wp2_with fail
  refine HC.out.mono ?_
  rintro e w1 ⟨rfl, hb⟩
  have HB : Hid (Below W.heap.size W w1) := hb
  clear hb HC
  dsimp only
  go_wp2_with fail
  exact HK.out _ _ _ (HN.out w1 HB.out)


/-- The frames' box and two spaces' boxes. -/
structure Pl3 (w W : World) (bf bs bt : Nat) (d r : Value) (s t : List Int) (D : List (List Int)) (R : List Int) : Prop where
  fb : W.heap[bf]? = some (.cells #[d, r] 44 (0, 0))
  sb : W.heap[bs]? = some (.cells (pgc s) 48 (0, 0))
  tb : W.heap[bt]? = some (.cells (pgc t) 48 (0, 0))
  rows : RowsB (fun b => b ≠ bf) W d D
  ints : IntsB (fun b => b ≠ bf) W r R
  lf : w.heap.size ≤ bf
  old : Below w.heap.size w W
theorem pl_fork {w W w1 : World} {bf bs : Nat} {d r d' r' : Value} {s t : List Int} {D : List (List Int)} {R R' : List Int} (h : PlI w W bf bs d r s D R) (hb : Below W.heap.size W w1)
    (hf : (d' = d ∧ r' = r ∧ R' = R) ∨ (RowsLo W.heap.size w1 d' D ∧ IntsLo W.heap.size w1 r' R')) :
    Pl3 w (((w1.setCell ⟨bf, 0, none⟩ d').setCell ⟨bf, 1, none⟩ r').alloc (.cells (pgc t) 48)) bf bs w1.heap.size d' r' s t D R' := by
  have h1 := h.below hb
  have hlf := lt_of_block h.fb
  have hlt := lt_of_block h1.fb
  have hF : RowsB (fun b => b ≠ bf) w1 d' D ∧ IntsB (fun b => b ≠ bf) w1 r' R' := by
    rcases hf with ⟨e1, e2, e3⟩ | ⟨h3, h4⟩
    · subst e1 e2 e3
      exact ⟨h1.rows.mono fun b _ h => h.1, h1.ints.mono fun b _ h => h.1⟩
    · exact ⟨h3.inB.mono fun b _ h => by omega, h4.inB.mono fun b _ h => by omega⟩
  obtain ⟨W3, hW3⟩ : ∃ W3, W3 = (w1.setCell ⟨bf, 0, none⟩ d').setCell ⟨bf, 1, none⟩ r' := ⟨_, rfl⟩
  have hsz : W3.heap.size = w1.heap.size := by rw [hW3]; simp
  have g1 : W3.heap[bf]? = some (.cells #[d', r'] 44 (0, 0)) := by rw [hW3]; exact set1 (set0 h1.fb d') r'
  have g2 : W3.heap[bs]? = some (.cells (pgc s) 48 (0, 0)) := by rw [hW3]; exact other_block (other_block h1.sb (Ne.symm h.ne) _) (Ne.symm h.ne) _
  have g3 : RowsB (fun b => b ≠ bf) W3 d' D := by rw [hW3]; exact (hF.1.setCell (fun h => h rfl) _).setCell (fun h => h rfl) _
  have g4 : IntsB (fun b => b ≠ bf) W3 r' R' := by rw [hW3]; exact (hF.2.setCell (fun h => h rfl) _).setCell (fun h => h rfl) _
  have g5 : Below w.heap.size w W3 := by rw [hW3]; exact (h1.old.setCell h.lf _).setCell h.lf _
  rw [← hW3]
  have hB := below_alloc W3 (.cells (pgc t) 48)
  have hT := Go.Deep.blk_alloc_new W3 (.cells (pgc t) 48)
  rw [hsz] at hT
  exact ⟨(hB.block _ (lt_of_block g1)).trans g1, (hB.block _ (lt_of_block g2)).trans g2, hT, g3.below hB, g4.below hB, h.lf, g5.trans (hB.mono g5.size)⟩

set_option maxRecDepth 100000 in
set_option maxHeartbeats 4000000 in
theorem pl5 (c0 c1 c2 c3 c4 c5 c6 c7 c8 c9 c11 c13 c14 c15 c16 c17 c18 c19 c20 c21 c22 c23 c24 c25 c26 c27 c28 c29 c30 c31 c32 c33 c34 c35 c36 c37 c38 c39 c40 c41 c42 c43 c44 c45 c46 c47 c48 c49 c50 c51 c52 c53 c54 c55 c56 c57 c58 c59 c60 c61 c62 c63 c64 c65 c66 c67 c68 c69 c70 c71 c72 c73 c74 c75 c76 c77 c78 c79 c80 c81 c82 c83 c84 c85 c86 c87 c88 c89 c90 c91 c92 c93 c94 c95 c96 c97 c98 c99 c100 : Value) (bf bs n : Nat) (A B : Option Addr) (c c' : Nat) (D : List (List Int)) (R s : List Int) (S : PS) (w W : World) (K : Act → World → Prop) (Rr : Ending → World → Prop)
    (h : PlI w W bf bs (.slice A D.length c) (.slice B R.length c') s D R) (hr : Rel n D R s blank S)
    (hK : ∀ (u50 u51 u52 u53 u54 u55 u56 : Value) (bt : Nat) (R1 : List Int) (A1 B1 : Option Addr) (k1 k1' : Nat) (W' : World), Pl3 w W' bf bs bt (.slice A1 D.length k1) (.slice B1 R1.length k1') s s D R1 → Rel n D R1 s s S.fork → K ⟨#[c0, c1, c2, c3, c4, c5, c6, c7, c8, c9, .pointer (some ⟨bf, 0, none⟩), .int .i64 0, .pointer (some ⟨bs, 0, none⟩), c13, c14, .pointer (some ⟨bt, 0, none⟩), c16, c17, c18, c19, c20, c21, c22, c23, c24, c25, c26, c27, c28, c29, c30, c31, c32, c33, c34, c35, c36, c37, c38, c39, c40, c41, c42, c43, c44, c45, c46, c47, c48, c49, u50, u51, u52, u53, u54, u55, u56, c57, c58, c59, c60, c61, c62, c63, c64, c65, c66, c67, c68, c69, c70, c71, c72, c73, c74, c75, c76, c77, c78, c79, c80, c81, c82, c83, c84, c85, c86, c87, c88, c89, c90, c91, c92, c93, c94, c95, c96, c97, c98, c99, c100], []⟩ W') :
    Code.wp Try.prog (stm 5 (Try.f6.body.getD .skip)) (Exit.then K (bodyPost Try.prog Try.f6 Rr)) ⟨#[c0, c1, c2, c3, c4, c5, c6, c7, c8, c9, .pointer (some ⟨bf, 0, none⟩), c11, .pointer (some ⟨bs, 0, none⟩), c13, c14, c15, c16, c17, c18, c19, c20, c21, c22, c23, c24, c25, c26, c27, c28, c29, c30, c31, c32, c33, c34, c35, c36, c37, c38, c39, c40, c41, c42, c43, c44, c45, c46, c47, c48, c49, c50, c51, c52, c53, c54, c55, c56, c57, c58, c59, c60, c61, c62, c63, c64, c65, c66, c67, c68, c69, c70, c71, c72, c73, c74, c75, c76, c77, c78, c79, c80, c81, c82, c83, c84, c85, c86, c87, c88, c89, c90, c91, c92, c93, c94, c95, c96, c97, c98, c99, c100], []⟩ W := by
  have HK : Hid (∀ (u50 u51 u52 u53 u54 u55 u56 : Value) (bt : Nat) (R1 : List Int) (A1 B1 : Option Addr) (k1 k1' : Nat) (W' : World), Pl3 w W' bf bs bt (.slice A1 D.length k1) (.slice B1 R1.length k1') s s D R1 → Rel n D R1 s s S.fork → K ⟨#[c0, c1, c2, c3, c4, c5, c6, c7, c8, c9, .pointer (some ⟨bf, 0, none⟩), .int .i64 0, .pointer (some ⟨bs, 0, none⟩), c13, c14, .pointer (some ⟨bt, 0, none⟩), c16, c17, c18, c19, c20, c21, c22, c23, c24, c25, c26, c27, c28, c29, c30, c31, c32, c33, c34, c35, c36, c37, c38, c39, c40, c41, c42, c43, c44, c45, c46, c47, c48, c49, u50, u51, u52, u53, u54, u55, u56, c57, c58, c59, c60, c61, c62, c63, c64, c65, c66, c67, c68, c69, c70, c71, c72, c73, c74, c75, c76, c77, c78, c79, c80, c81, c82, c83, c84, c85, c86, c87, c88, c89, c90, c91, c92, c93, c94, c95, c96, c97, c98, c99, c100], []⟩ W') := hK
  clear hK
  conv => arg 2; whnf
  obtain ⟨q0, q1, q2, q3, q4, q5, q6, q7, q8, q9, q10, q11, q12, q13, q14, q15, hsl⟩ := list16 hr.ls
  have hsb : W.heap[bs]? = some (.cells #[.int .i64 q0, .int .i64 q1, .int .i64 q2, .int .i64 q3, .int .i64 q4, .int .i64 q5, .int .i64 q6, .int .i64 q7, .int .i64 q8, .int .i64 q9, .int .i64 q10, .int .i64 q11, .int .i64 q12, .int .i64 q13, .int .i64 q14, .int .i64 q15] 48 (0, 0)) := by have := h.sb; rw [hsl] at this; exact this
  obtain ⟨⟨z0, z1, z2, z3, z4, z5, z6, z7, z8, z9, z10, z11, z12, z13, z14, z15⟩, zf, zl⟩ := sixteen_cells hsb
  obtain ⟨f0, f1, ff, fl⟩ := two_cells h.fb
  have HC : Hid (Calls Try.prog 17 #[.agg #[.slice A D.length c, .slice B R.length c'], .agg #[.int .i64 q0, .int .i64 q1, .int .i64 q2, .int .i64 q3, .int .i64 q4, .int .i64 q5, .int .i64 q6, .int .i64 q7, .int .i64 q8, .int .i64 q9, .int .i64 q10, .int .i64 q11, .int .i64 q12, .int .i64 q13, .int .i64 q14, .int .i64 q15]] W fun e w' => FkPost W (.slice A D.length c) (.slice B R.length c') n D R s S e w') := by
    have := fork_any A B c c' n D R s S W h.rows.at h.ints.at hr.toFork
    rw [show Value.agg (pgc s) = .agg #[.int .i64 q0, .int .i64 q1, .int .i64 q2, .int .i64 q3, .int .i64 q4, .int .i64 q5, .int .i64 q6, .int .i64 q7, .int .i64 q8, .int .i64 q9, .int .i64 q10, .int .i64 q11, .int .i64 q12, .int .i64 q13, .int .i64 q14, .int .i64 q15] by rw [hsl]; rfl] at this
    exact this
  have HI : Hid (PlI w W bf bs (.slice A D.length c) (.slice B R.length c') s D R ∧ s = [q0, q1, q2, q3, q4, q5, q6, q7, q8, q9, q10, q11, q12, q13, q14, q15]) := ⟨h, hsl⟩
  clear h hr hsb hsl
  go_wp2_with fail
  refine HC.out.mono ?_
  rintro e w1 ⟨R1, A1, k1, B1, k1', rfl, hRel, hF, hb⟩
  have HN : Hid (Pl3 w (((w1.setCell ⟨bf, 0, none⟩ (.slice A1 D.length k1)).setCell ⟨bf, 1, none⟩ (.slice B1 R1.length k1')).alloc (.cells (pgc s) 48)) bf bs w1.heap.size (.slice A1 D.length k1) (.slice B1 R1.length k1') s s D R1 ∧ Rel n D R1 s s S.fork) := ⟨pl_fork HI.out.1 hb hF, hRel⟩
  have hI1 := HI.out.1.below hb
  clear z0 z1 z2 z3 z4 z5 z6 z7 z8 z9 z10 z11 z12 z13 z14 z15 zf zl f0 f1 ff fl
  obtain ⟨f0, f1, ff, fl⟩ := two_cells hI1.fb
  have hne : ¬ bf = w1.heap.size := by omega
  rw [show Value.agg (pgc s) = .agg #[.int .i64 q0, .int .i64 q1, .int .i64 q2, .int .i64 q3, .int .i64 q4, .int .i64 q5, .int .i64 q6, .int .i64 q7, .int .i64 q8, .int .i64 q9, .int .i64 q10, .int .i64 q11, .int .i64 q12, .int .i64 q13, .int .i64 q14, .int .i64 q15] by rw [HI.out.2]; rfl]
  rw [show Obj.cells (pgc s) 48 = Obj.cells #[.int .i64 q0, .int .i64 q1, .int .i64 q2, .int .i64 q3, .int .i64 q4, .int .i64 q5, .int .i64 q6, .int .i64 q7, .int .i64 q8, .int .i64 q9, .int .i64 q10, .int .i64 q11, .int .i64 q12, .int .i64 q13, .int .i64 q14, .int .i64 q15] 48 by rw [HI.out.2]; rfl] at HN
  clear hI1 hRel hF hb HC HI
  dsimp only
  go_wp2_with fail
  exact HK.out _ _ _ _ _ _ _ _ R1 A1 B1 k1 k1' _ HN.out.1 HN.out.2


/-- The frames' box and the box of both spaces. -/
structure Pl2 (w W : World) (bf bo : Nat) (d r : Value) (s t : List Int) (D : List (List Int)) (R : List Int) : Prop where
  fb : W.heap[bf]? = some (.cells #[d, r] 44 (0, 0))
  ob : W.heap[bo]? = some (.cells (pgc (s ++ t)) 53 (0, 0))
  rows : RowsB (fun b => b ≠ bf ∧ b ≠ bo) W d D
  ints : IntsB (fun b => b ≠ bf ∧ b ≠ bo) W r R
  lf : w.heap.size ≤ bf
  lo : w.heap.size ≤ bo
  ne : bf ≠ bo
  old : Below w.heap.size w W
theorem Pl2.below {w W W' : World} {bf bo : Nat} {d r : Value} {s t : List Int} {D : List (List Int)} {R : List Int} (h : Pl2 w W bf bo d r s t D R) (hb : Below W.heap.size W W') : Pl2 w W' bf bo d r s t D R :=
  ⟨(hb.block _ (lt_of_block h.fb)).trans h.fb, (hb.block _ (lt_of_block h.ob)).trans h.ob, h.rows.below hb, h.ints.below hb, h.lf, h.lo, h.ne, h.old.trans (hb.mono h.old.size)⟩
theorem Pl3.both {w W : World} {bf bs bt : Nat} {d r : Value} {s t : List Int} {D : List (List Int)} {R : List Int} (h : Pl3 w W bf bs bt d r s t D R) : Pl2 w (W.alloc (.cells (pgc (s ++ t)) 53)) bf W.heap.size d r s t D R := by
  have hB := below_alloc W (.cells (pgc (s ++ t)) 53)
  have hlt := lt_of_block h.fb
  exact ⟨(hB.block _ hlt).trans h.fb, Go.Deep.blk_alloc_new _ _, (h.rows.mono fun b hb h => ⟨h, by omega⟩).below hB, (h.ints.mono fun b hb h => ⟨h, by omega⟩).below hB, h.lf, h.old.size, by omega, h.old.trans (hB.mono h.old.size)⟩

end Go.Proofs.Ytlcdefpdahjjeaf
