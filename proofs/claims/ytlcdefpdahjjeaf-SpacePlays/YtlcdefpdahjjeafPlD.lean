/- space.Play: both spaces, an array of them. (Written by tools/gen_pl.py.) -/
import Derived.Test.YtlcdefpdahjjeafPlA
import Derived.Deep.WholeRow
namespace Go.Proofs.Ytlcdefpdahjjeaf
open Go.RowKit

theorem wpList_build_two {P : Program} {ops : Array Oper} {rest : List Oper} {o : Oper} {a : Act} {w : World} {Q : Exit → Act → World → Prop} (hg : o.guard = none) (t : TypeId) (x y : Operand) (ho : o.op = .build t #[(0, x), (1, y)]) (cells : Array Value) (u v : Value) (hx : a.eval x = u) (hy : a.eval y = v)
    (hb : P.built t [(0, u), (1, v)] = some cells) (h : wpList P ops Q rest (a.put o.dst (.agg cells)) w) : wpList P ops Q (o :: rest) a w := by
  have e : ((#[(0, x), (1, y)] : Array (Nat × Operand)).map fun (i, x) => (i, a.eval x)).toList = [(0, u), (1, v)] := by simp [hx, hy]
  exact wpList_build hg t #[(0, x), (1, y)] ho (by rw [e, hb]; rfl) (by rw [e, hb]; exact h)
theorem pgc_one (s : List Int) : (pgc s).all (·.oneCell') = true := by
  rw [Array.all_eq_true_iff_forall_mem]
  intro v hv
  simp [pgc] at hv
  obtain ⟨x, _, rfl⟩ := hv
  rfl
set_option maxRecDepth 100000 in
theorem both_built (s t : List Int) (hs : s.length = 16) (ht : t.length = 16) : Try.prog.built 53 [(0, .agg (pgc s)), (1, .agg (pgc t))] = some (pgc (s ++ t)) := by
  obtain ⟨q0, q1, q2, q3, q4, q5, q6, q7, q8, q9, q10, q11, q12, q13, q14, q15, rfl⟩ := list16 hs
  obtain ⟨t0, t1, t2, t3, t4, t5, t6, t7, t8, t9, t10, t11, t12, t13, t14, t15, rfl⟩ := list16 ht
  have h1 : (Try.prog.info? 53).map (fun i => i.zero) = some (some (.agg #[.int .i64 0, .int .i64 0, .int .i64 0, .int .i64 0, .int .i64 0, .int .i64 0, .int .i64 0, .int .i64 0, .int .i64 0, .int .i64 0, .int .i64 0, .int .i64 0, .int .i64 0, .int .i64 0, .int .i64 0, .int .i64 0, .int .i64 0, .int .i64 0, .int .i64 0, .int .i64 0, .int .i64 0, .int .i64 0, .int .i64 0, .int .i64 0, .int .i64 0, .int .i64 0, .int .i64 0, .int .i64 0, .int .i64 0, .int .i64 0, .int .i64 0, .int .i64 0])) := by kernel_rfl
  have h2 : (Try.prog.info? 48).map (fun i => i.size) = some 16 := by kernel_rfl
  have h3 : Try.prog.underlying 53 = some (.array 2 48) := by kernel_rfl
  cases g1 : Try.prog.info? 53 with
  | none => simp [g1] at h1
  | some i1 =>
    cases g2 : Try.prog.info? 48 with
    | none => simp [g2] at h2
    | some i2 =>
      simp [g1] at h1
      simp [g2] at h2
      simp only [Program.built, g1, g2, h3, h1, h2]
      simp [Instr.fill, Value.cells, pgc]

set_option maxRecDepth 100000 in
set_option maxHeartbeats 4000000 in
theorem pl7 (c0 c1 c2 c3 c4 c5 c6 c7 c8 c9 c11 c13 c14 c16 c17 c18 c19 c20 c21 c22 c23 c24 c25 c26 c27 c28 c29 c30 c31 c32 c33 c34 c35 c36 c37 c38 c39 c40 c41 c42 c43 c44 c45 c46 c47 c48 c49 c50 c51 c52 c53 c54 c55 c56 c57 c58 c59 c60 c61 c62 c63 c64 c65 c66 c67 c68 c69 c70 c71 c72 c73 c74 c75 c76 c77 c78 c79 c80 c81 c82 c83 c84 c85 c86 c87 c88 c89 c90 c91 c92 c93 c94 c95 c96 c97 c98 c99 c100 : Value) (bf bs bt : Nat) (d r : Value) (D : List (List Int)) (R s t : List Int) (w W : World) (K : Act → World → Prop) (Rr : Ending → World → Prop)
    (h : Pl3 w W bf bs bt d r s t D R) (hs : s.length = 16) (ht : t.length = 16)
    (hK : ∀ (u60 u61 u62 : Value) (bo : Nat) (W' : World), Pl2 w W' bf bo d r s t D R → K ⟨#[c0, c1, c2, c3, c4, c5, c6, c7, c8, c9, .pointer (some ⟨bf, 0, none⟩), c11, .pointer (some ⟨bs, 0, none⟩), c13, c14, .pointer (some ⟨bt, 0, none⟩), .pointer (some ⟨bo, 0, none⟩), c17, c18, c19, c20, c21, c22, c23, c24, c25, c26, c27, c28, c29, c30, c31, c32, c33, c34, c35, c36, c37, c38, c39, c40, c41, c42, c43, c44, c45, c46, c47, c48, c49, c50, c51, c52, c53, c54, c55, c56, c57, c58, c59, u60, u61, u62, c63, c64, c65, c66, c67, c68, c69, c70, c71, c72, c73, c74, c75, c76, c77, c78, c79, c80, c81, c82, c83, c84, c85, c86, c87, c88, c89, c90, c91, c92, c93, c94, c95, c96, c97, c98, c99, c100], []⟩ W') :
    Code.wp Try.prog (stm 7 (Try.f6.body.getD .skip)) (Exit.then K (bodyPost Try.prog Try.f6 Rr)) ⟨#[c0, c1, c2, c3, c4, c5, c6, c7, c8, c9, .pointer (some ⟨bf, 0, none⟩), c11, .pointer (some ⟨bs, 0, none⟩), c13, c14, .pointer (some ⟨bt, 0, none⟩), c16, c17, c18, c19, c20, c21, c22, c23, c24, c25, c26, c27, c28, c29, c30, c31, c32, c33, c34, c35, c36, c37, c38, c39, c40, c41, c42, c43, c44, c45, c46, c47, c48, c49, c50, c51, c52, c53, c54, c55, c56, c57, c58, c59, c60, c61, c62, c63, c64, c65, c66, c67, c68, c69, c70, c71, c72, c73, c74, c75, c76, c77, c78, c79, c80, c81, c82, c83, c84, c85, c86, c87, c88, c89, c90, c91, c92, c93, c94, c95, c96, c97, c98, c99, c100], []⟩ W := by
  have HK : Hid (∀ (u60 u61 u62 : Value) (bo : Nat) (W' : World), Pl2 w W' bf bo d r s t D R → K ⟨#[c0, c1, c2, c3, c4, c5, c6, c7, c8, c9, .pointer (some ⟨bf, 0, none⟩), c11, .pointer (some ⟨bs, 0, none⟩), c13, c14, .pointer (some ⟨bt, 0, none⟩), .pointer (some ⟨bo, 0, none⟩), c17, c18, c19, c20, c21, c22, c23, c24, c25, c26, c27, c28, c29, c30, c31, c32, c33, c34, c35, c36, c37, c38, c39, c40, c41, c42, c43, c44, c45, c46, c47, c48, c49, c50, c51, c52, c53, c54, c55, c56, c57, c58, c59, u60, u61, u62, c63, c64, c65, c66, c67, c68, c69, c70, c71, c72, c73, c74, c75, c76, c77, c78, c79, c80, c81, c82, c83, c84, c85, c86, c87, c88, c89, c90, c91, c92, c93, c94, c95, c96, c97, c98, c99, c100], []⟩ W') := hK
  clear hK
  conv => arg 2; whnf
  have HN : Hid (Pl2 w (W.alloc (.cells (pgc (s ++ t)) 53)) bf W.heap.size d r s t D R) := h.both
  have HS : Hid (W.heap[bs]? = some (.cells (pgc s) 48 (0, 0)) ∧ (Try.prog.info? 48).map (·.size) = some (pgc s).size) := ⟨h.sb, by simp only [pgc, List.size_toArray, List.length_map, hs]; kernel_rfl⟩
  have HT : Hid (W.heap[bt]? = some (.cells (pgc t) 48 (0, 0)) ∧ (Try.prog.info? 48).map (·.size) = some (pgc t).size) := ⟨h.tb, by simp only [pgc, List.size_toArray, List.length_map, ht]; kernel_rfl⟩
  have HB : Hid (Try.prog.built 53 [(0, .agg (pgc s)), (1, .agg (pgc t))] = some (pgc (s ++ t))) := both_built s t hs ht
  have HZ : Hid ((Try.prog.info? 53).map (·.size) = some (pgc (s ++ t)).size ∧ (#[.int .i64 0, .int .i64 0, .int .i64 0, .int .i64 0, .int .i64 0, .int .i64 0, .int .i64 0, .int .i64 0, .int .i64 0, .int .i64 0, .int .i64 0, .int .i64 0, .int .i64 0, .int .i64 0, .int .i64 0, .int .i64 0, .int .i64 0, .int .i64 0, .int .i64 0, .int .i64 0, .int .i64 0, .int .i64 0, .int .i64 0, .int .i64 0, .int .i64 0, .int .i64 0, .int .i64 0, .int .i64 0, .int .i64 0, .int .i64 0, .int .i64 0, .int .i64 0] : Array Value).size = (pgc (s ++ t)).size) := ⟨by simp only [pgc, List.size_toArray, List.length_map, List.length_append, hs, ht]; kernel_rfl, by simp [pgc, hs, ht]⟩
  have HO : Hid ((pgc (s ++ t)).all (·.oneCell') = true) := pgc_one _
  clear h hs ht
  revert HN HS HT HB HZ HO
  generalize pgc s = cs
  generalize pgc t = ct
  generalize pgc (s ++ t) = cc
  intro HN HS HT HB HZ HO
  go_wp2_with (first
    | (refine wpList_load_row rfl 48 (.tmp 12) rfl bs rfl 48 cs (0, 0) _ HS.out.1 Try.underlying48 rfl HS.out.2 ?_)
    | (refine wpList_load_row rfl 48 (.tmp 15) rfl bt rfl 48 ct (0, 0) _ HT.out.1 Try.underlying48 rfl HT.out.2 ?_)
    | (refine wpList_build_two rfl 53 (.tmp 60) (.tmp 61) rfl cc (.agg cs) (.agg ct) rfl rfl HB.out ?_)
    | (refine wpList_store_row rfl 53 (.tmp 16) (.tmp 62) rfl W.heap.size cc rfl rfl 53 _ (Go.Deep.blk_alloc_new _ _) HZ.out.1 HZ.out.2 HO.out ?_))
  rw [World.setRow_alloc_new]
  exact HK.out _ _ _ _ _ HN.out


end Go.Proofs.Ytlcdefpdahjjeaf
