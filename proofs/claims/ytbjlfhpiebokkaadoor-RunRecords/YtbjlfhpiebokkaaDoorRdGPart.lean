/- The document's recording: the step. (Written by tools/gen_rd.py.) -/
import Derived.Test.YtbjlfhpiebokkaaDoorRdAPart
namespace Go.Proofs.YtbjlfhpiebokkaaDoor
open Go.RowKit

set_option linter.unusedVariables false in
set_option maxRecDepth 1000000 in
set_option maxHeartbeats 4000000 in
theorem rdF (c0 c1 c2 c3 c4 c5 c6 c7 c8 c10 c11 c12 c13 c14 c15 c17 c19 c20 c21 c22 c24 c25 c26 c27 c28 c29 c30 c31 c32 c33 c34 c35 c36 c37 c38 c39 c40 c41 c42 c43 c44 c45 c46 c47 c48 c49 c50 c51 c52 c53 c54 c55 c56 c57 c58 c59 c60 c61 c62 c63 c64 c65 c66 c67 c68 c69 c70 c71 c72 c73 c74 c75 c76 c77 c78 c79 c80 c81 c82 c83 c84 c85 c86 c87 c88 c89 c90 c91 c92 c93 c94 c95 c96 c97 c98 c99 c100 c101 c102 c103 c104 c105 c106 c107 c108 c109 c110 c111 c112 c113 c114 c115 c116 c117 c118 c119 c120 c121 c122 c123 c124 c125 c126 c127 c128 c129 c130 c131 c132 c133 c134 c135 c136 c137 c138 c139 c140 c141 c142 c143 c144 c145 c146 c147 c148 c149 c150 c151 c152 c153 c154 c155 c156 c157 c158 c159 c160 c161 c162 c163 c164 c165 c166 c167 c168 c169 c170 c171 c172 c173 c174 c175 c176 c177 c178 c179 c180 c181 c182 c183 c184 c185 c186 c187 c188 c189 c190 c191 c192 c193 c194 c195 c196 c197 c198 c199 c200 c201 c202 c203 c204 c205 c206 c207 c208 c209 c210 c211 c212 c213 c214 c215 : Value) (A0 A1 A2 A3 : Option Addr) (k0 k1 k2 k3 : Nat) (x : Wd) (b : Nat) (rv mv ov : Value) (M : Mach) (k : Nat) (ev : Value) (L : List Ev) (irq : Bool) (Bb : Option Addr) (cb : Nat) (blk : List Int) (v : Int) (w W : World) (Q : Exit → Act → World → Prop) (K : Act → World → Prop) (hc : ∀ a' w', Code.wp Tryd.prog (rst 12 ((blockOf 1 (Tryd.f9.body.getD .skip)).getD .skip)) Q a' w' → K a' w')
    (h : RoAt w W #[.slice A0 x.irqs.length k0, .slice A1 x.values.length k1, .slice A2 x.blocks.length k2, .slice A3 x.delays.length k3] b rv mv ov M ev L) (hm : MayP M) (hbk : IntsK (KKo rv mv ov) w.heap.size W (.slice Bb blk.length cb) blk) (hl : blk.length = 0 ∨ blk.length = 16) (hab : allB blk = true) (hct : M.count ≤ 3000)
    (hK : ∀ (u158 u159 u160 u161 u162 u163 u164 u165 u166 u167 u168 u169 u170 : Value) (rv' mv' ov' : Value) (W' : World) (K' : Act → World → Prop) (J' : Act → World → Prop), RoAt w W' #[.slice A0 x.irqs.length k0, .slice A1 x.values.length k1, .slice A2 x.blocks.length k2, .slice A3 x.delays.length k3] b rv' mv' ov' (M.step irq blk v).1 ev L → (∀ a' w', Code.wp Tryd.prog (rst 15 ((blockOf 1 (Tryd.f9.body.getD .skip)).getD .skip)) Q a' w' → K' a' w') → (∀ a' w', Code.wp Tryd.prog (rst 1 (stm 14 ((blockOf 1 (Tryd.f9.body.getD .skip)).getD .skip))) (Exit.then K' Q) a' w' → J' a' w') → Code.wp Tryd.prog (stm 0 (stm 14 ((blockOf 1 (Tryd.f9.body.getD .skip)).getD .skip))) (Exit.then J' (Exit.then K' Q)) ⟨#[c0, c1, c2, c3, c4, c5, c6, c7, c8, .pointer (some ⟨b, 0, none⟩), c10, c11, c12, c13, c14, c15, .bool irq, c17, .slice Bb blk.length cb, c19, c20, c21, c22, .int .i64 v, c24, c25, .int .i64 (if 0 < blk.length then -1 else M.want), c27, c28, c29, c30, c31, c32, c33, c34, c35, c36, c37, c38, c39, c40, c41, c42, c43, c44, c45, c46, c47, c48, c49, c50, c51, c52, c53, c54, c55, c56, c57, c58, c59, c60, c61, c62, c63, c64, c65, c66, c67, c68, c69, c70, c71, c72, c73, c74, c75, c76, c77, c78, c79, c80, c81, c82, c83, c84, c85, c86, c87, c88, c89, c90, c91, c92, c93, c94, c95, c96, c97, c98, c99, c100, c101, c102, c103, c104, c105, c106, c107, c108, c109, c110, c111, c112, c113, c114, c115, c116, c117, c118, c119, c120, c121, c122, c123, c124, c125, c126, c127, c128, c129, c130, c131, c132, c133, c134, c135, c136, c137, c138, c139, c140, c141, c142, c143, c144, c145, c146, c147, c148, c149, c150, c151, c152, c153, c154, c155, c156, c157, u158, u159, u160, u161, u162, u163, u164, u165, u166, u167, u168, u169, u170, c171, c172, c173, c174, c175, c176, c177, c178, c179, c180, c181, c182, c183, c184, c185, c186, c187, c188, c189, c190, c191, c192, c193, c194, c195, c196, c197, c198, c199, c200, c201, c202, c203, c204, c205, c206, c207, c208, c209, c210, c211, c212, c213, c214, c215], []⟩ W') :
    Code.wp Tryd.prog (stm 11 ((blockOf 1 (Tryd.f9.body.getD .skip)).getD .skip)) (Exit.then K Q) ⟨#[c0, c1, c2, c3, c4, c5, c6, c7, c8, .pointer (some ⟨b, 0, none⟩), c10, c11, c12, c13, c14, c15, .bool irq, c17, .slice Bb blk.length cb, c19, c20, c21, c22, .int .i64 v, c24, c25, c26, c27, c28, c29, c30, c31, c32, c33, c34, c35, c36, c37, c38, c39, c40, c41, c42, c43, c44, c45, c46, c47, c48, c49, c50, c51, c52, c53, c54, c55, c56, c57, c58, c59, c60, c61, c62, c63, c64, c65, c66, c67, c68, c69, c70, c71, c72, c73, c74, c75, c76, c77, c78, c79, c80, c81, c82, c83, c84, c85, c86, c87, c88, c89, c90, c91, c92, c93, c94, c95, c96, c97, c98, c99, c100, c101, c102, c103, c104, c105, c106, c107, c108, c109, c110, c111, c112, c113, c114, c115, c116, c117, c118, c119, c120, c121, c122, c123, c124, c125, c126, c127, c128, c129, c130, c131, c132, c133, c134, c135, c136, c137, c138, c139, c140, c141, c142, c143, c144, c145, c146, c147, c148, c149, c150, c151, c152, c153, c154, c155, c156, c157, c158, c159, c160, c161, c162, c163, c164, c165, c166, c167, c168, c169, c170, c171, c172, c173, c174, c175, c176, c177, c178, c179, c180, c181, c182, c183, c184, c185, c186, c187, c188, c189, c190, c191, c192, c193, c194, c195, c196, c197, c198, c199, c200, c201, c202, c203, c204, c205, c206, c207, c208, c209, c210, c211, c212, c213, c214, c215], []⟩ W := by
  have HK : Hid (∀ (u158 u159 u160 u161 u162 u163 u164 u165 u166 u167 u168 u169 u170 : Value) (rv' mv' ov' : Value) (W' : World) (K' : Act → World → Prop) (J' : Act → World → Prop), RoAt w W' #[.slice A0 x.irqs.length k0, .slice A1 x.values.length k1, .slice A2 x.blocks.length k2, .slice A3 x.delays.length k3] b rv' mv' ov' (M.step irq blk v).1 ev L → (∀ a' w', Code.wp Tryd.prog (rst 15 ((blockOf 1 (Tryd.f9.body.getD .skip)).getD .skip)) Q a' w' → K' a' w') → (∀ a' w', Code.wp Tryd.prog (rst 1 (stm 14 ((blockOf 1 (Tryd.f9.body.getD .skip)).getD .skip))) (Exit.then K' Q) a' w' → J' a' w') → Code.wp Tryd.prog (stm 0 (stm 14 ((blockOf 1 (Tryd.f9.body.getD .skip)).getD .skip))) (Exit.then J' (Exit.then K' Q)) ⟨#[c0, c1, c2, c3, c4, c5, c6, c7, c8, .pointer (some ⟨b, 0, none⟩), c10, c11, c12, c13, c14, c15, .bool irq, c17, .slice Bb blk.length cb, c19, c20, c21, c22, .int .i64 v, c24, c25, .int .i64 (if 0 < blk.length then -1 else M.want), c27, c28, c29, c30, c31, c32, c33, c34, c35, c36, c37, c38, c39, c40, c41, c42, c43, c44, c45, c46, c47, c48, c49, c50, c51, c52, c53, c54, c55, c56, c57, c58, c59, c60, c61, c62, c63, c64, c65, c66, c67, c68, c69, c70, c71, c72, c73, c74, c75, c76, c77, c78, c79, c80, c81, c82, c83, c84, c85, c86, c87, c88, c89, c90, c91, c92, c93, c94, c95, c96, c97, c98, c99, c100, c101, c102, c103, c104, c105, c106, c107, c108, c109, c110, c111, c112, c113, c114, c115, c116, c117, c118, c119, c120, c121, c122, c123, c124, c125, c126, c127, c128, c129, c130, c131, c132, c133, c134, c135, c136, c137, c138, c139, c140, c141, c142, c143, c144, c145, c146, c147, c148, c149, c150, c151, c152, c153, c154, c155, c156, c157, u158, u159, u160, u161, u162, u163, u164, u165, u166, u167, u168, u169, u170, c171, c172, c173, c174, c175, c176, c177, c178, c179, c180, c181, c182, c183, c184, c185, c186, c187, c188, c189, c190, c191, c192, c193, c194, c195, c196, c197, c198, c199, c200, c201, c202, c203, c204, c205, c206, c207, c208, c209, c210, c211, c212, c213, c214, c215], []⟩ W') := hK
  clear hK
  conv => arg 2; whnf
  conv at hc => intro a' w'; lhs; arg 2; whnf
  have H : Hid (RoAt w W #[.slice A0 x.irqs.length k0, .slice A1 x.values.length k1, .slice A2 x.blocks.length k2, .slice A3 x.delays.length k3] b rv mv ov M ev L) := h
  obtain ⟨⟨m0, m1, m2, m3, m4, m5, m6, m7, m8, m9, m10, m11⟩, mf, ml⟩ := twelve_cells h.mb
  obtain ⟨R, hR⟩ : ∃ R, R = M.step irq blk v := ⟨_, rfl⟩
  rw [← hR] at HK
  have HS : Hid (Calls Tryd.prog 34 #[.agg (M.cells rv mv ov), .bool irq, .slice Bb blk.length cb, .int .i64 v] W fun e w' => ∃ rv' mv' ov', e = .returned (.tuple #[.agg (R.1.cells rv' mv' ov'), .int .i64 R.2]) ∧ OwnM w' w.heap.size rv' mv' ov' R.1 ∧ Below w.heap.size W w' ∧ KeptK (KKo rv mv ov) W w' ∧ Free (KKo rv mv ov) W rv' ∧ Free (KKo rv mv ov) W mv' ∧ Free (KKo rv mv ov) W ov') := by
    rw [hR]
    exact stepped_sharp (KKo rv mv ov) M rv mv ov irq Bb cb blk v W w.heap.size h.own hm h.old.size hbk hl hab (by omega) ⟨free_own h.own (Or.inl rfl), free_own h.own (Or.inr (Or.inl rfl)), free_own h.own (Or.inr (Or.inr rfl))⟩
  clear h hR hbk hm hab hct
  rcases hl with h0 | h0
  all_goals
    rw [h0] at HK HS ⊢
    first | rw [if_neg (by decide)] at HK | rw [if_pos (by decide)] at HK
    go_upto_region 46 with (go_at_call 34; refine HS.out.mono ?_; rintro e w2 ⟨r2, p2, o2, rfl, ho2, hb2, hk2, f1, f2, f3⟩; obtain ⟨C1a, e1, C2a, e2, C3a, e3, rfl, rfl, rfl⟩ := ho2.shape; have H2 : Hid (OwnM w2 w.heap.size (.slice C1a R.1.regs.length e1) (.slice C2a R.1.mem.length e2) (.slice C3a R.1.out.length e3) R.1 ∧ Below w.heap.size W w2 ∧ KeptK (KKo rv mv ov) W w2 ∧ Free (KKo rv mv ov) W (.slice C1a R.1.regs.length e1) ∧ Free (KKo rv mv ov) W (.slice C2a R.1.mem.length e2) ∧ Free (KKo rv mv ov) W (.slice C3a R.1.out.length e3)) := ⟨ho2, hb2, hk2, f1, f2, f3⟩; have hmb : Hid (w2.heap[b]? = some (.cells (M.cells rv mv ov) 30 (0, 0))) := hk2 _ _ ⟨own_ne H.out.own.regs H.out.mb (by decide), own_ne H.out.own.mem H.out.mb (by decide), own_ne H.out.own.out H.out.mb (by decide)⟩ H.out.mb; clear ho2 hb2 hk2 f1 f2 f3 m0 m1 m2 m3 m4 m5 m6 m7 m8 m9 m10 m11 mf ml; obtain ⟨⟨m0, m1, m2, m3, m4, m5, m6, m7, m8, m9, m10, m11⟩, mf, ml⟩ := twelve_cells hmb.out; dsimp only [Mach.cells])
    (refine HK.out _ _ _ _ _ _ _ _ _ _ _ _ _ _ _ _ _ _ _ (H.out.step H2.out.2.1 H2.out.2.2.1 H2.out.1 H2.out.2.2.2.1 H2.out.2.2.2.2.1 H2.out.2.2.2.2.2) ?_ ?_ <;> assumption)


end Go.Proofs.YtbjlfhpiebokkaaDoor

/- The document's recording: is a block wanted anew? (Written by tools/gen_rd.py.) -/

namespace Go.Proofs.YtbjlfhpiebokkaaDoor
open Go.RowKit

set_option linter.unusedVariables false in
set_option maxRecDepth 1000000 in
set_option maxHeartbeats 4000000 in
theorem rdG (c0 c1 c2 c3 c5 c6 c7 c8 c10 c11 c12 c16 c17 c18 c19 c20 c21 c22 c23 c24 c25 c27 c28 c29 c30 c31 c32 c33 c34 c35 c36 c37 c38 c39 c40 c41 c42 c43 c44 c45 c46 c47 c48 c49 c50 c51 c52 c53 c54 c55 c56 c57 c58 c59 c60 c61 c62 c63 c64 c65 c66 c67 c68 c69 c70 c71 c72 c73 c74 c75 c76 c77 c78 c79 c80 c81 c82 c83 c84 c85 c86 c87 c88 c89 c90 c91 c92 c93 c94 c95 c96 c97 c98 c99 c100 c101 c102 c103 c104 c105 c106 c107 c108 c109 c110 c111 c112 c113 c114 c115 c116 c117 c118 c119 c120 c121 c122 c123 c124 c125 c126 c127 c128 c129 c130 c131 c132 c133 c134 c135 c136 c137 c138 c139 c140 c141 c142 c143 c144 c145 c146 c147 c148 c149 c150 c151 c152 c153 c154 c155 c156 c157 c158 c159 c160 c161 c162 c163 c164 c165 c166 c167 c168 c169 c170 c171 c172 c173 c174 c175 c176 c177 c178 c179 c180 c181 c182 c183 c184 c185 c186 c187 c188 c189 c190 c191 c192 c193 c194 c195 c196 c197 c198 c199 c200 c201 c202 c203 c204 c205 c206 c207 c208 c209 c210 c211 c212 c213 c214 c215 : Value) (A0 A1 A2 A3 : Option Addr) (k0 k1 k2 k3 : Nat) (x : Wd) (b : Nat) (rv mv ov : Value) (M : Mach) (k : Nat) (ev : Value) (L : List Ev) (bl : Nat) (due was : Int) (w W : World) (Q : Exit → Act → World → Prop) (K : Act → World → Prop) (hc : ∀ a' w', Code.wp Tryd.prog (rst 15 ((blockOf 1 (Tryd.f9.body.getD .skip)).getD .skip)) Q a' w' → K a' w') (J : Act → World → Prop) (hj : ∀ a' w', Code.wp Tryd.prog (rst 1 (stm 14 ((blockOf 1 (Tryd.f9.body.getD .skip)).getD .skip))) (Exit.then K Q) a' w' → J a' w')
    (h : RoAt w W #[.slice A0 x.irqs.length k0, .slice A1 x.values.length k1, .slice A2 x.blocks.length k2, .slice A3 x.delays.length k3] b rv mv ov M ev L) (hw : WdAt w (.slice A0 x.irqs.length k0) (.slice A1 x.values.length k1) (.slice A2 x.blocks.length k2) (.slice A3 x.delays.length k3) x) (hxm : WdMay x) (hk : k < 3000) (hbl : bl ≤ 3000)
    (hK : ∀ (u171 u172 u173 u174 u175 u176 u177 u178 u179 u180 u181 u182 u183 u184 u185 u186 u187 u188 u189 u190 u191 u192 u193 : Value) (W' : World) (K' : Act → World → Prop) , RoAt w W' #[.slice A0 x.irqs.length k0, .slice A1 x.values.length k1, .slice A2 x.blocks.length k2, .slice A3 x.delays.length k3] b rv mv ov M ev L → (∀ a' w', Code.wp Tryd.prog (rst 16 ((blockOf 1 (Tryd.f9.body.getD .skip)).getD .skip)) Q a' w' → K' a' w') → Code.wp Tryd.prog (stm 15 ((blockOf 1 (Tryd.f9.body.getD .skip)).getD .skip)) (Exit.then K' Q) ⟨#[c0, c1, c2, c3, .pointer (some ⟨w.heap.size, 0, none⟩), c5, c6, c7, c8, .pointer (some ⟨b, 0, none⟩), c10, c11, c12, .int .i64 ((if was = -1 ∧ 0 ≤ M.want then bl + 1 else bl : Nat) : Int), .int .i64 (if was = -1 ∧ 0 ≤ M.want then (k : Int) + 1 + x.delays.getD bl 0 else due), .int .i64 (k : Int), c16, c17, c18, c19, c20, c21, c22, c23, c24, c25, .int .i64 was, c27, c28, c29, c30, c31, c32, c33, c34, c35, c36, c37, c38, c39, c40, c41, c42, c43, c44, c45, c46, c47, c48, c49, c50, c51, c52, c53, c54, c55, c56, c57, c58, c59, c60, c61, c62, c63, c64, c65, c66, c67, c68, c69, c70, c71, c72, c73, c74, c75, c76, c77, c78, c79, c80, c81, c82, c83, c84, c85, c86, c87, c88, c89, c90, c91, c92, c93, c94, c95, c96, c97, c98, c99, c100, c101, c102, c103, c104, c105, c106, c107, c108, c109, c110, c111, c112, c113, c114, c115, c116, c117, c118, c119, c120, c121, c122, c123, c124, c125, c126, c127, c128, c129, c130, c131, c132, c133, c134, c135, c136, c137, c138, c139, c140, c141, c142, c143, c144, c145, c146, c147, c148, c149, c150, c151, c152, c153, c154, c155, c156, c157, c158, c159, c160, c161, c162, c163, c164, c165, c166, c167, c168, c169, c170, u171, u172, u173, u174, u175, u176, u177, u178, u179, u180, u181, u182, u183, u184, u185, u186, u187, u188, u189, u190, u191, u192, u193, c194, c195, c196, c197, c198, c199, c200, c201, c202, c203, c204, c205, c206, c207, c208, c209, c210, c211, c212, c213, c214, c215], []⟩ W') :
    Code.wp Tryd.prog (stm 0 (stm 14 ((blockOf 1 (Tryd.f9.body.getD .skip)).getD .skip))) (Exit.then J (Exit.then K Q)) ⟨#[c0, c1, c2, c3, .pointer (some ⟨w.heap.size, 0, none⟩), c5, c6, c7, c8, .pointer (some ⟨b, 0, none⟩), c10, c11, c12, .int .i64 (bl : Int), .int .i64 due, .int .i64 (k : Int), c16, c17, c18, c19, c20, c21, c22, c23, c24, c25, .int .i64 was, c27, c28, c29, c30, c31, c32, c33, c34, c35, c36, c37, c38, c39, c40, c41, c42, c43, c44, c45, c46, c47, c48, c49, c50, c51, c52, c53, c54, c55, c56, c57, c58, c59, c60, c61, c62, c63, c64, c65, c66, c67, c68, c69, c70, c71, c72, c73, c74, c75, c76, c77, c78, c79, c80, c81, c82, c83, c84, c85, c86, c87, c88, c89, c90, c91, c92, c93, c94, c95, c96, c97, c98, c99, c100, c101, c102, c103, c104, c105, c106, c107, c108, c109, c110, c111, c112, c113, c114, c115, c116, c117, c118, c119, c120, c121, c122, c123, c124, c125, c126, c127, c128, c129, c130, c131, c132, c133, c134, c135, c136, c137, c138, c139, c140, c141, c142, c143, c144, c145, c146, c147, c148, c149, c150, c151, c152, c153, c154, c155, c156, c157, c158, c159, c160, c161, c162, c163, c164, c165, c166, c167, c168, c169, c170, c171, c172, c173, c174, c175, c176, c177, c178, c179, c180, c181, c182, c183, c184, c185, c186, c187, c188, c189, c190, c191, c192, c193, c194, c195, c196, c197, c198, c199, c200, c201, c202, c203, c204, c205, c206, c207, c208, c209, c210, c211, c212, c213, c214, c215], []⟩ W := by
  have HK : Hid (∀ (u171 u172 u173 u174 u175 u176 u177 u178 u179 u180 u181 u182 u183 u184 u185 u186 u187 u188 u189 u190 u191 u192 u193 : Value) (W' : World) (K' : Act → World → Prop) , RoAt w W' #[.slice A0 x.irqs.length k0, .slice A1 x.values.length k1, .slice A2 x.blocks.length k2, .slice A3 x.delays.length k3] b rv mv ov M ev L → (∀ a' w', Code.wp Tryd.prog (rst 16 ((blockOf 1 (Tryd.f9.body.getD .skip)).getD .skip)) Q a' w' → K' a' w') → Code.wp Tryd.prog (stm 15 ((blockOf 1 (Tryd.f9.body.getD .skip)).getD .skip)) (Exit.then K' Q) ⟨#[c0, c1, c2, c3, .pointer (some ⟨w.heap.size, 0, none⟩), c5, c6, c7, c8, .pointer (some ⟨b, 0, none⟩), c10, c11, c12, .int .i64 ((if was = -1 ∧ 0 ≤ M.want then bl + 1 else bl : Nat) : Int), .int .i64 (if was = -1 ∧ 0 ≤ M.want then (k : Int) + 1 + x.delays.getD bl 0 else due), .int .i64 (k : Int), c16, c17, c18, c19, c20, c21, c22, c23, c24, c25, .int .i64 was, c27, c28, c29, c30, c31, c32, c33, c34, c35, c36, c37, c38, c39, c40, c41, c42, c43, c44, c45, c46, c47, c48, c49, c50, c51, c52, c53, c54, c55, c56, c57, c58, c59, c60, c61, c62, c63, c64, c65, c66, c67, c68, c69, c70, c71, c72, c73, c74, c75, c76, c77, c78, c79, c80, c81, c82, c83, c84, c85, c86, c87, c88, c89, c90, c91, c92, c93, c94, c95, c96, c97, c98, c99, c100, c101, c102, c103, c104, c105, c106, c107, c108, c109, c110, c111, c112, c113, c114, c115, c116, c117, c118, c119, c120, c121, c122, c123, c124, c125, c126, c127, c128, c129, c130, c131, c132, c133, c134, c135, c136, c137, c138, c139, c140, c141, c142, c143, c144, c145, c146, c147, c148, c149, c150, c151, c152, c153, c154, c155, c156, c157, c158, c159, c160, c161, c162, c163, c164, c165, c166, c167, c168, c169, c170, u171, u172, u173, u174, u175, u176, u177, u178, u179, u180, u181, u182, u183, u184, u185, u186, u187, u188, u189, u190, u191, u192, u193, c194, c195, c196, c197, c198, c199, c200, c201, c202, c203, c204, c205, c206, c207, c208, c209, c210, c211, c212, c213, c214, c215], []⟩ W') := hK
  clear hK
  conv => arg 2; whnf
  conv at hc => intro a' w'; lhs; arg 2; whnf
  conv at hj => intro a' w'; lhs; arg 2; whnf
  have H : Hid (RoAt w W #[.slice A0 x.irqs.length k0, .slice A1 x.values.length k1, .slice A2 x.blocks.length k2, .slice A3 x.delays.length k3] b rv mv ov M ev L) := h
  obtain ⟨⟨m0, m1, m2, m3, m4, m5, m6, m7, m8, m9, m10, m11⟩, mf, ml⟩ := twelve_cells h.mb
  obtain ⟨z0, z1, z2, z3, zf, zl⟩ := four_cells h.wb
  obtain ⟨Ai, ki, ei, hli, hci⟩ := hw.delays.below h.old
  simp only [Value.slice.injEq, true_and] at ei
  obtain ⟨rfl, rfl⟩ := ei
  clear h hw m0 m1 m2 m3 m4 m5 m6 m7 m8 m9 m10
  by_cases hn : was = -1 ∧ 0 ≤ M.want
  · obtain ⟨rfl, hw0⟩ := hn
    have hw1 : decide (0 ≤ M.want) = true := decide_eq_true hw0
    have hkw : IntKind.i64.wrap ((k : Int) + 1) = (k : Int) + 1 := IntWalk.i64_in _ (by omega)
    have hbw : IntKind.i64.wrap ((bl : Int) + 1) = (bl : Int) + 1 := IntWalk.i64_in _ (by omega)
    have HB1 : Hid ((bl : Int) + 1 = ((bl + 1 : Nat) : Int)) := by show _ = _; omega
    have hnew : (if (-1 : Int) = -1 ∧ 0 ≤ M.want then bl + 1 else bl) = bl + 1 := if_pos ⟨rfl, hw0⟩
    have hnd : (if (-1 : Int) = -1 ∧ 0 ≤ M.want then (k : Int) + 1 + x.delays.getD bl 0 else due) = (k : Int) + 1 + x.delays.getD bl 0 := if_pos ⟨rfl, hw0⟩
    rw [hnew, hnd] at HK
    have hde := hxm.delay bl
    clear hnew hnd
    by_cases hlt : bl < x.delays.length
    · obtain ⟨bi, oi, rfl, hbi, hcj⟩ := hci (by omega)
      have g := hcj bl hlt
      have hvz : (bl : Int) < (x.delays.length : Int) := by omega
      obtain ⟨v, hv⟩ : ∃ v, x.delays.getD bl 0 = v := ⟨_, rfl⟩
      rw [hv] at g HK hde
      clear hcj hci hv
      go_upto_region 51 with fail
      rw [HB1.out]
      (refine HK.out _ _ _ _ _ _ _ _ _ _ _ _ _ _ _ _ _ _ _ _ _ _ _ W _ H.out ?_; assumption)
    · have hvz : ¬ (bl : Int) < (x.delays.length : Int) := by omega
      have hv : x.delays.getD bl 0 = 0 := by simp [List.getD, hlt]
      rw [hv, Int.add_zero] at HK
      clear hci hv
      go_upto_region 51 with fail
      rw [HB1.out]
      (refine HK.out _ _ _ _ _ _ _ _ _ _ _ _ _ _ _ _ _ _ _ _ _ _ _ W _ H.out ?_; assumption)
  · have hnew : (if was = -1 ∧ 0 ≤ M.want then bl + 1 else bl) = bl := if_neg hn
    have hnd : (if was = -1 ∧ 0 ≤ M.want then (k : Int) + 1 + x.delays.getD bl 0 else due) = due := if_neg hn
    rw [hnew, hnd] at HK
    clear hnew hnd hci
    by_cases h1 : was = -1
    · have hw1 : decide (0 ≤ M.want) = false := decide_eq_false (fun e => hn ⟨h1, e⟩)
      subst h1
      clear hn
      go_upto_region 51 with fail
      (refine HK.out _ _ _ _ _ _ _ _ _ _ _ _ _ _ _ _ _ _ _ _ _ _ _ W _ H.out ?_; assumption)
    · have h1' : (was == -1) = false := by simpa using h1
      clear hn h1
      go_upto_region 51 with fail
      (refine HK.out _ _ _ _ _ _ _ _ _ _ _ _ _ _ _ _ _ _ _ _ _ _ _ W _ H.out ?_; assumption)


end Go.Proofs.YtbjlfhpiebokkaaDoor
