/- Contract of hourglassref.stepped. (Written by tools/gen_sp.py.) -/
import Derived.Test.YtlcdefpdahjjeagDoorSpOFPart
import Derived.Test.YtlcdefpdahjjeagDoorRepPPart
namespace Go.Proofs.YtlcdefpdahjjeagDoor
open Go.RowKit

set_option maxRecDepth 100000 in
set_option maxHeartbeats 4000000 in
theorem seg0 (c1 c2 c3 c4 c5 c6 c7 c8 c9 c10 c11 c12 c13 c14 c15 c16 c17 c18 c19 c20 c21 c22 c23 c24 c25 c26 c27 c28 c29 c30 c31 c32 c33 c34 c35 c36 c37 c38 c39 c40 c41 c42 c43 c44 c45 c46 c47 c48 c49 c50 c51 c52 c53 c54 c55 c56 c57 c58 c59 c60 c61 c62 c63 c64 c65 c66 c67 c68 c69 c70 c71 c72 c73 c74 c75 c76 c77 c78 c79 c80 c81 c82 c83 c84 c85 c86 c87 c88 c89 c90 c91 c92 c93 c94 c95 c96 c97 c98 c99 c100 c101 c102 c103 c104 c105 c106 c107 c108 c109 c110 c111 c112 c113 c114 c115 c116 c117 c118 c119 c120 c121 c122 c123 c124 c125 c126 c127 c128 c129 c130 c131 c132 c133 c134 c135 c136 c137 c138 c139 c140 c141 c142 c143 c144 c145 c146 c147 c148 c149 c150 c151 c152 c153 c154 c155 c156 c157 c158 c159 c160 c161 c162 c163 c164 c165 c166 c167 c168 c169 c170 c171 c172 c173 c174 c175 c176 c177 c178 c179 c180 c181 c182 c183 c184 c185 c186 c187 c188 c189 c190 c191 c192 c193 c194 c195 c196 c197 c198 c199 c200 c201 c202 c203 c204 c205 c206 c207 c208 c209 c210 c211 c212 c213 c214 c215 c216 c217 c218 c219 c220 c221 c222 c223 c224 c225 c226 c227 c228 c229 c230 c231 c232 c233 c234 c235 c236 c237 c238 c239 c240 c241 c242 c243 c244 c245 c246 c247 c248 c249 c250 c251 c252 c253 c254 c255 c256 c257 c258 c259 c260 c261 c262 c263 c264 c265 c266 c267 c268 c269 c270 c271 c272 c273 c274 c275 c276 c277 c278 c279 c280 c281 c282 c283 c284 c285 c286 c287 c288 c289 c290 c291 c292 c293 c294 c295 c296 c297 c298 c299 c300 c301 c302 c303 c304 c305 : Value) (m : Mach) (A1 A2 A3 : Option Addr) (d1 d2 d3 : Nat) (w : World) (lo : Nat) (K : Act → World → Prop) (Q : Exit → Act → World → Prop)
    (ho : OwnM w lo (.slice A1 m.regs.length d1) (.slice A2 m.mem.length d2) (.slice A3 m.out.length d3) m) (hlo : lo ≤ w.heap.size)
    (hK : ∀ (u9 : Value) (W' : World), StpI w W' lo w.heap.size m → K ⟨#[.agg #[.slice A1 m.regs.length d1, .int .i64 m.pc, .int .i64 m.back, .bool m.ints, .bool m.wait, .int .i64 m.table, .int .i64 m.count, .int .i64 m.fin, .slice A2 m.mem.length d2, .slice A3 m.out.length d3, .int .i64 m.ready, .int .i64 m.want], c1, c2, c3, .pointer (some ⟨w.heap.size, 0, none⟩), c5, c6, c7, .pointer (some ⟨w.heap.size + 1, 0, none⟩), u9, c10, c11, c12, c13, c14, c15, c16, c17, c18, c19, c20, c21, c22, c23, c24, c25, c26, c27, c28, c29, c30, c31, c32, c33, c34, c35, c36, c37, c38, c39, c40, c41, c42, c43, c44, c45, c46, c47, c48, c49, c50, c51, c52, c53, c54, c55, c56, c57, c58, c59, c60, c61, c62, c63, c64, c65, c66, c67, c68, c69, c70, c71, c72, c73, c74, c75, c76, c77, c78, c79, c80, c81, c82, c83, c84, c85, c86, c87, c88, c89, c90, c91, c92, c93, c94, c95, c96, c97, c98, c99, c100, c101, c102, c103, c104, c105, c106, c107, c108, c109, c110, c111, c112, c113, c114, c115, c116, c117, c118, c119, c120, c121, c122, c123, c124, c125, c126, c127, c128, c129, c130, c131, c132, c133, c134, c135, c136, c137, c138, c139, c140, c141, c142, c143, c144, c145, c146, c147, c148, c149, c150, c151, c152, c153, c154, c155, c156, c157, c158, c159, c160, c161, c162, c163, c164, c165, c166, c167, c168, c169, c170, c171, c172, c173, c174, c175, c176, c177, c178, c179, c180, c181, c182, c183, c184, c185, c186, c187, c188, c189, c190, c191, c192, c193, c194, c195, c196, c197, c198, c199, c200, c201, c202, c203, c204, c205, c206, c207, c208, c209, c210, c211, c212, c213, c214, c215, c216, c217, c218, c219, c220, c221, c222, c223, c224, c225, c226, c227, c228, c229, c230, c231, c232, c233, c234, c235, c236, c237, c238, c239, c240, c241, c242, c243, c244, c245, c246, c247, c248, c249, c250, c251, c252, c253, c254, c255, c256, c257, c258, c259, c260, c261, c262, c263, c264, c265, c266, c267, c268, c269, c270, c271, c272, c273, c274, c275, c276, c277, c278, c279, c280, c281, c282, c283, c284, c285, c286, c287, c288, c289, c290, c291, c292, c293, c294, c295, c296, c297, c298, c299, c300, c301, c302, c303, c304, c305], []⟩ W') :
    Code.wp Tryd.prog (stm 0 (Tryd.f37.body.getD .skip)) (Exit.then K Q) ⟨#[.agg #[.slice A1 m.regs.length d1, .int .i64 m.pc, .int .i64 m.back, .bool m.ints, .bool m.wait, .int .i64 m.table, .int .i64 m.count, .int .i64 m.fin, .slice A2 m.mem.length d2, .slice A3 m.out.length d3, .int .i64 m.ready, .int .i64 m.want], c1, c2, c3, c4, c5, c6, c7, c8, c9, c10, c11, c12, c13, c14, c15, c16, c17, c18, c19, c20, c21, c22, c23, c24, c25, c26, c27, c28, c29, c30, c31, c32, c33, c34, c35, c36, c37, c38, c39, c40, c41, c42, c43, c44, c45, c46, c47, c48, c49, c50, c51, c52, c53, c54, c55, c56, c57, c58, c59, c60, c61, c62, c63, c64, c65, c66, c67, c68, c69, c70, c71, c72, c73, c74, c75, c76, c77, c78, c79, c80, c81, c82, c83, c84, c85, c86, c87, c88, c89, c90, c91, c92, c93, c94, c95, c96, c97, c98, c99, c100, c101, c102, c103, c104, c105, c106, c107, c108, c109, c110, c111, c112, c113, c114, c115, c116, c117, c118, c119, c120, c121, c122, c123, c124, c125, c126, c127, c128, c129, c130, c131, c132, c133, c134, c135, c136, c137, c138, c139, c140, c141, c142, c143, c144, c145, c146, c147, c148, c149, c150, c151, c152, c153, c154, c155, c156, c157, c158, c159, c160, c161, c162, c163, c164, c165, c166, c167, c168, c169, c170, c171, c172, c173, c174, c175, c176, c177, c178, c179, c180, c181, c182, c183, c184, c185, c186, c187, c188, c189, c190, c191, c192, c193, c194, c195, c196, c197, c198, c199, c200, c201, c202, c203, c204, c205, c206, c207, c208, c209, c210, c211, c212, c213, c214, c215, c216, c217, c218, c219, c220, c221, c222, c223, c224, c225, c226, c227, c228, c229, c230, c231, c232, c233, c234, c235, c236, c237, c238, c239, c240, c241, c242, c243, c244, c245, c246, c247, c248, c249, c250, c251, c252, c253, c254, c255, c256, c257, c258, c259, c260, c261, c262, c263, c264, c265, c266, c267, c268, c269, c270, c271, c272, c273, c274, c275, c276, c277, c278, c279, c280, c281, c282, c283, c284, c285, c286, c287, c288, c289, c290, c291, c292, c293, c294, c295, c296, c297, c298, c299, c300, c301, c302, c303, c304, c305], []⟩ w := by
  have HK : Hid (∀ (u9 : Value) (W' : World), StpI w W' lo w.heap.size m → K ⟨#[.agg #[.slice A1 m.regs.length d1, .int .i64 m.pc, .int .i64 m.back, .bool m.ints, .bool m.wait, .int .i64 m.table, .int .i64 m.count, .int .i64 m.fin, .slice A2 m.mem.length d2, .slice A3 m.out.length d3, .int .i64 m.ready, .int .i64 m.want], c1, c2, c3, .pointer (some ⟨w.heap.size, 0, none⟩), c5, c6, c7, .pointer (some ⟨w.heap.size + 1, 0, none⟩), u9, c10, c11, c12, c13, c14, c15, c16, c17, c18, c19, c20, c21, c22, c23, c24, c25, c26, c27, c28, c29, c30, c31, c32, c33, c34, c35, c36, c37, c38, c39, c40, c41, c42, c43, c44, c45, c46, c47, c48, c49, c50, c51, c52, c53, c54, c55, c56, c57, c58, c59, c60, c61, c62, c63, c64, c65, c66, c67, c68, c69, c70, c71, c72, c73, c74, c75, c76, c77, c78, c79, c80, c81, c82, c83, c84, c85, c86, c87, c88, c89, c90, c91, c92, c93, c94, c95, c96, c97, c98, c99, c100, c101, c102, c103, c104, c105, c106, c107, c108, c109, c110, c111, c112, c113, c114, c115, c116, c117, c118, c119, c120, c121, c122, c123, c124, c125, c126, c127, c128, c129, c130, c131, c132, c133, c134, c135, c136, c137, c138, c139, c140, c141, c142, c143, c144, c145, c146, c147, c148, c149, c150, c151, c152, c153, c154, c155, c156, c157, c158, c159, c160, c161, c162, c163, c164, c165, c166, c167, c168, c169, c170, c171, c172, c173, c174, c175, c176, c177, c178, c179, c180, c181, c182, c183, c184, c185, c186, c187, c188, c189, c190, c191, c192, c193, c194, c195, c196, c197, c198, c199, c200, c201, c202, c203, c204, c205, c206, c207, c208, c209, c210, c211, c212, c213, c214, c215, c216, c217, c218, c219, c220, c221, c222, c223, c224, c225, c226, c227, c228, c229, c230, c231, c232, c233, c234, c235, c236, c237, c238, c239, c240, c241, c242, c243, c244, c245, c246, c247, c248, c249, c250, c251, c252, c253, c254, c255, c256, c257, c258, c259, c260, c261, c262, c263, c264, c265, c266, c267, c268, c269, c270, c271, c272, c273, c274, c275, c276, c277, c278, c279, c280, c281, c282, c283, c284, c285, c286, c287, c288, c289, c290, c291, c292, c293, c294, c295, c296, c297, c298, c299, c300, c301, c302, c303, c304, c305], []⟩ W') := hK
  clear hK
  conv => arg 2; whnf
  have HS : Hid (StpI w ((w.alloc (.cells (m.cells (.slice A1 m.regs.length d1) (.slice A2 m.mem.length d2) (.slice A3 m.out.length d3)) 30)).alloc (.cells zeroM 30)) lo w.heap.size m) := StpI.start ho hlo
  clear ho
  go_wp2_with fail
  exact HK.out _ _ HS.out

set_option maxRecDepth 100000 in
set_option maxHeartbeats 4000000 in
theorem seg1 (c0 c1 c2 c3 c5 c6 c7 c9 c10 c11 c12 c13 c14 c15 c16 c17 c18 c19 c20 c21 c22 c23 c24 c25 c26 c27 c28 c29 c30 c31 c32 c33 c34 c35 c36 c37 c38 c39 c40 c41 c42 c43 c44 c45 c46 c47 c48 c49 c50 c51 c52 c53 c54 c55 c56 c57 c58 c59 c60 c61 c62 c63 c64 c65 c66 c67 c68 c69 c70 c71 c72 c73 c74 c75 c76 c77 c78 c79 c80 c81 c82 c83 c84 c85 c86 c87 c88 c89 c90 c91 c92 c93 c94 c95 c96 c97 c98 c99 c100 c101 c102 c103 c104 c105 c106 c107 c108 c109 c110 c111 c112 c113 c114 c115 c116 c117 c118 c119 c120 c121 c122 c123 c124 c125 c126 c127 c128 c129 c130 c131 c132 c133 c134 c135 c136 c137 c138 c139 c140 c141 c142 c143 c144 c145 c146 c147 c148 c149 c150 c151 c152 c153 c154 c155 c156 c157 c158 c159 c160 c161 c162 c163 c164 c165 c166 c167 c168 c169 c170 c171 c172 c173 c174 c175 c176 c177 c178 c179 c180 c181 c182 c183 c184 c185 c186 c187 c188 c189 c190 c191 c192 c193 c194 c195 c196 c197 c198 c199 c200 c201 c202 c203 c204 c205 c206 c207 c208 c209 c210 c211 c212 c213 c214 c215 c216 c217 c218 c219 c220 c221 c222 c223 c224 c225 c226 c227 c228 c229 c230 c231 c232 c233 c234 c235 c236 c237 c238 c239 c240 c241 c242 c243 c244 c245 c246 c247 c248 c249 c250 c251 c252 c253 c254 c255 c256 c257 c258 c259 c260 c261 c262 c263 c264 c265 c266 c267 c268 c269 c270 c271 c272 c273 c274 c275 c276 c277 c278 c279 c280 c281 c282 c283 c284 c285 c286 c287 c288 c289 c290 c291 c292 c293 c294 c295 c296 c297 c298 c299 c300 c301 c302 c303 c304 c305 : Value) (m : Mach) (w W : World) (lo b : Nat) (K : Act → World → Prop) (Q : Exit → Act → World → Prop)
    (h : StpI w W lo b m) (hf : m.fin = 0)
    (hK : ∀ (u21 u22 u23 : Value) (W' : World), W' = W → K ⟨#[c0, c1, c2, c3, .pointer (some ⟨b, 0, none⟩), c5, c6, c7, .pointer (some ⟨b + 1, 0, none⟩), c9, c10, c11, c12, c13, c14, c15, c16, c17, c18, c19, c20, u21, u22, u23, c24, c25, c26, c27, c28, c29, c30, c31, c32, c33, c34, c35, c36, c37, c38, c39, c40, c41, c42, c43, c44, c45, c46, c47, c48, c49, c50, c51, c52, c53, c54, c55, c56, c57, c58, c59, c60, c61, c62, c63, c64, c65, c66, c67, c68, c69, c70, c71, c72, c73, c74, c75, c76, c77, c78, c79, c80, c81, c82, c83, c84, c85, c86, c87, c88, c89, c90, c91, c92, c93, c94, c95, c96, c97, c98, c99, c100, c101, c102, c103, c104, c105, c106, c107, c108, c109, c110, c111, c112, c113, c114, c115, c116, c117, c118, c119, c120, c121, c122, c123, c124, c125, c126, c127, c128, c129, c130, c131, c132, c133, c134, c135, c136, c137, c138, c139, c140, c141, c142, c143, c144, c145, c146, c147, c148, c149, c150, c151, c152, c153, c154, c155, c156, c157, c158, c159, c160, c161, c162, c163, c164, c165, c166, c167, c168, c169, c170, c171, c172, c173, c174, c175, c176, c177, c178, c179, c180, c181, c182, c183, c184, c185, c186, c187, c188, c189, c190, c191, c192, c193, c194, c195, c196, c197, c198, c199, c200, c201, c202, c203, c204, c205, c206, c207, c208, c209, c210, c211, c212, c213, c214, c215, c216, c217, c218, c219, c220, c221, c222, c223, c224, c225, c226, c227, c228, c229, c230, c231, c232, c233, c234, c235, c236, c237, c238, c239, c240, c241, c242, c243, c244, c245, c246, c247, c248, c249, c250, c251, c252, c253, c254, c255, c256, c257, c258, c259, c260, c261, c262, c263, c264, c265, c266, c267, c268, c269, c270, c271, c272, c273, c274, c275, c276, c277, c278, c279, c280, c281, c282, c283, c284, c285, c286, c287, c288, c289, c290, c291, c292, c293, c294, c295, c296, c297, c298, c299, c300, c301, c302, c303, c304, c305], []⟩ W') :
    Code.wp Tryd.prog (stm 1 (Tryd.f37.body.getD .skip)) (Exit.then K Q) ⟨#[c0, c1, c2, c3, .pointer (some ⟨b, 0, none⟩), c5, c6, c7, .pointer (some ⟨b + 1, 0, none⟩), c9, c10, c11, c12, c13, c14, c15, c16, c17, c18, c19, c20, c21, c22, c23, c24, c25, c26, c27, c28, c29, c30, c31, c32, c33, c34, c35, c36, c37, c38, c39, c40, c41, c42, c43, c44, c45, c46, c47, c48, c49, c50, c51, c52, c53, c54, c55, c56, c57, c58, c59, c60, c61, c62, c63, c64, c65, c66, c67, c68, c69, c70, c71, c72, c73, c74, c75, c76, c77, c78, c79, c80, c81, c82, c83, c84, c85, c86, c87, c88, c89, c90, c91, c92, c93, c94, c95, c96, c97, c98, c99, c100, c101, c102, c103, c104, c105, c106, c107, c108, c109, c110, c111, c112, c113, c114, c115, c116, c117, c118, c119, c120, c121, c122, c123, c124, c125, c126, c127, c128, c129, c130, c131, c132, c133, c134, c135, c136, c137, c138, c139, c140, c141, c142, c143, c144, c145, c146, c147, c148, c149, c150, c151, c152, c153, c154, c155, c156, c157, c158, c159, c160, c161, c162, c163, c164, c165, c166, c167, c168, c169, c170, c171, c172, c173, c174, c175, c176, c177, c178, c179, c180, c181, c182, c183, c184, c185, c186, c187, c188, c189, c190, c191, c192, c193, c194, c195, c196, c197, c198, c199, c200, c201, c202, c203, c204, c205, c206, c207, c208, c209, c210, c211, c212, c213, c214, c215, c216, c217, c218, c219, c220, c221, c222, c223, c224, c225, c226, c227, c228, c229, c230, c231, c232, c233, c234, c235, c236, c237, c238, c239, c240, c241, c242, c243, c244, c245, c246, c247, c248, c249, c250, c251, c252, c253, c254, c255, c256, c257, c258, c259, c260, c261, c262, c263, c264, c265, c266, c267, c268, c269, c270, c271, c272, c273, c274, c275, c276, c277, c278, c279, c280, c281, c282, c283, c284, c285, c286, c287, c288, c289, c290, c291, c292, c293, c294, c295, c296, c297, c298, c299, c300, c301, c302, c303, c304, c305], []⟩ W := by
  have HK : Hid (∀ (u21 u22 u23 : Value) (W' : World), W' = W → K ⟨#[c0, c1, c2, c3, .pointer (some ⟨b, 0, none⟩), c5, c6, c7, .pointer (some ⟨b + 1, 0, none⟩), c9, c10, c11, c12, c13, c14, c15, c16, c17, c18, c19, c20, u21, u22, u23, c24, c25, c26, c27, c28, c29, c30, c31, c32, c33, c34, c35, c36, c37, c38, c39, c40, c41, c42, c43, c44, c45, c46, c47, c48, c49, c50, c51, c52, c53, c54, c55, c56, c57, c58, c59, c60, c61, c62, c63, c64, c65, c66, c67, c68, c69, c70, c71, c72, c73, c74, c75, c76, c77, c78, c79, c80, c81, c82, c83, c84, c85, c86, c87, c88, c89, c90, c91, c92, c93, c94, c95, c96, c97, c98, c99, c100, c101, c102, c103, c104, c105, c106, c107, c108, c109, c110, c111, c112, c113, c114, c115, c116, c117, c118, c119, c120, c121, c122, c123, c124, c125, c126, c127, c128, c129, c130, c131, c132, c133, c134, c135, c136, c137, c138, c139, c140, c141, c142, c143, c144, c145, c146, c147, c148, c149, c150, c151, c152, c153, c154, c155, c156, c157, c158, c159, c160, c161, c162, c163, c164, c165, c166, c167, c168, c169, c170, c171, c172, c173, c174, c175, c176, c177, c178, c179, c180, c181, c182, c183, c184, c185, c186, c187, c188, c189, c190, c191, c192, c193, c194, c195, c196, c197, c198, c199, c200, c201, c202, c203, c204, c205, c206, c207, c208, c209, c210, c211, c212, c213, c214, c215, c216, c217, c218, c219, c220, c221, c222, c223, c224, c225, c226, c227, c228, c229, c230, c231, c232, c233, c234, c235, c236, c237, c238, c239, c240, c241, c242, c243, c244, c245, c246, c247, c248, c249, c250, c251, c252, c253, c254, c255, c256, c257, c258, c259, c260, c261, c262, c263, c264, c265, c266, c267, c268, c269, c270, c271, c272, c273, c274, c275, c276, c277, c278, c279, c280, c281, c282, c283, c284, c285, c286, c287, c288, c289, c290, c291, c292, c293, c294, c295, c296, c297, c298, c299, c300, c301, c302, c303, c304, c305], []⟩ W') := hK
  clear hK
  conv => arg 2; whnf
  obtain ⟨rv, mv, ov, ha⟩ := h.at_
  obtain ⟨⟨z0, z1, z2, z3, z4, z5, z6, z7, z8, z9, z10, z11⟩, zf, zl⟩ := twelve_cells ha.box
  rw [hf] at z7
  clear h ha hf
  go_wp2_with fail
  exact HK.out _ _ _ _ rfl


set_option maxRecDepth 100000 in
set_option maxHeartbeats 4000000 in
theorem seg1r (c0 c1 c2 c3 c5 c6 c7 c9 c10 c11 c12 c13 c14 c15 c16 c17 c18 c19 c20 c21 c22 c23 c24 c25 c26 c27 c28 c29 c30 c31 c32 c33 c34 c35 c36 c37 c38 c39 c40 c41 c42 c43 c44 c45 c46 c47 c48 c49 c50 c51 c52 c53 c54 c55 c56 c57 c58 c59 c60 c61 c62 c63 c64 c65 c66 c67 c68 c69 c70 c71 c72 c73 c74 c75 c76 c77 c78 c79 c80 c81 c82 c83 c84 c85 c86 c87 c88 c89 c90 c91 c92 c93 c94 c95 c96 c97 c98 c99 c100 c101 c102 c103 c104 c105 c106 c107 c108 c109 c110 c111 c112 c113 c114 c115 c116 c117 c118 c119 c120 c121 c122 c123 c124 c125 c126 c127 c128 c129 c130 c131 c132 c133 c134 c135 c136 c137 c138 c139 c140 c141 c142 c143 c144 c145 c146 c147 c148 c149 c150 c151 c152 c153 c154 c155 c156 c157 c158 c159 c160 c161 c162 c163 c164 c165 c166 c167 c168 c169 c170 c171 c172 c173 c174 c175 c176 c177 c178 c179 c180 c181 c182 c183 c184 c185 c186 c187 c188 c189 c190 c191 c192 c193 c194 c195 c196 c197 c198 c199 c200 c201 c202 c203 c204 c205 c206 c207 c208 c209 c210 c211 c212 c213 c214 c215 c216 c217 c218 c219 c220 c221 c222 c223 c224 c225 c226 c227 c228 c229 c230 c231 c232 c233 c234 c235 c236 c237 c238 c239 c240 c241 c242 c243 c244 c245 c246 c247 c248 c249 c250 c251 c252 c253 c254 c255 c256 c257 c258 c259 c260 c261 c262 c263 c264 c265 c266 c267 c268 c269 c270 c271 c272 c273 c274 c275 c276 c277 c278 c279 c280 c281 c282 c283 c284 c285 c286 c287 c288 c289 c290 c291 c292 c293 c294 c295 c296 c297 c298 c299 c300 c301 c302 c303 c304 c305 : Value) (m : Mach) (R : Mach × Int) (w W : World) (lo b : Nat) (K : Act → World → Prop)
    (h : StpI w W lo b m) (hf : m.fin ≠ 0) (hR : R = (m, -1)) :
    Code.wp Tryd.prog (stm 1 (Tryd.f37.body.getD .skip)) (Exit.then K (bodyPost Tryd.prog Tryd.f37 (fun e w' => ∃ rv' mv' ov', e = .returned (.tuple #[.agg (R.1.cells rv' mv' ov'), .int .i64 R.2]) ∧ OwnM w' lo rv' mv' ov' R.1 ∧ Below lo w w' ∧ KeptM w w'))) ⟨#[c0, c1, c2, c3, .pointer (some ⟨b, 0, none⟩), c5, c6, c7, .pointer (some ⟨b + 1, 0, none⟩), c9, c10, c11, c12, c13, c14, c15, c16, c17, c18, c19, c20, c21, c22, c23, c24, c25, c26, c27, c28, c29, c30, c31, c32, c33, c34, c35, c36, c37, c38, c39, c40, c41, c42, c43, c44, c45, c46, c47, c48, c49, c50, c51, c52, c53, c54, c55, c56, c57, c58, c59, c60, c61, c62, c63, c64, c65, c66, c67, c68, c69, c70, c71, c72, c73, c74, c75, c76, c77, c78, c79, c80, c81, c82, c83, c84, c85, c86, c87, c88, c89, c90, c91, c92, c93, c94, c95, c96, c97, c98, c99, c100, c101, c102, c103, c104, c105, c106, c107, c108, c109, c110, c111, c112, c113, c114, c115, c116, c117, c118, c119, c120, c121, c122, c123, c124, c125, c126, c127, c128, c129, c130, c131, c132, c133, c134, c135, c136, c137, c138, c139, c140, c141, c142, c143, c144, c145, c146, c147, c148, c149, c150, c151, c152, c153, c154, c155, c156, c157, c158, c159, c160, c161, c162, c163, c164, c165, c166, c167, c168, c169, c170, c171, c172, c173, c174, c175, c176, c177, c178, c179, c180, c181, c182, c183, c184, c185, c186, c187, c188, c189, c190, c191, c192, c193, c194, c195, c196, c197, c198, c199, c200, c201, c202, c203, c204, c205, c206, c207, c208, c209, c210, c211, c212, c213, c214, c215, c216, c217, c218, c219, c220, c221, c222, c223, c224, c225, c226, c227, c228, c229, c230, c231, c232, c233, c234, c235, c236, c237, c238, c239, c240, c241, c242, c243, c244, c245, c246, c247, c248, c249, c250, c251, c252, c253, c254, c255, c256, c257, c258, c259, c260, c261, c262, c263, c264, c265, c266, c267, c268, c269, c270, c271, c272, c273, c274, c275, c276, c277, c278, c279, c280, c281, c282, c283, c284, c285, c286, c287, c288, c289, c290, c291, c292, c293, c294, c295, c296, c297, c298, c299, c300, c301, c302, c303, c304, c305], []⟩ W := by
  conv => arg 2; whnf
  obtain ⟨rv, mv, ov, ha⟩ := h.at_
  obtain ⟨A1, d1, A2, d2, A3, d3, e1, e2, e3⟩ := ha.own.shape
  subst e1 e2 e3
  obtain ⟨⟨z0, z1, z2, z3, z4, z5, z6, z7, z8, z9, z10, z11⟩, zf, zl⟩ := twelve_cells ha.box
  obtain ⟨⟨y0, y1, y2, y3, y4, y5, y6, y7, y8, y9, y10, y11⟩, yf, yl⟩ := twelve_cells h.res
  have e1 : (m.fin != 0) = true := by simp [hf]
  have HEND : Hid (OwnM W lo (.slice A1 m.regs.length d1) (.slice A2 m.mem.length d2) (.slice A3 m.out.length d3) m ∧ IsBox W (b + 1) ∧ Below lo w W ∧ lo ≤ b ∧ KeptM w W ∧ w.heap.size ≤ b) := ⟨ha.own, ⟨_, h.res⟩, h.old, h.size.1, h.box, h.bw⟩
  have HR : Hid (R = (m, -1)) := hR
  clear h ha hR hf
  go_wp2_with fail
  change bodyPost Tryd.prog Tryd.f37 _ _ _ _
  refine bodyPost_ret (v := .tuple #[.agg #[.slice A1 m.regs.length d1, .int .i64 m.pc, .int .i64 m.back, .bool m.ints, .bool m.wait, .int .i64 m.table, .int .i64 m.count, .int .i64 m.fin, .slice A2 m.mem.length d2, .slice A3 m.out.length d3, .int .i64 m.ready, .int .i64 m.want], .int .i64 (-1)]) (by simp [results, Tryd.results37, go_sem, y0, y1, y2, y3, y4, y5, y6, y7, y8, y9, y10, y11]) rfl ?_
  rw [HR.out]
  exact ⟨_, _, _, rfl, HEND.out.1.set12 HEND.out.2.1 _ _ _ _ _ _ _ _ _ _ _ _, below_set12 HEND.out.2.2.1 (by have := HEND.out.2.2.2.1; omega) _ _ _ _ _ _ _ _ _ _ _ _, keptM_set12 HEND.out.2.2.2.2.1 (by have := HEND.out.2.2.2.2.2; omega) _ _ _ _ _ _ _ _ _ _ _ _⟩

theorem wp_at {k : Nat} (h : rst k (Tryd.f37.body.getD .skip) = .seq (stm k (Tryd.f37.body.getD .skip)) (rst (k + 1) (Tryd.f37.body.getD .skip))) {Q : Exit → Act → World → Prop} {a : Act} {w : World} (hs : Code.wp Tryd.prog (stm k (Tryd.f37.body.getD .skip)) (Exit.then (Code.wp Tryd.prog (rst (k + 1) (Tryd.f37.body.getD .skip)) Q) Q) a w) : Code.wp Tryd.prog (rst k (Tryd.f37.body.getD .skip)) Q a w := by
  rw [h]
  exact wp_seq hs

theorem sp0 : rst 0 (Tryd.f37.body.getD .skip) = .seq (stm 0 (Tryd.f37.body.getD .skip)) (rst 1 (Tryd.f37.body.getD .skip)) := by kernel_rfl
theorem sp1 : rst 1 (Tryd.f37.body.getD .skip) = .seq (stm 1 (Tryd.f37.body.getD .skip)) (rst 2 (Tryd.f37.body.getD .skip)) := by kernel_rfl
theorem sp2 : rst 2 (Tryd.f37.body.getD .skip) = .seq (stm 2 (Tryd.f37.body.getD .skip)) (rst 3 (Tryd.f37.body.getD .skip)) := by kernel_rfl
theorem sp3 : rst 3 (Tryd.f37.body.getD .skip) = .seq (stm 3 (Tryd.f37.body.getD .skip)) (rst 4 (Tryd.f37.body.getD .skip)) := by kernel_rfl
theorem sp4 : rst 4 (Tryd.f37.body.getD .skip) = .seq (stm 4 (Tryd.f37.body.getD .skip)) (rst 5 (Tryd.f37.body.getD .skip)) := by kernel_rfl
theorem sp5 : rst 5 (Tryd.f37.body.getD .skip) = .seq (stm 5 (Tryd.f37.body.getD .skip)) (rst 6 (Tryd.f37.body.getD .skip)) := by kernel_rfl
theorem sp6 : rst 6 (Tryd.f37.body.getD .skip) = .seq (stm 6 (Tryd.f37.body.getD .skip)) (rst 7 (Tryd.f37.body.getD .skip)) := by kernel_rfl
theorem sp7 : rst 7 (Tryd.f37.body.getD .skip) = .seq (stm 7 (Tryd.f37.body.getD .skip)) (rst 8 (Tryd.f37.body.getD .skip)) := by kernel_rfl
theorem sp8 : rst 8 (Tryd.f37.body.getD .skip) = .seq (stm 8 (Tryd.f37.body.getD .skip)) (rst 9 (Tryd.f37.body.getD .skip)) := by kernel_rfl
theorem sp9 : rst 9 (Tryd.f37.body.getD .skip) = .seq (stm 9 (Tryd.f37.body.getD .skip)) (rst 10 (Tryd.f37.body.getD .skip)) := by kernel_rfl
theorem sp10 : rst 10 (Tryd.f37.body.getD .skip) = .seq (stm 10 (Tryd.f37.body.getD .skip)) (rst 11 (Tryd.f37.body.getD .skip)) := by kernel_rfl
theorem sp11 : rst 11 (Tryd.f37.body.getD .skip) = .seq (stm 11 (Tryd.f37.body.getD .skip)) (rst 12 (Tryd.f37.body.getD .skip)) := by kernel_rfl
theorem sp12 : rst 12 (Tryd.f37.body.getD .skip) = .seq (stm 12 (Tryd.f37.body.getD .skip)) (rst 13 (Tryd.f37.body.getD .skip)) := by kernel_rfl
theorem sp13 : rst 13 (Tryd.f37.body.getD .skip) = .seq (stm 13 (Tryd.f37.body.getD .skip)) (rst 14 (Tryd.f37.body.getD .skip)) := by kernel_rfl
set_option maxRecDepth 100000 in
set_option maxHeartbeats 4000000 in
theorem spBody_wp (c4 c5 c6 c7 c8 c9 c10 c11 c12 c13 c14 c15 c16 c17 c18 c19 c20 c21 c22 c23 c24 c25 c26 c27 c28 c29 c30 c31 c32 c33 c34 c35 c36 c37 c38 c39 c40 c41 c42 c43 c44 c45 c46 c47 c48 c49 c50 c51 c52 c53 c54 c55 c56 c57 c58 c59 c60 c61 c62 c63 c64 c65 c66 c67 c68 c69 c70 c71 c72 c73 c74 c75 c76 c77 c78 c79 c80 c81 c82 c83 c84 c85 c86 c87 c88 c89 c90 c91 c92 c93 c94 c95 c96 c97 c98 c99 c100 c101 c102 c103 c104 c105 c106 c107 c108 c109 c110 c111 c112 c113 c114 c115 c116 c117 c118 c119 c120 c121 c122 c123 c124 c125 c126 c127 c128 c129 c130 c131 c132 c133 c134 c135 c136 c137 c138 c139 c140 c141 c142 c143 c144 c145 c146 c147 c148 c149 c150 c151 c152 c153 c154 c155 c156 c157 c158 c159 c160 c161 c162 c163 c164 c165 c166 c167 c168 c169 c170 c171 c172 c173 c174 c175 c176 c177 c178 c179 c180 c181 c182 c183 c184 c185 c186 c187 c188 c189 c190 c191 c192 c193 c194 c195 c196 c197 c198 c199 c200 c201 c202 c203 c204 c205 c206 c207 c208 c209 c210 c211 c212 c213 c214 c215 c216 c217 c218 c219 c220 c221 c222 c223 c224 c225 c226 c227 c228 c229 c230 c231 c232 c233 c234 c235 c236 c237 c238 c239 c240 c241 c242 c243 c244 c245 c246 c247 c248 c249 c250 c251 c252 c253 c254 c255 c256 c257 c258 c259 c260 c261 c262 c263 c264 c265 c266 c267 c268 c269 c270 c271 c272 c273 c274 c275 c276 c277 c278 c279 c280 c281 c282 c283 c284 c285 c286 c287 c288 c289 c290 c291 c292 c293 c294 c295 c296 c297 c298 c299 c300 c301 c302 c303 c304 c305 : Value) (m : Mach) (A1 A2 A3 : Option Addr) (d1 d2 d3 : Nat) (irq : Bool) (B : Option Addr) (cb : Nat) (blk : List Int) (value : Int) (R : Mach × Int) (w : World) (lo : Nat)
    (ho : OwnM w lo (.slice A1 m.regs.length d1) (.slice A2 m.mem.length d2) (.slice A3 m.out.length d3) m) (hm : MayP m) (hlo : lo ≤ w.heap.size) (hb : IntsOld lo w (.slice B blk.length cb) blk) (hl : blk.length = 0 ∨ blk.length = 16) (hab : allB blk = true) (hct : m.count < 1099511627776) (hR : R = m.step irq blk value) :
    Code.wp Tryd.prog (rst 0 (Tryd.f37.body.getD .skip)) (bodyPost Tryd.prog Tryd.f37 (fun e w' => ∃ rv' mv' ov', e = .returned (.tuple #[.agg (R.1.cells rv' mv' ov'), .int .i64 R.2]) ∧ OwnM w' lo rv' mv' ov' R.1 ∧ Below lo w w' ∧ KeptM w w')) ⟨#[.agg #[.slice A1 m.regs.length d1, .int .i64 m.pc, .int .i64 m.back, .bool m.ints, .bool m.wait, .int .i64 m.table, .int .i64 m.count, .int .i64 m.fin, .slice A2 m.mem.length d2, .slice A3 m.out.length d3, .int .i64 m.ready, .int .i64 m.want], .bool irq, .slice B blk.length cb, .int .i64 value, c4, c5, c6, c7, c8, c9, c10, c11, c12, c13, c14, c15, c16, c17, c18, c19, c20, c21, c22, c23, c24, c25, c26, c27, c28, c29, c30, c31, c32, c33, c34, c35, c36, c37, c38, c39, c40, c41, c42, c43, c44, c45, c46, c47, c48, c49, c50, c51, c52, c53, c54, c55, c56, c57, c58, c59, c60, c61, c62, c63, c64, c65, c66, c67, c68, c69, c70, c71, c72, c73, c74, c75, c76, c77, c78, c79, c80, c81, c82, c83, c84, c85, c86, c87, c88, c89, c90, c91, c92, c93, c94, c95, c96, c97, c98, c99, c100, c101, c102, c103, c104, c105, c106, c107, c108, c109, c110, c111, c112, c113, c114, c115, c116, c117, c118, c119, c120, c121, c122, c123, c124, c125, c126, c127, c128, c129, c130, c131, c132, c133, c134, c135, c136, c137, c138, c139, c140, c141, c142, c143, c144, c145, c146, c147, c148, c149, c150, c151, c152, c153, c154, c155, c156, c157, c158, c159, c160, c161, c162, c163, c164, c165, c166, c167, c168, c169, c170, c171, c172, c173, c174, c175, c176, c177, c178, c179, c180, c181, c182, c183, c184, c185, c186, c187, c188, c189, c190, c191, c192, c193, c194, c195, c196, c197, c198, c199, c200, c201, c202, c203, c204, c205, c206, c207, c208, c209, c210, c211, c212, c213, c214, c215, c216, c217, c218, c219, c220, c221, c222, c223, c224, c225, c226, c227, c228, c229, c230, c231, c232, c233, c234, c235, c236, c237, c238, c239, c240, c241, c242, c243, c244, c245, c246, c247, c248, c249, c250, c251, c252, c253, c254, c255, c256, c257, c258, c259, c260, c261, c262, c263, c264, c265, c266, c267, c268, c269, c270, c271, c272, c273, c274, c275, c276, c277, c278, c279, c280, c281, c282, c283, c284, c285, c286, c287, c288, c289, c290, c291, c292, c293, c294, c295, c296, c297, c298, c299, c300, c301, c302, c303, c304, c305], []⟩ w := by
  refine wp_at sp0 (seg0 _ _ _ _ _ _ _ _ _ _ _ _ _ _ _ _ _ _ _ _ _ _ _ _ _ _ _ _ _ _ _ _ _ _ _ _ _ _ _ _ _ _ _ _ _ _ _ _ _ _ _ _ _ _ _ _ _ _ _ _ _ _ _ _ _ _ _ _ _ _ _ _ _ _ _ _ _ _ _ _ _ _ _ _ _ _ _ _ _ _ _ _ _ _ _ _ _ _ _ _ _ _ _ _ _ _ _ _ _ _ _ _ _ _ _ _ _ _ _ _ _ _ _ _ _ _ _ _ _ _ _ _ _ _ _ _ _ _ _ _ _ _ _ _ _ _ _ _ _ _ _ _ _ _ _ _ _ _ _ _ _ _ _ _ _ _ _ _ _ _ _ _ _ _ _ _ _ _ _ _ _ _ _ _ _ _ _ _ _ _ _ _ _ _ _ _ _ _ _ _ _ _ _ _ _ _ _ _ _ _ _ _ _ _ _ _ _ _ _ _ _ _ _ _ _ _ _ _ _ _ _ _ _ _ _ _ _ _ _ _ _ _ _ _ _ _ _ _ _ _ _ _ _ _ _ _ _ _ _ _ _ _ _ _ _ _ _ _ _ _ _ _ _ _ _ _ _ _ _ _ _ _ _ _ _ _ _ _ _ _ _ _ _ _ _ _ _ _ _ _ _ _ _ _ _ m A1 A2 A3 d1 d2 d3 w lo _ _ ho hlo ?_)
  intro u9 W0 h0
  by_cases hf : ¬ m.fin = 0
  · exact wp_at sp1 (seg1r _ _ _ _ _ _ _ _ _ _ _ _ _ _ _ _ _ _ _ _ _ _ _ _ _ _ _ _ _ _ _ _ _ _ _ _ _ _ _ _ _ _ _ _ _ _ _ _ _ _ _ _ _ _ _ _ _ _ _ _ _ _ _ _ _ _ _ _ _ _ _ _ _ _ _ _ _ _ _ _ _ _ _ _ _ _ _ _ _ _ _ _ _ _ _ _ _ _ _ _ _ _ _ _ _ _ _ _ _ _ _ _ _ _ _ _ _ _ _ _ _ _ _ _ _ _ _ _ _ _ _ _ _ _ _ _ _ _ _ _ _ _ _ _ _ _ _ _ _ _ _ _ _ _ _ _ _ _ _ _ _ _ _ _ _ _ _ _ _ _ _ _ _ _ _ _ _ _ _ _ _ _ _ _ _ _ _ _ _ _ _ _ _ _ _ _ _ _ _ _ _ _ _ _ _ _ _ _ _ _ _ _ _ _ _ _ _ _ _ _ _ _ _ _ _ _ _ _ _ _ _ _ _ _ _ _ _ _ _ _ _ _ _ _ _ _ _ _ _ _ _ _ _ _ _ _ _ _ _ _ _ _ _ _ _ _ _ _ _ _ _ _ _ _ _ _ _ _ _ _ _ _ _ _ _ _ _ _ _ _ _ _ _ _ _ _ _ _ _ _ _ _ _ _ m R w W0 lo w.heap.size _ h0 hf (by rw [hR]; simp [Mach.step, hf]))
  replace hf : m.fin = 0 := by omega
  refine wp_at sp1 (seg1 _ _ _ _ _ _ _ _ _ _ _ _ _ _ _ _ _ _ _ _ _ _ _ _ _ _ _ _ _ _ _ _ _ _ _ _ _ _ _ _ _ _ _ _ _ _ _ _ _ _ _ _ _ _ _ _ _ _ _ _ _ _ _ _ _ _ _ _ _ _ _ _ _ _ _ _ _ _ _ _ _ _ _ _ _ _ _ _ _ _ _ _ _ _ _ _ _ _ _ _ _ _ _ _ _ _ _ _ _ _ _ _ _ _ _ _ _ _ _ _ _ _ _ _ _ _ _ _ _ _ _ _ _ _ _ _ _ _ _ _ _ _ _ _ _ _ _ _ _ _ _ _ _ _ _ _ _ _ _ _ _ _ _ _ _ _ _ _ _ _ _ _ _ _ _ _ _ _ _ _ _ _ _ _ _ _ _ _ _ _ _ _ _ _ _ _ _ _ _ _ _ _ _ _ _ _ _ _ _ _ _ _ _ _ _ _ _ _ _ _ _ _ _ _ _ _ _ _ _ _ _ _ _ _ _ _ _ _ _ _ _ _ _ _ _ _ _ _ _ _ _ _ _ _ _ _ _ _ _ _ _ _ _ _ _ _ _ _ _ _ _ _ _ _ _ _ _ _ _ _ _ _ _ _ _ _ _ _ _ _ _ _ _ _ _ _ _ _ _ _ _ _ _ _ m w W0 lo w.heap.size _ _ h0 hf ?_)
  intro u21 u22 u23 W1 e1
  subst e1
  refine wp_at sp2 (seg2 _ _ _ _ _ _ _ _ _ _ _ _ _ _ _ _ _ _ _ _ _ _ _ _ _ _ _ _ _ _ _ _ _ _ _ _ _ _ _ _ _ _ _ _ _ _ _ _ _ _ _ _ _ _ _ _ _ _ _ _ _ _ _ _ _ _ _ _ _ _ _ _ _ _ _ _ _ _ _ _ _ _ _ _ _ _ _ _ _ _ _ _ _ _ _ _ _ _ _ _ _ _ _ _ _ _ _ _ _ _ _ _ _ _ _ _ _ _ _ _ _ _ _ _ _ _ _ _ _ _ _ _ _ _ _ _ _ _ _ _ _ _ _ _ _ _ _ _ _ _ _ _ _ _ _ _ _ _ _ _ _ _ _ _ _ _ _ _ _ _ _ _ _ _ _ _ _ _ _ _ _ _ _ _ _ _ _ _ _ _ _ _ _ _ _ _ _ _ _ _ _ _ _ _ _ _ _ _ _ _ _ _ _ _ _ _ _ _ _ _ _ _ _ _ _ _ _ _ _ _ _ _ _ _ _ _ _ _ _ _ _ _ _ _ _ _ _ _ _ _ _ _ _ _ _ _ _ _ _ _ _ _ _ _ _ _ _ _ _ _ _ _ _ _ _ _ _ _ _ _ _ _ _ _ _ _ _ _ _ _ _ _ _ _ _ _ _ _ _ _ _ _ _ irq m w W1 lo w.heap.size _ _ h0 ?_)
  intro u25 u26 u27 u28 u29 u30 W2 h2
  clear h0
  have hmt := hm.told irq hab hl
  rw [told_taken] at hmt
  obtain ⟨m1, hm1⟩ : ∃ m1 : Mach, m1 = { m with wait := m.wait || irq } := ⟨_, rfl⟩
  have hw1 : m1.want = m.want ∧ m1.mem = m.mem := by rw [hm1]; exact ⟨rfl, rfl⟩
  have hR1 : R = (((m1.taken blk).enter).counted).run1 value := by rw [hR, hm1]; simp only [Mach.step, hf, if_true, told_taken]
  rw [← hm1] at h2 hmt
  have st3 : ∀ (K : Act → World → Prop) (Q : Exit → Act → World → Prop), (∀ (u10 u31 u32 u33 u34 u35 u36 u37 u38 u39 u40 u41 u42 u43 u44 u45 u46 u47 u48 u49 u50 u51 u52 u53 u54 u55 u56 u57 : Value) (W' : World), StpI w W' lo w.heap.size (m1.taken blk) → K (⟨#[.agg #[.slice A1 m.regs.length d1, .int .i64 m.pc, .int .i64 m.back, .bool m.ints, .bool m.wait, .int .i64 m.table, .int .i64 m.count, .int .i64 m.fin, .slice A2 m.mem.length d2, .slice A3 m.out.length d3, .int .i64 m.ready, .int .i64 m.want], .bool irq, .slice B blk.length cb, .int .i64 value, .pointer (some ⟨w.heap.size, 0, none⟩), c5, c6, c7, .pointer (some ⟨w.heap.size + 1, 0, none⟩), u9, u10, c11, c12, c13, c14, c15, c16, c17, c18, c19, c20, u21, u22, u23, c24, u25, u26, u27, u28, u29, u30, u31, u32, u33, u34, u35, u36, u37, u38, u39, u40, u41, u42, u43, u44, u45, u46, u47, u48, u49, u50, u51, u52, u53, u54, u55, u56, u57, c58, c59, c60, c61, c62, c63, c64, c65, c66, c67, c68, c69, c70, c71, c72, c73, c74, c75, c76, c77, c78, c79, c80, c81, c82, c83, c84, c85, c86, c87, c88, c89, c90, c91, c92, c93, c94, c95, c96, c97, c98, c99, c100, c101, c102, c103, c104, c105, c106, c107, c108, c109, c110, c111, c112, c113, c114, c115, c116, c117, c118, c119, c120, c121, c122, c123, c124, c125, c126, c127, c128, c129, c130, c131, c132, c133, c134, c135, c136, c137, c138, c139, c140, c141, c142, c143, c144, c145, c146, c147, c148, c149, c150, c151, c152, c153, c154, c155, c156, c157, c158, c159, c160, c161, c162, c163, c164, c165, c166, c167, c168, c169, c170, c171, c172, c173, c174, c175, c176, c177, c178, c179, c180, c181, c182, c183, c184, c185, c186, c187, c188, c189, c190, c191, c192, c193, c194, c195, c196, c197, c198, c199, c200, c201, c202, c203, c204, c205, c206, c207, c208, c209, c210, c211, c212, c213, c214, c215, c216, c217, c218, c219, c220, c221, c222, c223, c224, c225, c226, c227, c228, c229, c230, c231, c232, c233, c234, c235, c236, c237, c238, c239, c240, c241, c242, c243, c244, c245, c246, c247, c248, c249, c250, c251, c252, c253, c254, c255, c256, c257, c258, c259, c260, c261, c262, c263, c264, c265, c266, c267, c268, c269, c270, c271, c272, c273, c274, c275, c276, c277, c278, c279, c280, c281, c282, c283, c284, c285, c286, c287, c288, c289, c290, c291, c292, c293, c294, c295, c296, c297, c298, c299, c300, c301, c302, c303, c304, c305], []⟩ : Act) W') → Code.wp Tryd.prog (stm 3 (Tryd.f37.body.getD .skip)) (Exit.then K Q) (⟨#[.agg #[.slice A1 m.regs.length d1, .int .i64 m.pc, .int .i64 m.back, .bool m.ints, .bool m.wait, .int .i64 m.table, .int .i64 m.count, .int .i64 m.fin, .slice A2 m.mem.length d2, .slice A3 m.out.length d3, .int .i64 m.ready, .int .i64 m.want], .bool irq, .slice B blk.length cb, .int .i64 value, .pointer (some ⟨w.heap.size, 0, none⟩), c5, c6, c7, .pointer (some ⟨w.heap.size + 1, 0, none⟩), u9, c10, c11, c12, c13, c14, c15, c16, c17, c18, c19, c20, u21, u22, u23, c24, u25, u26, u27, u28, u29, u30, c31, c32, c33, c34, c35, c36, c37, c38, c39, c40, c41, c42, c43, c44, c45, c46, c47, c48, c49, c50, c51, c52, c53, c54, c55, c56, c57, c58, c59, c60, c61, c62, c63, c64, c65, c66, c67, c68, c69, c70, c71, c72, c73, c74, c75, c76, c77, c78, c79, c80, c81, c82, c83, c84, c85, c86, c87, c88, c89, c90, c91, c92, c93, c94, c95, c96, c97, c98, c99, c100, c101, c102, c103, c104, c105, c106, c107, c108, c109, c110, c111, c112, c113, c114, c115, c116, c117, c118, c119, c120, c121, c122, c123, c124, c125, c126, c127, c128, c129, c130, c131, c132, c133, c134, c135, c136, c137, c138, c139, c140, c141, c142, c143, c144, c145, c146, c147, c148, c149, c150, c151, c152, c153, c154, c155, c156, c157, c158, c159, c160, c161, c162, c163, c164, c165, c166, c167, c168, c169, c170, c171, c172, c173, c174, c175, c176, c177, c178, c179, c180, c181, c182, c183, c184, c185, c186, c187, c188, c189, c190, c191, c192, c193, c194, c195, c196, c197, c198, c199, c200, c201, c202, c203, c204, c205, c206, c207, c208, c209, c210, c211, c212, c213, c214, c215, c216, c217, c218, c219, c220, c221, c222, c223, c224, c225, c226, c227, c228, c229, c230, c231, c232, c233, c234, c235, c236, c237, c238, c239, c240, c241, c242, c243, c244, c245, c246, c247, c248, c249, c250, c251, c252, c253, c254, c255, c256, c257, c258, c259, c260, c261, c262, c263, c264, c265, c266, c267, c268, c269, c270, c271, c272, c273, c274, c275, c276, c277, c278, c279, c280, c281, c282, c283, c284, c285, c286, c287, c288, c289, c290, c291, c292, c293, c294, c295, c296, c297, c298, c299, c300, c301, c302, c303, c304, c305], []⟩ : Act) W2 := by
    intro K Q hK
    rcases hl with hl | hl
    · exact seg3_none _ _ _ _ _ _ _ _ _ _ _ _ _ _ _ _ _ _ _ _ _ _ _ _ _ _ _ _ _ _ _ _ _ _ _ _ _ _ _ _ _ _ _ _ _ _ _ _ _ _ _ _ _ _ _ _ _ _ _ _ _ _ _ _ _ _ _ _ _ _ _ _ _ _ _ _ _ _ _ _ _ _ _ _ _ _ _ _ _ _ _ _ _ _ _ _ _ _ _ _ _ _ _ _ _ _ _ _ _ _ _ _ _ _ _ _ _ _ _ _ _ _ _ _ _ _ _ _ _ _ _ _ _ _ _ _ _ _ _ _ _ _ _ _ _ _ _ _ _ _ _ _ _ _ _ _ _ _ _ _ _ _ _ _ _ _ _ _ _ _ _ _ _ _ _ _ _ _ _ _ _ _ _ _ _ _ _ _ _ _ _ _ _ _ _ _ _ _ _ _ _ _ _ _ _ _ _ _ _ _ _ _ _ _ _ _ _ _ _ _ _ _ _ _ _ _ _ _ _ _ _ _ _ _ _ _ _ _ _ _ _ _ _ _ _ _ _ _ _ _ _ _ _ _ _ _ _ _ _ _ _ _ _ _ _ _ _ _ _ _ _ _ _ _ _ _ _ _ _ _ _ _ _ _ _ _ _ _ _ _ _ _ _ _ _ _ _ _ _ _ _ _ _ m1 B blk.length cb blk w W2 lo w.heap.size K Q h2 rfl hl hK
    · by_cases hw : m1.want < 0
      · exact seg3_not _ _ _ _ _ _ _ _ _ _ _ _ _ _ _ _ _ _ _ _ _ _ _ _ _ _ _ _ _ _ _ _ _ _ _ _ _ _ _ _ _ _ _ _ _ _ _ _ _ _ _ _ _ _ _ _ _ _ _ _ _ _ _ _ _ _ _ _ _ _ _ _ _ _ _ _ _ _ _ _ _ _ _ _ _ _ _ _ _ _ _ _ _ _ _ _ _ _ _ _ _ _ _ _ _ _ _ _ _ _ _ _ _ _ _ _ _ _ _ _ _ _ _ _ _ _ _ _ _ _ _ _ _ _ _ _ _ _ _ _ _ _ _ _ _ _ _ _ _ _ _ _ _ _ _ _ _ _ _ _ _ _ _ _ _ _ _ _ _ _ _ _ _ _ _ _ _ _ _ _ _ _ _ _ _ _ _ _ _ _ _ _ _ _ _ _ _ _ _ _ _ _ _ _ _ _ _ _ _ _ _ _ _ _ _ _ _ _ _ _ _ _ _ _ _ _ _ _ _ _ _ _ _ _ _ _ _ _ _ _ _ _ _ _ _ _ _ _ _ _ _ _ _ _ _ _ _ _ _ _ _ _ _ _ _ _ _ _ _ _ _ _ _ _ _ _ _ _ _ _ _ _ _ _ _ _ _ _ _ _ _ _ _ _ _ _ _ _ _ _ _ _ _ m1 B blk.length cb blk w W2 lo w.heap.size K Q h2 (by omega) hw hK
      · exact seg3_yes _ _ _ _ _ _ _ _ _ _ _ _ _ _ _ _ _ _ _ _ _ _ _ _ _ _ _ _ _ _ _ _ _ _ _ _ _ _ _ _ _ _ _ _ _ _ _ _ _ _ _ _ _ _ _ _ _ _ _ _ _ _ _ _ _ _ _ _ _ _ _ _ _ _ _ _ _ _ _ _ _ _ _ _ _ _ _ _ _ _ _ _ _ _ _ _ _ _ _ _ _ _ _ _ _ _ _ _ _ _ _ _ _ _ _ _ _ _ _ _ _ _ _ _ _ _ _ _ _ _ _ _ _ _ _ _ _ _ _ _ _ _ _ _ _ _ _ _ _ _ _ _ _ _ _ _ _ _ _ _ _ _ _ _ _ _ _ _ _ _ _ _ _ _ _ _ _ _ _ _ _ _ _ _ _ _ _ _ _ _ _ _ _ _ _ _ _ _ _ _ _ _ _ _ _ _ _ _ _ _ _ _ _ _ _ _ _ _ _ _ _ _ _ _ _ _ _ _ _ _ _ _ _ _ _ _ _ _ _ _ _ _ _ _ _ _ _ _ _ _ _ _ _ _ _ _ _ _ _ _ _ _ _ _ _ _ _ _ _ _ _ _ _ _ _ _ _ _ _ _ _ _ _ _ _ _ _ _ _ _ _ _ _ _ _ _ _ _ _ _ _ _ _ m1 B blk.length cb blk w W2 lo w.heap.size K Q h2 rfl hl (by rw [hw1.2]; exact hm.mem) ⟨by omega, by rw [hw1.1]; exact hm.want.2⟩ hb hK
  refine wp_at sp3 (st3 _ _ ?_)
  intro u10 u31 u32 u33 u34 u35 u36 u37 u38 u39 u40 u41 u42 u43 u44 u45 u46 u47 u48 u49 u50 u51 u52 u53 u54 u55 u56 u57 W3 h3
  clear st3
  refine wp_at sp4 (seg4 _ _ _ _ _ _ _ _ _ _ _ _ _ _ _ _ _ _ _ _ _ _ _ _ _ _ _ _ _ _ _ _ _ _ _ _ _ _ _ _ _ _ _ _ _ _ _ _ _ _ _ _ _ _ _ _ _ _ _ _ _ _ _ _ _ _ _ _ _ _ _ _ _ _ _ _ _ _ _ _ _ _ _ _ _ _ _ _ _ _ _ _ _ _ _ _ _ _ _ _ _ _ _ _ _ _ _ _ _ _ _ _ _ _ _ _ _ _ _ _ _ _ _ _ _ _ _ _ _ _ _ _ _ _ _ _ _ _ _ _ _ _ _ _ _ _ _ _ _ _ _ _ _ _ _ _ _ _ _ _ _ _ _ _ _ _ _ _ _ _ _ _ _ _ _ _ _ _ _ _ _ _ _ _ _ _ _ _ _ _ _ _ _ _ _ _ _ _ _ _ _ _ _ _ _ _ _ _ _ _ _ _ _ _ _ _ _ _ _ _ _ _ _ _ _ _ _ _ _ _ _ _ _ _ _ _ _ _ _ _ _ _ _ _ _ _ _ _ _ _ _ _ _ _ _ _ _ _ _ _ _ _ _ _ _ _ _ _ _ _ _ _ _ _ _ _ _ _ _ _ _ _ _ _ _ _ _ _ _ _ _ _ _ _ _ _ _ _ _ _ _ _ _ _ (m1.taken blk) w W3 lo w.heap.size _ _ h3 ?_)
  intro u58 u59 u60 u61 u62 u63 u64 u65 u66 u67 u68 u69 W4 h4
  have hme := hmt.enter
  have hc4 : (m1.taken blk).enter.count = m.count := by
    have e1 : (m1.taken blk).count = m.count := by unfold Mach.taken; split <;> rw [hm1]
    rw [← e1]
    unfold Mach.enter
    split <;> rfl
  have hf4 : (m1.taken blk).enter.fin = 0 := by
    have e1 : (m1.taken blk).fin = m.fin := by unfold Mach.taken; split <;> rw [hm1]
    rw [← hf, ← e1]
    unfold Mach.enter
    split <;> rfl
  obtain ⟨m4, hm4⟩ : ∃ m4 : Mach, m4 = (m1.taken blk).enter := ⟨_, rfl⟩
  rw [← hm4] at h4 hme hc4 hf4 hR1
  clear h3 h2 hmt hm4
  refine wp_at sp5 (seg5 _ _ _ _ _ _ _ _ _ _ _ _ _ _ _ _ _ _ _ _ _ _ _ _ _ _ _ _ _ _ _ _ _ _ _ _ _ _ _ _ _ _ _ _ _ _ _ _ _ _ _ _ _ _ _ _ _ _ _ _ _ _ _ _ _ _ _ _ _ _ _ _ _ _ _ _ _ _ _ _ _ _ _ _ _ _ _ _ _ _ _ _ _ _ _ _ _ _ _ _ _ _ _ _ _ _ _ _ _ _ _ _ _ _ _ _ _ _ _ _ _ _ _ _ _ _ _ _ _ _ _ _ _ _ _ _ _ _ _ _ _ _ _ _ _ _ _ _ _ _ _ _ _ _ _ _ _ _ _ _ _ _ _ _ _ _ _ _ _ _ _ _ _ _ _ _ _ _ _ _ _ _ _ _ _ _ _ _ _ _ _ _ _ _ _ _ _ _ _ _ _ _ _ _ _ _ _ _ _ _ _ _ _ _ _ _ _ _ _ _ _ _ _ _ _ _ _ _ _ _ _ _ _ _ _ _ _ _ _ _ _ _ _ _ _ _ _ _ _ _ _ _ _ _ _ _ _ _ _ _ _ _ _ _ _ _ _ _ _ _ _ _ _ _ _ _ _ _ _ _ _ _ _ _ _ _ _ _ _ _ _ _ _ _ _ _ _ _ _ _ _ _ _ _ m4 w W4 lo w.heap.size _ _ h4 ⟨by rw [hc4]; exact hm.count.1, by rw [hc4]; exact hct⟩ ?_)
  intro u70 u71 u72 u73 W5 h5
  have hm5 := hme.counted (by rw [hc4]; exact hct)
  have hf5 : m4.counted.fin = 0 := hf4
  obtain ⟨m5, e5⟩ : ∃ m5 : Mach, m5 = m4.counted := ⟨_, rfl⟩
  rw [← e5] at h5 hm5 hf5 hR1
  clear h4 hme hc4 hf4 e5
  refine wp_at sp6 (seg6 _ _ _ _ _ _ _ _ _ _ _ _ _ _ _ _ _ _ _ _ _ _ _ _ _ _ _ _ _ _ _ _ _ _ _ _ _ _ _ _ _ _ _ _ _ _ _ _ _ _ _ _ _ _ _ _ _ _ _ _ _ _ _ _ _ _ _ _ _ _ _ _ _ _ _ _ _ _ _ _ _ _ _ _ _ _ _ _ _ _ _ _ _ _ _ _ _ _ _ _ _ _ _ _ _ _ _ _ _ _ _ _ _ _ _ _ _ _ _ _ _ _ _ _ _ _ _ _ _ _ _ _ _ _ _ _ _ _ _ _ _ _ _ _ _ _ _ _ _ _ _ _ _ _ _ _ _ _ _ _ _ _ _ _ _ _ _ _ _ _ _ _ _ _ _ _ _ _ _ _ _ _ _ _ _ _ _ _ _ _ _ _ _ _ _ _ _ _ _ _ _ _ _ _ _ _ _ _ _ _ _ _ _ _ _ _ _ _ _ _ _ _ _ _ _ _ _ _ _ _ _ _ _ _ _ _ _ _ _ _ _ _ _ _ _ _ _ _ _ _ _ _ _ _ _ _ _ _ _ _ _ _ _ _ _ _ _ _ _ _ _ _ _ _ _ _ _ _ _ _ _ _ _ _ _ _ _ _ _ _ _ _ _ _ _ _ _ _ _ _ _ _ _ _ m5 w W5 lo w.heap.size _ _ h5 hm5 ?_)
  intro u74 u75 u76 u77 u78 ib e o a k n W6 h6 hi he hx
  clear h5
  by_cases hE : ¬ m5.nextE = 0
  · exact wp_at sp7 (seg7r _ _ _ _ _ _ _ _ _ _ _ _ _ _ _ _ _ _ _ _ _ _ _ _ _ _ _ _ _ _ _ _ _ _ _ _ _ _ _ _ _ _ _ _ _ _ _ _ _ _ _ _ _ _ _ _ _ _ _ _ _ _ _ _ _ _ _ _ _ _ _ _ _ _ _ _ _ _ _ _ _ _ _ _ _ _ _ _ _ _ _ _ _ _ _ _ _ _ _ _ _ _ _ _ _ _ _ _ _ _ _ _ _ _ _ _ _ _ _ _ _ _ _ _ _ _ _ _ _ _ _ _ _ _ _ _ _ _ _ _ _ _ _ _ _ _ _ _ _ _ _ _ _ _ _ _ _ _ _ _ _ _ _ _ _ _ _ _ _ _ _ _ _ _ _ _ _ _ _ _ _ _ _ _ _ _ _ _ _ _ _ _ _ _ _ _ _ _ _ _ _ _ _ _ _ _ _ _ _ _ _ _ _ _ _ _ _ _ _ _ _ _ _ _ _ _ _ _ _ _ _ _ _ _ _ _ _ _ _ _ _ _ _ _ _ _ _ _ _ _ _ _ _ _ _ _ _ _ _ _ _ _ _ _ _ _ _ _ _ _ _ _ _ _ _ _ _ _ _ _ _ _ _ _ _ _ _ _ _ _ _ _ _ _ _ _ _ _ _ _ _ _ m5 ib e R w W6 lo w.heap.size _ h6 (by rw [he]; exact hE) (by rw [hR1, he]; simp [Mach.run1, hE]))
  replace hE : m5.nextE = 0 := by omega
  rw [hE] at he
  subst he
  obtain ⟨xo, xa, xk, xn⟩ := hx hE
  have hD : m5.meantE m5.pc false = 0 ∧ decNo m5.nextX = 0 := by
    unfold Mach.nextE at hE
    by_cases c1 : m5.meantE m5.pc false = 0
    · refine ⟨c1, ?_⟩
      by_cases c2 : decNo m5.nextX = 0
      · exact c2
      · rw [if_pos c1, if_neg c2] at hE; cases hE
    · rw [if_neg c1] at hE; exact absurd hE c1
  obtain ⟨b0, b1, b2, b3⟩ := instrNo_bd hD.2
  have b4 : m5.nextX % 16 = 2 ∨ m5.nextX % 16 = 3 → 0 ≤ m5.nextX / 1024 ∧ m5.nextX / 1024 ≤ 7 := fun ho => instrNo_reg hD.2 ho
  have hR2 : R = m5.exec o a k n value := by rw [hR1, xo, xa, xk, xn]; simp [Mach.run1, hE]
  rw [← xo] at b0 b4
  rw [← xa] at b1
  rw [← xk] at b2
  rw [← xn] at b3 b4
  clear xo xa xk xn hx hR1 hE
  refine wp_at sp7 (seg7 _ _ _ _ _ _ _ _ _ _ _ _ _ _ _ _ _ _ _ _ _ _ _ _ _ _ _ _ _ _ _ _ _ _ _ _ _ _ _ _ _ _ _ _ _ _ _ _ _ _ _ _ _ _ _ _ _ _ _ _ _ _ _ _ _ _ _ _ _ _ _ _ _ _ _ _ _ _ _ _ _ _ _ _ _ _ _ _ _ _ _ _ _ _ _ _ _ _ _ _ _ _ _ _ _ _ _ _ _ _ _ _ _ _ _ _ _ _ _ _ _ _ _ _ _ _ _ _ _ _ _ _ _ _ _ _ _ _ _ _ _ _ _ _ _ _ _ _ _ _ _ _ _ _ _ _ _ _ _ _ _ _ _ _ _ _ _ _ _ _ _ _ _ _ _ _ _ _ _ _ _ _ _ _ _ _ _ _ _ _ _ _ _ _ _ _ _ _ _ _ _ _ _ _ _ _ _ _ _ _ _ _ _ _ _ _ _ _ _ _ _ _ _ _ _ _ _ _ _ _ _ _ _ _ _ _ _ _ _ _ _ _ _ _ _ _ _ _ _ _ _ _ _ _ _ _ _ _ _ _ _ _ _ _ _ _ _ _ _ _ _ _ _ _ _ _ _ _ _ _ _ _ _ _ _ _ _ _ _ _ _ _ _ _ _ _ _ _ _ _ _ _ ib W6 w.heap.size _ _ ?_)
  intro u79 u80 W7 e7
  subst e7
  refine wp_at sp8 (seg8 _ _ _ _ _ _ _ _ _ _ _ _ _ _ _ _ _ _ _ _ _ _ _ _ _ _ _ _ _ _ _ _ _ _ _ _ _ _ _ _ _ _ _ _ _ _ _ _ _ _ _ _ _ _ _ _ _ _ _ _ _ _ _ _ _ _ _ _ _ _ _ _ _ _ _ _ _ _ _ _ _ _ _ _ _ _ _ _ _ _ _ _ _ _ _ _ _ _ _ _ _ _ _ _ _ _ _ _ _ _ _ _ _ _ _ _ _ _ _ _ _ _ _ _ _ _ _ _ _ _ _ _ _ _ _ _ _ _ _ _ _ _ _ _ _ _ _ _ _ _ _ _ _ _ _ _ _ _ _ _ _ _ _ _ _ _ _ _ _ _ _ _ _ _ _ _ _ _ _ _ _ _ _ _ _ _ _ _ _ _ _ _ _ _ _ _ _ _ _ _ _ _ _ _ _ _ _ _ _ _ _ _ _ _ _ _ _ _ _ _ _ _ _ _ _ _ _ _ _ _ _ _ _ _ _ _ _ _ _ _ _ _ _ _ _ _ _ _ _ _ _ _ _ _ _ _ _ _ _ _ _ _ _ _ _ _ _ _ _ _ _ _ _ _ _ _ _ _ _ _ _ _ _ _ _ _ _ _ _ _ _ _ _ _ _ _ _ _ _ _ _ _ _ m5 ib w W7 lo w.heap.size _ _ h6 (wordB_iff.1 hm5.pc) ?_)
  intro u84 u85 u86 W8 e8
  subst e8
  refine wp_at sp9 (seg9 _ _ _ _ _ _ _ _ _ _ _ _ _ _ _ _ _ _ _ _ _ _ _ _ _ _ _ _ _ _ _ _ _ _ _ _ _ _ _ _ _ _ _ _ _ _ _ _ _ _ _ _ _ _ _ _ _ _ _ _ _ _ _ _ _ _ _ _ _ _ _ _ _ _ _ _ _ _ _ _ _ _ _ _ _ _ _ _ _ _ _ _ _ _ _ _ _ _ _ _ _ _ _ _ _ _ _ _ _ _ _ _ _ _ _ _ _ _ _ _ _ _ _ _ _ _ _ _ _ _ _ _ _ _ _ _ _ _ _ _ _ _ _ _ _ _ _ _ _ _ _ _ _ _ _ _ _ _ _ _ _ _ _ _ _ _ _ _ _ _ _ _ _ _ _ _ _ _ _ _ _ _ _ _ _ _ _ _ _ _ _ _ _ _ _ _ _ _ _ _ _ _ _ _ _ _ _ _ _ _ _ _ _ _ _ _ _ _ _ _ _ _ _ _ _ _ _ _ _ _ _ _ _ _ _ _ _ _ _ _ _ _ _ _ _ _ _ _ _ _ _ _ _ _ _ _ _ _ _ _ _ _ _ _ _ _ _ _ _ _ _ _ _ _ _ _ _ _ _ _ _ _ _ _ _ _ _ _ _ _ _ _ _ _ _ _ _ _ _ _ _ _ _ ib W8 w.heap.size _ _ ?_)
  intro W9 e9
  subst e9
  refine wp_at sp10 (seg10 _ _ _ _ _ _ _ _ _ _ _ _ _ _ _ _ _ _ _ _ _ _ _ _ _ _ _ _ _ _ _ _ _ _ _ _ _ _ _ _ _ _ _ _ _ _ _ _ _ _ _ _ _ _ _ _ _ _ _ _ _ _ _ _ _ _ _ _ _ _ _ _ _ _ _ _ _ _ _ _ _ _ _ _ _ _ _ _ _ _ _ _ _ _ _ _ _ _ _ _ _ _ _ _ _ _ _ _ _ _ _ _ _ _ _ _ _ _ _ _ _ _ _ _ _ _ _ _ _ _ _ _ _ _ _ _ _ _ _ _ _ _ _ _ _ _ _ _ _ _ _ _ _ _ _ _ _ _ _ _ _ _ _ _ _ _ _ _ _ _ _ _ _ _ _ _ _ _ _ _ _ _ _ _ _ _ _ _ _ _ _ _ _ _ _ _ _ _ _ _ _ _ _ _ _ _ _ _ _ _ _ _ _ _ _ _ _ _ _ _ _ _ _ _ _ _ _ _ _ _ _ _ _ _ _ _ _ _ _ _ _ _ _ _ _ _ _ _ _ _ _ _ _ _ _ _ _ _ _ _ _ _ _ _ _ _ _ _ _ _ _ _ _ _ _ _ _ _ _ _ _ _ _ _ _ _ _ _ _ _ _ _ _ _ _ _ _ _ _ _ _ _ _ m5 ib o a k n w W9 lo w.heap.size _ _ h6 hm5.regs hi b1 ?_)
  intro u87 u88 u89 u90 u91 u92 W10 e10
  subst e10
  refine wp_at sp11 (seg11 _ _ _ _ _ _ _ _ _ _ _ _ _ _ _ _ _ _ _ _ _ _ _ _ _ _ _ _ _ _ _ _ _ _ _ _ _ _ _ _ _ _ _ _ _ _ _ _ _ _ _ _ _ _ _ _ _ _ _ _ _ _ _ _ _ _ _ _ _ _ _ _ _ _ _ _ _ _ _ _ _ _ _ _ _ _ _ _ _ _ _ _ _ _ _ _ _ _ _ _ _ _ _ _ _ _ _ _ _ _ _ _ _ _ _ _ _ _ _ _ _ _ _ _ _ _ _ _ _ _ _ _ _ _ _ _ _ _ _ _ _ _ _ _ _ _ _ _ _ _ _ _ _ _ _ _ _ _ _ _ _ _ _ _ _ _ _ _ _ _ _ _ _ _ _ _ _ _ _ _ _ _ _ _ _ _ _ _ _ _ _ _ _ _ _ _ _ _ _ _ _ _ _ _ _ _ _ _ _ _ _ _ _ _ _ _ _ _ _ _ _ _ _ _ _ _ _ _ _ _ _ _ _ _ _ _ _ _ _ _ _ _ _ _ _ _ _ _ _ _ _ _ _ _ _ _ _ _ _ _ _ _ _ _ _ _ _ _ _ _ _ _ _ _ _ _ _ _ _ _ _ _ _ _ _ _ _ _ _ _ _ _ _ _ _ _ _ _ _ _ _ _ _ m5 ib o a k n w W10 lo w.heap.size _ _ h6 hm5.regs hi b2 ?_)
  intro u93 u94 u95 u96 u97 u98 W11 e11
  subst e11
  refine wp_at sp12 (seg12 _ _ _ _ _ _ _ _ _ _ _ _ _ _ _ _ _ _ _ _ _ _ _ _ _ _ _ _ _ _ _ _ _ _ _ _ _ _ _ _ _ _ _ _ _ _ _ _ _ _ _ _ _ _ _ _ _ _ _ _ _ _ _ _ _ _ _ _ _ _ _ _ _ _ _ _ _ _ _ _ _ _ _ _ _ _ _ _ _ _ _ _ _ _ _ _ _ _ _ _ _ _ _ _ _ _ _ _ _ _ _ _ _ _ _ _ _ _ _ _ _ _ _ _ _ _ _ _ _ _ _ _ _ _ _ _ _ _ _ _ _ _ _ _ _ _ _ _ _ _ _ _ _ _ _ _ _ _ _ _ _ _ _ _ _ _ _ _ _ _ _ _ _ _ _ _ _ _ _ _ _ _ _ _ _ _ _ _ _ _ _ _ _ _ _ _ _ _ _ _ _ _ _ _ _ _ _ _ _ _ _ _ _ _ _ _ _ _ _ _ _ _ _ _ _ _ _ _ _ _ _ _ _ _ _ _ _ _ _ _ _ _ _ _ _ _ _ _ _ _ _ _ _ _ _ _ _ _ _ _ _ _ _ _ _ _ _ _ _ _ _ _ _ _ _ _ _ _ _ _ _ _ _ _ _ _ _ _ _ _ _ _ _ _ _ _ _ _ m5 ib o a k n value R w W11 lo w.heap.size _ _ h6 hm5 hf5 hi b0 b1 b2 b3 b4 hR2 ?_)
  intro u15 u16 u17 u18 u19 u20 u99 u100 u101 u102 u103 u104 u105 u106 u107 u108 u109 u110 u111 u112 u113 u114 u115 u116 u117 u118 u119 u120 u121 u122 u123 u124 u125 u126 u127 u128 u129 u130 u131 u132 u133 u134 u135 u136 u137 u138 u139 u140 u141 u142 u143 u144 u145 u146 u147 u148 u149 u150 u151 u152 u153 u154 u155 u156 u157 u158 u159 u160 u161 u162 u163 u164 u165 u166 u167 u168 u169 u170 u171 u172 u173 u174 u175 u176 u177 u178 u179 u180 u181 u182 u183 u184 u185 u186 u187 u188 u189 u190 u191 u192 u193 u194 u195 u196 u197 u198 u199 u200 u201 u202 u203 u204 u205 u206 u207 u208 u209 u210 u211 u212 u213 u214 u215 u216 u217 u218 u219 u220 u221 u222 u223 u224 u225 u226 u227 u228 u229 u230 u231 u232 u233 u234 u235 u236 u237 u238 u239 u240 u241 u242 u243 u244 u245 u246 u247 u248 u249 u250 u251 u252 u253 u254 u255 u256 u257 u258 u259 u260 u261 u262 u263 u264 u265 u266 u267 u268 u269 u270 u271 u272 u273 u274 u275 u276 u277 u278 u279 u280 u281 u282 u283 u284 u285 u286 u287 u288 u289 u290 u291 u292 u293 u294 u295 u296 u297 M' nx wr W12 h12 hnx hR3
  refine wp_at sp13 (seg13 _ _ _ _ _ _ _ _ _ _ _ _ _ _ _ _ _ _ _ _ _ _ _ _ _ _ _ _ _ _ _ _ _ _ _ _ _ _ _ _ _ _ _ _ _ _ _ _ _ _ _ _ _ _ _ _ _ _ _ _ _ _ _ _ _ _ _ _ _ _ _ _ _ _ _ _ _ _ _ _ _ _ _ _ _ _ _ _ _ _ _ _ _ _ _ _ _ _ _ _ _ _ _ _ _ _ _ _ _ _ _ _ _ _ _ _ _ _ _ _ _ _ _ _ _ _ _ _ _ _ _ _ _ _ _ _ _ _ _ _ _ _ _ _ _ _ _ _ _ _ _ _ _ _ _ _ _ _ _ _ _ _ _ _ _ _ _ _ _ _ _ _ _ _ _ _ _ _ _ _ _ _ _ _ _ _ _ _ _ _ _ _ _ _ _ _ _ _ _ _ _ _ _ _ _ _ _ _ _ _ _ _ _ _ _ _ _ _ _ _ _ _ _ _ _ _ _ _ _ _ _ _ _ _ _ _ _ _ _ _ _ _ _ _ _ _ _ _ _ _ _ _ _ _ _ _ _ _ _ _ _ _ _ _ _ _ _ _ _ _ _ _ _ _ _ _ _ _ _ _ _ _ _ _ _ _ _ _ _ _ _ _ _ _ _ _ _ _ _ _ _ _ _ M' nx w W12 lo w.heap.size _ _ h12 hnx ?_)
  intro u298 u299 u300 u301 u302 u303 W13 h13
  exact seg14 _ _ _ _ _ _ _ _ _ _ _ _ _ _ _ _ _ _ _ _ _ _ _ _ _ _ _ _ _ _ _ _ _ _ _ _ _ _ _ _ _ _ _ _ _ _ _ _ _ _ _ _ _ _ _ _ _ _ _ _ _ _ _ _ _ _ _ _ _ _ _ _ _ _ _ _ _ _ _ _ _ _ _ _ _ _ _ _ _ _ _ _ _ _ _ _ _ _ _ _ _ _ _ _ _ _ _ _ _ _ _ _ _ _ _ _ _ _ _ _ _ _ _ _ _ _ _ _ _ _ _ _ _ _ _ _ _ _ _ _ _ _ _ _ _ _ _ _ _ _ _ _ _ _ _ _ _ _ _ _ _ _ _ _ _ _ _ _ _ _ _ _ _ _ _ _ _ _ _ _ _ _ _ _ _ _ _ _ _ _ _ _ _ _ _ _ _ _ _ _ _ _ _ _ _ _ _ _ _ _ _ _ _ _ _ _ _ _ _ _ _ _ _ _ _ _ _ _ _ _ _ _ _ _ _ _ _ _ _ _ _ _ _ _ _ _ _ _ _ _ _ _ _ _ _ _ _ _ _ _ _ _ _ _ _ _ _ _ _ _ _ _ _ _ _ _ _ _ _ _ _ _ _ _ _ _ _ _ _ _ _ _ _ _ _ _ _ _ _ _ _ _ _ _ wr R w W13 lo w.heap.size h13 hR3

set_option maxRecDepth 100000 in
set_option maxHeartbeats 4000000 in
theorem stepped_kept (m : Mach) (rv mv ov : Value) (irq : Bool) (B : Option Addr) (cb : Nat) (blk : List Int) (value : Int) (w : World) (lo : Nat)
    (ho : OwnM w lo rv mv ov m) (hm : MayP m) (hlo : lo ≤ w.heap.size) (hb : IntsOld lo w (.slice B blk.length cb) blk) (hl : blk.length = 0 ∨ blk.length = 16) (hab : allB blk = true) (hct : m.count < 1099511627776) :
    Calls Tryd.prog 37 #[.agg (m.cells rv mv ov), .bool irq, .slice B blk.length cb, .int .i64 value] w fun e w' => ∃ rv' mv' ov', e = .returned (.tuple #[.agg ((m.step irq blk value).1.cells rv' mv' ov'), .int .i64 (m.step irq blk value).2]) ∧ OwnM w' lo rv' mv' ov' (m.step irq blk value).1 ∧ Below lo w w' ∧ KeptM w w' := by
  obtain ⟨A1, d1, A2, d2, A3, d3, e1, e2, e3⟩ := ho.shape
  subst e1 e2 e3
  obtain ⟨R, hR⟩ : ∃ R, R = m.step irq blk value := ⟨_, rfl⟩
  rw [← hR]
  go_enter Tryd.func37, Tryd.ntmps37
  exact spBody_wp _ _ _ _ _ _ _ _ _ _ _ _ _ _ _ _ _ _ _ _ _ _ _ _ _ _ _ _ _ _ _ _ _ _ _ _ _ _ _ _ _ _ _ _ _ _ _ _ _ _ _ _ _ _ _ _ _ _ _ _ _ _ _ _ _ _ _ _ _ _ _ _ _ _ _ _ _ _ _ _ _ _ _ _ _ _ _ _ _ _ _ _ _ _ _ _ _ _ _ _ _ _ _ _ _ _ _ _ _ _ _ _ _ _ _ _ _ _ _ _ _ _ _ _ _ _ _ _ _ _ _ _ _ _ _ _ _ _ _ _ _ _ _ _ _ _ _ _ _ _ _ _ _ _ _ _ _ _ _ _ _ _ _ _ _ _ _ _ _ _ _ _ _ _ _ _ _ _ _ _ _ _ _ _ _ _ _ _ _ _ _ _ _ _ _ _ _ _ _ _ _ _ _ _ _ _ _ _ _ _ _ _ _ _ _ _ _ _ _ _ _ _ _ _ _ _ _ _ _ _ _ _ _ _ _ _ _ _ _ _ _ _ _ _ _ _ _ _ _ _ _ _ _ _ _ _ _ _ _ _ _ _ _ _ _ _ _ _ _ _ _ _ _ _ _ _ _ _ _ _ _ _ _ _ _ _ _ _ _ _ _ _ _ _ _ _ _ _ _ _ _ _ m A1 A2 A3 d1 d2 d3 irq B cb blk value R w lo ho hm hlo hb hl hab hct hR

theorem stepped_any (m : Mach) (rv mv ov : Value) (irq : Bool) (B : Option Addr) (cb : Nat) (blk : List Int) (value : Int) (w : World) (lo : Nat)
    (ho : OwnM w lo rv mv ov m) (hm : MayP m) (hlo : lo ≤ w.heap.size) (hb : IntsOld lo w (.slice B blk.length cb) blk) (hl : blk.length = 0 ∨ blk.length = 16) (hab : allB blk = true) (hct : m.count < 1099511627776) :
    Calls Tryd.prog 37 #[.agg (m.cells rv mv ov), .bool irq, .slice B blk.length cb, .int .i64 value] w fun e w' => ∃ rv' mv' ov', e = .returned (.tuple #[.agg ((m.step irq blk value).1.cells rv' mv' ov'), .int .i64 (m.step irq blk value).2]) ∧ OwnM w' lo rv' mv' ov' (m.step irq blk value).1 ∧ Below lo w w' :=
  (stepped_kept m rv mv ov irq B cb blk value w lo ho hm hlo hb hl hab hct).mono fun _ _ ⟨rv', mv', ov', h1, h2, h3, _⟩ => ⟨rv', mv', ov', h1, h2, h3⟩

end Go.Proofs.YtlcdefpdahjjeagDoor

/- Contract of the document's onward. -/

namespace Go.Proofs.YtlcdefpdahjjeagDoor
open Go.RowKit
set_option maxRecDepth 100000

/-- Events whose memory lies below lo. -/
structure EvsOld (lo : Nat) (w : World) (v : Value) (L : List Ev) : Prop where
  shape : ∃ A c, v = .slice A L.length c
  bound : L.length * 40 ≤ 140737488351232
  each : ∀ A c, v = .slice A L.length c → 0 < L.length → ∃ b off, A = some ⟨b, off, none⟩ ∧ b < lo ∧ ∀ j, j < L.length → w.cell? ⟨b, off + j * 3, none⟩ = some (.int .i64 (L.getD j noEv).at_) ∧ w.cell? ⟨b, off + j * 3 + 1, none⟩ = some (.int .i64 (L.getD j noEv).kind) ∧ ∃ u, w.cell? ⟨b, off + j * 3 + 2, none⟩ = some u ∧ IntsOld lo w u (L.getD j noEv).data
theorem EvsOld.below {lo : Nat} {w w' : World} {v : Value} {L : List Ev} (h : EvsOld lo w v L) (hb : Below lo w w') : EvsOld lo w' v L := by
  refine ⟨h.shape, h.bound, fun A c e h0 => ?_⟩
  obtain ⟨b, off, rfl, hlt, hj⟩ := h.each A c e h0
  refine ⟨b, off, rfl, hlt, fun j hjl => ?_⟩
  obtain ⟨h1, h2, u, h3, h4⟩ := hj j hjl
  exact ⟨(hb.cell (p := ⟨b, off + j * 3, none⟩) hlt).trans h1, (hb.cell (p := ⟨b, off + j * 3 + 1, none⟩) hlt).trans h2, u, (hb.cell (p := ⟨b, off + j * 3 + 2, none⟩) hlt).trans h3, h4.below hb⟩
theorem IntsAt.oldT {w : World} {v : Value} {l : List Int} (h : IntsAt w v l) : IntsOld w.heap.size w v l := by
  obtain ⟨A, c, rfl, hl, hc⟩ := h
  refine ⟨A, c, rfl, hl, fun h0 => ?_⟩
  obtain ⟨b, off, rfl, hb, hj⟩ := hc h0
  exact ⟨b, off, rfl, hb, hj⟩
theorem EvsAt.old {w : World} {v : Value} {L : List Ev} (h : EvsAt w v L) : EvsOld w.heap.size w v L := by
  obtain ⟨A, c, rfl, hl, hc⟩ := h
  refine ⟨⟨A, c, rfl⟩, hl, fun A' c' e h0 => ?_⟩
  simp only [Value.slice.injEq, true_and] at e
  obtain ⟨rfl, rfl⟩ := e
  obtain ⟨b, off, rfl, hb, hj⟩ := hc h0
  refine ⟨b, off, rfl, hb, fun j hjl => ?_⟩
  obtain ⟨h1, h2, u, h3, h4⟩ := hj j hjl
  exact ⟨h1, h2, u, h3, h4.oldT⟩

set_option maxHeartbeats 4000000 in
theorem onward_any (m : Mach) (rv mv ov : Value) (A : Option Addr) (c : Nat) (L : List Ev) (k : Int) (w : World) (lo : Nat) (ho : OwnM w lo rv mv ov m) (hm : MayP m) (hlo : lo ≤ w.heap.size) (he : EvsOld lo w (.slice A L.length c) L) (hs : chkNo L = 0) (hct : m.count < 1099511627776) :
    Calls Tryd.prog 45 #[.agg (m.cells rv mv ov), .slice A L.length c, .int .i64 k] w fun e w' => ∃ rv' mv' ov', e = .returned (.tuple #[.agg ((m.step (toldL k L).irq (toldL k L).blk (toldL k L).val).1.cells rv' mv' ov'), .int .i64 (m.step (toldL k L).irq (toldL k L).blk (toldL k L).val).2]) ∧ OwnM w' lo rv' mv' ov' (m.step (toldL k L).irq (toldL k L).blk (toldL k L).val).1 ∧ Below lo w w' ∧ KeptM w w' := by
  obtain ⟨b0, b1, b2⟩ := two_boxes (Below.refl (((w.alloc (.cells (m.cells rv mv ov) 30)).alloc (.cells zeroM 30)).heap.size) ((w.alloc (.cells (m.cells rv mv ov) 30)).alloc (.cells zeroM 30)))
  obtain ⟨W, hW⟩ : ∃ W, W = (w.alloc (.cells (m.cells rv mv ov) 30)).alloc (.cells zeroM 30) := ⟨_, rfl⟩
  rw [← hW] at b0 b1 b2
  have HW : Hid (W = (w.alloc (.cells (m.cells rv mv ov) 30)).alloc (.cells zeroM 30)) := hW
  have HX : Hid (W.heap[w.heap.size + 1]? = some (.cells zeroM 30 (0, 0)) ∧ Below w.heap.size w W) := ⟨b1, b2⟩
  have HE : Hid (EvsOld lo W (.slice A L.length c) L ∧ chkNo L = 0 ∧ OwnM W lo rv mv ov m ∧ MayP m ∧ lo ≤ w.heap.size ∧ m.count < 1099511627776) := ⟨he.below (b2.mono hlo), hs, ho.below b2, hm, hlo, hct⟩
  obtain ⟨A1, c1, A2, c2, A3, c3, rfl, rfl, rfl⟩ := ho.shape
  obtain ⟨⟨z0, z1, z2, z3, z4, z5, z6, z7, z8, z9, z10, z11⟩, zf, zl⟩ := twelve_cells b0
  have hbd := he.bound
  obtain ⟨R, hR0⟩ : ∃ R, R = m.step (toldL k L).irq (toldL k L).blk (toldL k L).val := ⟨_, rfl⟩
  rw [← hR0]
  have HR0 : Hid (R = m.step (toldL k L).irq (toldL k L).blk (toldL k L).val) := hR0
  clear hR0
  clear b0 b1 b2 hW ho hm hlo he hs hct
  simp only [Mach.cells] at HW
  go_enter Tryd.func45, Tryd.ntmps45
  simp only [Mach.cells]
  go_wp2_with fail
  rw [← HW.out]
  go_loopw [8, 9, 10, 11] (fun q v x i wr => ∃ (n : Nat) (B : Option Addr) (cb : Nat), n ≤ L.length ∧ q = .bool (toldL k (L.take n)).irq ∧ v = .slice B (toldL k (L.take n)).blk.length cb ∧ x = .int .i64 (toldL k (L.take n)).val ∧ i = .int .i64 (n : Int) ∧ Hid (IntsOld lo W (.slice B (toldL k (L.take n)).blk.length cb) (toldL k (L.take n)).blk) ∧ wr = W) (fun _ _ _ i _ => L.length - (intOf i).toNat)
  case atStart => exact ⟨0, none, 0, Nat.zero_le _, rfl, rfl, rfl, rfl, ⟨none, 0, rfl, by simp [toldL, noTl], fun h => by simp [toldL, noTl] at h⟩, rfl⟩
  case round =>
    obtain ⟨n, B, cb, hn, rfl, rfl, rfl, rfl, HI, hw⟩ := hrel
    subst hw
    obtain ⟨T, hT⟩ : ∃ T, T = toldL k (L.take n) := ⟨_, rfl⟩
    rw [← hT] at HI ⊢
    have HTT : Hid (T = toldL k (L.take n)) := hT
    clear hT
    by_cases hl : n < L.length
    · have hl1 : (n : Int) < (L.length : Int) := by omega
      have hw2 : IntKind.i64.wrap ((n : Int) + 1) = (n : Int) + 1 := IntWalk.i64_in _ (by omega)
      obtain ⟨b, off, rfl, hb, hc⟩ := HE.out.1.each A c rfl (by omega)
      obtain ⟨g0, g1, v, g2, hv⟩ := hc n hl
      obtain ⟨X, hX⟩ : ∃ X, X = L.getD n noEv := ⟨_, rfl⟩
      rw [← hX] at g0 g1 hv
      have HX2 : Hid (X = L.getD n noEv ∧ n < L.length) := ⟨hX, hl⟩
      have HV : Hid (IntsOld lo wr v X.data) := hv
      have HEO : Hid (evNo X = 0) := by show _ = _; rw [hX]; exact verdict_ev (chk_verdict HE.out.2.1 _ hl)
      obtain ⟨Av, cv, rfl, -, -⟩ := hv
      have gl : b < wr.heap.size := by have := HE.out.2.2.2.2.1; have := HX.out.2.size; omega
      obtain ⟨xa, hxa⟩ : ∃ xa, xa = X.at_ := ⟨_, rfl⟩
      obtain ⟨xk, hxk⟩ : ∃ xk, xk = X.kind := ⟨_, rfl⟩
      obtain ⟨xn, hxn⟩ : ∃ xn, xn = X.data.length := ⟨_, rfl⟩
      rw [← hxa] at g0
      rw [← hxk] at g1
      rw [← hxn] at g2 HV
      have HXX : Hid (xa = X.at_ ∧ xk = X.kind ∧ xn = X.data.length) := ⟨hxa, hxk, hxn⟩
      have HTN : Hid (toldL k (L.take (n + 1)) = tellE k T X) := by show _ = _; rw [toldL_take k L n hl, ← hX, ← HTT.out]
      clear hX hxa hxk hxn hl hc hb
      by_cases ha : xa = k
      case neg =>
        have d0 : (xa != k) = true := by simpa using ha
        have HTE : Hid (tellE k T X = T) := by show _ = _; rw [tellE, if_neg (by rw [← HXX.out.1]; exact ha)]
        clear ha
        go_wp2_with fail
        refine ⟨⟨n + 1, B, cb, by have := HX2.out.2; omega, ?_, ?_, ?_, by go_num, ?_, trivial⟩, ?_⟩
        · rw [HTN.out, HTE.out]
        · rw [HTN.out, HTE.out]
        · rw [HTN.out, HTE.out]
        · rw [HTN.out, HTE.out]; exact HI
        · have := HX2.out.2; simp [intOf]; omega
      case pos =>
        have d0 : (xa != k) = false := by simp [ha]
        have HAT : Hid (X.at_ = k) := by show _ = _; rw [← HXX.out.1]; exact ha
        clear ha
        by_cases k1 : xk = 1
        · have c1 : (xk == 1) = true := by simp [k1]
          have HTE : Hid (tellE k T X = { T with irq := true }) := by show _ = _; rw [tellE, if_pos HAT.out, if_pos (by rw [← HXX.out.2.1]; exact k1)]
          clear k1
          go_wp2_with fail
          refine ⟨⟨n + 1, B, cb, by have := HX2.out.2; omega, ?_, ?_, ?_, by go_num, ?_, trivial⟩, ?_⟩
          · rw [HTN.out, HTE.out]
          · rw [HTN.out, HTE.out]
          · rw [HTN.out, HTE.out]
          · rw [HTN.out, HTE.out]; exact HI
          · have := HX2.out.2; simp [intOf]; omega
        · have c1 : (xk == 1) = false := by simpa using k1
          by_cases k2 : xk = 2
          · have c2 : (xk == 2) = true := by simp [k2]
            have HTE : Hid (tellE k T X = { T with blk := X.data }) := by show _ = _; rw [tellE, if_pos HAT.out, if_neg (by rw [← HXX.out.2.1]; exact k1), if_pos (by rw [← HXX.out.2.1]; exact k2)]
            clear k1 k2
            go_wp2_with fail
            refine ⟨⟨n + 1, Av, cv, by have := HX2.out.2; omega, ?_, ?_, ?_, by go_num, ?_, trivial⟩, ?_⟩
            · rw [HTN.out, HTE.out]
            · rw [HTN.out, HTE.out, HXX.out.2.2]
            · rw [HTN.out, HTE.out]
            · rw [HTN.out, HTE.out]; have := HV.out; rw [HXX.out.2.2] at this; exact this
            · have := HX2.out.2; simp [intOf]; omega
          · have c2 : (xk == 2) = false := by simpa using k2
            have hb3 := (evNo_bd HEO.out)
            have k3 : xk = 3 := by have := hb3.1; rw [← HXX.out.2.1] at this; omega
            have hlen : xn = 1 := by
              have h4 := hb3.2.2.2
              rw [← HXX.out.2.1, ← HXX.out.2.2, k3] at h4
              have h5 : (xn : Int) = 1 := h4
              omega
            subst hlen
            have HTE : Hid (tellE k T X = { T with val := X.data.getD 0 0 }) := by show _ = _; rw [tellE, if_pos HAT.out, if_neg (by rw [← HXX.out.2.1]; exact k1), if_neg (by rw [← HXX.out.2.1]; exact k2)]
            have hd1 : X.data.length = 1 := HXX.out.2.2.symm
            obtain ⟨Aw, cw, ew, -, hcw⟩ := HV.out
            rw [hd1] at ew hcw
            simp only [Value.slice.injEq, true_and] at ew
            obtain ⟨rfl, rfl⟩ := ew
            obtain ⟨bd, od, rfl, hbd2, hcd⟩ := hcw (by omega)
            have g3 := hcd 0 (by omega)
            rw [Nat.add_zero] at g3
            have gl3 : bd < wr.heap.size := by have := HE.out.2.2.2.2.1; have := HX.out.2.size; omega
            obtain ⟨y, hy⟩ : ∃ y, y = X.data.getD 0 0 := ⟨_, rfl⟩
            rw [← hy] at g3
            have HY : Hid (y = X.data.getD 0 0) := hy
            clear hb3 k1 k2 k3 hcd hcw hy hd1
            go_wp2_with fail
            refine ⟨⟨n + 1, B, cb, by have := HX2.out.2; omega, ?_, ?_, ?_, by go_num, ?_, trivial⟩, ?_⟩
            · rw [HTN.out, HTE.out]
            · rw [HTN.out, HTE.out]
            · rw [HTN.out, HTE.out, HY.out]
            · rw [HTN.out, HTE.out]; exact HI
            · have := HX2.out.2; simp [intOf]; omega
    · have hl1 : ¬ (n : Int) < (L.length : Int) := by omega
      have HTE : Hid (toldL k L = T) := by show _ = _; rw [HTT.out, List.take_of_length_le (by omega)]
      have HTM : Hid (TlMay T) := by
        have := toldL_may HE.out.2.1 k
        rw [HTE.out] at this
        exact this
      have hst := stepped_kept m (.slice A1 m.regs.length c1) (.slice A2 m.mem.length c2) (.slice A3 m.out.length c3) T.irq B cb T.blk T.val wr lo HE.out.2.2.1 HE.out.2.2.2.1 (by have := HE.out.2.2.2.2.1; have := HX.out.2.size; omega) HI.out HTM.out.len HTM.out.all HE.out.2.2.2.2.2
      have hR : R = m.step T.irq T.blk T.val := by rw [HR0.out, HTE.out]
      rw [← hR] at hst
      have HST : Hid (Calls Tryd.prog 37 #[.agg (m.cells (.slice A1 m.regs.length c1) (.slice A2 m.mem.length c2) (.slice A3 m.out.length c3)), .bool T.irq, .slice B T.blk.length cb, .int .i64 T.val] wr fun e w' => ∃ rv' mv' ov', e = .returned (.tuple #[.agg (R.1.cells rv' mv' ov'), .int .i64 R.2]) ∧ OwnM w' lo rv' mv' ov' R.1 ∧ Below lo wr w' ∧ KeptM wr w') := hst
      simp only [Mach.cells] at HST
      clear hst hR hl
      go_wp2_with fail
      refine HST.out.mono ?_
      rintro e w4 ⟨rv', mv', ov', rfl, ho4, hb4, hk4⟩
      obtain ⟨D1, d1, D2, d2, D3, d3, rfl, rfl, rfl⟩ := ho4.shape
      have hr4 := hk4 _ _ HX.out.1
      have HO4 : Hid (OwnM w4 lo (.slice D1 R.1.regs.length d1) (.slice D2 R.1.mem.length d2) (.slice D3 R.1.out.length d3) R.1 ∧ IsBox w4 (w.heap.size + 1) ∧ Below lo w w4 ∧ lo ≤ w.heap.size) := ⟨ho4, ⟨_, hr4⟩, (HX.out.2.mono HE.out.2.2.2.2.1).trans hb4, HE.out.2.2.2.2.1⟩
      have HK4 : Hid (KeptM w w4) := fun g cur hg => hk4 g cur (by rw [HX.out.2.block g (lt_of_block hg)]; exact hg)
      obtain ⟨⟨y0, y1, y2, y3, y4, y5, y6, y7, y8, y9, y10, y11⟩, yf, yl⟩ := twelve_cells hr4
      clear z0 z1 z2 z3 z4 z5 z6 z7 z8 z9 z10 z11 zf zl hr4 ho4 hb4 hk4 HST
      simp only
      go_wp2_with fail
      refine bodyPost_ret (v := .tuple #[.agg #[.slice D1 R.1.regs.length d1, .int .i64 R.1.pc, .int .i64 R.1.back, .bool R.1.ints, .bool R.1.wait, .int .i64 R.1.table, .int .i64 R.1.count, .int .i64 R.1.fin, .slice D2 R.1.mem.length d2, .slice D3 R.1.out.length d3, .int .i64 R.1.ready, .int .i64 R.1.want], .int .i64 R.2]) (by simp [results, Tryd.results45, go_sem, y0, y1, y2, y3, y4, y5, y6, y7, y8, y9, y10, y11]) rfl ?_
      exact ⟨_, _, _, rfl, HO4.out.1.set12 HO4.out.2.1 _ _ _ _ _ _ _ _ _ _ _ _, below_set12 HO4.out.2.2.1 (by have := HO4.out.2.2.2; omega) _ _ _ _ _ _ _ _ _ _ _ _, keptM_set12 HK4.out (by omega) _ _ _ _ _ _ _ _ _ _ _ _⟩

end Go.Proofs.YtlcdefpdahjjeagDoor
