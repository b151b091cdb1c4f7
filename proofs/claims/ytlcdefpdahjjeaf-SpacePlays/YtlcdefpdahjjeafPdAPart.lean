/- The document's PlayedOf: what it makes first. (Written by tools/gen_pd.py.) -/
import Derived.Test.YtlcdefpdahjjeafRowV
import Derived.Test.YtlcdefpdahjjeafPlJ
import Derived.Test.YtlcdefpdahjjeafSeg
import Derived.Test.YtlcdefpdahjjeafWords
import Derived.Deep.DeepCutAuto
namespace Go.Proofs.Ytlcdefpdahjjeaf
open Go.RowKit

theorem infoBool : (Try.prog.info? 4).map (fun i => (i.zero, i.size, i.bytes)) = some (some (.bool false), 1, 1) := by kernel_rfl

set_option maxRecDepth 100000 in
set_option maxHeartbeats 4000000 in
theorem pd0 (c0 c1 c2 c3 c4 c5 c6 c7 c8 c9 c10 c11 c12 c13 c14 c15 c16 c17 c18 c19 c20 c21 c22 c23 c24 c25 c26 c27 c28 c29 c30 c31 c32 c33 c34 c35 c36 c37 c38 c39 c40 c41 c42 c43 c44 c45 c46 c47 c48 c49 c50 c51 c52 c53 c54 c55 c56 c57 c58 c59 c60 c61 c62 c63 c64 c65 c66 c67 c68 c69 c70 c71 c72 c73 c74 c75 c76 c77 c78 c79 c80 c81 c82 c83 c84 c85 c86 c87 c88 c89 c90 c91 c92 c93 c94 c95 c96 c97 c98 c99 c100 c101 c102 c103 c104 c105 c106 c107 c108 c109 c110 c111 c112 c113 c114 c115 c116 c117 c118 c119 c120 c121 c122 c123 c124 c125 c126 c127 c128 c129 c130 c131 c132 c133 c134 c135 c136 c137 c138 c139 c140 c141 c142 c143 c144 c145 c146 c147 c148 c149 c150 c151 c152 c153 c154 c155 c156 c157 c158 c159 c160 c161 c162 : Value)  (W : World) (K : Act → World → Prop) (Rr : Ending → World → Prop)
    
    (hK : ∀ (u6 u7 u8 u9 : Value) (W' : World), W' = W → K ⟨#[c0, c1, c2, c3, c4, c5, u6, u7, u8, u9, c10, c11, c12, c13, c14, c15, c16, c17, c18, c19, c20, c21, c22, c23, c24, c25, c26, c27, c28, c29, c30, c31, c32, c33, c34, c35, c36, c37, c38, c39, c40, c41, c42, c43, c44, c45, c46, c47, c48, c49, c50, c51, c52, c53, c54, c55, c56, c57, c58, c59, c60, c61, c62, c63, c64, c65, c66, c67, c68, c69, c70, c71, c72, c73, c74, c75, c76, c77, c78, c79, c80, c81, c82, c83, c84, c85, c86, c87, c88, c89, c90, c91, c92, c93, c94, c95, c96, c97, c98, c99, c100, c101, c102, c103, c104, c105, c106, c107, c108, c109, c110, c111, c112, c113, c114, c115, c116, c117, c118, c119, c120, c121, c122, c123, c124, c125, c126, c127, c128, c129, c130, c131, c132, c133, c134, c135, c136, c137, c138, c139, c140, c141, c142, c143, c144, c145, c146, c147, c148, c149, c150, c151, c152, c153, c154, c155, c156, c157, c158, c159, c160, c161, c162], []⟩ W') :
    Code.wp Try.prog (stm 0 (Try.f7.body.getD .skip)) (Exit.then K (bodyPost Try.prog Try.f7 Rr)) ⟨#[c0, c1, c2, c3, c4, c5, c6, c7, c8, c9, c10, c11, c12, c13, c14, c15, c16, c17, c18, c19, c20, c21, c22, c23, c24, c25, c26, c27, c28, c29, c30, c31, c32, c33, c34, c35, c36, c37, c38, c39, c40, c41, c42, c43, c44, c45, c46, c47, c48, c49, c50, c51, c52, c53, c54, c55, c56, c57, c58, c59, c60, c61, c62, c63, c64, c65, c66, c67, c68, c69, c70, c71, c72, c73, c74, c75, c76, c77, c78, c79, c80, c81, c82, c83, c84, c85, c86, c87, c88, c89, c90, c91, c92, c93, c94, c95, c96, c97, c98, c99, c100, c101, c102, c103, c104, c105, c106, c107, c108, c109, c110, c111, c112, c113, c114, c115, c116, c117, c118, c119, c120, c121, c122, c123, c124, c125, c126, c127, c128, c129, c130, c131, c132, c133, c134, c135, c136, c137, c138, c139, c140, c141, c142, c143, c144, c145, c146, c147, c148, c149, c150, c151, c152, c153, c154, c155, c156, c157, c158, c159, c160, c161, c162], []⟩ W := by
  have HK : Hid (∀ (u6 u7 u8 u9 : Value) (W' : World), W' = W → K ⟨#[c0, c1, c2, c3, c4, c5, u6, u7, u8, u9, c10, c11, c12, c13, c14, c15, c16, c17, c18, c19, c20, c21, c22, c23, c24, c25, c26, c27, c28, c29, c30, c31, c32, c33, c34, c35, c36, c37, c38, c39, c40, c41, c42, c43, c44, c45, c46, c47, c48, c49, c50, c51, c52, c53, c54, c55, c56, c57, c58, c59, c60, c61, c62, c63, c64, c65, c66, c67, c68, c69, c70, c71, c72, c73, c74, c75, c76, c77, c78, c79, c80, c81, c82, c83, c84, c85, c86, c87, c88, c89, c90, c91, c92, c93, c94, c95, c96, c97, c98, c99, c100, c101, c102, c103, c104, c105, c106, c107, c108, c109, c110, c111, c112, c113, c114, c115, c116, c117, c118, c119, c120, c121, c122, c123, c124, c125, c126, c127, c128, c129, c130, c131, c132, c133, c134, c135, c136, c137, c138, c139, c140, c141, c142, c143, c144, c145, c146, c147, c148, c149, c150, c151, c152, c153, c154, c155, c156, c157, c158, c159, c160, c161, c162], []⟩ W') := hK
  clear hK
  conv => arg 2; whnf
  go_wp2_with fail
  exact HK.out _ _ _ _ _ rfl


set_option maxRecDepth 100000 in
set_option maxHeartbeats 4000000 in
theorem pd1 (c1 c2 c3 c4 c5 c6 c7 c8 c9 c10 c11 c12 c13 c14 c15 c16 c17 c18 c19 c20 c21 c22 c23 c24 c25 c26 c27 c28 c29 c30 c31 c32 c33 c34 c35 c36 c37 c38 c39 c40 c41 c42 c43 c44 c45 c46 c47 c48 c49 c50 c51 c52 c53 c54 c55 c56 c57 c58 c59 c60 c61 c62 c63 c64 c65 c66 c67 c68 c69 c70 c71 c72 c73 c74 c75 c76 c77 c78 c79 c80 c81 c82 c83 c84 c85 c86 c87 c88 c89 c90 c91 c92 c93 c94 c95 c96 c97 c98 c99 c100 c101 c102 c103 c104 c105 c106 c107 c108 c109 c110 c111 c112 c113 c114 c115 c116 c117 c118 c119 c120 c121 c122 c123 c124 c125 c126 c127 c128 c129 c130 c131 c132 c133 c134 c135 c136 c137 c138 c139 c140 c141 c142 c143 c144 c145 c146 c147 c148 c149 c150 c151 c152 c153 c154 c155 c156 c157 c158 c159 c160 c161 c162 : Value) (n : Int) (W : World) (K : Act → World → Prop) (Rr : Ending → World → Prop)
    (hn : 0 ≤ n ∧ n ≤ 200)
    (hK : ∀ (u23 u24 u25 : Value) (W' : World), W' = W → K ⟨#[.int .i64 n, c1, c2, c3, c4, c5, c6, c7, c8, c9, c10, c11, c12, c13, c14, c15, c16, c17, c18, c19, c20, c21, c22, u23, u24, u25, c26, c27, c28, c29, c30, c31, c32, c33, c34, c35, c36, c37, c38, c39, c40, c41, c42, c43, c44, c45, c46, c47, c48, c49, c50, c51, c52, c53, c54, c55, c56, c57, c58, c59, c60, c61, c62, c63, c64, c65, c66, c67, c68, c69, c70, c71, c72, c73, c74, c75, c76, c77, c78, c79, c80, c81, c82, c83, c84, c85, c86, c87, c88, c89, c90, c91, c92, c93, c94, c95, c96, c97, c98, c99, c100, c101, c102, c103, c104, c105, c106, c107, c108, c109, c110, c111, c112, c113, c114, c115, c116, c117, c118, c119, c120, c121, c122, c123, c124, c125, c126, c127, c128, c129, c130, c131, c132, c133, c134, c135, c136, c137, c138, c139, c140, c141, c142, c143, c144, c145, c146, c147, c148, c149, c150, c151, c152, c153, c154, c155, c156, c157, c158, c159, c160, c161, c162], []⟩ W') :
    Code.wp Try.prog (stm 1 (Try.f7.body.getD .skip)) (Exit.then K (bodyPost Try.prog Try.f7 Rr)) ⟨#[.int .i64 n, c1, c2, c3, c4, c5, c6, c7, c8, c9, c10, c11, c12, c13, c14, c15, c16, c17, c18, c19, c20, c21, c22, c23, c24, c25, c26, c27, c28, c29, c30, c31, c32, c33, c34, c35, c36, c37, c38, c39, c40, c41, c42, c43, c44, c45, c46, c47, c48, c49, c50, c51, c52, c53, c54, c55, c56, c57, c58, c59, c60, c61, c62, c63, c64, c65, c66, c67, c68, c69, c70, c71, c72, c73, c74, c75, c76, c77, c78, c79, c80, c81, c82, c83, c84, c85, c86, c87, c88, c89, c90, c91, c92, c93, c94, c95, c96, c97, c98, c99, c100, c101, c102, c103, c104, c105, c106, c107, c108, c109, c110, c111, c112, c113, c114, c115, c116, c117, c118, c119, c120, c121, c122, c123, c124, c125, c126, c127, c128, c129, c130, c131, c132, c133, c134, c135, c136, c137, c138, c139, c140, c141, c142, c143, c144, c145, c146, c147, c148, c149, c150, c151, c152, c153, c154, c155, c156, c157, c158, c159, c160, c161, c162], []⟩ W := by
  have HK : Hid (∀ (u23 u24 u25 : Value) (W' : World), W' = W → K ⟨#[.int .i64 n, c1, c2, c3, c4, c5, c6, c7, c8, c9, c10, c11, c12, c13, c14, c15, c16, c17, c18, c19, c20, c21, c22, u23, u24, u25, c26, c27, c28, c29, c30, c31, c32, c33, c34, c35, c36, c37, c38, c39, c40, c41, c42, c43, c44, c45, c46, c47, c48, c49, c50, c51, c52, c53, c54, c55, c56, c57, c58, c59, c60, c61, c62, c63, c64, c65, c66, c67, c68, c69, c70, c71, c72, c73, c74, c75, c76, c77, c78, c79, c80, c81, c82, c83, c84, c85, c86, c87, c88, c89, c90, c91, c92, c93, c94, c95, c96, c97, c98, c99, c100, c101, c102, c103, c104, c105, c106, c107, c108, c109, c110, c111, c112, c113, c114, c115, c116, c117, c118, c119, c120, c121, c122, c123, c124, c125, c126, c127, c128, c129, c130, c131, c132, c133, c134, c135, c136, c137, c138, c139, c140, c141, c142, c143, c144, c145, c146, c147, c148, c149, c150, c151, c152, c153, c154, c155, c156, c157, c158, c159, c160, c161, c162], []⟩ W') := hK
  clear hK
  conv => arg 2; whnf
  have hi : inB n 0 200 = true := inB_yes hn.1 hn.2
  clear hn
  go_wp2_with (go_at_call 21; refine (In_B _ _ _ _).mono ?_; rw [hi]; rintro e w' ⟨rfl, hw'⟩; rw [hw']; clear hw' w'; dsimp only)
  exact HK.out _ _ _ _ rfl


set_option maxRecDepth 100000 in
set_option maxHeartbeats 4000000 in
theorem pd1r (c1 c2 c3 c4 c5 c6 c7 c8 c9 c10 c11 c12 c13 c14 c15 c16 c17 c18 c19 c20 c21 c22 c23 c24 c25 c26 c27 c28 c29 c30 c31 c32 c33 c34 c35 c36 c37 c38 c39 c40 c41 c42 c43 c44 c45 c46 c47 c48 c49 c50 c51 c52 c53 c54 c55 c56 c57 c58 c59 c60 c61 c62 c63 c64 c65 c66 c67 c68 c69 c70 c71 c72 c73 c74 c75 c76 c77 c78 c79 c80 c81 c82 c83 c84 c85 c86 c87 c88 c89 c90 c91 c92 c93 c94 c95 c96 c97 c98 c99 c100 c101 c102 c103 c104 c105 c106 c107 c108 c109 c110 c111 c112 c113 c114 c115 c116 c117 c118 c119 c120 c121 c122 c123 c124 c125 c126 c127 c128 c129 c130 c131 c132 c133 c134 c135 c136 c137 c138 c139 c140 c141 c142 c143 c144 c145 c146 c147 c148 c149 c150 c151 c152 c153 c154 c155 c156 c157 c158 c159 c160 c161 c162 : Value) (n : Int) (w W : World) (K : Act → World → Prop)
    (hn : ¬ (0 ≤ n ∧ n ≤ 200)) (hb : Below w.heap.size w W) :
    Code.wp Try.prog (stm 1 (Try.f7.body.getD .skip)) (Exit.then K (bodyPost Try.prog Try.f7 (fun e w' => PlayPost w ([], [], 0, 2) e w'))) ⟨#[.int .i64 n, c1, c2, c3, c4, c5, c6, c7, c8, c9, c10, c11, c12, c13, c14, c15, c16, c17, c18, c19, c20, c21, c22, c23, c24, c25, c26, c27, c28, c29, c30, c31, c32, c33, c34, c35, c36, c37, c38, c39, c40, c41, c42, c43, c44, c45, c46, c47, c48, c49, c50, c51, c52, c53, c54, c55, c56, c57, c58, c59, c60, c61, c62, c63, c64, c65, c66, c67, c68, c69, c70, c71, c72, c73, c74, c75, c76, c77, c78, c79, c80, c81, c82, c83, c84, c85, c86, c87, c88, c89, c90, c91, c92, c93, c94, c95, c96, c97, c98, c99, c100, c101, c102, c103, c104, c105, c106, c107, c108, c109, c110, c111, c112, c113, c114, c115, c116, c117, c118, c119, c120, c121, c122, c123, c124, c125, c126, c127, c128, c129, c130, c131, c132, c133, c134, c135, c136, c137, c138, c139, c140, c141, c142, c143, c144, c145, c146, c147, c148, c149, c150, c151, c152, c153, c154, c155, c156, c157, c158, c159, c160, c161, c162], []⟩ W := by
  conv => arg 2; whnf
  have hi : inB n 0 200 = false := inB_no hn
  have HB : Hid (Below w.heap.size w W) := hb
  clear hn hb
  go_wp2_with (go_at_call 21; refine (In_B _ _ _ _).mono ?_; rw [hi]; rintro e w' ⟨rfl, hw'⟩; rw [hw']; clear hw' w'; dsimp only)
  change bodyPost Try.prog Try.f7 _ _ _ _
  refine bodyPost_ret (v := .tuple #[.slice none 0 0, .slice none 0 0, .int .i64 0, .int .i64 2]) (by simp [results, Try.results7, go_sem]) rfl ?_
  exact playPost_no HB.out


set_option maxRecDepth 100000 in
set_option maxHeartbeats 4000000 in
theorem pd2 (c0 c1 c2 c3 c4 c5 c6 c7 c8 c9 c10 c11 c12 c13 c14 c15 c16 c17 c18 c19 c20 c21 c22 c23 c24 c25 c26 c27 c28 c29 c30 c31 c32 c33 c34 c35 c36 c37 c38 c39 c40 c41 c42 c43 c44 c45 c46 c47 c48 c49 c50 c51 c52 c53 c54 c55 c56 c57 c58 c59 c60 c61 c62 c63 c64 c65 c66 c67 c68 c69 c70 c71 c72 c73 c74 c75 c76 c77 c78 c79 c80 c81 c82 c83 c84 c85 c86 c87 c88 c89 c90 c91 c92 c93 c94 c95 c96 c97 c98 c99 c100 c101 c102 c103 c104 c105 c106 c107 c108 c109 c110 c111 c112 c113 c114 c115 c116 c117 c118 c119 c120 c121 c122 c123 c124 c125 c126 c127 c128 c129 c130 c131 c132 c133 c134 c135 c136 c137 c138 c139 c140 c141 c142 c143 c144 c145 c146 c147 c148 c149 c150 c151 c152 c153 c154 c155 c156 c157 c158 c159 c160 c161 c162 : Value)  (W : World) (K : Act → World → Prop) (Rr : Ending → World → Prop)
    
    (hK : ∀ (u26 : Value) (g : Nat) (W' : World), RowV W' g 3 (vI (List.replicate 256 0)) → W.heap.size ≤ g → Below W.heap.size W W' → K ⟨#[c0, c1, c2, c3, c4, c5, c6, c7, c8, c9, .slice (some ⟨g, 0, none⟩) 256 256, c11, c12, c13, c14, c15, c16, c17, c18, c19, c20, c21, c22, c23, c24, c25, u26, c27, c28, c29, c30, c31, c32, c33, c34, c35, c36, c37, c38, c39, c40, c41, c42, c43, c44, c45, c46, c47, c48, c49, c50, c51, c52, c53, c54, c55, c56, c57, c58, c59, c60, c61, c62, c63, c64, c65, c66, c67, c68, c69, c70, c71, c72, c73, c74, c75, c76, c77, c78, c79, c80, c81, c82, c83, c84, c85, c86, c87, c88, c89, c90, c91, c92, c93, c94, c95, c96, c97, c98, c99, c100, c101, c102, c103, c104, c105, c106, c107, c108, c109, c110, c111, c112, c113, c114, c115, c116, c117, c118, c119, c120, c121, c122, c123, c124, c125, c126, c127, c128, c129, c130, c131, c132, c133, c134, c135, c136, c137, c138, c139, c140, c141, c142, c143, c144, c145, c146, c147, c148, c149, c150, c151, c152, c153, c154, c155, c156, c157, c158, c159, c160, c161, c162], []⟩ W') :
    Code.wp Try.prog (stm 2 (Try.f7.body.getD .skip)) (Exit.then K (bodyPost Try.prog Try.f7 Rr)) ⟨#[c0, c1, c2, c3, c4, c5, c6, c7, c8, c9, c10, c11, c12, c13, c14, c15, c16, c17, c18, c19, c20, c21, c22, c23, c24, c25, c26, c27, c28, c29, c30, c31, c32, c33, c34, c35, c36, c37, c38, c39, c40, c41, c42, c43, c44, c45, c46, c47, c48, c49, c50, c51, c52, c53, c54, c55, c56, c57, c58, c59, c60, c61, c62, c63, c64, c65, c66, c67, c68, c69, c70, c71, c72, c73, c74, c75, c76, c77, c78, c79, c80, c81, c82, c83, c84, c85, c86, c87, c88, c89, c90, c91, c92, c93, c94, c95, c96, c97, c98, c99, c100, c101, c102, c103, c104, c105, c106, c107, c108, c109, c110, c111, c112, c113, c114, c115, c116, c117, c118, c119, c120, c121, c122, c123, c124, c125, c126, c127, c128, c129, c130, c131, c132, c133, c134, c135, c136, c137, c138, c139, c140, c141, c142, c143, c144, c145, c146, c147, c148, c149, c150, c151, c152, c153, c154, c155, c156, c157, c158, c159, c160, c161, c162], []⟩ W := by
  have HK : Hid (∀ (u26 : Value) (g : Nat) (W' : World), RowV W' g 3 (vI (List.replicate 256 0)) → W.heap.size ≤ g → Below W.heap.size W W' → K ⟨#[c0, c1, c2, c3, c4, c5, c6, c7, c8, c9, .slice (some ⟨g, 0, none⟩) 256 256, c11, c12, c13, c14, c15, c16, c17, c18, c19, c20, c21, c22, c23, c24, c25, u26, c27, c28, c29, c30, c31, c32, c33, c34, c35, c36, c37, c38, c39, c40, c41, c42, c43, c44, c45, c46, c47, c48, c49, c50, c51, c52, c53, c54, c55, c56, c57, c58, c59, c60, c61, c62, c63, c64, c65, c66, c67, c68, c69, c70, c71, c72, c73, c74, c75, c76, c77, c78, c79, c80, c81, c82, c83, c84, c85, c86, c87, c88, c89, c90, c91, c92, c93, c94, c95, c96, c97, c98, c99, c100, c101, c102, c103, c104, c105, c106, c107, c108, c109, c110, c111, c112, c113, c114, c115, c116, c117, c118, c119, c120, c121, c122, c123, c124, c125, c126, c127, c128, c129, c130, c131, c132, c133, c134, c135, c136, c137, c138, c139, c140, c141, c142, c143, c144, c145, c146, c147, c148, c149, c150, c151, c152, c153, c154, c155, c156, c157, c158, c159, c160, c161, c162], []⟩ W') := hK
  clear hK
  conv => arg 2; whnf
  have hmk : ∀ W : World, (Instr.makeSlice 24 (.int .i64 256) (.int .i64 256)).run Try.prog W = .ok (.slice (some ⟨W.heap.size, 0, none⟩) 256 256) (W.alloc (.cells (madeCells #[.int .i64 0] 256) 3)) := fun W => run_make_row' (P := Try.prog) 24 3 (.int .i64 0) 8 Try.underlying24 infoInt rfl .i64 .i64 256 (by omega) (by omega) W
  go_wp2_with fail
  refine HK.out _ W.heap.size _ ?_ (Nat.le_refl _) (below_alloc _ _)
  have := RowV.made (Go.Deep.blk_alloc_new W (.cells (madeCells #[.int .i64 0] 256) 3))
  simpa using this


set_option maxRecDepth 100000 in
set_option maxHeartbeats 4000000 in
theorem pd3 (c0 c1 c2 c3 c4 c5 c6 c7 c8 c9 c10 c11 c12 c13 c14 c15 c16 c17 c18 c19 c20 c21 c22 c23 c24 c25 c26 c27 c28 c29 c30 c31 c32 c33 c34 c35 c36 c37 c38 c39 c40 c41 c42 c43 c44 c45 c46 c47 c48 c49 c50 c51 c52 c53 c54 c55 c56 c57 c58 c59 c60 c61 c62 c63 c64 c65 c66 c67 c68 c69 c70 c71 c72 c73 c74 c75 c76 c77 c78 c79 c80 c81 c82 c83 c84 c85 c86 c87 c88 c89 c90 c91 c92 c93 c94 c95 c96 c97 c98 c99 c100 c101 c102 c103 c104 c105 c106 c107 c108 c109 c110 c111 c112 c113 c114 c115 c116 c117 c118 c119 c120 c121 c122 c123 c124 c125 c126 c127 c128 c129 c130 c131 c132 c133 c134 c135 c136 c137 c138 c139 c140 c141 c142 c143 c144 c145 c146 c147 c148 c149 c150 c151 c152 c153 c154 c155 c156 c157 c158 c159 c160 c161 c162 : Value)  (W : World) (K : Act → World → Prop) (Rr : Ending → World → Prop)
    
    (hK : ∀ (u27 : Value) (g : Nat) (W' : World), RowV W' g 4 (vB (List.replicate 16 false)) → W.heap.size ≤ g → Below W.heap.size W W' → K ⟨#[c0, c1, c2, c3, c4, c5, c6, c7, c8, c9, c10, .slice (some ⟨g, 0, none⟩) 16 16, c12, c13, c14, c15, c16, c17, c18, c19, c20, c21, c22, c23, c24, c25, c26, u27, c28, c29, c30, c31, c32, c33, c34, c35, c36, c37, c38, c39, c40, c41, c42, c43, c44, c45, c46, c47, c48, c49, c50, c51, c52, c53, c54, c55, c56, c57, c58, c59, c60, c61, c62, c63, c64, c65, c66, c67, c68, c69, c70, c71, c72, c73, c74, c75, c76, c77, c78, c79, c80, c81, c82, c83, c84, c85, c86, c87, c88, c89, c90, c91, c92, c93, c94, c95, c96, c97, c98, c99, c100, c101, c102, c103, c104, c105, c106, c107, c108, c109, c110, c111, c112, c113, c114, c115, c116, c117, c118, c119, c120, c121, c122, c123, c124, c125, c126, c127, c128, c129, c130, c131, c132, c133, c134, c135, c136, c137, c138, c139, c140, c141, c142, c143, c144, c145, c146, c147, c148, c149, c150, c151, c152, c153, c154, c155, c156, c157, c158, c159, c160, c161, c162], []⟩ W') :
    Code.wp Try.prog (stm 3 (Try.f7.body.getD .skip)) (Exit.then K (bodyPost Try.prog Try.f7 Rr)) ⟨#[c0, c1, c2, c3, c4, c5, c6, c7, c8, c9, c10, c11, c12, c13, c14, c15, c16, c17, c18, c19, c20, c21, c22, c23, c24, c25, c26, c27, c28, c29, c30, c31, c32, c33, c34, c35, c36, c37, c38, c39, c40, c41, c42, c43, c44, c45, c46, c47, c48, c49, c50, c51, c52, c53, c54, c55, c56, c57, c58, c59, c60, c61, c62, c63, c64, c65, c66, c67, c68, c69, c70, c71, c72, c73, c74, c75, c76, c77, c78, c79, c80, c81, c82, c83, c84, c85, c86, c87, c88, c89, c90, c91, c92, c93, c94, c95, c96, c97, c98, c99, c100, c101, c102, c103, c104, c105, c106, c107, c108, c109, c110, c111, c112, c113, c114, c115, c116, c117, c118, c119, c120, c121, c122, c123, c124, c125, c126, c127, c128, c129, c130, c131, c132, c133, c134, c135, c136, c137, c138, c139, c140, c141, c142, c143, c144, c145, c146, c147, c148, c149, c150, c151, c152, c153, c154, c155, c156, c157, c158, c159, c160, c161, c162], []⟩ W := by
  have HK : Hid (∀ (u27 : Value) (g : Nat) (W' : World), RowV W' g 4 (vB (List.replicate 16 false)) → W.heap.size ≤ g → Below W.heap.size W W' → K ⟨#[c0, c1, c2, c3, c4, c5, c6, c7, c8, c9, c10, .slice (some ⟨g, 0, none⟩) 16 16, c12, c13, c14, c15, c16, c17, c18, c19, c20, c21, c22, c23, c24, c25, c26, u27, c28, c29, c30, c31, c32, c33, c34, c35, c36, c37, c38, c39, c40, c41, c42, c43, c44, c45, c46, c47, c48, c49, c50, c51, c52, c53, c54, c55, c56, c57, c58, c59, c60, c61, c62, c63, c64, c65, c66, c67, c68, c69, c70, c71, c72, c73, c74, c75, c76, c77, c78, c79, c80, c81, c82, c83, c84, c85, c86, c87, c88, c89, c90, c91, c92, c93, c94, c95, c96, c97, c98, c99, c100, c101, c102, c103, c104, c105, c106, c107, c108, c109, c110, c111, c112, c113, c114, c115, c116, c117, c118, c119, c120, c121, c122, c123, c124, c125, c126, c127, c128, c129, c130, c131, c132, c133, c134, c135, c136, c137, c138, c139, c140, c141, c142, c143, c144, c145, c146, c147, c148, c149, c150, c151, c152, c153, c154, c155, c156, c157, c158, c159, c160, c161, c162], []⟩ W') := hK
  clear hK
  conv => arg 2; whnf
  have hmk : ∀ W : World, (Instr.makeSlice 58 (.int .i64 16) (.int .i64 16)).run Try.prog W = .ok (.slice (some ⟨W.heap.size, 0, none⟩) 16 16) (W.alloc (.cells (madeCells #[.bool false] 16) 4)) := fun W => run_make_row' (P := Try.prog) 58 4 (.bool false) 1 Try.underlying58 infoBool rfl .i64 .i64 16 (by omega) (by omega) W
  go_wp2_with fail
  refine HK.out _ W.heap.size _ ?_ (Nat.le_refl _) (below_alloc _ _)
  have := RowV.made (Go.Deep.blk_alloc_new W (.cells (madeCells #[.bool false] 16) 4))
  simpa using this


set_option maxRecDepth 100000 in
set_option maxHeartbeats 4000000 in
theorem pd7 (c0 c1 c2 c3 c4 c5 c6 c7 c8 c9 c10 c11 c12 c13 c14 c15 c16 c17 c18 c19 c20 c21 c22 c23 c24 c25 c26 c27 c28 c29 c30 c31 c32 c33 c34 c35 c36 c37 c38 c39 c40 c41 c42 c43 c44 c45 c46 c47 c48 c49 c50 c51 c52 c53 c54 c55 c56 c57 c58 c59 c60 c61 c62 c63 c64 c65 c66 c67 c68 c69 c70 c71 c72 c73 c74 c75 c76 c77 c78 c79 c80 c81 c82 c83 c84 c85 c86 c87 c88 c89 c90 c91 c92 c93 c94 c95 c96 c97 c98 c99 c100 c101 c102 c103 c104 c105 c106 c107 c108 c109 c110 c111 c112 c113 c114 c115 c116 c117 c118 c119 c120 c121 c122 c123 c124 c125 c126 c127 c128 c129 c130 c131 c132 c133 c134 c135 c136 c137 c138 c139 c140 c141 c142 c143 c144 c145 c146 c147 c148 c149 c150 c151 c152 c153 c154 c155 c156 c157 c158 c159 c160 c161 c162 : Value)  (W : World) (K : Act → World → Prop) (Rr : Ending → World → Prop)
    
    (hK : ∀ (u67 : Value) (g : Nat) (W' : World), RowV W' g 4 (vB (List.replicate 16 false)) → W.heap.size ≤ g → Below W.heap.size W W' → K ⟨#[c0, c1, c2, c3, c4, c5, c6, c7, c8, c9, c10, c11, c12, c13, c14, c15, .slice (some ⟨g, 0, none⟩) 16 16, c17, c18, c19, c20, c21, c22, c23, c24, c25, c26, c27, c28, c29, c30, c31, c32, c33, c34, c35, c36, c37, c38, c39, c40, c41, c42, c43, c44, c45, c46, c47, c48, c49, c50, c51, c52, c53, c54, c55, c56, c57, c58, c59, c60, c61, c62, c63, c64, c65, c66, u67, c68, c69, c70, c71, c72, c73, c74, c75, c76, c77, c78, c79, c80, c81, c82, c83, c84, c85, c86, c87, c88, c89, c90, c91, c92, c93, c94, c95, c96, c97, c98, c99, c100, c101, c102, c103, c104, c105, c106, c107, c108, c109, c110, c111, c112, c113, c114, c115, c116, c117, c118, c119, c120, c121, c122, c123, c124, c125, c126, c127, c128, c129, c130, c131, c132, c133, c134, c135, c136, c137, c138, c139, c140, c141, c142, c143, c144, c145, c146, c147, c148, c149, c150, c151, c152, c153, c154, c155, c156, c157, c158, c159, c160, c161, c162], []⟩ W') :
    Code.wp Try.prog (stm 7 (Try.f7.body.getD .skip)) (Exit.then K (bodyPost Try.prog Try.f7 Rr)) ⟨#[c0, c1, c2, c3, c4, c5, c6, c7, c8, c9, c10, c11, c12, c13, c14, c15, c16, c17, c18, c19, c20, c21, c22, c23, c24, c25, c26, c27, c28, c29, c30, c31, c32, c33, c34, c35, c36, c37, c38, c39, c40, c41, c42, c43, c44, c45, c46, c47, c48, c49, c50, c51, c52, c53, c54, c55, c56, c57, c58, c59, c60, c61, c62, c63, c64, c65, c66, c67, c68, c69, c70, c71, c72, c73, c74, c75, c76, c77, c78, c79, c80, c81, c82, c83, c84, c85, c86, c87, c88, c89, c90, c91, c92, c93, c94, c95, c96, c97, c98, c99, c100, c101, c102, c103, c104, c105, c106, c107, c108, c109, c110, c111, c112, c113, c114, c115, c116, c117, c118, c119, c120, c121, c122, c123, c124, c125, c126, c127, c128, c129, c130, c131, c132, c133, c134, c135, c136, c137, c138, c139, c140, c141, c142, c143, c144, c145, c146, c147, c148, c149, c150, c151, c152, c153, c154, c155, c156, c157, c158, c159, c160, c161, c162], []⟩ W := by
  have HK : Hid (∀ (u67 : Value) (g : Nat) (W' : World), RowV W' g 4 (vB (List.replicate 16 false)) → W.heap.size ≤ g → Below W.heap.size W W' → K ⟨#[c0, c1, c2, c3, c4, c5, c6, c7, c8, c9, c10, c11, c12, c13, c14, c15, .slice (some ⟨g, 0, none⟩) 16 16, c17, c18, c19, c20, c21, c22, c23, c24, c25, c26, c27, c28, c29, c30, c31, c32, c33, c34, c35, c36, c37, c38, c39, c40, c41, c42, c43, c44, c45, c46, c47, c48, c49, c50, c51, c52, c53, c54, c55, c56, c57, c58, c59, c60, c61, c62, c63, c64, c65, c66, u67, c68, c69, c70, c71, c72, c73, c74, c75, c76, c77, c78, c79, c80, c81, c82, c83, c84, c85, c86, c87, c88, c89, c90, c91, c92, c93, c94, c95, c96, c97, c98, c99, c100, c101, c102, c103, c104, c105, c106, c107, c108, c109, c110, c111, c112, c113, c114, c115, c116, c117, c118, c119, c120, c121, c122, c123, c124, c125, c126, c127, c128, c129, c130, c131, c132, c133, c134, c135, c136, c137, c138, c139, c140, c141, c142, c143, c144, c145, c146, c147, c148, c149, c150, c151, c152, c153, c154, c155, c156, c157, c158, c159, c160, c161, c162], []⟩ W') := hK
  clear hK
  conv => arg 2; whnf
  have hmk : ∀ W : World, (Instr.makeSlice 58 (.int .i64 16) (.int .i64 16)).run Try.prog W = .ok (.slice (some ⟨W.heap.size, 0, none⟩) 16 16) (W.alloc (.cells (madeCells #[.bool false] 16) 4)) := fun W => run_make_row' (P := Try.prog) 58 4 (.bool false) 1 Try.underlying58 infoBool rfl .i64 .i64 16 (by omega) (by omega) W
  go_wp2_with fail
  refine HK.out _ W.heap.size _ ?_ (Nat.le_refl _) (below_alloc _ _)
  have := RowV.made (Go.Deep.blk_alloc_new W (.cells (madeCells #[.bool false] 16) 4))
  simpa using this


set_option maxRecDepth 100000 in
set_option maxHeartbeats 4000000 in
theorem pd4 (c0 c1 c2 c3 c4 c5 c6 c7 c8 c9 c10 c11 c12 c13 c14 c15 c16 c17 c18 c19 c20 c21 c22 c23 c24 c25 c26 c27 c28 c29 c30 c31 c32 c33 c34 c35 c36 c37 c38 c39 c40 c41 c42 c43 c44 c45 c46 c47 c48 c49 c50 c51 c52 c53 c54 c55 c56 c57 c58 c59 c60 c61 c62 c63 c64 c65 c66 c67 c68 c69 c70 c71 c72 c73 c74 c75 c76 c77 c78 c79 c80 c81 c82 c83 c84 c85 c86 c87 c88 c89 c90 c91 c92 c93 c94 c95 c96 c97 c98 c99 c100 c101 c102 c103 c104 c105 c106 c107 c108 c109 c110 c111 c112 c113 c114 c115 c116 c117 c118 c119 c120 c121 c122 c123 c124 c125 c126 c127 c128 c129 c130 c131 c132 c133 c134 c135 c136 c137 c138 c139 c140 c141 c142 c143 c144 c145 c146 c147 c148 c149 c150 c151 c152 c153 c154 c155 c156 c157 c158 c159 c160 c161 c162 : Value)  (W : World) (K : Act → World → Prop) (Rr : Ending → World → Prop)
    
    (hK : ∀ (W' : World), W' = W → K ⟨#[c0, c1, c2, c3, c4, c5, c6, c7, c8, c9, c10, c11, .int .i64 0, c13, c14, c15, c16, c17, c18, c19, c20, c21, c22, c23, c24, c25, c26, c27, c28, c29, c30, c31, c32, c33, c34, c35, c36, c37, c38, c39, c40, c41, c42, c43, c44, c45, c46, c47, c48, c49, c50, c51, c52, c53, c54, c55, c56, c57, c58, c59, c60, c61, c62, c63, c64, c65, c66, c67, c68, c69, c70, c71, c72, c73, c74, c75, c76, c77, c78, c79, c80, c81, c82, c83, c84, c85, c86, c87, c88, c89, c90, c91, c92, c93, c94, c95, c96, c97, c98, c99, c100, c101, c102, c103, c104, c105, c106, c107, c108, c109, c110, c111, c112, c113, c114, c115, c116, c117, c118, c119, c120, c121, c122, c123, c124, c125, c126, c127, c128, c129, c130, c131, c132, c133, c134, c135, c136, c137, c138, c139, c140, c141, c142, c143, c144, c145, c146, c147, c148, c149, c150, c151, c152, c153, c154, c155, c156, c157, c158, c159, c160, c161, c162], []⟩ W') :
    Code.wp Try.prog (stm 4 (Try.f7.body.getD .skip)) (Exit.then K (bodyPost Try.prog Try.f7 Rr)) ⟨#[c0, c1, c2, c3, c4, c5, c6, c7, c8, c9, c10, c11, c12, c13, c14, c15, c16, c17, c18, c19, c20, c21, c22, c23, c24, c25, c26, c27, c28, c29, c30, c31, c32, c33, c34, c35, c36, c37, c38, c39, c40, c41, c42, c43, c44, c45, c46, c47, c48, c49, c50, c51, c52, c53, c54, c55, c56, c57, c58, c59, c60, c61, c62, c63, c64, c65, c66, c67, c68, c69, c70, c71, c72, c73, c74, c75, c76, c77, c78, c79, c80, c81, c82, c83, c84, c85, c86, c87, c88, c89, c90, c91, c92, c93, c94, c95, c96, c97, c98, c99, c100, c101, c102, c103, c104, c105, c106, c107, c108, c109, c110, c111, c112, c113, c114, c115, c116, c117, c118, c119, c120, c121, c122, c123, c124, c125, c126, c127, c128, c129, c130, c131, c132, c133, c134, c135, c136, c137, c138, c139, c140, c141, c142, c143, c144, c145, c146, c147, c148, c149, c150, c151, c152, c153, c154, c155, c156, c157, c158, c159, c160, c161, c162], []⟩ W := by
  have HK : Hid (∀ (W' : World), W' = W → K ⟨#[c0, c1, c2, c3, c4, c5, c6, c7, c8, c9, c10, c11, .int .i64 0, c13, c14, c15, c16, c17, c18, c19, c20, c21, c22, c23, c24, c25, c26, c27, c28, c29, c30, c31, c32, c33, c34, c35, c36, c37, c38, c39, c40, c41, c42, c43, c44, c45, c46, c47, c48, c49, c50, c51, c52, c53, c54, c55, c56, c57, c58, c59, c60, c61, c62, c63, c64, c65, c66, c67, c68, c69, c70, c71, c72, c73, c74, c75, c76, c77, c78, c79, c80, c81, c82, c83, c84, c85, c86, c87, c88, c89, c90, c91, c92, c93, c94, c95, c96, c97, c98, c99, c100, c101, c102, c103, c104, c105, c106, c107, c108, c109, c110, c111, c112, c113, c114, c115, c116, c117, c118, c119, c120, c121, c122, c123, c124, c125, c126, c127, c128, c129, c130, c131, c132, c133, c134, c135, c136, c137, c138, c139, c140, c141, c142, c143, c144, c145, c146, c147, c148, c149, c150, c151, c152, c153, c154, c155, c156, c157, c158, c159, c160, c161, c162], []⟩ W') := hK
  clear hK
  conv => arg 2; whnf
  go_wp2_with fail
  exact HK.out _ rfl


end Go.Proofs.Ytlcdefpdahjjeaf

/- The document's PlayedOf: the writes ahead of the fork. (Written by tools/gen_pd.py.) -/

namespace Go.Proofs.Ytlcdefpdahjjeaf
open Go.RowKit

theorem rep_false (n p : Nat) : (List.replicate n false).getD p false = false := by
  rw [List.getD, List.getElem?_replicate]
  split <;> rfl
/-- What lies in memory then. -/
structure Pd1 (w W : World) (ga gh : Nat) (n : Int) (S : PS) : Prop where
  ba : RowV W ga 3 (vI S.a)
  bh : RowV W gh 4 (vB S.o0)
  ne : ga ≠ gh
  la : w.heap.size ≤ ga
  lh : w.heap.size ≤ gh
  sa : S.a.length = 256
  so : S.o0.length = 16
  sh : S.sh = List.replicate 16 false
  k0 : 0 ≤ S.kn
  kn : S.kn ≤ n
  old : Below w.heap.size w W
theorem Pd1.need {w W : World} {ga gh : Nat} {n : Int} {S : PS} (h : Pd1 w W ga gh n S) {p : Nat} : S.need p = !S.o0.getD p false := by
  rw [PS.need, h.sh, rep_false, Bool.false_or]
theorem Pd1.sh0 {w W : World} {ga gh : Nat} {n : Int} {S : PS} (h : Pd1 w W ga gh n S) {p : Nat} : S.sh.getD p false = false := by
  rw [h.sh, rep_false]
/-- A page that has a frame. -/
theorem Pd1.put1 {w W : World} {ga gh : Nat} {n : Int} {S : PS} (h : Pd1 w W ga gh n S) {k : Nat} (_ : k < 256) (ho : S.o0.getD (k / 16) false = true) (v : Int) : Pd1 w (W.setCell ⟨ga, k, none⟩ (.int .i64 v)) ga gh n (S.put k v) := by
  have e : S.put k v = ⟨S.a.set k v, S.b, S.sh, S.o0, S.o1, S.kn⟩ := by rw [PS.put, h.sh0, if_neg (by decide), if_pos ho]
  rw [e]
  exact ⟨by rw [← vI_set]; exact h.ba.set k _, h.bh.other (Ne.symm h.ne) _ _, h.ne, h.la, h.lh, by simpa using h.sa, h.so, h.sh, h.k0, h.kn, h.old.setCell (by simpa using h.la) _⟩
/-- One that gets it. -/
theorem Pd1.put2 {w W : World} {ga gh : Nat} {n : Int} {S : PS} (h : Pd1 w W ga gh n S) {k : Nat} (_ : k < 256) (ho : S.o0.getD (k / 16) false = false) (hn : S.kn ≠ n) (v : Int) : Pd1 w ((W.setCell ⟨gh, k / 16, none⟩ (.bool true)).setCell ⟨ga, k, none⟩ (.int .i64 v)) ga gh n (S.put k v) ∧ (S.put k v).kn = S.kn + 1 := by
  have e : S.put k v = ⟨S.a.set k v, S.b, S.sh, S.o0.set (k / 16) true, S.o1, S.kn + 1⟩ := by rw [PS.put, h.sh0, if_neg (by decide), if_neg (by rw [ho]; decide)]
  rw [e]
  have := h.k0
  have := h.kn
  exact ⟨⟨by rw [← vI_set]; exact (h.ba.other h.ne _ _).set k _, by rw [← vB_set]; exact (h.bh.set _ _).other (Ne.symm h.ne) _ _, h.ne, h.la, h.lh, by simpa using h.sa, by simpa using h.so, h.sh, by show 0 ≤ S.kn + 1; omega, by show S.kn + 1 ≤ n; omega, (h.old.setCell (by simpa using h.lh) _).setCell (by simpa using h.la) _⟩, rfl⟩

set_option maxRecDepth 100000 in
set_option maxHeartbeats 4000000 in
theorem pd5 (c2 c3 c4 c5 c6 c7 c8 c9 c13 c14 c15 c16 c17 c18 c19 c20 c21 c22 c23 c24 c25 c26 c27 c28 c29 c30 c31 c32 c33 c34 c35 c36 c37 c38 c39 c40 c41 c42 c43 c44 c45 c46 c47 c48 c49 c50 c51 c52 c53 c54 c55 c56 c57 c58 c59 c60 c61 c62 c63 c64 c65 c66 c67 c68 c69 c70 c71 c72 c73 c74 c75 c76 c77 c78 c79 c80 c81 c82 c83 c84 c85 c86 c87 c88 c89 c90 c91 c92 c93 c94 c95 c96 c97 c98 c99 c100 c101 c102 c103 c104 c105 c106 c107 c108 c109 c110 c111 c112 c113 c114 c115 c116 c117 c118 c119 c120 c121 c122 c123 c124 c125 c126 c127 c128 c129 c130 c131 c132 c133 c134 c135 c136 c137 c138 c139 c140 c141 c142 c143 c144 c145 c146 c147 c148 c149 c150 c151 c152 c153 c154 c155 c156 c157 c158 c159 c160 c161 c162 : Value) (VA : Option Addr) (vc : Nat) (F : List (Int × Int)) (PP : List Int × List Int × Int × Int) (ga gh : Nat) (n : Int) (w W : World) (K : Act → World → Prop) 
    (h : Pd1 w W ga gh n PS.start) (hn : n ≤ 200) (hp : PairsAt w (.slice VA F.length vc) F) (herr : (playF n PS.start F).2 ≠ 0 → PP = ([], [], 0, (playF n PS.start F).2))
    (hK : ∀ (u6 u7 u8 u9 u13 u14 u28 u29 u30 u31 u32 u33 u34 u35 u36 u37 u38 u39 u40 u41 u42 u43 u44 u45 u46 u47 u48 u49 u50 u51 u52 u53 u54 u55 u56 u57 u58 u59 u60 u61 u62 u63 u64 : Value) (W' : World), Pd1 w W' ga gh n (playF n PS.start F).1 → (playF n PS.start F).2 = 0 → K ⟨#[.int .i64 n, .slice VA F.length vc, c2, c3, c4, c5, u6, u7, u8, u9, .slice (some ⟨ga, 0, none⟩) 256 256, .slice (some ⟨gh, 0, none⟩) 16 16, .int .i64 (playF n PS.start F).1.kn, u13, u14, c15, c16, c17, c18, c19, c20, c21, c22, c23, c24, c25, c26, c27, u28, u29, u30, u31, u32, u33, u34, u35, u36, u37, u38, u39, u40, u41, u42, u43, u44, u45, u46, u47, u48, u49, u50, u51, u52, u53, u54, u55, u56, u57, u58, u59, u60, u61, u62, u63, u64, c65, c66, c67, c68, c69, c70, c71, c72, c73, c74, c75, c76, c77, c78, c79, c80, c81, c82, c83, c84, c85, c86, c87, c88, c89, c90, c91, c92, c93, c94, c95, c96, c97, c98, c99, c100, c101, c102, c103, c104, c105, c106, c107, c108, c109, c110, c111, c112, c113, c114, c115, c116, c117, c118, c119, c120, c121, c122, c123, c124, c125, c126, c127, c128, c129, c130, c131, c132, c133, c134, c135, c136, c137, c138, c139, c140, c141, c142, c143, c144, c145, c146, c147, c148, c149, c150, c151, c152, c153, c154, c155, c156, c157, c158, c159, c160, c161, c162], []⟩ W') :
    Code.wp Try.prog (stm 5 (Try.f7.body.getD .skip)) (Exit.then K (bodyPost Try.prog Try.f7 (fun e w' => PlayPost w PP e w'))) ⟨#[.int .i64 n, .slice VA F.length vc, c2, c3, c4, c5, c6, c7, c8, c9, .slice (some ⟨ga, 0, none⟩) 256 256, .slice (some ⟨gh, 0, none⟩) 16 16, .int .i64 0, c13, c14, c15, c16, c17, c18, c19, c20, c21, c22, c23, c24, c25, c26, c27, c28, c29, c30, c31, c32, c33, c34, c35, c36, c37, c38, c39, c40, c41, c42, c43, c44, c45, c46, c47, c48, c49, c50, c51, c52, c53, c54, c55, c56, c57, c58, c59, c60, c61, c62, c63, c64, c65, c66, c67, c68, c69, c70, c71, c72, c73, c74, c75, c76, c77, c78, c79, c80, c81, c82, c83, c84, c85, c86, c87, c88, c89, c90, c91, c92, c93, c94, c95, c96, c97, c98, c99, c100, c101, c102, c103, c104, c105, c106, c107, c108, c109, c110, c111, c112, c113, c114, c115, c116, c117, c118, c119, c120, c121, c122, c123, c124, c125, c126, c127, c128, c129, c130, c131, c132, c133, c134, c135, c136, c137, c138, c139, c140, c141, c142, c143, c144, c145, c146, c147, c148, c149, c150, c151, c152, c153, c154, c155, c156, c157, c158, c159, c160, c161, c162], []⟩ W := by
  have HK : Hid (∀ (u6 u7 u8 u9 u13 u14 u28 u29 u30 u31 u32 u33 u34 u35 u36 u37 u38 u39 u40 u41 u42 u43 u44 u45 u46 u47 u48 u49 u50 u51 u52 u53 u54 u55 u56 u57 u58 u59 u60 u61 u62 u63 u64 : Value) (W' : World), Pd1 w W' ga gh n (playF n PS.start F).1 → (playF n PS.start F).2 = 0 → K ⟨#[.int .i64 n, .slice VA F.length vc, c2, c3, c4, c5, u6, u7, u8, u9, .slice (some ⟨ga, 0, none⟩) 256 256, .slice (some ⟨gh, 0, none⟩) 16 16, .int .i64 (playF n PS.start F).1.kn, u13, u14, c15, c16, c17, c18, c19, c20, c21, c22, c23, c24, c25, c26, c27, u28, u29, u30, u31, u32, u33, u34, u35, u36, u37, u38, u39, u40, u41, u42, u43, u44, u45, u46, u47, u48, u49, u50, u51, u52, u53, u54, u55, u56, u57, u58, u59, u60, u61, u62, u63, u64, c65, c66, c67, c68, c69, c70, c71, c72, c73, c74, c75, c76, c77, c78, c79, c80, c81, c82, c83, c84, c85, c86, c87, c88, c89, c90, c91, c92, c93, c94, c95, c96, c97, c98, c99, c100, c101, c102, c103, c104, c105, c106, c107, c108, c109, c110, c111, c112, c113, c114, c115, c116, c117, c118, c119, c120, c121, c122, c123, c124, c125, c126, c127, c128, c129, c130, c131, c132, c133, c134, c135, c136, c137, c138, c139, c140, c141, c142, c143, c144, c145, c146, c147, c148, c149, c150, c151, c152, c153, c154, c155, c156, c157, c158, c159, c160, c161, c162], []⟩ W') := hK
  clear hK
  conv => arg 2; whnf
  obtain ⟨Aq, cq, eq, hFl, hFc⟩ := hp
  simp only [Value.slice.injEq, true_and] at eq
  obtain ⟨rfl, rfl⟩ := eq
  have HFC : Hid (0 < F.length → ∃ b off, VA = some ⟨b, off, none⟩ ∧ b < w.heap.size ∧ ∀ j, j < F.length → w.cell? ⟨b, off + j * 2, none⟩ = some (.int .i64 (F.getD j (0, 0)).1) ∧ w.cell? ⟨b, off + j * 2 + 1, none⟩ = some (.int .i64 (F.getD j (0, 0)).2)) := hFc
  have HL : Hid (F.length * 16 ≤ 140737488351232 ∧ n ≤ 200) := ⟨hFl, hn⟩
  have H0 : Hid (Pd1 w W ga gh n PS.start) := h
  have HER : Hid ((playF n PS.start F).2 ≠ 0 → PP = ([], [], 0, (playF n PS.start F).2)) := herr
  clear h hFc hFl herr hn
  go_wp2_with fail
  go_loopw [12, 13] (fun kv i wr => ∃ (k : Nat) (S : PS), k ≤ F.length ∧ i = .int .i64 (k : Int) ∧ kv = .int .i64 S.kn ∧ Pd1 w wr ga gh n S ∧ playF n PS.start F = playF n S (F.drop k)) (fun _ i _ => F.length - (intOf i).toNat)
  case atStart => exact ⟨0, PS.start, Nat.zero_le _, rfl, rfl, H0.out, rfl⟩
  case round =>
    obtain ⟨k, S, hk, rfl, rfl, hI, hP⟩ := hrel
    have hFL := HL.out.1
    by_cases hlt : k < F.length
    · obtain ⟨bq, oq, rfl, hbq, hcq⟩ := HFC.out (by omega)
      obtain ⟨y0, y1⟩ := hcq k hlt
      obtain ⟨⟨a, v⟩, hav⟩ : ∃ x, x = F.getD k (0, 0) := ⟨_, rfl⟩
      rw [← hav] at y0 y1
      have hdr : F.drop k = (a, v) :: F.drop (k + 1) := by
        have e := List.drop_eq_getElem_cons hlt
        have e2 : F.getD k (0, 0) = F[k] := by simp [List.getD, hlt]
        rw [hav, e2]
        exact e
      have x0 := (hI.old.cell (p := ⟨bq, oq + k * 2, none⟩) hbq).trans y0
      have x1 := (hI.old.cell (p := ⟨bq, oq + k * 2 + 1, none⟩) hbq).trans y1
      have hbs : bq < wr.heap.size := Nat.lt_of_lt_of_le hbq hI.old.size
      have hl : (k : Int) < (F.length : Int) := by omega
      have hw2 : IntKind.i64.wrap ((k : Int) + 1) = (k : Int) + 1 := IntWalk.i64_in _ (by omega)
      have HIR : Hid (Pd1 w wr ga gh n S ∧ playF n PS.start F = playF n S ((a, v) :: F.drop (k + 1))) := ⟨hI, by rw [← hdr]; exact hP⟩
      clear hI hP hcq y0 y1 hav hdr H0
      by_cases ha : 0 ≤ a ∧ a ≤ 255
      case neg =>
        have hi : inB a 0 255 = false := inB_no ha
        have HPP : Hid (PP = ([], [], 0, 2)) := by
          have hPF : playF n PS.start F = (S, 2) := by rw [HIR.out.2, playF, if_neg (by rw [PS.err_range ha]; decide), PS.err_range ha]
          have := HER.out (by rw [hPF]; exact (by decide : (2 : Int) ≠ 0))
          rw [hPF] at this
          exact this
        clear ha
        go_wp2_with (go_at_call 21; refine (In_B _ _ _ _).mono ?_; rw [hi]; rintro e w' ⟨rfl, hw'⟩; rw [hw']; clear hw' w'; dsimp only)
        change bodyPost Try.prog Try.f7 _ _ _ _
        refine bodyPost_ret (v := .tuple #[.slice none 0 0, .slice none 0 0, .int .i64 0, .int .i64 2]) (by simp [results, Try.results7, go_sem]) rfl ?_
        rw [HPP.out]
        exact playPost_no HIR.out.1.old
      case pos =>
        have hi : inB a 0 255 = true := inB_yes ha.1 ha.2
        obtain ⟨m, rfl⟩ : ∃ m : Nat, a = (m : Int) := ⟨a.toNat, by omega⟩
        have hm : m < 256 := by omega
        obtain ⟨q, hq⟩ : ∃ q, q = m / 16 := ⟨_, rfl⟩
        have hq1 : (m : Int).tdiv 16 = (q : Int) := by rw [hq, Int.tdiv_eq_ediv_of_nonneg (by omega)]; omega
        have hq16 : (q : Int) < 16 := by omega
        have hm256 : (m : Int) < 256 := by omega
        have sa := HIR.out.1.sa
        have so := HIR.out.1.so
        have r0 : wr.cell? ⟨gh, q, none⟩ = some (.bool (S.o0.getD q false)) := HIR.out.1.bh.cell (vB_at (by omega))
        have r1 : wr.cell? ⟨ga, m, none⟩ = some (.int .i64 (S.a.getD m 0)) := HIR.out.1.ba.cell (vI_at (by omega))
        have rf := HIR.out.1.bh.frozen
        have rg := HIR.out.1.ba.frozen
        have gl := HIR.out.1.bh.lt
        have gl2 := HIR.out.1.ba.lt
        have nah : ¬ ga = gh := HIR.out.1.ne
        have nha : ¬ gh = ga := fun e => nah e.symm
        have nqa : ¬ bq = ga := by have := HIR.out.1.la; omega
        have nqh : ¬ bq = gh := by have := HIR.out.1.lh; omega
        have HM : Hid (m < 256 ∧ q = m / 16) := ⟨hm, hq⟩
        clear ha hm hq sa so hbq
        cases ho : S.o0.getD q false with
        | true =>
          rw [ho] at r0
          have HN : Hid (Pd1 w (wr.setCell ⟨ga, m, none⟩ (.int .i64 v)) ga gh n (S.put m v) ∧ (S.put m v).kn = S.kn ∧ playF n PS.start F = playF n (S.put m v) (F.drop (k + 1))) := by
            have ho' : S.o0.getD (m / 16) false = true := by rw [← HM.out.2]; exact ho
            refine ⟨HIR.out.1.put1 HM.out.1 ho' v, ?_, ?_⟩
            · rw [PS.put, HIR.out.1.sh0, if_neg (by decide), if_pos ho']
            · rw [HIR.out.2, playF, if_pos (by simp only [PS.err]; rw [if_neg (by have := HM.out.1; omega), if_neg (by rw [Int.toNat_natCast, HIR.out.1.need, ho']; simp)]), Int.toNat_natCast]
          clear ho
          go_wp2_with (go_at_call 21; refine (In_B _ _ _ _).mono ?_; rw [hi]; rintro e w' ⟨rfl, hw'⟩; rw [hw']; clear hw' w'; dsimp only)
          refine ⟨⟨k + 1, _, by omega, by go_num, by rw [HN.out.2.1], HN.out.1, HN.out.2.2⟩, ?_⟩
          simp [intOf]; omega
        | false =>
          rw [ho] at r0
          cases hkn : S.kn == n with
          | true =>
            have HPP : Hid (PP = ([], [], 0, 7)) := by
              have he : S.err n (m : Int) = 7 := by
                simp only [PS.err]
                rw [if_neg (by have := HM.out.1; omega), if_pos ⟨by rw [Int.toNat_natCast, HIR.out.1.need, ← HM.out.2, ho]; rfl, by simpa using hkn⟩]
              have hPF : playF n PS.start F = (S, 7) := by rw [HIR.out.2, playF, if_neg (by rw [he]; decide), he]
              have := HER.out (by rw [hPF]; exact (by decide : (7 : Int) ≠ 0))
              rw [hPF] at this
              exact this
            clear ho
            go_wp2_with (go_at_call 21; refine (In_B _ _ _ _).mono ?_; rw [hi]; rintro e w' ⟨rfl, hw'⟩; rw [hw']; clear hw' w'; dsimp only)
            change bodyPost Try.prog Try.f7 _ _ _ _
            refine bodyPost_ret (v := .tuple #[.slice none 0 0, .slice none 0 0, .int .i64 0, .int .i64 7]) (by simp [results, Try.results7, go_sem]) rfl ?_
            rw [HPP.out]
            exact playPost_no HIR.out.1.old
          | false =>
            have hkn' : S.kn ≠ n := by simpa using hkn
            have HN : Hid (Pd1 w ((wr.setCell ⟨gh, q, none⟩ (.bool true)).setCell ⟨ga, m, none⟩ (.int .i64 v)) ga gh n (S.put m v) ∧ (S.put m v).kn = S.kn + 1 ∧ playF n PS.start F = playF n (S.put m v) (F.drop (k + 1))) := by
              have ho' : S.o0.getD (m / 16) false = false := by rw [← HM.out.2]; exact ho
              rw [HM.out.2]
              refine ⟨(HIR.out.1.put2 HM.out.1 ho' hkn' v).1, (HIR.out.1.put2 HM.out.1 ho' hkn' v).2, ?_⟩
              rw [HIR.out.2, playF, if_pos (by simp only [PS.err]; rw [if_neg (by have := HM.out.1; omega), if_neg (fun e => hkn' e.2)]), Int.toNat_natCast]
            have hw3 : IntKind.i64.wrap (S.kn + 1) = S.kn + 1 := IntWalk.i64_in _ (by have := HIR.out.1.k0; have := HIR.out.1.kn; have := HL.out.2; omega)
            clear ho hkn'
            go_wp2_with (go_at_call 21; refine (In_B _ _ _ _).mono ?_; rw [hi]; rintro e w' ⟨rfl, hw'⟩; rw [hw']; clear hw' w'; dsimp only)
            refine ⟨⟨k + 1, _, by omega, by go_num, by rw [HN.out.2.1], HN.out.1, HN.out.2.2⟩, ?_⟩
            simp [intOf]; omega
    · have e : k = F.length := by omega
      subst e
      have hnl : ¬ (F.length : Int) < (F.length : Int) := by omega
      rw [List.drop_length, playF] at hP
      have HE : Hid (Pd1 w wr ga gh n (playF n PS.start F).1 ∧ (playF n PS.start F).2 = 0 ∧ S.kn = (playF n PS.start F).1.kn) := ⟨by rw [hP]; exact hI, by rw [hP], by rw [hP]⟩
      clear hI hP
      go_wp2_with fail
      rw [HE.out.2.2]
      exact HK.out _ _ _ _ _ _ _ _ _ _ _ _ _ _ _ _ _ _ _ _ _ _ _ _ _ _ _ _ _ _ _ _ _ _ _ _ _ _ _ _ _ _ _ _ HE.out.1 HE.out.2.1


end Go.Proofs.Ytlcdefpdahjjeaf

/- The document's PlayedOf: the fork's rows. (Written by tools/gen_pd.py.) -/

namespace Go.Proofs.Ytlcdefpdahjjeaf
open Go.RowKit

theorem alloc3_0 (W : World) (a b c : Obj) : (((W.alloc a).alloc b).alloc c).drew.heap[W.heap.size]? = some a :=
  ((((below_alloc (W.alloc a) b).alloc (by simp) c).drew).block _ (lt_of_block (Go.Deep.blk_alloc_new W a))).trans (Go.Deep.blk_alloc_new W a)
theorem alloc3_1 (W : World) (a b c : Obj) : (((W.alloc a).alloc b).alloc c).drew.heap[W.heap.size + 1]? = some b := by
  have h := Go.Deep.blk_alloc_new (W.alloc a) b
  rw [show (W.alloc a).heap.size = W.heap.size + 1 by simp] at h
  exact (((below_alloc ((W.alloc a).alloc b) c).drew).block _ (lt_of_block h)).trans h
theorem alloc3_2 (W : World) (a b c : Obj) : (((W.alloc a).alloc b).alloc c).drew.heap[W.heap.size + 1 + 1]? = some c := by
  have h := Go.Deep.blk_alloc_new ((W.alloc a).alloc b) c
  rw [show ((W.alloc a).alloc b).heap.size = W.heap.size + 1 + 1 by simp] at h
  exact h
theorem alloc3_below (W : World) (a b c : Obj) : Below W.heap.size W (((W.alloc a).alloc b).alloc c).drew := (((below_alloc W a).alloc (by simp) b).alloc (by simp; omega) c).drew
theorem rowB16 {w : World} {g : Nat} (h : w.heap[g]? = some (.cells (madeCells #[.bool false] 16) 4 (0, 0))) : RowV w g 4 (vB (List.replicate 16 false)) := by
  have := RowV.made h
  simpa using this
theorem row2 {w : World} {g : Nat} {x y : Value} {t : TypeId} (h : w.heap[g]? = some (.cells #[x, y] t (0, 0))) : RowV w g t [x, y] := ⟨_, h, by simp, fun j _ => by simp⟩

set_option maxRecDepth 100000 in
set_option maxHeartbeats 4000000 in
theorem pd6 (c0 c1 c2 c3 c4 c5 c6 c7 c8 c9 c11 c12 c13 c14 c15 c16 c17 c18 c19 c20 c21 c22 c23 c24 c25 c26 c27 c28 c29 c30 c31 c32 c33 c34 c35 c36 c37 c38 c39 c40 c41 c42 c43 c44 c45 c46 c47 c48 c49 c50 c51 c52 c53 c54 c55 c56 c57 c58 c59 c60 c61 c62 c63 c64 c65 c66 c67 c68 c69 c70 c71 c72 c73 c74 c75 c76 c77 c78 c79 c80 c81 c82 c83 c84 c85 c86 c87 c88 c89 c90 c91 c92 c93 c94 c95 c96 c97 c98 c99 c100 c101 c102 c103 c104 c105 c106 c107 c108 c109 c110 c111 c112 c113 c114 c115 c116 c117 c118 c119 c120 c121 c122 c123 c124 c125 c126 c127 c128 c129 c130 c131 c132 c133 c134 c135 c136 c137 c138 c139 c140 c141 c142 c143 c144 c145 c146 c147 c148 c149 c150 c151 c152 c153 c154 c155 c156 c157 c158 c159 c160 c161 c162 : Value) (ga : Nat) (l : List Int) (W : World) (K : Act → World → Prop) (Rr : Ending → World → Prop)
    (h : RowV W ga 3 (vI l)) (hl : l.length = 256)
    (hK : ∀ (u65 u66 : Value) (gb cb : Nat) (W' : World), RowV W' gb 3 (vI l) → W.heap.size ≤ gb → Below W.heap.size W W' → K ⟨#[c0, c1, c2, c3, c4, c5, c6, c7, c8, c9, .slice (some ⟨ga, 0, none⟩) 256 256, c11, c12, c13, c14, .slice (some ⟨gb, 0, none⟩) 256 cb, c16, c17, c18, c19, c20, c21, c22, c23, c24, c25, c26, c27, c28, c29, c30, c31, c32, c33, c34, c35, c36, c37, c38, c39, c40, c41, c42, c43, c44, c45, c46, c47, c48, c49, c50, c51, c52, c53, c54, c55, c56, c57, c58, c59, c60, c61, c62, c63, c64, u65, u66, c67, c68, c69, c70, c71, c72, c73, c74, c75, c76, c77, c78, c79, c80, c81, c82, c83, c84, c85, c86, c87, c88, c89, c90, c91, c92, c93, c94, c95, c96, c97, c98, c99, c100, c101, c102, c103, c104, c105, c106, c107, c108, c109, c110, c111, c112, c113, c114, c115, c116, c117, c118, c119, c120, c121, c122, c123, c124, c125, c126, c127, c128, c129, c130, c131, c132, c133, c134, c135, c136, c137, c138, c139, c140, c141, c142, c143, c144, c145, c146, c147, c148, c149, c150, c151, c152, c153, c154, c155, c156, c157, c158, c159, c160, c161, c162], []⟩ W') :
    Code.wp Try.prog (stm 6 (Try.f7.body.getD .skip)) (Exit.then K (bodyPost Try.prog Try.f7 Rr)) ⟨#[c0, c1, c2, c3, c4, c5, c6, c7, c8, c9, .slice (some ⟨ga, 0, none⟩) 256 256, c11, c12, c13, c14, c15, c16, c17, c18, c19, c20, c21, c22, c23, c24, c25, c26, c27, c28, c29, c30, c31, c32, c33, c34, c35, c36, c37, c38, c39, c40, c41, c42, c43, c44, c45, c46, c47, c48, c49, c50, c51, c52, c53, c54, c55, c56, c57, c58, c59, c60, c61, c62, c63, c64, c65, c66, c67, c68, c69, c70, c71, c72, c73, c74, c75, c76, c77, c78, c79, c80, c81, c82, c83, c84, c85, c86, c87, c88, c89, c90, c91, c92, c93, c94, c95, c96, c97, c98, c99, c100, c101, c102, c103, c104, c105, c106, c107, c108, c109, c110, c111, c112, c113, c114, c115, c116, c117, c118, c119, c120, c121, c122, c123, c124, c125, c126, c127, c128, c129, c130, c131, c132, c133, c134, c135, c136, c137, c138, c139, c140, c141, c142, c143, c144, c145, c146, c147, c148, c149, c150, c151, c152, c153, c154, c155, c156, c157, c158, c159, c160, c161, c162], []⟩ W := by
  have HK : Hid (∀ (u65 u66 : Value) (gb cb : Nat) (W' : World), RowV W' gb 3 (vI l) → W.heap.size ≤ gb → Below W.heap.size W W' → K ⟨#[c0, c1, c2, c3, c4, c5, c6, c7, c8, c9, .slice (some ⟨ga, 0, none⟩) 256 256, c11, c12, c13, c14, .slice (some ⟨gb, 0, none⟩) 256 cb, c16, c17, c18, c19, c20, c21, c22, c23, c24, c25, c26, c27, c28, c29, c30, c31, c32, c33, c34, c35, c36, c37, c38, c39, c40, c41, c42, c43, c44, c45, c46, c47, c48, c49, c50, c51, c52, c53, c54, c55, c56, c57, c58, c59, c60, c61, c62, c63, c64, u65, u66, c67, c68, c69, c70, c71, c72, c73, c74, c75, c76, c77, c78, c79, c80, c81, c82, c83, c84, c85, c86, c87, c88, c89, c90, c91, c92, c93, c94, c95, c96, c97, c98, c99, c100, c101, c102, c103, c104, c105, c106, c107, c108, c109, c110, c111, c112, c113, c114, c115, c116, c117, c118, c119, c120, c121, c122, c123, c124, c125, c126, c127, c128, c129, c130, c131, c132, c133, c134, c135, c136, c137, c138, c139, c140, c141, c142, c143, c144, c145, c146, c147, c148, c149, c150, c151, c152, c153, c154, c155, c156, c157, c158, c159, c160, c161, c162], []⟩ W') := hK
  clear hK
  conv => arg 2; whnf
  have HI : Hid (IntsAt W (.slice (some ⟨ga, 0, none⟩) 256 256) l) := (h.low (lo := 0) (c := 256) (Nat.zero_le _) hl (by omega)).at
  have HL : Hid (l.length = 256) := hl
  clear h hl
  go_wp2_with fail
  refine (words_any _ l _ HI.out).mono ?_
  rintro e w1 ⟨A, c, rfl, ho, hb⟩
  rw [OwnI, HL.out] at ho
  rw [HL.out]
  obtain ⟨gb, rfl⟩ : ∃ gb, A = some ⟨gb, 0, none⟩ := by
    rcases ho.2 with ⟨_, h0⟩ | ⟨g, cap, cur, hv, _⟩
    · cases h0
    · simp only [Value.slice.injEq] at hv
      exact ⟨g, hv.1⟩
  have HO : Hid (RowV w1 gb 3 (vI l) ∧ W.heap.size ≤ gb ∧ Below W.heap.size W w1) := ⟨(RowV.of_own ho).1, (RowV.of_own ho).2, hb⟩
  clear ho hb HI
  go_wp2_with fail
  exact HK.out _ _ gb c _ HO.out.1 HO.out.2.1 HO.out.2.2


set_option maxRecDepth 100000 in
set_option maxHeartbeats 4000000 in
theorem pd8 (c0 c1 c2 c3 c4 c5 c6 c7 c8 c9 c10 c11 c12 c13 c14 c15 c16 c17 c18 c19 c20 c21 c22 c23 c24 c25 c26 c27 c28 c29 c30 c31 c32 c33 c34 c35 c36 c37 c38 c39 c40 c41 c42 c43 c44 c45 c46 c47 c48 c49 c50 c51 c52 c53 c54 c55 c56 c57 c58 c59 c60 c61 c62 c63 c64 c65 c66 c67 c68 c69 c70 c71 c72 c73 c74 c75 c76 c77 c78 c79 c80 c81 c82 c83 c84 c85 c86 c87 c88 c89 c90 c91 c92 c93 c94 c95 c96 c97 c98 c99 c100 c101 c102 c103 c104 c105 c106 c107 c108 c109 c110 c111 c112 c113 c114 c115 c116 c117 c118 c119 c120 c121 c122 c123 c124 c125 c126 c127 c128 c129 c130 c131 c132 c133 c134 c135 c136 c137 c138 c139 c140 c141 c142 c143 c144 c145 c146 c147 c148 c149 c150 c151 c152 c153 c154 c155 c156 c157 c158 c159 c160 c161 c162 : Value)  (W : World) (K : Act → World → Prop) (Rr : Ending → World → Prop)
    
    (hK : ∀ (u68 u69 u70 : Value) (g0 g1 go : Nat) (W' : World), RowV W' g0 4 (vB (List.replicate 16 false)) → RowV W' g1 4 (vB (List.replicate 16 false)) → RowV W' go 59 [.slice (some ⟨g0, 0, none⟩) 16 16, .slice (some ⟨g1, 0, none⟩) 16 16] → W.heap.size ≤ g0 → W.heap.size ≤ g1 → W.heap.size ≤ go → g0 ≠ g1 → g0 ≠ go → g1 ≠ go → Below W.heap.size W W' → K ⟨#[c0, c1, c2, c3, c4, c5, c6, c7, c8, c9, c10, c11, c12, c13, c14, c15, c16, .pointer (some ⟨go, 0, none⟩), c18, c19, c20, c21, c22, c23, c24, c25, c26, c27, c28, c29, c30, c31, c32, c33, c34, c35, c36, c37, c38, c39, c40, c41, c42, c43, c44, c45, c46, c47, c48, c49, c50, c51, c52, c53, c54, c55, c56, c57, c58, c59, c60, c61, c62, c63, c64, c65, c66, c67, u68, u69, u70, c71, c72, c73, c74, c75, c76, c77, c78, c79, c80, c81, c82, c83, c84, c85, c86, c87, c88, c89, c90, c91, c92, c93, c94, c95, c96, c97, c98, c99, c100, c101, c102, c103, c104, c105, c106, c107, c108, c109, c110, c111, c112, c113, c114, c115, c116, c117, c118, c119, c120, c121, c122, c123, c124, c125, c126, c127, c128, c129, c130, c131, c132, c133, c134, c135, c136, c137, c138, c139, c140, c141, c142, c143, c144, c145, c146, c147, c148, c149, c150, c151, c152, c153, c154, c155, c156, c157, c158, c159, c160, c161, c162], []⟩ W') :
    Code.wp Try.prog (stm 8 (Try.f7.body.getD .skip)) (Exit.then K (bodyPost Try.prog Try.f7 Rr)) ⟨#[c0, c1, c2, c3, c4, c5, c6, c7, c8, c9, c10, c11, c12, c13, c14, c15, c16, c17, c18, c19, c20, c21, c22, c23, c24, c25, c26, c27, c28, c29, c30, c31, c32, c33, c34, c35, c36, c37, c38, c39, c40, c41, c42, c43, c44, c45, c46, c47, c48, c49, c50, c51, c52, c53, c54, c55, c56, c57, c58, c59, c60, c61, c62, c63, c64, c65, c66, c67, c68, c69, c70, c71, c72, c73, c74, c75, c76, c77, c78, c79, c80, c81, c82, c83, c84, c85, c86, c87, c88, c89, c90, c91, c92, c93, c94, c95, c96, c97, c98, c99, c100, c101, c102, c103, c104, c105, c106, c107, c108, c109, c110, c111, c112, c113, c114, c115, c116, c117, c118, c119, c120, c121, c122, c123, c124, c125, c126, c127, c128, c129, c130, c131, c132, c133, c134, c135, c136, c137, c138, c139, c140, c141, c142, c143, c144, c145, c146, c147, c148, c149, c150, c151, c152, c153, c154, c155, c156, c157, c158, c159, c160, c161, c162], []⟩ W := by
  have HK : Hid (∀ (u68 u69 u70 : Value) (g0 g1 go : Nat) (W' : World), RowV W' g0 4 (vB (List.replicate 16 false)) → RowV W' g1 4 (vB (List.replicate 16 false)) → RowV W' go 59 [.slice (some ⟨g0, 0, none⟩) 16 16, .slice (some ⟨g1, 0, none⟩) 16 16] → W.heap.size ≤ g0 → W.heap.size ≤ g1 → W.heap.size ≤ go → g0 ≠ g1 → g0 ≠ go → g1 ≠ go → Below W.heap.size W W' → K ⟨#[c0, c1, c2, c3, c4, c5, c6, c7, c8, c9, c10, c11, c12, c13, c14, c15, c16, .pointer (some ⟨go, 0, none⟩), c18, c19, c20, c21, c22, c23, c24, c25, c26, c27, c28, c29, c30, c31, c32, c33, c34, c35, c36, c37, c38, c39, c40, c41, c42, c43, c44, c45, c46, c47, c48, c49, c50, c51, c52, c53, c54, c55, c56, c57, c58, c59, c60, c61, c62, c63, c64, c65, c66, c67, u68, u69, u70, c71, c72, c73, c74, c75, c76, c77, c78, c79, c80, c81, c82, c83, c84, c85, c86, c87, c88, c89, c90, c91, c92, c93, c94, c95, c96, c97, c98, c99, c100, c101, c102, c103, c104, c105, c106, c107, c108, c109, c110, c111, c112, c113, c114, c115, c116, c117, c118, c119, c120, c121, c122, c123, c124, c125, c126, c127, c128, c129, c130, c131, c132, c133, c134, c135, c136, c137, c138, c139, c140, c141, c142, c143, c144, c145, c146, c147, c148, c149, c150, c151, c152, c153, c154, c155, c156, c157, c158, c159, c160, c161, c162], []⟩ W') := hK
  clear hK
  conv => arg 2; whnf
  have hmk : ∀ W : World, (Instr.makeSlice 58 (.int .i64 16) (.int .i64 16)).run Try.prog W = .ok (.slice (some ⟨W.heap.size, 0, none⟩) 16 16) (W.alloc (.cells (madeCells #[.bool false] 16) 4)) := fun W => run_make_row' (P := Try.prog) 58 4 (.bool false) 1 Try.underlying58 infoBool rfl .i64 .i64 16 (by omega) (by omega) W
  go_wp2_with fail
  go_region
  all_goals first
    | exact HK.out _ _ _ W.heap.size (W.heap.size + 1) (W.heap.size + 1 + 1) _ (rowB16 (alloc3_0 _ _ _ _)) (rowB16 (alloc3_1 _ _ _ _)) (row2 (alloc3_2 _ _ _ _)) (by omega) (by omega) (by omega) (by omega) (by omega) (by omega) (alloc3_below _ _ _ _)
    | exact HK.out _ _ _ W.heap.size (W.heap.size + 1 + 1) (W.heap.size + 1) _ (rowB16 (alloc3_0 _ _ _ _)) (rowB16 (alloc3_2 _ _ _ _)) (row2 (alloc3_1 _ _ _ _)) (by omega) (by omega) (by omega) (by omega) (by omega) (by omega) (alloc3_below _ _ _ _)
    | exact HK.out _ _ _ (W.heap.size + 1) W.heap.size (W.heap.size + 1 + 1) _ (rowB16 (alloc3_1 _ _ _ _)) (rowB16 (alloc3_0 _ _ _ _)) (row2 (alloc3_2 _ _ _ _)) (by omega) (by omega) (by omega) (by omega) (by omega) (by omega) (alloc3_below _ _ _ _)
    | exact HK.out _ _ _ (W.heap.size + 1) (W.heap.size + 1 + 1) W.heap.size _ (rowB16 (alloc3_1 _ _ _ _)) (rowB16 (alloc3_2 _ _ _ _)) (row2 (alloc3_0 _ _ _ _)) (by omega) (by omega) (by omega) (by omega) (by omega) (by omega) (alloc3_below _ _ _ _)
    | exact HK.out _ _ _ (W.heap.size + 1 + 1) W.heap.size (W.heap.size + 1) _ (rowB16 (alloc3_2 _ _ _ _)) (rowB16 (alloc3_0 _ _ _ _)) (row2 (alloc3_1 _ _ _ _)) (by omega) (by omega) (by omega) (by omega) (by omega) (by omega) (alloc3_below _ _ _ _)
    | exact HK.out _ _ _ (W.heap.size + 1 + 1) (W.heap.size + 1) W.heap.size _ (rowB16 (alloc3_2 _ _ _ _)) (rowB16 (alloc3_1 _ _ _ _)) (row2 (alloc3_0 _ _ _ _)) (by omega) (by omega) (by omega) (by omega) (by omega) (by omega) (alloc3_below _ _ _ _)


end Go.Proofs.Ytlcdefpdahjjeaf

/- The document's PlayedOf: what lies in memory behind the fork. (Written by tools/gen_pd.py.) -/

namespace Go.Proofs.Ytlcdefpdahjjeaf
open Go.RowKit

/-- The rows of both spaces. -/
structure PdR (w W : World) (ga gb gs g0 g1 : Nat) (n : Int) (S : PS) : Prop where
  ba : RowV W ga 3 (vI S.a)
  bb : RowV W gb 3 (vI S.b)
  bs : RowV W gs 4 (vB S.sh)
  b0 : RowV W g0 4 (vB S.o0)
  b1 : RowV W g1 4 (vB S.o1)
  sa : S.a.length = 256
  sb : S.b.length = 256
  ss : S.sh.length = 16
  s0 : S.o0.length = 16
  s1 : S.o1.length = 16
  k0 : 0 ≤ S.kn
  kn : S.kn ≤ n
  old : Below w.heap.size w W
/-- The blocks are five, and of the call's own. -/
structure PdN (w : World) (ga gb gs g0 g1 : Nat) : Prop where
  ab : ga ≠ gb
  ah : ga ≠ gs
  a0 : ga ≠ g0
  a1 : ga ≠ g1
  bs : gb ≠ gs
  b0 : gb ≠ g0
  b1 : gb ≠ g1
  s0 : gs ≠ g0
  s1 : gs ≠ g1
  z1 : g0 ≠ g1
  la : w.heap.size ≤ ga
  lb : w.heap.size ≤ gb
  ls : w.heap.size ≤ gs
  l0 : w.heap.size ≤ g0
  l1 : w.heap.size ≤ g1
theorem PdR.swap {w W : World} {ga gb gs g0 g1 : Nat} {n : Int} {S : PS} (h : PdR w W ga gb gs g0 g1 n S) : PdR w W gb ga gs g1 g0 n S.swap :=
  ⟨h.bb, h.ba, h.bs, h.b1, h.b0, h.sb, h.sa, h.ss, h.s1, h.s0, h.k0, h.kn, h.old⟩
theorem PdN.swap {w : World} {ga gb gs g0 g1 : Nat} (h : PdN w ga gb gs g0 g1) : PdN w gb ga gs g1 g0 :=
  ⟨Ne.symm h.ab, h.bs, h.b1, h.b0, h.ah, h.a1, h.a0, h.s1, h.s0, Ne.symm h.z1, h.lb, h.la, h.ls, h.l1, h.l0⟩
theorem set_set_true (l : List Bool) (p : Nat) : (l.set p true).set p true = l.set p true := by simp
/-- The first one writes a page of its own. -/
theorem PdR.own {w W : World} {ga gb gs g0 g1 : Nat} {n : Int} {S : PS} (h : PdR w W ga gb gs g0 g1 n S) (hn : PdN w ga gb gs g0 g1) {k : Nat} (hs : S.sh.getD (k / 16) false = false) (ho : S.o0.getD (k / 16) false = true) (v : Int) :
    PdR w (W.setCell ⟨ga, k, none⟩ (.int .i64 v)) ga gb gs g0 g1 n (S.put k v) ∧ (S.put k v).kn = S.kn := by
  have e : S.put k v = ⟨S.a.set k v, S.b, S.sh, S.o0, S.o1, S.kn⟩ := by rw [PS.put, hs, if_neg (by decide), if_pos ho]
  rw [e]
  exact ⟨⟨by rw [← vI_set]; exact h.ba.set k _, h.bb.other (Ne.symm hn.ab) _ _, h.bs.other (Ne.symm hn.ah) _ _, h.b0.other (Ne.symm hn.a0) _ _, h.b1.other (Ne.symm hn.a1) _ _, by simpa using h.sa, h.sb, h.ss, h.s0, h.s1, h.k0, h.kn, h.old.setCell (by simpa using hn.la) _⟩, rfl⟩
/-- One that gets a frame. -/
theorem PdR.fresh {w W : World} {ga gb gs g0 g1 : Nat} {n : Int} {S : PS} (h : PdR w W ga gb gs g0 g1 n S) (hn : PdN w ga gb gs g0 g1) {k : Nat} (hs : S.sh.getD (k / 16) false = false) (ho : S.o0.getD (k / 16) false = false) (hk : S.kn ≠ n) (v : Int) :
    PdR w ((W.setCell ⟨g0, k / 16, none⟩ (.bool true)).setCell ⟨ga, k, none⟩ (.int .i64 v)) ga gb gs g0 g1 n (S.put k v) ∧ (S.put k v).kn = S.kn + 1 := by
  have e : S.put k v = ⟨S.a.set k v, S.b, S.sh, S.o0.set (k / 16) true, S.o1, S.kn + 1⟩ := by rw [PS.put, hs, if_neg (by decide), if_neg (by rw [ho]; decide)]
  rw [e]
  have := h.k0
  have := h.kn
  exact ⟨⟨by rw [← vI_set]; exact (h.ba.other hn.a0 _ _).set k _, (h.bb.other hn.b0 _ _).other (Ne.symm hn.ab) _ _, (h.bs.other hn.s0 _ _).other (Ne.symm hn.ah) _ _, by rw [← vB_set]; exact (h.b0.set _ _).other (Ne.symm hn.a0) _ _, (h.b1.other (Ne.symm hn.z1) _ _).other (Ne.symm hn.a1) _ _, by simpa using h.sa, h.sb, h.ss, by simpa using h.s0, h.s1, by show 0 ≤ S.kn + 1; omega, by show S.kn + 1 ≤ n; omega, (h.old.setCell (by simpa using hn.l0) _).setCell (by simpa using hn.la) _⟩, rfl⟩
/-- A page that both have: x, y: in which order their rows are told so. -/
theorem PdR.shared {w W : World} {ga gb gs g0 g1 : Nat} {n : Int} {S : PS} (h : PdR w W ga gb gs g0 g1 n S) (hn : PdN w ga gb gs g0 g1) {k x y : Nat} (hxy : x = g0 ∧ y = g1 ∨ x = g1 ∧ y = g0) (hs : S.sh.getD (k / 16) false = true) (hk : S.kn ≠ n) (v : Int) :
    PdR w (((((W.setCell ⟨gs, k / 16, none⟩ (.bool false)).setCell ⟨x, k / 16, none⟩ (.bool true)).setCell ⟨y, k / 16, none⟩ (.bool true)).setCell ⟨g0, k / 16, none⟩ (.bool true)).setCell ⟨ga, k, none⟩ (.int .i64 v)) ga gb gs g0 g1 n (S.put k v) ∧ (S.put k v).kn = S.kn + 1 := by
  have e : S.put k v = ⟨S.a.set k v, S.b, S.sh.set (k / 16) false, S.o0.set (k / 16) true, S.o1.set (k / 16) true, S.kn + 1⟩ := by rw [PS.put, if_pos hs]
  rw [e]
  have h1 := h.k0
  have h2 := h.kn
  rcases hxy with ⟨rfl, rfl⟩ | ⟨rfl, rfl⟩
  · exact ⟨⟨by rw [← vI_set]; exact ((((h.ba.other hn.ah _ _).other hn.a0 _ _).other hn.a1 _ _).other hn.a0 _ _).set k _, ((((h.bb.other hn.bs _ _).other hn.b0 _ _).other hn.b1 _ _).other hn.b0 _ _).other (Ne.symm hn.ab) _ _,
      by rw [← vB_set]; exact ((((h.bs.set _ _).other hn.s0 _ _).other hn.s1 _ _).other hn.s0 _ _).other (Ne.symm hn.ah) _ _,
      by rw [← set_set_true, ← vB_set, ← vB_set]; exact ((((h.b0.other (Ne.symm hn.s0) _ _).set _ _).other hn.z1 _ _).set _ _).other (Ne.symm hn.a0) _ _,
      by rw [← vB_set]; exact ((((h.b1.other (Ne.symm hn.s1) _ _).other (Ne.symm hn.z1) _ _).set _ _).other (Ne.symm hn.z1) _ _).other (Ne.symm hn.a1) _ _,
      by simpa using h.sa, h.sb, by simpa using h.ss, by simpa using h.s0, by simpa using h.s1, by show 0 ≤ S.kn + 1; omega, by show S.kn + 1 ≤ n; omega,
      ((((h.old.setCell (by simpa using hn.ls) _).setCell (by simpa using hn.l0) _).setCell (by simpa using hn.l1) _).setCell (by simpa using hn.l0) _).setCell (by simpa using hn.la) _⟩, rfl⟩
  · exact ⟨⟨by rw [← vI_set]; exact ((((h.ba.other hn.ah _ _).other hn.a1 _ _).other hn.a0 _ _).other hn.a0 _ _).set k _, ((((h.bb.other hn.bs _ _).other hn.b1 _ _).other hn.b0 _ _).other hn.b0 _ _).other (Ne.symm hn.ab) _ _,
      by rw [← vB_set]; exact ((((h.bs.set _ _).other hn.s1 _ _).other hn.s0 _ _).other hn.s0 _ _).other (Ne.symm hn.ah) _ _,
      by rw [← set_set_true, ← vB_set, ← vB_set]; exact ((((h.b0.other (Ne.symm hn.s0) _ _).other hn.z1 _ _).set _ _).set _ _).other (Ne.symm hn.a0) _ _,
      by rw [← vB_set]; exact ((((h.b1.other (Ne.symm hn.s1) _ _).set _ _).other (Ne.symm hn.z1) _ _).other (Ne.symm hn.z1) _ _).other (Ne.symm hn.a1) _ _,
      by simpa using h.sa, h.sb, by simpa using h.ss, by simpa using h.s0, by simpa using h.s1, by show 0 ≤ S.kn + 1; omega, by show S.kn + 1 ≤ n; omega,
      ((((h.old.setCell (by simpa using hn.ls) _).setCell (by simpa using hn.l1) _).setCell (by simpa using hn.l0) _).setCell (by simpa using hn.l0) _).setCell (by simpa using hn.la) _⟩, rfl⟩
theorem take_next (o : List Bool) (k : Nat) (ho : o.length = 16) (hk : k < 16) : (o.take k ++ List.replicate (16 - k) false).set k (o.getD k false) = o.take (k + 1) ++ List.replicate (16 - (k + 1)) false := by
  have e1 : List.replicate (16 - k) false = false :: List.replicate (16 - (k + 1)) false := by rw [show 16 - k = (16 - (k + 1)) + 1 by omega, List.replicate_succ]
  have hl : (o.take k).length = k := by simp; omega
  rw [e1, List.set_append_right _ _ (by omega), hl, Nat.sub_self, List.set_cons_zero, List.take_succ_eq_append_getElem (by omega), List.append_assoc]
  simp [List.getD, show k < o.length by omega]

set_option maxRecDepth 100000 in
set_option maxHeartbeats 4000000 in
theorem pd9 (c0 c1 c2 c3 c4 c5 c6 c7 c8 c9 c10 c12 c13 c14 c15 c17 c18 c19 c20 c21 c22 c23 c24 c25 c26 c27 c28 c29 c30 c31 c32 c33 c34 c35 c36 c37 c38 c39 c40 c41 c42 c43 c44 c45 c46 c47 c48 c49 c50 c51 c52 c53 c54 c55 c56 c57 c58 c59 c60 c61 c62 c63 c64 c65 c66 c67 c68 c69 c70 c71 c72 c73 c74 c75 c76 c77 c78 c79 c80 c81 c82 c83 c84 c85 c86 c87 c88 c89 c90 c91 c92 c93 c94 c95 c96 c97 c98 c99 c100 c101 c102 c103 c104 c105 c106 c107 c108 c109 c110 c111 c112 c113 c114 c115 c116 c117 c118 c119 c120 c121 c122 c123 c124 c125 c126 c127 c128 c129 c130 c131 c132 c133 c134 c135 c136 c137 c138 c139 c140 c141 c142 c143 c144 c145 c146 c147 c148 c149 c150 c151 c152 c153 c154 c155 c156 c157 c158 c159 c160 c161 c162 : Value) (gh gs : Nat) (o : List Bool) (W : World) (K : Act → World → Prop) (Rr : Ending → World → Prop)
    (hh : RowV W gh 4 (vB o)) (hs : RowV W gs 4 (vB (List.replicate 16 false))) (ho : o.length = 16) (hne : gh ≠ gs)
    (hK : ∀ (u18 u71 u72 u73 u74 u75 u76 u77 u78 u79 u80 u81 : Value) (W' : World), (∃ f : World → World, W' = f W ∧ ∀ X, (∀ lo, lo ≤ gs → Below lo X (f X)) ∧ ∀ g t xs, g ≠ gs → RowV X g t xs → RowV (f X) g t xs) → RowV W' gs 4 (vB o) → K ⟨#[c0, c1, c2, c3, c4, c5, c6, c7, c8, c9, c10, .slice (some ⟨gh, 0, none⟩) 16 16, c12, c13, c14, c15, .slice (some ⟨gs, 0, none⟩) 16 16, c17, u18, c19, c20, c21, c22, c23, c24, c25, c26, c27, c28, c29, c30, c31, c32, c33, c34, c35, c36, c37, c38, c39, c40, c41, c42, c43, c44, c45, c46, c47, c48, c49, c50, c51, c52, c53, c54, c55, c56, c57, c58, c59, c60, c61, c62, c63, c64, c65, c66, c67, c68, c69, c70, u71, u72, u73, u74, u75, u76, u77, u78, u79, u80, u81, c82, c83, c84, c85, c86, c87, c88, c89, c90, c91, c92, c93, c94, c95, c96, c97, c98, c99, c100, c101, c102, c103, c104, c105, c106, c107, c108, c109, c110, c111, c112, c113, c114, c115, c116, c117, c118, c119, c120, c121, c122, c123, c124, c125, c126, c127, c128, c129, c130, c131, c132, c133, c134, c135, c136, c137, c138, c139, c140, c141, c142, c143, c144, c145, c146, c147, c148, c149, c150, c151, c152, c153, c154, c155, c156, c157, c158, c159, c160, c161, c162], []⟩ W') :
    Code.wp Try.prog (stm 9 (Try.f7.body.getD .skip)) (Exit.then K (bodyPost Try.prog Try.f7 Rr)) ⟨#[c0, c1, c2, c3, c4, c5, c6, c7, c8, c9, c10, .slice (some ⟨gh, 0, none⟩) 16 16, c12, c13, c14, c15, .slice (some ⟨gs, 0, none⟩) 16 16, c17, c18, c19, c20, c21, c22, c23, c24, c25, c26, c27, c28, c29, c30, c31, c32, c33, c34, c35, c36, c37, c38, c39, c40, c41, c42, c43, c44, c45, c46, c47, c48, c49, c50, c51, c52, c53, c54, c55, c56, c57, c58, c59, c60, c61, c62, c63, c64, c65, c66, c67, c68, c69, c70, c71, c72, c73, c74, c75, c76, c77, c78, c79, c80, c81, c82, c83, c84, c85, c86, c87, c88, c89, c90, c91, c92, c93, c94, c95, c96, c97, c98, c99, c100, c101, c102, c103, c104, c105, c106, c107, c108, c109, c110, c111, c112, c113, c114, c115, c116, c117, c118, c119, c120, c121, c122, c123, c124, c125, c126, c127, c128, c129, c130, c131, c132, c133, c134, c135, c136, c137, c138, c139, c140, c141, c142, c143, c144, c145, c146, c147, c148, c149, c150, c151, c152, c153, c154, c155, c156, c157, c158, c159, c160, c161, c162], []⟩ W := by
  have HK : Hid (∀ (u18 u71 u72 u73 u74 u75 u76 u77 u78 u79 u80 u81 : Value) (W' : World), (∃ f : World → World, W' = f W ∧ ∀ X, (∀ lo, lo ≤ gs → Below lo X (f X)) ∧ ∀ g t xs, g ≠ gs → RowV X g t xs → RowV (f X) g t xs) → RowV W' gs 4 (vB o) → K ⟨#[c0, c1, c2, c3, c4, c5, c6, c7, c8, c9, c10, .slice (some ⟨gh, 0, none⟩) 16 16, c12, c13, c14, c15, .slice (some ⟨gs, 0, none⟩) 16 16, c17, u18, c19, c20, c21, c22, c23, c24, c25, c26, c27, c28, c29, c30, c31, c32, c33, c34, c35, c36, c37, c38, c39, c40, c41, c42, c43, c44, c45, c46, c47, c48, c49, c50, c51, c52, c53, c54, c55, c56, c57, c58, c59, c60, c61, c62, c63, c64, c65, c66, c67, c68, c69, c70, u71, u72, u73, u74, u75, u76, u77, u78, u79, u80, u81, c82, c83, c84, c85, c86, c87, c88, c89, c90, c91, c92, c93, c94, c95, c96, c97, c98, c99, c100, c101, c102, c103, c104, c105, c106, c107, c108, c109, c110, c111, c112, c113, c114, c115, c116, c117, c118, c119, c120, c121, c122, c123, c124, c125, c126, c127, c128, c129, c130, c131, c132, c133, c134, c135, c136, c137, c138, c139, c140, c141, c142, c143, c144, c145, c146, c147, c148, c149, c150, c151, c152, c153, c154, c155, c156, c157, c158, c159, c160, c161, c162], []⟩ W') := hK
  clear hK
  conv => arg 2; whnf
  have H0 : Hid (RowV W gh 4 (vB o) ∧ RowV W gs 4 (vB (List.replicate 16 false)) ∧ o.length = 16 ∧ gh ≠ gs) := ⟨hh, hs, ho, hne⟩
  clear hh hs ho hne
  go_wp2_with fail
  go_loopw [18] (fun i wr => ∃ (k : Nat), k ≤ 16 ∧ i = .int .i64 (k : Int) ∧ RowV wr gh 4 (vB o) ∧ RowV wr gs 4 (vB (o.take k ++ List.replicate (16 - k) false)) ∧ ∃ f : World → World, wr = f W ∧ ∀ X, (∀ lo, lo ≤ gs → Below lo X (f X)) ∧ ∀ g t xs, g ≠ gs → RowV X g t xs → RowV (f X) g t xs) (fun i _ => 16 - (intOf i).toNat)
  case atStart => exact ⟨0, by omega, rfl, H0.out.1, by simpa using H0.out.2.1, id, rfl, fun X => ⟨fun lo _ => Below.refl _ _, fun g t xs _ h => h⟩⟩
  case round =>
    obtain ⟨k, hk, rfl, hI, hS, f, hf, hF⟩ := hrel
    by_cases hlt : k < 16
    · have hlt' : (k : Int) < 16 := by omega
      have r0 : wr.cell? ⟨gh, k, none⟩ = some (.bool (o.getD k false)) := hI.cell (vB_at (by have := H0.out.2.2.1; omega))
      have r1 : wr.cell? ⟨gs, k, none⟩ = some (.bool ((o.take k ++ List.replicate (16 - k) false).getD k false)) := hS.cell (vB_at (by have := H0.out.2.2.1; simp; omega))
      have rf := hI.frozen
      have rg := hS.frozen
      have gl := hI.lt
      have gl2 := hS.lt
      have hw2 : IntKind.i64.wrap ((k : Int) + 1) = (k : Int) + 1 := IntWalk.i64_in _ (by omega)
      have HN : Hid (RowV (wr.setCell ⟨gs, k, none⟩ (.bool (o.getD k false))) gh 4 (vB o) ∧ RowV (wr.setCell ⟨gs, k, none⟩ (.bool (o.getD k false))) gs 4 (vB (o.take (k + 1) ++ List.replicate (16 - (k + 1)) false)) ∧ ∃ f : World → World, wr.setCell ⟨gs, k, none⟩ (.bool (o.getD k false)) = f W ∧ ∀ X, (∀ lo, lo ≤ gs → Below lo X (f X)) ∧ ∀ g t xs, g ≠ gs → RowV X g t xs → RowV (f X) g t xs) := by
        refine ⟨hI.other H0.out.2.2.2 _ _, ?_, fun X => (f X).setCell ⟨gs, k, none⟩ (.bool (o.getD k false)), by rw [hf], fun X => ⟨fun lo hlo => ((hF X).1 lo hlo).setCell (by simpa using hlo) _, fun g t xs hg h => ((hF X).2 g t xs hg h).other hg _ _⟩⟩
        rw [← take_next o k H0.out.2.2.1 hlt, ← vB_set]
        exact hS.set k _
      clear hI hS hf hF
      revert HN r0 r1
      generalize o.getD k false = y
      generalize (o.take k ++ List.replicate (16 - k) false).getD k false = z
      intro r0 r1 HN
      go_wp2_with fail
      refine ⟨⟨k + 1, by omega, by go_num, HN.out.1, HN.out.2.1, HN.out.2.2⟩, ?_⟩
      simp [intOf]; omega
    · have e : k = 16 := by omega
      subst e
      have HE : Hid ((∃ f : World → World, wr = f W ∧ ∀ X, (∀ lo, lo ≤ gs → Below lo X (f X)) ∧ ∀ g t xs, g ≠ gs → RowV X g t xs → RowV (f X) g t xs) ∧ RowV wr gs 4 (vB o)) := ⟨⟨f, hf, hF⟩, by
        have := hS
        rw [Nat.sub_self, List.replicate_zero, List.append_nil, List.take_of_length_le (by have := H0.out.2.2.1; omega)] at this
        exact this⟩
      clear hI hS hf hF
      go_wp2_with fail
      exact HK.out _ _ _ _ _ _ _ _ _ _ _ _ _ HE.out.1 HE.out.2


end Go.Proofs.Ytlcdefpdahjjeaf
