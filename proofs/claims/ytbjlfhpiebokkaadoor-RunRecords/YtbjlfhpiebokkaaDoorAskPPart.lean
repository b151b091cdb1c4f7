/- A step asks the world for a word just where two words lead to other registers. -/
import Derived.Test.YtbjlfhpiebokkaaDoorMadeZPart
import Derived.Test.YtbjlfhpiebokkaaDoorRdAPart
import Derived.Deep.QuietTactic
import Derived.BigQuiet
namespace Go.Proofs.YtbjlfhpiebokkaaDoor
open Go.RowKit
set_option maxRecDepth 100000

def difR (l l' : List Int) : Nat → Bool
  | 0 => false
  | k + 1 => difR l l' k || (l.getD k 0 != l'.getD k 0)
theorem difR_same (l : List Int) : ∀ k, difR l l k = false
  | 0 => rfl
  | k + 1 => by simp [difR, difR_same l k]
theorem difR_at {l l' : List Int} {i : Nat} (h : l.getD i 0 ≠ l'.getD i 0) : ∀ k, i < k → difR l l' k = true
  | 0, hk => absurd hk (Nat.not_lt_zero _)
  | k + 1, hk => by
    by_cases e : i = k
    · subst e
      simp only [difR, Bool.or_eq_true]
      exact Or.inr (by simpa [bne_iff_ne] using h)
    · simp only [difR, Bool.or_eq_true]
      exact Or.inl (difR_at h k (by omega))
theorem exec_same {m : Mach} {op a b n v v' : Int} (h : ¬ (op = 10 ∧ (n = 0 ∨ n = 1))) : m.exec op a b n v = m.exec op a b n v' := by
  unfold Mach.exec
  by_cases h10 : op = 10
  · have hn : ¬ (n = 0 ∨ n = 1) := fun e => h ⟨h10, e⟩
    simp only [if_neg hn]
  · simp only [if_neg h10]
theorem exec_ask {m : Mach} {a b n v : Int} (hn : n = 0 ∨ n = 1) : m.exec 10 a b n v = ((m.setReg a v).go (m.pc + 1), -1) := by
  unfold Mach.exec
  simp only [if_pos hn]
  rfl
theorem asks_regs {m : Mach} (hm : MayP m) (irq : Bool) {blk : List Int} (hab : allB blk = true) (hl : blk.length = 0 ∨ blk.length = 16) (hf : m.fin = 0) :
    difR (m.step irq blk 1).1.regs (m.step irq blk 2).1.regs 8 = m.asks irq blk := by
  have hA : MayP (m.ahead irq blk) := (hm.told irq hab hl).enter
  unfold Mach.step
  rw [if_pos hf, if_pos hf]
  show difR ((m.ahead irq blk).counted.run1 1).1.regs ((m.ahead irq blk).counted.run1 2).1.regs 8 = _
  unfold Mach.asks
  obtain ⟨A, hAA⟩ : ∃ A, A = m.ahead irq blk := ⟨_, rfl⟩
  rw [← hAA] at hA ⊢
  have e1 : A.counted.nextE = A.nextE := rfl
  have e2 : A.counted.nextX = A.nextX := rfl
  unfold Mach.run1
  rw [e1, e2]
  by_cases hE : A.nextE = 0
  · rw [if_pos hE, if_pos hE]
    by_cases hq : A.nextX % 16 = 10 ∧ (A.nextX / 1024 = 0 ∨ A.nextX / 1024 = 1)
    · rw [hq.1, exec_ask hq.2, exec_ask hq.2]
      have hd : decide (m.fin = 0 ∧ A.nextE = 0 ∧ (10 : Int) = 10 ∧ (A.nextX / 1024 = 0 ∨ A.nextX / 1024 = 1)) = true := decide_eq_true ⟨hf, hE, rfl, hq.2⟩
      rw [hd]
      have h8 : A.regs.length = 8 := hA.regs
      have hi : (A.nextX / 16 % 8).toNat < A.regs.length := by omega
      refine difR_at (i := (A.nextX / 16 % 8).toNat) ?_ 8 (by omega)
      show ((A.regs.set (A.nextX / 16 % 8).toNat 1).getD (A.nextX / 16 % 8).toNat 0) ≠ ((A.regs.set (A.nextX / 16 % 8).toNat 2).getD (A.nextX / 16 % 8).toNat 0)
      rw [getD_set _ _ _ _ _ hi, getD_set _ _ _ _ _ hi]
      simp
    · have hd : decide (m.fin = 0 ∧ A.nextE = 0 ∧ A.nextX % 16 = 10 ∧ (A.nextX / 1024 = 0 ∨ A.nextX / 1024 = 1)) = false := decide_eq_false (fun h => hq ⟨h.2.2.1, h.2.2.2⟩)
      rw [hd, exec_same (v := 1) (v' := 2) hq, difR_same]
  · rw [if_neg hE, if_neg hE]
    have hd : decide (m.fin = 0 ∧ A.nextE = 0 ∧ A.nextX % 16 = 10 ∧ (A.nextX / 1024 = 0 ∨ A.nextX / 1024 = 1)) = false := decide_eq_false (fun h => hE h.2.1)
    rw [hd, difR_same]

end Go.Proofs.YtbjlfhpiebokkaaDoor

/- The document's recording: does the guest ask? (Written by tools/gen_rd.py.) -/

namespace Go.Proofs.YtbjlfhpiebokkaaDoor
open Go.RowKit

set_option linter.unusedVariables false in
set_option maxRecDepth 1000000 in
set_option maxHeartbeats 4000000 in
theorem rdD (c0 c1 c2 c3 c4 c5 c6 c7 c8 c9 c10 c11 c12 c13 c14 c15 c16 c17 c18 c20 c22 c23 c24 c25 c26 c27 c28 c29 c30 c31 c32 c33 c34 c35 c36 c37 c38 c39 c40 c41 c42 c43 c44 c45 c46 c47 c48 c49 c50 c51 c52 c53 c54 c55 c56 c57 c58 c59 c60 c61 c62 c63 c64 c65 c66 c67 c68 c69 c70 c71 c72 c73 c74 c75 c76 c77 c78 c79 c80 c81 c82 c83 c84 c85 c86 c87 c88 c89 c90 c91 c92 c93 c94 c95 c96 c97 c98 c99 c100 c101 c102 c103 c104 c105 c106 c107 c108 c109 c110 c111 c112 c113 c114 c115 c116 c117 c118 c119 c120 c121 c122 c123 c124 c125 c126 c127 c128 c129 c130 c131 c132 c133 c134 c135 c136 c137 c138 c139 c140 c141 c142 c143 c144 c145 c146 c147 c148 c149 c150 c151 c152 c153 c154 c155 c156 c157 c158 c159 c160 c161 c162 c163 c164 c165 c166 c167 c168 c169 c170 c171 c172 c173 c174 c175 c176 c177 c178 c179 c180 c181 c182 c183 c184 c185 c186 c187 c188 c189 c190 c191 c192 c193 c194 c195 c196 c197 c198 c199 c200 c201 c202 c203 c204 c205 c206 c207 c208 c209 c210 c211 c212 c213 c214 c215 : Value) (bx by_ : Nat) (rx mx ox ry my oy : Value) (X Y : Mach) (w W : World) (Q : Exit → Act → World → Prop) (K : Act → World → Prop) (hc : ∀ a' w', Code.wp Tryd.prog (rst 8 ((blockOf 1 (Tryd.f9.body.getD .skip)).getD .skip)) Q a' w' → K a' w')
    (hx : W.heap[bx]? = some (.cells (X.cells rx mx ox) 30 (0, 0))) (hy : W.heap[by_]? = some (.cells (Y.cells ry my oy) 30 (0, 0))) (ix : IntsAt W rx X.regs) (iy : IntsAt W ry Y.regs) (hX : X.regs.length = 8) (hY : Y.regs.length = 8)
    (hK : ∀ (u25 u120 u121 u122 u123 u124 u125 u126 u127 u128 u129 u130 u131 u132 u133 u134 u135 u136 u137 : Value) (n : Nat) (W' : World) (K' : Act → World → Prop) (J' : Act → World → Prop), W' = W.drewN n → (∀ a' w', Code.wp Tryd.prog (rst 11 ((blockOf 1 (Tryd.f9.body.getD .skip)).getD .skip)) Q a' w' → K' a' w') → (∀ a' w', Code.wp Tryd.prog (rst 1 (stm 10 ((blockOf 1 (Tryd.f9.body.getD .skip)).getD .skip))) (Exit.then K' Q) a' w' → J' a' w') → Code.wp Tryd.prog (stm 0 (stm 10 ((blockOf 1 (Tryd.f9.body.getD .skip)).getD .skip))) (Exit.then J' (Exit.then K' Q)) ⟨#[c0, c1, c2, c3, c4, c5, c6, c7, c8, c9, c10, c11, c12, c13, c14, c15, c16, c17, c18, .pointer (some ⟨bx, 0, none⟩), c20, .pointer (some ⟨by_, 0, none⟩), c22, .int .i64 0, .bool (difR X.regs Y.regs 8), u25, c26, c27, c28, c29, c30, c31, c32, c33, c34, c35, c36, c37, c38, c39, c40, c41, c42, c43, c44, c45, c46, c47, c48, c49, c50, c51, c52, c53, c54, c55, c56, c57, c58, c59, c60, c61, c62, c63, c64, c65, c66, c67, c68, c69, c70, c71, c72, c73, c74, c75, c76, c77, c78, c79, c80, c81, c82, c83, c84, c85, c86, c87, c88, c89, c90, c91, c92, c93, c94, c95, c96, c97, c98, c99, c100, c101, c102, c103, c104, c105, c106, c107, c108, c109, c110, c111, c112, c113, c114, c115, c116, c117, c118, c119, u120, u121, u122, u123, u124, u125, u126, u127, u128, u129, u130, u131, u132, u133, u134, u135, u136, u137, c138, c139, c140, c141, c142, c143, c144, c145, c146, c147, c148, c149, c150, c151, c152, c153, c154, c155, c156, c157, c158, c159, c160, c161, c162, c163, c164, c165, c166, c167, c168, c169, c170, c171, c172, c173, c174, c175, c176, c177, c178, c179, c180, c181, c182, c183, c184, c185, c186, c187, c188, c189, c190, c191, c192, c193, c194, c195, c196, c197, c198, c199, c200, c201, c202, c203, c204, c205, c206, c207, c208, c209, c210, c211, c212, c213, c214, c215], []⟩ W') :
    Code.wp Tryd.prog (stm 7 ((blockOf 1 (Tryd.f9.body.getD .skip)).getD .skip)) (Exit.then K Q) ⟨#[c0, c1, c2, c3, c4, c5, c6, c7, c8, c9, c10, c11, c12, c13, c14, c15, c16, c17, c18, .pointer (some ⟨bx, 0, none⟩), c20, .pointer (some ⟨by_, 0, none⟩), c22, c23, c24, c25, c26, c27, c28, c29, c30, c31, c32, c33, c34, c35, c36, c37, c38, c39, c40, c41, c42, c43, c44, c45, c46, c47, c48, c49, c50, c51, c52, c53, c54, c55, c56, c57, c58, c59, c60, c61, c62, c63, c64, c65, c66, c67, c68, c69, c70, c71, c72, c73, c74, c75, c76, c77, c78, c79, c80, c81, c82, c83, c84, c85, c86, c87, c88, c89, c90, c91, c92, c93, c94, c95, c96, c97, c98, c99, c100, c101, c102, c103, c104, c105, c106, c107, c108, c109, c110, c111, c112, c113, c114, c115, c116, c117, c118, c119, c120, c121, c122, c123, c124, c125, c126, c127, c128, c129, c130, c131, c132, c133, c134, c135, c136, c137, c138, c139, c140, c141, c142, c143, c144, c145, c146, c147, c148, c149, c150, c151, c152, c153, c154, c155, c156, c157, c158, c159, c160, c161, c162, c163, c164, c165, c166, c167, c168, c169, c170, c171, c172, c173, c174, c175, c176, c177, c178, c179, c180, c181, c182, c183, c184, c185, c186, c187, c188, c189, c190, c191, c192, c193, c194, c195, c196, c197, c198, c199, c200, c201, c202, c203, c204, c205, c206, c207, c208, c209, c210, c211, c212, c213, c214, c215], []⟩ W := by
  have HK : Hid (∀ (u25 u120 u121 u122 u123 u124 u125 u126 u127 u128 u129 u130 u131 u132 u133 u134 u135 u136 u137 : Value) (n : Nat) (W' : World) (K' : Act → World → Prop) (J' : Act → World → Prop), W' = W.drewN n → (∀ a' w', Code.wp Tryd.prog (rst 11 ((blockOf 1 (Tryd.f9.body.getD .skip)).getD .skip)) Q a' w' → K' a' w') → (∀ a' w', Code.wp Tryd.prog (rst 1 (stm 10 ((blockOf 1 (Tryd.f9.body.getD .skip)).getD .skip))) (Exit.then K' Q) a' w' → J' a' w') → Code.wp Tryd.prog (stm 0 (stm 10 ((blockOf 1 (Tryd.f9.body.getD .skip)).getD .skip))) (Exit.then J' (Exit.then K' Q)) ⟨#[c0, c1, c2, c3, c4, c5, c6, c7, c8, c9, c10, c11, c12, c13, c14, c15, c16, c17, c18, .pointer (some ⟨bx, 0, none⟩), c20, .pointer (some ⟨by_, 0, none⟩), c22, .int .i64 0, .bool (difR X.regs Y.regs 8), u25, c26, c27, c28, c29, c30, c31, c32, c33, c34, c35, c36, c37, c38, c39, c40, c41, c42, c43, c44, c45, c46, c47, c48, c49, c50, c51, c52, c53, c54, c55, c56, c57, c58, c59, c60, c61, c62, c63, c64, c65, c66, c67, c68, c69, c70, c71, c72, c73, c74, c75, c76, c77, c78, c79, c80, c81, c82, c83, c84, c85, c86, c87, c88, c89, c90, c91, c92, c93, c94, c95, c96, c97, c98, c99, c100, c101, c102, c103, c104, c105, c106, c107, c108, c109, c110, c111, c112, c113, c114, c115, c116, c117, c118, c119, u120, u121, u122, u123, u124, u125, u126, u127, u128, u129, u130, u131, u132, u133, u134, u135, u136, u137, c138, c139, c140, c141, c142, c143, c144, c145, c146, c147, c148, c149, c150, c151, c152, c153, c154, c155, c156, c157, c158, c159, c160, c161, c162, c163, c164, c165, c166, c167, c168, c169, c170, c171, c172, c173, c174, c175, c176, c177, c178, c179, c180, c181, c182, c183, c184, c185, c186, c187, c188, c189, c190, c191, c192, c193, c194, c195, c196, c197, c198, c199, c200, c201, c202, c203, c204, c205, c206, c207, c208, c209, c210, c211, c212, c213, c214, c215], []⟩ W') := hK
  clear hK
  conv => arg 2; whnf
  conv at hc => intro a' w'; lhs; arg 2; whnf
  obtain ⟨⟨m0, m1, m2, m3, m4, m5, m6, m7, m8, m9, m10, m11⟩, mf, ml⟩ := twelve_cells hx
  obtain ⟨⟨y0, y1, y2, y3, y4, y5, y6, y7, y8, y9, y10, y11⟩, yf, yl⟩ := twelve_cells hy
  obtain ⟨Ax, cx, rfl, hlx, hcx⟩ := ix
  obtain ⟨Ay, cy, rfl, hly, hcy⟩ := iy
  obtain ⟨b1, o1, rfl, hb1, hj1⟩ := hcx (by omega)
  obtain ⟨b2, o2, rfl, hb2, hj2⟩ := hcy (by omega)
  have HJ : Hid (∀ j, j < 8 → W.cell? ⟨b1, o1 + j, none⟩ = some (.int .i64 (X.regs.getD j 0)) ∧ W.cell? ⟨b2, o2 + j, none⟩ = some (.int .i64 (Y.regs.getD j 0))) := fun j hj => ⟨hj1 j (by omega), hj2 j (by omega)⟩
  rw [hX] at m0
  rw [hY] at y0
  obtain ⟨P, hP⟩ : ∃ P, P = X.regs := ⟨_, rfl⟩
  obtain ⟨Z, hZ⟩ : ∃ Z, Z = Y.regs := ⟨_, rfl⟩
  rw [← hP, ← hZ] at HJ HK
  clear hcx hcy hj1 hj2 hx hy hX hY hP hZ m1 m2 m3 m4 m5 m6 m7 m8 m9 m10 m11 y1 y2 y3 y4 y5 y6 y7 y8 y9 y10 y11 hlx hly
  go_wp2_with fail
  go_loopw [24, 25] (fun t i wr => ∃ (j n : Nat), j ≤ 8 ∧ i = .int .i64 j ∧ t = .bool (difR P Z j) ∧ wr = W.drewN n) (fun _ i _ => 8 - (intOf i).toNat)
  case atStart => exact ⟨0, 0, by omega, rfl, rfl, rfl⟩
  case round =>
    obtain ⟨j, n, hj, rfl, rfl, rfl⟩ := hrel
    by_cases hlt : j < 8
    · obtain ⟨g1, g2⟩ := HJ.out j hlt
      have hjz : (j : Int) < 8 := by omega
      have HT : Hid (difR P Z (j + 1) = (difR P Z j || (P.getD j 0 != Z.getD j 0))) := rfl
      obtain ⟨p, hp⟩ : ∃ p, P.getD j 0 = p := ⟨_, rfl⟩
      obtain ⟨z, hz⟩ : ∃ z, Z.getD j 0 = z := ⟨_, rfl⟩
      obtain ⟨t, ht⟩ : ∃ t, difR P Z j = t := ⟨_, rfl⟩
      rw [hp] at g1 HT
      rw [hz] at g2 HT
      rw [ht] at HT ⊢
      clear hp hz ht
      cases t
      · obtain ⟨d, hd⟩ : ∃ d, (p != z) = d := ⟨_, rfl⟩
        rw [hd] at HT
        have e2 : difR P Z (j + 1) = d := by rw [HT.out]; simp
        go_wp2_with fail
        go_quiet (fail)
        go_wp2_with fail
        go_roundw
        case rel => exact ⟨j + 1, _, by omega, by go_num, by rw [e2], rfl⟩
        case measure => simp [intOf]; omega
      · have e2 : difR P Z (j + 1) = true := by rw [HT.out]; simp
        go_wp2_with fail
        go_quiet (fail)
        go_wp2_with fail
        go_roundw
        case rel => exact ⟨j + 1, _, by omega, by go_num, by rw [e2], rfl⟩
        case measure => simp [intOf]; omega
    · obtain rfl : j = 8 := by omega
      have hjz : ¬ ((8 : Nat) : Int) < 8 := by omega
      go_upto_region 37 with fail
      (refine HK.out _ _ _ _ _ _ _ _ _ _ _ _ _ _ _ _ _ _ _ n _ _ _ rfl ?_ ?_ <;> assumption)


end Go.Proofs.YtbjlfhpiebokkaaDoor

/- The document's recording: what the guest is told. (Written by tools/gen_rd.py.) -/

namespace Go.Proofs.YtbjlfhpiebokkaaDoor
open Go.RowKit

set_option linter.unusedVariables false in
set_option maxRecDepth 1000000 in
set_option maxHeartbeats 4000000 in
theorem rdE (c0 c1 c2 c3 c5 c6 c7 c8 c10 c13 c14 c16 c17 c18 c19 c20 c21 c22 c25 c26 c27 c28 c29 c30 c31 c32 c33 c34 c35 c36 c37 c38 c39 c40 c41 c42 c43 c44 c45 c46 c47 c48 c49 c50 c51 c52 c53 c54 c55 c56 c57 c58 c59 c60 c61 c62 c63 c64 c65 c66 c67 c68 c69 c70 c71 c72 c73 c74 c75 c76 c77 c78 c79 c80 c81 c82 c83 c84 c85 c86 c87 c88 c89 c90 c91 c92 c93 c94 c95 c96 c97 c98 c99 c100 c101 c102 c103 c104 c105 c106 c107 c108 c109 c110 c111 c112 c113 c114 c115 c116 c117 c118 c119 c120 c121 c122 c123 c124 c125 c126 c127 c128 c129 c130 c131 c132 c133 c134 c135 c136 c137 c138 c139 c140 c141 c142 c143 c144 c145 c146 c147 c148 c149 c150 c151 c152 c153 c154 c155 c156 c157 c158 c159 c160 c161 c162 c163 c164 c165 c166 c167 c168 c169 c170 c171 c172 c173 c174 c175 c176 c177 c178 c179 c180 c181 c182 c183 c184 c185 c186 c187 c188 c189 c190 c191 c192 c193 c194 c195 c196 c197 c198 c199 c200 c201 c202 c203 c204 c205 c206 c207 c208 c209 c210 c211 c212 c213 c214 c215 : Value) (A0 A1 A2 A3 : Option Addr) (k0 k1 k2 k3 : Nat) (x : Wd) (b : Nat) (rv mv ov : Value) (M : Mach) (k : Nat) (Ae : Option Addr) (ce : Nat) (L : List Ev) (va : Nat) (ask : Bool) (Bb : Option Addr) (cb : Nat) (blk : List Int) (w W : World) (Q : Exit → Act → World → Prop) (K : Act → World → Prop) (hc : ∀ a' w', Code.wp Tryd.prog (rst 11 ((blockOf 1 (Tryd.f9.body.getD .skip)).getD .skip)) Q a' w' → K a' w') (J : Act → World → Prop) (hj : ∀ a' w', Code.wp Tryd.prog (rst 1 (stm 10 ((blockOf 1 (Tryd.f9.body.getD .skip)).getD .skip))) (Exit.then K Q) a' w' → J a' w')
    (h : RoAt w W #[.slice A0 x.irqs.length k0, .slice A1 x.values.length k1, .slice A2 x.blocks.length k2, .slice A3 x.delays.length k3] b rv mv ov M (.slice Ae L.length ce) L) (hw : WdAt w (.slice A0 x.irqs.length k0) (.slice A1 x.values.length k1) (.slice A2 x.blocks.length k2) (.slice A3 x.delays.length k3) x) (hL : L.length ≤ 5002) (hk : k < 3000) (hva : va ≤ 3000)
    (hbk : ∀ W1 W2, Below W.heap.size W W1 → KpI w.heap.size W1 W2 → IntsK (KKo rv mv ov) w.heap.size W2 (.slice Bb blk.length cb) blk)
    (hK : ∀ (u138 u139 u140 u141 u142 u143 u144 u145 u146 u147 u148 u149 u150 u151 u152 u153 u154 u155 u156 u157 : Value) (Ae' : Option Addr) (ce' : Nat) (L' : List Ev) (W' : World) (K' : Act → World → Prop) , L' = L ++ (if ask = true then [⟨k, 3, [x.values.getD va 0]⟩] else []) → IntsK (KKo rv mv ov) w.heap.size W' (.slice Bb blk.length cb) blk → RoAt w W' #[.slice A0 x.irqs.length k0, .slice A1 x.values.length k1, .slice A2 x.blocks.length k2, .slice A3 x.delays.length k3] b rv mv ov M (.slice Ae' L'.length ce') L' → (∀ a' w', Code.wp Tryd.prog (rst 12 ((blockOf 1 (Tryd.f9.body.getD .skip)).getD .skip)) Q a' w' → K' a' w') → Code.wp Tryd.prog (stm 11 ((blockOf 1 (Tryd.f9.body.getD .skip)).getD .skip)) (Exit.then K' Q) ⟨#[c0, c1, c2, c3, .pointer (some ⟨w.heap.size, 0, none⟩), c5, c6, c7, c8, .pointer (some ⟨b, 0, none⟩), c10, .slice Ae' L'.length ce', .int .i64 ((if ask = true then va + 1 else va : Nat) : Int), c13, c14, .int .i64 (k : Int), c16, c17, c18, c19, c20, c21, c22, .int .i64 (if ask = true then x.values.getD va 0 else 0), .bool ask, c25, c26, c27, c28, c29, c30, c31, c32, c33, c34, c35, c36, c37, c38, c39, c40, c41, c42, c43, c44, c45, c46, c47, c48, c49, c50, c51, c52, c53, c54, c55, c56, c57, c58, c59, c60, c61, c62, c63, c64, c65, c66, c67, c68, c69, c70, c71, c72, c73, c74, c75, c76, c77, c78, c79, c80, c81, c82, c83, c84, c85, c86, c87, c88, c89, c90, c91, c92, c93, c94, c95, c96, c97, c98, c99, c100, c101, c102, c103, c104, c105, c106, c107, c108, c109, c110, c111, c112, c113, c114, c115, c116, c117, c118, c119, c120, c121, c122, c123, c124, c125, c126, c127, c128, c129, c130, c131, c132, c133, c134, c135, c136, c137, u138, u139, u140, u141, u142, u143, u144, u145, u146, u147, u148, u149, u150, u151, u152, u153, u154, u155, u156, u157, c158, c159, c160, c161, c162, c163, c164, c165, c166, c167, c168, c169, c170, c171, c172, c173, c174, c175, c176, c177, c178, c179, c180, c181, c182, c183, c184, c185, c186, c187, c188, c189, c190, c191, c192, c193, c194, c195, c196, c197, c198, c199, c200, c201, c202, c203, c204, c205, c206, c207, c208, c209, c210, c211, c212, c213, c214, c215], []⟩ W') :
    Code.wp Tryd.prog (stm 0 (stm 10 ((blockOf 1 (Tryd.f9.body.getD .skip)).getD .skip))) (Exit.then J (Exit.then K Q)) ⟨#[c0, c1, c2, c3, .pointer (some ⟨w.heap.size, 0, none⟩), c5, c6, c7, c8, .pointer (some ⟨b, 0, none⟩), c10, .slice Ae L.length ce, .int .i64 (va : Int), c13, c14, .int .i64 (k : Int), c16, c17, c18, c19, c20, c21, c22, .int .i64 0, .bool ask, c25, c26, c27, c28, c29, c30, c31, c32, c33, c34, c35, c36, c37, c38, c39, c40, c41, c42, c43, c44, c45, c46, c47, c48, c49, c50, c51, c52, c53, c54, c55, c56, c57, c58, c59, c60, c61, c62, c63, c64, c65, c66, c67, c68, c69, c70, c71, c72, c73, c74, c75, c76, c77, c78, c79, c80, c81, c82, c83, c84, c85, c86, c87, c88, c89, c90, c91, c92, c93, c94, c95, c96, c97, c98, c99, c100, c101, c102, c103, c104, c105, c106, c107, c108, c109, c110, c111, c112, c113, c114, c115, c116, c117, c118, c119, c120, c121, c122, c123, c124, c125, c126, c127, c128, c129, c130, c131, c132, c133, c134, c135, c136, c137, c138, c139, c140, c141, c142, c143, c144, c145, c146, c147, c148, c149, c150, c151, c152, c153, c154, c155, c156, c157, c158, c159, c160, c161, c162, c163, c164, c165, c166, c167, c168, c169, c170, c171, c172, c173, c174, c175, c176, c177, c178, c179, c180, c181, c182, c183, c184, c185, c186, c187, c188, c189, c190, c191, c192, c193, c194, c195, c196, c197, c198, c199, c200, c201, c202, c203, c204, c205, c206, c207, c208, c209, c210, c211, c212, c213, c214, c215], []⟩ W := by
  have HK : Hid (∀ (u138 u139 u140 u141 u142 u143 u144 u145 u146 u147 u148 u149 u150 u151 u152 u153 u154 u155 u156 u157 : Value) (Ae' : Option Addr) (ce' : Nat) (L' : List Ev) (W' : World) (K' : Act → World → Prop) , L' = L ++ (if ask = true then [⟨k, 3, [x.values.getD va 0]⟩] else []) → IntsK (KKo rv mv ov) w.heap.size W' (.slice Bb blk.length cb) blk → RoAt w W' #[.slice A0 x.irqs.length k0, .slice A1 x.values.length k1, .slice A2 x.blocks.length k2, .slice A3 x.delays.length k3] b rv mv ov M (.slice Ae' L'.length ce') L' → (∀ a' w', Code.wp Tryd.prog (rst 12 ((blockOf 1 (Tryd.f9.body.getD .skip)).getD .skip)) Q a' w' → K' a' w') → Code.wp Tryd.prog (stm 11 ((blockOf 1 (Tryd.f9.body.getD .skip)).getD .skip)) (Exit.then K' Q) ⟨#[c0, c1, c2, c3, .pointer (some ⟨w.heap.size, 0, none⟩), c5, c6, c7, c8, .pointer (some ⟨b, 0, none⟩), c10, .slice Ae' L'.length ce', .int .i64 ((if ask = true then va + 1 else va : Nat) : Int), c13, c14, .int .i64 (k : Int), c16, c17, c18, c19, c20, c21, c22, .int .i64 (if ask = true then x.values.getD va 0 else 0), .bool ask, c25, c26, c27, c28, c29, c30, c31, c32, c33, c34, c35, c36, c37, c38, c39, c40, c41, c42, c43, c44, c45, c46, c47, c48, c49, c50, c51, c52, c53, c54, c55, c56, c57, c58, c59, c60, c61, c62, c63, c64, c65, c66, c67, c68, c69, c70, c71, c72, c73, c74, c75, c76, c77, c78, c79, c80, c81, c82, c83, c84, c85, c86, c87, c88, c89, c90, c91, c92, c93, c94, c95, c96, c97, c98, c99, c100, c101, c102, c103, c104, c105, c106, c107, c108, c109, c110, c111, c112, c113, c114, c115, c116, c117, c118, c119, c120, c121, c122, c123, c124, c125, c126, c127, c128, c129, c130, c131, c132, c133, c134, c135, c136, c137, u138, u139, u140, u141, u142, u143, u144, u145, u146, u147, u148, u149, u150, u151, u152, u153, u154, u155, u156, u157, c158, c159, c160, c161, c162, c163, c164, c165, c166, c167, c168, c169, c170, c171, c172, c173, c174, c175, c176, c177, c178, c179, c180, c181, c182, c183, c184, c185, c186, c187, c188, c189, c190, c191, c192, c193, c194, c195, c196, c197, c198, c199, c200, c201, c202, c203, c204, c205, c206, c207, c208, c209, c210, c211, c212, c213, c214, c215], []⟩ W') := hK
  clear hK
  conv => arg 2; whnf
  conv at hc => intro a' w'; lhs; arg 2; whnf
  conv at hj => intro a' w'; lhs; arg 2; whnf
  obtain ⟨i3, hi3, hz30, hz31, hz32⟩ := info_parts infoEvent
  have hold := h.old.size
  have H : Hid (RoAt w W #[.slice A0 x.irqs.length k0, .slice A1 x.values.length k1, .slice A2 x.blocks.length k2, .slice A3 x.delays.length k3] b rv mv ov M (.slice Ae L.length ce) L) := h
  have HG : Hid (∀ g, W.heap.size ≤ g → KKo rv mv ov g) := fun g hg => ⟨fun e => by have := ownsRow_lt H.out.own.regs e; omega, fun e => by have := ownsRow_lt H.out.own.mem e; omega, fun e => by have := ownsRow_lt H.out.own.out e; omega⟩
  have HIK : Hid (∀ W1 W2, Below W.heap.size W W1 → KpI w.heap.size W1 W2 → IntsK (KKo rv mv ov) w.heap.size W2 (.slice Bb blk.length cb) blk) := hbk
  cases ask
  · clear h hw
    go_upto_region 42 with fail
    (refine HK.out _ _ _ _ _ _ _ _ _ _ _ _ _ _ _ _ _ _ _ _ _ _ L W _ (by simp) (HIK.out _ _ (Below.refl _ _) (KpI.refl _ _)) H.out ?_; assumption)
  · obtain ⟨z0, z1, z2, z3, zf, zl⟩ := four_cells h.wb
    obtain ⟨Ai, ki, ei, hli, hci⟩ := hw.values.below h.old
    simp only [Value.slice.injEq, true_and] at ei
    obtain ⟨rfl, rfl⟩ := ei
    clear h hw
    by_cases hlt : va < x.values.length
    · obtain ⟨bi, oi, rfl, hbi, hcj⟩ := hci (by omega)
      have g := hcj va hlt
      have hvz : (va : Int) < (x.values.length : Int) := by omega
      obtain ⟨v, hv⟩ : ∃ v, x.values.getD va 0 = v := ⟨_, rfl⟩
      rw [hv] at g
      have HV : Hid (x.values.getD va 0 = v) := hv
      rw [hv] at HK
      clear hcj hci hv
      obtain ⟨R, hR, hRL, hR3⟩ := H.out.evs
      have hRn : R.length = L.length := by rw [← hRL, List.length_map]
      have HR : Hid (OwnV W w.heap.size (.slice Ae L.length ce) R ∧ R.map Prod.fst = L ∧ ∀ p ∈ R, ∀ g, p.2.ownBlock = some g → KKo rv mv ov g ∧ g < W.heap.size) := ⟨hR, hRL, hR3⟩
      have HO : Hid (W.ownsRow w.heap.size 54 3 (.slice Ae L.length ce) L.length (flat R)) := hRn ▸ hR.row
      have hLn : (flat R).length = L.length * 3 := HO.out.1
      clear hR hRL hR3
      go_upto_region 42 with (first
        | (at_builtin; refine wpList_append_own_at _ rfl _ _ 43 rfl w.heap.size 54 i3 (.agg #[.int .i64 0, .int .i64 0, .slice none 0 0]) 3 40 Tryd.underlying43 hi3 hz30 hz31 hz32 rfl (by decide) (.slice Ae L.length ce) L.length (flat R) rfl (World.ownsRow.alloc (World.ownsRow.alloc HO.out _) _) ⟨W.heap.size + 1, 0, none⟩ 1 1 [.int .i64 (k : Int), .int .i64 3, .slice (some ⟨W.heap.size, 0, none⟩) 1 1] rfl rfl ?c2 (by intro u hu; simp at hu; rcases hu with rfl | rfl | rfl <;> rfl) ?c3 ?c4 ?c5 ?_))
      case c3 => unfold maxLen; omega
      case c4 => omega
      case c5 => omega
      intro v' w3 hown hgrow _ _
      obtain ⟨A', c', rfl⟩ := row_shape hown
      have hA := below_alloc W (.cells #[.int .i64 v] 3)
      have hOI : OwnI (W.alloc (.cells #[.int .i64 v] 3)) W.heap.size (.slice (some ⟨W.heap.size, 0, none⟩) 1 1) [v] :=
        ⟨by simp, Or.inr ⟨W.heap.size, 1, _, rfl, Nat.le_refl _, Go.Deep.blk_alloc_new _ _, Nat.le_refl _, by unfold maxLen; omega, rfl, rfl⟩⟩
      have hN := EvI.noted (w := W.alloc (.cells #[.int .i64 v] 3)) (KK := KKo rv mv ov) (y := ⟨(k : Int), 3, [v]⟩) (d := .slice (some ⟨W.heap.size, 0, none⟩) 1 1) (HR.out.1.below hA hold) (fun p hp g hg => ⟨(HR.out.2.2 p hp g hg).1, Nat.lt_of_lt_of_le (HR.out.2.2 p hp g hg).2 hA.size⟩) (Nat.le_trans hold hA.size) (Or.inr (ownsRow_mono hOI hold)) (fun g e => by
        simp [Value.ownBlock] at e
        subst e
        exact ⟨HG.out _ (Nat.le_refl _), by simp⟩) hgrow (by rw [hRn]; exact hown)
      rw [HR.out.2.1] at hN
      have HN : Hid (RoAt w w3 _ b rv mv ov M (.slice A' (L.length + 1) c') (L ++ [⟨(k : Int), 3, [v]⟩]) ∧ KpI w.heap.size (W.alloc (.cells #[.int .i64 v] 3)) w3) := ⟨(H.out.below hA).kp hN.2 hN.1, hN.2⟩
      have HKK : Hid (IntsK (KKo rv mv ov) w.heap.size w3 (.slice Bb blk.length cb) blk) := HIK.out _ _ hA HN.out.2
      clear hN hown hgrow z0 z1 z2 z3 zf zl hA hOI
      go_upto_region 42 with fail
      have hl1 : (L ++ [(⟨(k : Int), 3, [v]⟩ : Ev)]).length = L.length + 1 := by simp
      have HN2 := HN.out.1
      rw [← hl1] at HN2 ⊢
      have hva : (va : Int) + 1 = ((va + 1 : Nat) : Int) := by omega
      rw [hva]
      (refine HK.out _ _ _ _ _ _ _ _ _ _ _ _ _ _ _ _ _ _ _ _ _ _ (L ++ [⟨(k : Int), 3, [v]⟩]) w3 _ (by simp) HKK.out HN2 ?_; assumption)

    · have hvz : ¬ (va : Int) < (x.values.length : Int) := by omega
      have hv : x.values.getD va 0 = 0 := by simp [List.getD, hlt]
      rw [hv] at HK
      clear hci hv
      obtain ⟨R, hR, hRL, hR3⟩ := H.out.evs
      have hRn : R.length = L.length := by rw [← hRL, List.length_map]
      have HR : Hid (OwnV W w.heap.size (.slice Ae L.length ce) R ∧ R.map Prod.fst = L ∧ ∀ p ∈ R, ∀ g, p.2.ownBlock = some g → KKo rv mv ov g ∧ g < W.heap.size) := ⟨hR, hRL, hR3⟩
      have HO : Hid (W.ownsRow w.heap.size 54 3 (.slice Ae L.length ce) L.length (flat R)) := hRn ▸ hR.row
      have hLn : (flat R).length = L.length * 3 := HO.out.1
      clear hR hRL hR3
      go_upto_region 42 with (first
        | (at_builtin; refine wpList_append_own_at _ rfl _ _ 43 rfl w.heap.size 54 i3 (.agg #[.int .i64 0, .int .i64 0, .slice none 0 0]) 3 40 Tryd.underlying43 hi3 hz30 hz31 hz32 rfl (by decide) (.slice Ae L.length ce) L.length (flat R) rfl (World.ownsRow.alloc (World.ownsRow.alloc HO.out _) _) ⟨W.heap.size + 1, 0, none⟩ 1 1 [.int .i64 (k : Int), .int .i64 3, .slice (some ⟨W.heap.size, 0, none⟩) 1 1] rfl rfl ?d2 (by intro u hu; simp at hu; rcases hu with rfl | rfl | rfl <;> rfl) ?d3 ?d4 ?d5 ?_))
      case d3 => unfold maxLen; omega
      case d4 => omega
      case d5 => omega
      intro v' w3 hown hgrow _ _
      obtain ⟨A', c', rfl⟩ := row_shape hown
      have hA := below_alloc W (.cells #[.int .i64 (0 : Int)] 3)
      have hOI : OwnI (W.alloc (.cells #[.int .i64 (0 : Int)] 3)) W.heap.size (.slice (some ⟨W.heap.size, 0, none⟩) 1 1) [(0 : Int)] :=
        ⟨by simp, Or.inr ⟨W.heap.size, 1, _, rfl, Nat.le_refl _, Go.Deep.blk_alloc_new _ _, Nat.le_refl _, by unfold maxLen; omega, rfl, rfl⟩⟩
      have hN := EvI.noted (w := W.alloc (.cells #[.int .i64 (0 : Int)] 3)) (KK := KKo rv mv ov) (y := ⟨(k : Int), 3, [(0 : Int)]⟩) (d := .slice (some ⟨W.heap.size, 0, none⟩) 1 1) (HR.out.1.below hA hold) (fun p hp g hg => ⟨(HR.out.2.2 p hp g hg).1, Nat.lt_of_lt_of_le (HR.out.2.2 p hp g hg).2 hA.size⟩) (Nat.le_trans hold hA.size) (Or.inr (ownsRow_mono hOI hold)) (fun g e => by
        simp [Value.ownBlock] at e
        subst e
        exact ⟨HG.out _ (Nat.le_refl _), by simp⟩) hgrow (by rw [hRn]; exact hown)
      rw [HR.out.2.1] at hN
      have HN : Hid (RoAt w w3 _ b rv mv ov M (.slice A' (L.length + 1) c') (L ++ [⟨(k : Int), 3, [(0 : Int)]⟩]) ∧ KpI w.heap.size (W.alloc (.cells #[.int .i64 (0 : Int)] 3)) w3) := ⟨(H.out.below hA).kp hN.2 hN.1, hN.2⟩
      have HKK : Hid (IntsK (KKo rv mv ov) w.heap.size w3 (.slice Bb blk.length cb) blk) := HIK.out _ _ hA HN.out.2
      clear hN hown hgrow z0 z1 z2 z3 zf zl hA hOI
      go_upto_region 42 with fail
      have hl1 : (L ++ [(⟨(k : Int), 3, [(0 : Int)]⟩ : Ev)]).length = L.length + 1 := by simp
      have HN2 := HN.out.1
      rw [← hl1] at HN2 ⊢
      have hva : (va : Int) + 1 = ((va + 1 : Nat) : Int) := by omega
      rw [hva]
      (refine HK.out _ _ _ _ _ _ _ _ _ _ _ _ _ _ _ _ _ _ _ _ _ _ (L ++ [⟨(k : Int), 3, [(0 : Int)]⟩]) w3 _ (by simp) HKK.out HN2 ?_; assumption)



end Go.Proofs.YtbjlfhpiebokkaaDoor
