/- Contract of hourglassref.GuestCopy: the same guest in new memory. -/
import Derived.Test.YtbjlfhpiebokkaaDoorWordsPart
import Derived.Test.YtbjlfhpiebokkaaDoorGuestPart
import Derived.Test.YtbjlfhpiebokkaaDoorRdAPart
namespace Go.Proofs.YtbjlfhpiebokkaaDoor
open Go.RowKit

set_option maxHeartbeats 4000000 in
theorem GuestCopy_any (m : Mach) (rv mv ov : Value) (w : World) (ha : MachAt w rv mv ov m) :
    Calls Tryd.prog 35 #[.agg (m.cells rv mv ov)] w fun e w' => ∃ rv' mv' ov', e = .returned (.agg (m.cells rv' mv' ov')) ∧ OwnM w' w.heap.size rv' mv' ov' m ∧ Below w.heap.size w w' := by
  obtain ⟨r, p, k, i, t, a, n, f, m, o, y, q⟩ := m
  have H1 : Hid (IntsAt w rv r) := ha.regs
  have H2 : Hid (IntsAt w mv m) := ha.mem
  have H3 : Hid (IntsAt w ov o) := ha.out
  clear ha
  simp only [Mach.cells]
  obtain ⟨b0, b1, b2⟩ := two_boxes (Below.refl (((w.alloc (.cells #[rv, .int .i64 p, .int .i64 k, .bool i, .bool t, .int .i64 a, .int .i64 n, .int .i64 f, mv, ov, .int .i64 y, .int .i64 q] 30)).alloc (.cells zeroM 30)).heap.size) ((w.alloc (.cells #[rv, .int .i64 p, .int .i64 k, .bool i, .bool t, .int .i64 a, .int .i64 n, .int .i64 f, mv, ov, .int .i64 y, .int .i64 q] 30)).alloc (.cells zeroM 30)))
  obtain ⟨W0, hW0⟩ : ∃ W0, W0 = ((w.alloc (.cells #[rv, .int .i64 p, .int .i64 k, .bool i, .bool t, .int .i64 a, .int .i64 n, .int .i64 f, mv, ov, .int .i64 y, .int .i64 q] 30)).alloc (.cells zeroM 30)) := ⟨_, rfl⟩
  have HW0 : Hid (W0 = ((w.alloc (.cells #[rv, .int .i64 p, .int .i64 k, .bool i, .bool t, .int .i64 a, .int .i64 n, .int .i64 f, mv, ov, .int .i64 y, .int .i64 q] 30)).alloc (.cells zeroM 30))) := hW0
  rw [← hW0] at b0 b1 b2
  clear hW0
  have B0 : Hid (W0.heap[w.heap.size]? = _ ∧ W0.heap[w.heap.size + 1]? = _ ∧ Below w.heap.size w W0) := ⟨b0, b1, b2⟩
  clear b0 b1 b2
  go_enter Tryd.func35, Tryd.ntmps35
  go_wp2_with fail
  rw [← HW0.out]
  refine (words_any rv r _ (H1.out.below B0.out.2.2)).mono ?_
  rintro e w1 ⟨A1, d1, rfl, ho1, hb1⟩
  clear H1 HW0
  have O1 : Hid (W0.heap.size ≤ w1.heap.size) := hb1.size
  obtain ⟨c0, c1, c2, c3, c4⟩ := copy_one (i := 0) B0.out.2.2 B0.out.1 B0.out.2.1 hb1 ho1
  obtain ⟨⟨z0, z1, z2, z3, z4, z5, z6, z7, z8, z9, z10, z11⟩, zf, zl⟩ := twelve_cells c0
  have C1 : Hid (_ ∧ _ ∧ _ ∧ _) := ⟨c1, c2, c3, c4⟩
  clear c0 c1 c2 c3 c4 ho1 hb1
  go_wp2_with fail
  clear z0 z1 z2 z3 z4 z5 z6 z7 z8 z9 z10 z11 zf zl
  refine (words_any mv m _ (H2.out.below C1.out.2.2.1)).mono ?_
  rintro e w2 ⟨A2, d2, rfl, ho2, hb2⟩
  clear H2
  have O2 : Hid (OwnI w2 W0.heap.size (.slice A1 r.length d1) r ∧ Apart (.slice A1 r.length d1) (.slice A2 m.length d2)) := ⟨C1.out.2.2.2.below hb2, apart_new C1.out.2.2.2 ho2 (Nat.le_refl _)⟩
  obtain ⟨c0, c1, c2, c3, c4⟩ := copy_one (i := 8) C1.out.2.2.1 C1.out.1 C1.out.2.1 hb2 ho2
  obtain ⟨⟨z0, z1, z2, z3, z4, z5, z6, z7, z8, z9, z10, z11⟩, zf, zl⟩ := twelve_cells c0
  have C2 : Hid (_ ∧ _ ∧ _ ∧ _) := ⟨c1, c2, c3, c4⟩
  have D2 : Hid (OwnI _ _ _ _) := O2.out.1.otherType (a := ⟨w.heap.size, 8, none⟩) c0 (by decide) (.slice A2 m.length d2)
  clear c0 c1 c2 c3 c4 ho2 hb2
  go_wp2_with fail
  clear z0 z1 z2 z3 z4 z5 z6 z7 z8 z9 z10 z11 zf zl
  refine (words_any ov o _ (H3.out.below C2.out.2.2.1)).mono ?_
  rintro e w3 ⟨A3, d3, rfl, ho3, hb3⟩
  clear H3
  have O3 : Hid (OwnI w3 w.heap.size (.slice A1 r.length d1) r ∧ OwnI w3 w.heap.size (.slice A2 m.length d2) m ∧ Apart (.slice A1 r.length d1) (.slice A3 o.length d3) ∧ Apart (.slice A2 m.length d2) (.slice A3 o.length d3)) :=
    ⟨ownsRow_mono (D2.out.below hb3) B0.out.2.2.size, ownsRow_mono (C2.out.2.2.2.below hb3) C1.out.2.2.1.size, apart_new D2.out ho3 (Nat.le_refl _), apart_new C2.out.2.2.2 ho3 (Nat.le_refl _)⟩
  obtain ⟨c0, c1, c2, c3, c4⟩ := copy_one (i := 9) C2.out.2.2.1 C2.out.1 C2.out.2.1 hb3 ho3
  obtain ⟨⟨z0, z1, z2, z3, z4, z5, z6, z7, z8, z9, z10, z11⟩, zf, zl⟩ := twelve_cells c0
  have cy : w3.heap[w.heap.size + 1]? = some (.cells zeroM 30 (0, 0)) := by rw [hb3.block _ (lt_of_block C2.out.2.1)]; exact C2.out.2.1
  obtain ⟨⟨y0, y1, y2, y3, y4, y5, y6, y7, y8, y9, y10, y11⟩, yf, yl⟩ := twelve_cells cy
  have HM : Hid (OwnM w3 w.heap.size (.slice A1 r.length d1) (.slice A2 m.length d2) (.slice A3 o.length d3) ⟨r, p, k, i, t, a, n, f, m, o, y, q⟩) :=
    ⟨O3.out.1, O3.out.2.1, ownsRow_mono ho3 C2.out.2.2.1.size, O2.out.2, O3.out.2.2.1, O3.out.2.2.2⟩
  have HB : Hid (IsBox w3 w.heap.size ∧ IsBox (w3.setCell ⟨w.heap.size, 9, none⟩ (.slice A3 o.length d3)) (w.heap.size + 1) ∧ Below w.heap.size w (w3.setCell ⟨w.heap.size, 9, none⟩ (.slice A3 o.length d3))) := ⟨⟨_, c0⟩, ⟨_, c2⟩, c3⟩
  clear c0 c1 c2 c3 c4 cy ho3 hb3 O3 O2 D2 C2 C1 O1 B0
  go_wp2_with fail
  refine bodyPost_ret (v := .agg #[.slice A1 r.length d1, .int .i64 p, .int .i64 k, .bool i, .bool t, .int .i64 a, .int .i64 n, .int .i64 f, .slice A2 m.length d2, .slice A3 o.length d3, .int .i64 y, .int .i64 q]) (by simp [results, Tryd.results35, go_sem, y0, y1, y2, y3, y4, y5, y6, y7, y8, y9, y10, y11]) rfl ?_
  exact ⟨_, _, _, rfl, (HM.out.box HB.out.1 9 _).set12 HB.out.2.1 _ _ _ _ _ _ _ _ _ _ _ _, below_set12 HB.out.2.2 (by omega) _ _ _ _ _ _ _ _ _ _ _ _⟩

end Go.Proofs.YtbjlfhpiebokkaaDoor

/- The document's recording: what the guest would be. (Written by tools/gen_rd.py.) -/

namespace Go.Proofs.YtbjlfhpiebokkaaDoor
open Go.RowKit

set_option linter.unusedVariables false in
set_option maxRecDepth 1000000 in
set_option maxHeartbeats 4000000 in
theorem rdC1 (c0 c1 c2 c3 c4 c5 c6 c7 c8 c10 c11 c12 c13 c14 c15 c17 c19 c20 c21 c22 c23 c24 c25 c26 c27 c28 c29 c30 c31 c32 c33 c34 c35 c36 c37 c38 c39 c40 c41 c42 c43 c44 c45 c46 c47 c48 c49 c50 c51 c52 c53 c54 c55 c56 c57 c58 c59 c60 c61 c62 c63 c64 c65 c66 c67 c68 c69 c70 c71 c72 c73 c74 c75 c76 c77 c78 c79 c80 c81 c82 c83 c84 c85 c86 c87 c88 c89 c90 c91 c92 c93 c94 c95 c96 c97 c98 c99 c100 c101 c102 c103 c104 c105 c106 c107 c108 c109 c110 c111 c112 c113 c114 c115 c116 c117 c118 c119 c120 c121 c122 c123 c124 c125 c126 c127 c128 c129 c130 c131 c132 c133 c134 c135 c136 c137 c138 c139 c140 c141 c142 c143 c144 c145 c146 c147 c148 c149 c150 c151 c152 c153 c154 c155 c156 c157 c158 c159 c160 c161 c162 c163 c164 c165 c166 c167 c168 c169 c170 c171 c172 c173 c174 c175 c176 c177 c178 c179 c180 c181 c182 c183 c184 c185 c186 c187 c188 c189 c190 c191 c192 c193 c194 c195 c196 c197 c198 c199 c200 c201 c202 c203 c204 c205 c206 c207 c208 c209 c210 c211 c212 c213 c214 c215 : Value) (A0 A1 A2 A3 : Option Addr) (k0 k1 k2 k3 : Nat) (x : Wd) (b : Nat) (rv mv ov : Value) (M : Mach) (k : Nat) (ev : Value) (L : List Ev) (irq : Bool) (Bb : Option Addr) (cb : Nat) (blk : List Int) (w W : World) (Q : Exit → Act → World → Prop) (K : Act → World → Prop) (hc : ∀ a' w', Code.wp Tryd.prog (rst 6 ((blockOf 1 (Tryd.f9.body.getD .skip)).getD .skip)) Q a' w' → K a' w')
    (h : RoAt w W #[.slice A0 x.irqs.length k0, .slice A1 x.values.length k1, .slice A2 x.blocks.length k2, .slice A3 x.delays.length k3] b rv mv ov M ev L) (hm : MayP M) (hbk : IntsK (KKo rv mv ov) w.heap.size W (.slice Bb blk.length cb) blk) (hl : blk.length = 0 ∨ blk.length = 16) (hab : allB blk = true) (hct : M.count ≤ 3000)
    (hK : ∀ (u20 u104 u105 u106 u107 u108 u109 u110 u111 : Value) (bx : Nat) (rx mx ox : Value) (W' : World) (K' : Act → World → Prop) , W.heap.size ≤ bx → W'.heap[bx]? = some (.cells ((M.step irq blk 1).1.cells rx mx ox) 30 (0, 0)) → OwnM W' W.heap.size rx mx ox (M.step irq blk 1).1 → Below W.heap.size W W' → (∀ a' w', Code.wp Tryd.prog (rst 7 ((blockOf 1 (Tryd.f9.body.getD .skip)).getD .skip)) Q a' w' → K' a' w') → Code.wp Tryd.prog (stm 6 ((blockOf 1 (Tryd.f9.body.getD .skip)).getD .skip)) (Exit.then K' Q) ⟨#[c0, c1, c2, c3, c4, c5, c6, c7, c8, .pointer (some ⟨b, 0, none⟩), c10, c11, c12, c13, c14, c15, .bool irq, c17, .slice Bb blk.length cb, .pointer (some ⟨bx, 0, none⟩), u20, c21, c22, c23, c24, c25, c26, c27, c28, c29, c30, c31, c32, c33, c34, c35, c36, c37, c38, c39, c40, c41, c42, c43, c44, c45, c46, c47, c48, c49, c50, c51, c52, c53, c54, c55, c56, c57, c58, c59, c60, c61, c62, c63, c64, c65, c66, c67, c68, c69, c70, c71, c72, c73, c74, c75, c76, c77, c78, c79, c80, c81, c82, c83, c84, c85, c86, c87, c88, c89, c90, c91, c92, c93, c94, c95, c96, c97, c98, c99, c100, c101, c102, c103, u104, u105, u106, u107, u108, u109, u110, u111, c112, c113, c114, c115, c116, c117, c118, c119, c120, c121, c122, c123, c124, c125, c126, c127, c128, c129, c130, c131, c132, c133, c134, c135, c136, c137, c138, c139, c140, c141, c142, c143, c144, c145, c146, c147, c148, c149, c150, c151, c152, c153, c154, c155, c156, c157, c158, c159, c160, c161, c162, c163, c164, c165, c166, c167, c168, c169, c170, c171, c172, c173, c174, c175, c176, c177, c178, c179, c180, c181, c182, c183, c184, c185, c186, c187, c188, c189, c190, c191, c192, c193, c194, c195, c196, c197, c198, c199, c200, c201, c202, c203, c204, c205, c206, c207, c208, c209, c210, c211, c212, c213, c214, c215], []⟩ W') :
    Code.wp Tryd.prog (stm 5 ((blockOf 1 (Tryd.f9.body.getD .skip)).getD .skip)) (Exit.then K Q) ⟨#[c0, c1, c2, c3, c4, c5, c6, c7, c8, .pointer (some ⟨b, 0, none⟩), c10, c11, c12, c13, c14, c15, .bool irq, c17, .slice Bb blk.length cb, c19, c20, c21, c22, c23, c24, c25, c26, c27, c28, c29, c30, c31, c32, c33, c34, c35, c36, c37, c38, c39, c40, c41, c42, c43, c44, c45, c46, c47, c48, c49, c50, c51, c52, c53, c54, c55, c56, c57, c58, c59, c60, c61, c62, c63, c64, c65, c66, c67, c68, c69, c70, c71, c72, c73, c74, c75, c76, c77, c78, c79, c80, c81, c82, c83, c84, c85, c86, c87, c88, c89, c90, c91, c92, c93, c94, c95, c96, c97, c98, c99, c100, c101, c102, c103, c104, c105, c106, c107, c108, c109, c110, c111, c112, c113, c114, c115, c116, c117, c118, c119, c120, c121, c122, c123, c124, c125, c126, c127, c128, c129, c130, c131, c132, c133, c134, c135, c136, c137, c138, c139, c140, c141, c142, c143, c144, c145, c146, c147, c148, c149, c150, c151, c152, c153, c154, c155, c156, c157, c158, c159, c160, c161, c162, c163, c164, c165, c166, c167, c168, c169, c170, c171, c172, c173, c174, c175, c176, c177, c178, c179, c180, c181, c182, c183, c184, c185, c186, c187, c188, c189, c190, c191, c192, c193, c194, c195, c196, c197, c198, c199, c200, c201, c202, c203, c204, c205, c206, c207, c208, c209, c210, c211, c212, c213, c214, c215], []⟩ W := by
  have HK : Hid (∀ (u20 u104 u105 u106 u107 u108 u109 u110 u111 : Value) (bx : Nat) (rx mx ox : Value) (W' : World) (K' : Act → World → Prop) , W.heap.size ≤ bx → W'.heap[bx]? = some (.cells ((M.step irq blk 1).1.cells rx mx ox) 30 (0, 0)) → OwnM W' W.heap.size rx mx ox (M.step irq blk 1).1 → Below W.heap.size W W' → (∀ a' w', Code.wp Tryd.prog (rst 7 ((blockOf 1 (Tryd.f9.body.getD .skip)).getD .skip)) Q a' w' → K' a' w') → Code.wp Tryd.prog (stm 6 ((blockOf 1 (Tryd.f9.body.getD .skip)).getD .skip)) (Exit.then K' Q) ⟨#[c0, c1, c2, c3, c4, c5, c6, c7, c8, .pointer (some ⟨b, 0, none⟩), c10, c11, c12, c13, c14, c15, .bool irq, c17, .slice Bb blk.length cb, .pointer (some ⟨bx, 0, none⟩), u20, c21, c22, c23, c24, c25, c26, c27, c28, c29, c30, c31, c32, c33, c34, c35, c36, c37, c38, c39, c40, c41, c42, c43, c44, c45, c46, c47, c48, c49, c50, c51, c52, c53, c54, c55, c56, c57, c58, c59, c60, c61, c62, c63, c64, c65, c66, c67, c68, c69, c70, c71, c72, c73, c74, c75, c76, c77, c78, c79, c80, c81, c82, c83, c84, c85, c86, c87, c88, c89, c90, c91, c92, c93, c94, c95, c96, c97, c98, c99, c100, c101, c102, c103, u104, u105, u106, u107, u108, u109, u110, u111, c112, c113, c114, c115, c116, c117, c118, c119, c120, c121, c122, c123, c124, c125, c126, c127, c128, c129, c130, c131, c132, c133, c134, c135, c136, c137, c138, c139, c140, c141, c142, c143, c144, c145, c146, c147, c148, c149, c150, c151, c152, c153, c154, c155, c156, c157, c158, c159, c160, c161, c162, c163, c164, c165, c166, c167, c168, c169, c170, c171, c172, c173, c174, c175, c176, c177, c178, c179, c180, c181, c182, c183, c184, c185, c186, c187, c188, c189, c190, c191, c192, c193, c194, c195, c196, c197, c198, c199, c200, c201, c202, c203, c204, c205, c206, c207, c208, c209, c210, c211, c212, c213, c214, c215], []⟩ W') := hK
  clear hK
  conv => arg 2; whnf
  conv at hc => intro a' w'; lhs; arg 2; whnf
  have H : Hid (RoAt w W #[.slice A0 x.irqs.length k0, .slice A1 x.values.length k1, .slice A2 x.blocks.length k2, .slice A3 x.delays.length k3] b rv mv ov M ev L) := h
  obtain ⟨⟨m0, m1, m2, m3, m4, m5, m6, m7, m8, m9, m10, m11⟩, mf, ml⟩ := twelve_cells h.mb
  have HC : Hid (Calls Tryd.prog 35 #[.agg (M.cells rv mv ov)] W fun e w' => ∃ rv' mv' ov', e = .returned (.agg (M.cells rv' mv' ov')) ∧ OwnM w' W.heap.size rv' mv' ov' M ∧ Below W.heap.size W w') := GuestCopy_any M rv mv ov W (h.own.at hm.fits)
  have HI : Hid (IntsOld W.heap.size W (.slice Bb blk.length cb) blk) := by
    obtain ⟨A, c, e, h8, hc⟩ := hbk
    refine ⟨A, c, e, h8, fun h0 => ?_⟩
    obtain ⟨b4, o4, e5, hlt, hj⟩ := hc h0
    exact ⟨b4, o4, e5, hlt.1, hj⟩
  have HM : Hid (MayP M ∧ (blk.length = 0 ∨ blk.length = 16) ∧ allB blk = true ∧ M.count < 1099511627776) := ⟨hm, hl, hab, by omega⟩
  obtain ⟨R, hR⟩ : ∃ R, R = M.step irq blk 1 := ⟨_, rfl⟩
  rw [← hR] at HK
  have HR : Hid (R = M.step irq blk 1) := hR
  clear h hR hbk
  go_upto_region 30 with (first
    | (go_at_call 35; refine HC.out.mono ?_; rintro e w1 ⟨r1, p1, o1, rfl, ho1, hb1⟩; have H1 : Hid (OwnM w1 W.heap.size r1 p1 o1 M ∧ Below W.heap.size W w1) := ⟨ho1, hb1⟩; obtain ⟨B1a, d1, B2a, d2, B3a, d3, rfl, rfl, rfl⟩ := ho1.shape; clear ho1 hb1)
    | (go_at_call 34; refine (stepped_any M _ _ _ irq Bb cb blk 1 _ W.heap.size H1.out.1 HM.out.1 H1.out.2.size (HI.out.below H1.out.2) HM.out.2.1 HM.out.2.2.1 HM.out.2.2.2).mono ?_; rintro e w2 ⟨r2, p2, o2, rfl, ho2, hb2⟩; rw [← HR.out] at ho2 ⊢; obtain ⟨C1a, e1, C2a, e2, C3a, e3, rfl, rfl, rfl⟩ := ho2.shape; have H2 : Hid (OwnM w2 W.heap.size (.slice C1a R.1.regs.length e1) (.slice C2a R.1.mem.length e2) (.slice C3a R.1.out.length e3) R.1 ∧ Below W.heap.size W w2) := ⟨ho2, H1.out.2.trans (hb2)⟩; clear ho2 hb2; dsimp only [Mach.cells]))
  have hb2 := H2.out.2
  (refine HK.out _ _ _ _ _ _ _ _ _ w2.heap.size _ _ _ _ _ hb2.size (Go.Deep.blk_alloc_new _ _) (H2.out.1.below (below_alloc _ _)) (hb2.trans ((below_alloc _ _).mono hb2.size)) ?_; assumption)


set_option linter.unusedVariables false in
set_option maxRecDepth 1000000 in
set_option maxHeartbeats 4000000 in
theorem rdC2 (c0 c1 c2 c3 c4 c5 c6 c7 c8 c10 c11 c12 c13 c14 c15 c17 c19 c20 c21 c22 c23 c24 c25 c26 c27 c28 c29 c30 c31 c32 c33 c34 c35 c36 c37 c38 c39 c40 c41 c42 c43 c44 c45 c46 c47 c48 c49 c50 c51 c52 c53 c54 c55 c56 c57 c58 c59 c60 c61 c62 c63 c64 c65 c66 c67 c68 c69 c70 c71 c72 c73 c74 c75 c76 c77 c78 c79 c80 c81 c82 c83 c84 c85 c86 c87 c88 c89 c90 c91 c92 c93 c94 c95 c96 c97 c98 c99 c100 c101 c102 c103 c104 c105 c106 c107 c108 c109 c110 c111 c112 c113 c114 c115 c116 c117 c118 c119 c120 c121 c122 c123 c124 c125 c126 c127 c128 c129 c130 c131 c132 c133 c134 c135 c136 c137 c138 c139 c140 c141 c142 c143 c144 c145 c146 c147 c148 c149 c150 c151 c152 c153 c154 c155 c156 c157 c158 c159 c160 c161 c162 c163 c164 c165 c166 c167 c168 c169 c170 c171 c172 c173 c174 c175 c176 c177 c178 c179 c180 c181 c182 c183 c184 c185 c186 c187 c188 c189 c190 c191 c192 c193 c194 c195 c196 c197 c198 c199 c200 c201 c202 c203 c204 c205 c206 c207 c208 c209 c210 c211 c212 c213 c214 c215 : Value) (A0 A1 A2 A3 : Option Addr) (k0 k1 k2 k3 : Nat) (x : Wd) (b : Nat) (rv mv ov : Value) (M : Mach) (k : Nat) (ev : Value) (L : List Ev) (irq : Bool) (Bb : Option Addr) (cb : Nat) (blk : List Int) (w W : World) (Q : Exit → Act → World → Prop) (K : Act → World → Prop) (hc : ∀ a' w', Code.wp Tryd.prog (rst 7 ((blockOf 1 (Tryd.f9.body.getD .skip)).getD .skip)) Q a' w' → K a' w')
    (h : RoAt w W #[.slice A0 x.irqs.length k0, .slice A1 x.values.length k1, .slice A2 x.blocks.length k2, .slice A3 x.delays.length k3] b rv mv ov M ev L) (hm : MayP M) (hbk : IntsK (KKo rv mv ov) w.heap.size W (.slice Bb blk.length cb) blk) (hl : blk.length = 0 ∨ blk.length = 16) (hab : allB blk = true) (hct : M.count ≤ 3000)
    (hK : ∀ (u22 u112 u113 u114 u115 u116 u117 u118 u119 : Value) (bx : Nat) (rx mx ox : Value) (W' : World) (K' : Act → World → Prop) , W.heap.size ≤ bx → W'.heap[bx]? = some (.cells ((M.step irq blk 2).1.cells rx mx ox) 30 (0, 0)) → OwnM W' W.heap.size rx mx ox (M.step irq blk 2).1 → Below W.heap.size W W' → (∀ a' w', Code.wp Tryd.prog (rst 8 ((blockOf 1 (Tryd.f9.body.getD .skip)).getD .skip)) Q a' w' → K' a' w') → Code.wp Tryd.prog (stm 7 ((blockOf 1 (Tryd.f9.body.getD .skip)).getD .skip)) (Exit.then K' Q) ⟨#[c0, c1, c2, c3, c4, c5, c6, c7, c8, .pointer (some ⟨b, 0, none⟩), c10, c11, c12, c13, c14, c15, .bool irq, c17, .slice Bb blk.length cb, c19, c20, .pointer (some ⟨bx, 0, none⟩), u22, c23, c24, c25, c26, c27, c28, c29, c30, c31, c32, c33, c34, c35, c36, c37, c38, c39, c40, c41, c42, c43, c44, c45, c46, c47, c48, c49, c50, c51, c52, c53, c54, c55, c56, c57, c58, c59, c60, c61, c62, c63, c64, c65, c66, c67, c68, c69, c70, c71, c72, c73, c74, c75, c76, c77, c78, c79, c80, c81, c82, c83, c84, c85, c86, c87, c88, c89, c90, c91, c92, c93, c94, c95, c96, c97, c98, c99, c100, c101, c102, c103, c104, c105, c106, c107, c108, c109, c110, c111, u112, u113, u114, u115, u116, u117, u118, u119, c120, c121, c122, c123, c124, c125, c126, c127, c128, c129, c130, c131, c132, c133, c134, c135, c136, c137, c138, c139, c140, c141, c142, c143, c144, c145, c146, c147, c148, c149, c150, c151, c152, c153, c154, c155, c156, c157, c158, c159, c160, c161, c162, c163, c164, c165, c166, c167, c168, c169, c170, c171, c172, c173, c174, c175, c176, c177, c178, c179, c180, c181, c182, c183, c184, c185, c186, c187, c188, c189, c190, c191, c192, c193, c194, c195, c196, c197, c198, c199, c200, c201, c202, c203, c204, c205, c206, c207, c208, c209, c210, c211, c212, c213, c214, c215], []⟩ W') :
    Code.wp Tryd.prog (stm 6 ((blockOf 1 (Tryd.f9.body.getD .skip)).getD .skip)) (Exit.then K Q) ⟨#[c0, c1, c2, c3, c4, c5, c6, c7, c8, .pointer (some ⟨b, 0, none⟩), c10, c11, c12, c13, c14, c15, .bool irq, c17, .slice Bb blk.length cb, c19, c20, c21, c22, c23, c24, c25, c26, c27, c28, c29, c30, c31, c32, c33, c34, c35, c36, c37, c38, c39, c40, c41, c42, c43, c44, c45, c46, c47, c48, c49, c50, c51, c52, c53, c54, c55, c56, c57, c58, c59, c60, c61, c62, c63, c64, c65, c66, c67, c68, c69, c70, c71, c72, c73, c74, c75, c76, c77, c78, c79, c80, c81, c82, c83, c84, c85, c86, c87, c88, c89, c90, c91, c92, c93, c94, c95, c96, c97, c98, c99, c100, c101, c102, c103, c104, c105, c106, c107, c108, c109, c110, c111, c112, c113, c114, c115, c116, c117, c118, c119, c120, c121, c122, c123, c124, c125, c126, c127, c128, c129, c130, c131, c132, c133, c134, c135, c136, c137, c138, c139, c140, c141, c142, c143, c144, c145, c146, c147, c148, c149, c150, c151, c152, c153, c154, c155, c156, c157, c158, c159, c160, c161, c162, c163, c164, c165, c166, c167, c168, c169, c170, c171, c172, c173, c174, c175, c176, c177, c178, c179, c180, c181, c182, c183, c184, c185, c186, c187, c188, c189, c190, c191, c192, c193, c194, c195, c196, c197, c198, c199, c200, c201, c202, c203, c204, c205, c206, c207, c208, c209, c210, c211, c212, c213, c214, c215], []⟩ W := by
  have HK : Hid (∀ (u22 u112 u113 u114 u115 u116 u117 u118 u119 : Value) (bx : Nat) (rx mx ox : Value) (W' : World) (K' : Act → World → Prop) , W.heap.size ≤ bx → W'.heap[bx]? = some (.cells ((M.step irq blk 2).1.cells rx mx ox) 30 (0, 0)) → OwnM W' W.heap.size rx mx ox (M.step irq blk 2).1 → Below W.heap.size W W' → (∀ a' w', Code.wp Tryd.prog (rst 8 ((blockOf 1 (Tryd.f9.body.getD .skip)).getD .skip)) Q a' w' → K' a' w') → Code.wp Tryd.prog (stm 7 ((blockOf 1 (Tryd.f9.body.getD .skip)).getD .skip)) (Exit.then K' Q) ⟨#[c0, c1, c2, c3, c4, c5, c6, c7, c8, .pointer (some ⟨b, 0, none⟩), c10, c11, c12, c13, c14, c15, .bool irq, c17, .slice Bb blk.length cb, c19, c20, .pointer (some ⟨bx, 0, none⟩), u22, c23, c24, c25, c26, c27, c28, c29, c30, c31, c32, c33, c34, c35, c36, c37, c38, c39, c40, c41, c42, c43, c44, c45, c46, c47, c48, c49, c50, c51, c52, c53, c54, c55, c56, c57, c58, c59, c60, c61, c62, c63, c64, c65, c66, c67, c68, c69, c70, c71, c72, c73, c74, c75, c76, c77, c78, c79, c80, c81, c82, c83, c84, c85, c86, c87, c88, c89, c90, c91, c92, c93, c94, c95, c96, c97, c98, c99, c100, c101, c102, c103, c104, c105, c106, c107, c108, c109, c110, c111, u112, u113, u114, u115, u116, u117, u118, u119, c120, c121, c122, c123, c124, c125, c126, c127, c128, c129, c130, c131, c132, c133, c134, c135, c136, c137, c138, c139, c140, c141, c142, c143, c144, c145, c146, c147, c148, c149, c150, c151, c152, c153, c154, c155, c156, c157, c158, c159, c160, c161, c162, c163, c164, c165, c166, c167, c168, c169, c170, c171, c172, c173, c174, c175, c176, c177, c178, c179, c180, c181, c182, c183, c184, c185, c186, c187, c188, c189, c190, c191, c192, c193, c194, c195, c196, c197, c198, c199, c200, c201, c202, c203, c204, c205, c206, c207, c208, c209, c210, c211, c212, c213, c214, c215], []⟩ W') := hK
  clear hK
  conv => arg 2; whnf
  conv at hc => intro a' w'; lhs; arg 2; whnf
  have H : Hid (RoAt w W #[.slice A0 x.irqs.length k0, .slice A1 x.values.length k1, .slice A2 x.blocks.length k2, .slice A3 x.delays.length k3] b rv mv ov M ev L) := h
  obtain ⟨⟨m0, m1, m2, m3, m4, m5, m6, m7, m8, m9, m10, m11⟩, mf, ml⟩ := twelve_cells h.mb
  have HC : Hid (Calls Tryd.prog 35 #[.agg (M.cells rv mv ov)] W fun e w' => ∃ rv' mv' ov', e = .returned (.agg (M.cells rv' mv' ov')) ∧ OwnM w' W.heap.size rv' mv' ov' M ∧ Below W.heap.size W w') := GuestCopy_any M rv mv ov W (h.own.at hm.fits)
  have HI : Hid (IntsOld W.heap.size W (.slice Bb blk.length cb) blk) := by
    obtain ⟨A, c, e, h8, hc⟩ := hbk
    refine ⟨A, c, e, h8, fun h0 => ?_⟩
    obtain ⟨b4, o4, e5, hlt, hj⟩ := hc h0
    exact ⟨b4, o4, e5, hlt.1, hj⟩
  have HM : Hid (MayP M ∧ (blk.length = 0 ∨ blk.length = 16) ∧ allB blk = true ∧ M.count < 1099511627776) := ⟨hm, hl, hab, by omega⟩
  obtain ⟨R, hR⟩ : ∃ R, R = M.step irq blk 2 := ⟨_, rfl⟩
  rw [← hR] at HK
  have HR : Hid (R = M.step irq blk 2) := hR
  clear h hR hbk
  go_upto_region 31 with (first
    | (go_at_call 35; refine HC.out.mono ?_; rintro e w1 ⟨r1, p1, o1, rfl, ho1, hb1⟩; have H1 : Hid (OwnM w1 W.heap.size r1 p1 o1 M ∧ Below W.heap.size W w1) := ⟨ho1, hb1⟩; obtain ⟨B1a, d1, B2a, d2, B3a, d3, rfl, rfl, rfl⟩ := ho1.shape; clear ho1 hb1)
    | (go_at_call 34; refine (stepped_any M _ _ _ irq Bb cb blk 2 _ W.heap.size H1.out.1 HM.out.1 H1.out.2.size (HI.out.below H1.out.2) HM.out.2.1 HM.out.2.2.1 HM.out.2.2.2).mono ?_; rintro e w2 ⟨r2, p2, o2, rfl, ho2, hb2⟩; rw [← HR.out] at ho2 ⊢; obtain ⟨C1a, e1, C2a, e2, C3a, e3, rfl, rfl, rfl⟩ := ho2.shape; have H2 : Hid (OwnM w2 W.heap.size (.slice C1a R.1.regs.length e1) (.slice C2a R.1.mem.length e2) (.slice C3a R.1.out.length e3) R.1 ∧ Below W.heap.size W w2) := ⟨ho2, H1.out.2.trans (hb2)⟩; clear ho2 hb2; dsimp only [Mach.cells]))
  have hb2 := H2.out.2
  (refine HK.out _ _ _ _ _ _ _ _ _ w2.heap.size _ _ _ _ _ hb2.size (Go.Deep.blk_alloc_new _ _) (H2.out.1.below (below_alloc _ _)) (hb2.trans ((below_alloc _ _).mono hb2.size)) ?_; assumption)


end Go.Proofs.YtbjlfhpiebokkaaDoor
