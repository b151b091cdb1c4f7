/- The document's recording: a round. (Written by tools/gen_rd.py.) -/
import Derived.Test.YtbjlfhpiebokkaaDoorWordsPart
import Derived.Test.YtbjlfhpiebokkaaDoorGuestCopyPart
import Derived.Test.YtbjlfhpiebokkaaDoorAskPPart
import Derived.Test.YtbjlfhpiebokkaaDoorRdGPart
import Derived.Test.YtbjlfhpiebokkaaDoorRcSPart
import Derived.WalkSpells
import Derived.Deep.RegionHeld3
namespace Go.Proofs.YtbjlfhpiebokkaaDoor
open Go.RowKit

set_option linter.unusedVariables false in
set_option maxRecDepth 1000000 in
set_option maxHeartbeats 4000000 in
theorem rdRound (c0 c1 c2 c3 c5 c6 c7 c8 c10 c16 c17 c18 c19 c20 c21 c22 c23 c24 c25 c26 c27 c28 c29 c30 c31 c32 c33 c34 c35 c36 c37 c38 c39 c40 c41 c42 c43 c44 c45 c46 c47 c48 c49 c50 c51 c52 c53 c54 c55 c56 c57 c58 c59 c60 c61 c62 c63 c64 c65 c66 c67 c68 c69 c70 c71 c72 c73 c74 c75 c76 c77 c78 c79 c80 c81 c82 c83 c84 c85 c86 c87 c88 c89 c90 c91 c92 c93 c94 c95 c96 c97 c98 c99 c100 c101 c102 c103 c104 c105 c106 c107 c108 c109 c110 c111 c112 c113 c114 c115 c116 c117 c118 c119 c120 c121 c122 c123 c124 c125 c126 c127 c128 c129 c130 c131 c132 c133 c134 c135 c136 c137 c138 c139 c140 c141 c142 c143 c144 c145 c146 c147 c148 c149 c150 c151 c152 c153 c154 c155 c156 c157 c158 c159 c160 c161 c162 c163 c164 c165 c166 c167 c168 c169 c170 c171 c172 c173 c174 c175 c176 c177 c178 c179 c180 c181 c182 c183 c184 c185 c186 c187 c188 c189 c190 c191 c192 c193 c194 c195 c196 c197 c198 c199 c200 c201 c202 c203 c204 c205 c206 c207 c208 c209 c210 c211 c212 c213 c214 c215 : Value) (A0 A1 A2 A3 : Option Addr) (k0 k1 k2 k3 : Nat) (x : Wd) (b : Nat) (rv mv ov : Value) (k : Nat) (s : RecS) (Ae : Option Addr) (ce : Nat) (w W : World) (Q : Exit → Act → World → Prop) (K : Act → World → Prop) (hc : ∀ a' w', Code.wp Tryd.prog (rst 1 ((blockOf 1 (Tryd.f9.body.getD .skip)).getD .skip)) Q a' w' → K a' w')
    (h : RoAt w W #[.slice A0 x.irqs.length k0, .slice A1 x.values.length k1, .slice A2 x.blocks.length k2, .slice A3 x.delays.length k3] b rv mv ov s.m (.slice Ae s.evs.length ce) s.evs) (hw : WdAt w (.slice A0 x.irqs.length k0) (.slice A1 x.values.length k1) (.slice A2 x.blocks.length k2) (.slice A3 x.delays.length k3) x) (hxm : WdMay x) (hok : RecOk k s) (hf : s.m.fin = 0) (hL : s.evs.length ≤ 1000) (hk : k < 3000) (hva : s.va ≤ k) (hbl : s.bl ≤ k)
    (hK : ∀ (u16 u17 u18 u19 u20 u21 u22 u23 u24 u25 u26 u59 u60 u61 u62 u63 u64 u65 u66 u67 u68 u69 u70 u71 u72 u73 u74 u75 u76 u77 u78 u79 u80 u81 u82 u83 u84 u85 u86 u87 u88 u89 u90 u91 u92 u93 u94 u95 u96 u97 u98 u99 u100 u101 u102 u103 u104 u105 u106 u107 u108 u109 u110 u111 u112 u113 u114 u115 u116 u117 u118 u119 u120 u121 u122 u123 u124 u125 u126 u127 u128 u129 u130 u131 u132 u133 u134 u135 u136 u137 u138 u139 u140 u141 u142 u143 u144 u145 u146 u147 u148 u149 u150 u151 u152 u153 u154 u155 u156 u157 u158 u159 u160 u161 u162 u163 u164 u165 u166 u167 u168 u169 u170 u171 u172 u173 u174 u175 u176 u177 u178 u179 u180 u181 u182 u183 u184 u185 u186 u187 u188 u189 u190 u191 u192 u193 : Value) (rv' mv' ov' : Value) (Ae' : Option Addr) (ce' : Nat) (W' : World) (K' : Act → World → Prop), RoAt w W' #[.slice A0 x.irqs.length k0, .slice A1 x.values.length k1, .slice A2 x.blocks.length k2, .slice A3 x.delays.length k3] b rv' mv' ov' (s.next x k).m (.slice Ae' (s.next x k).evs.length ce') (s.next x k).evs → (∀ a' w', Code.wp Tryd.prog (rst 16 ((blockOf 1 (Tryd.f9.body.getD .skip)).getD .skip)) Q a' w' → K' a' w') → Code.wp Tryd.prog (stm 15 ((blockOf 1 (Tryd.f9.body.getD .skip)).getD .skip)) (Exit.then K' Q) ⟨#[c0, c1, c2, c3, .pointer (some ⟨w.heap.size, 0, none⟩), c5, c6, c7, c8, .pointer (some ⟨b, 0, none⟩), c10, .slice Ae' (s.next x k).evs.length ce', .int .i64 ((s.next x k).va : Int), .int .i64 ((s.next x k).bl : Int), .int .i64 (s.next x k).due, .int .i64 (k : Int), u16, u17, u18, u19, u20, u21, u22, u23, u24, u25, u26, c27, c28, c29, c30, c31, c32, c33, c34, c35, c36, c37, c38, c39, c40, c41, c42, c43, c44, c45, c46, c47, c48, c49, c50, c51, c52, c53, c54, c55, c56, c57, c58, u59, u60, u61, u62, u63, u64, u65, u66, u67, u68, u69, u70, u71, u72, u73, u74, u75, u76, u77, u78, u79, u80, u81, u82, u83, u84, u85, u86, u87, u88, u89, u90, u91, u92, u93, u94, u95, u96, u97, u98, u99, u100, u101, u102, u103, u104, u105, u106, u107, u108, u109, u110, u111, u112, u113, u114, u115, u116, u117, u118, u119, u120, u121, u122, u123, u124, u125, u126, u127, u128, u129, u130, u131, u132, u133, u134, u135, u136, u137, u138, u139, u140, u141, u142, u143, u144, u145, u146, u147, u148, u149, u150, u151, u152, u153, u154, u155, u156, u157, u158, u159, u160, u161, u162, u163, u164, u165, u166, u167, u168, u169, u170, u171, u172, u173, u174, u175, u176, u177, u178, u179, u180, u181, u182, u183, u184, u185, u186, u187, u188, u189, u190, u191, u192, u193, c194, c195, c196, c197, c198, c199, c200, c201, c202, c203, c204, c205, c206, c207, c208, c209, c210, c211, c212, c213, c214, c215], []⟩ W') :
    Code.wp Tryd.prog (stm 0 ((blockOf 1 (Tryd.f9.body.getD .skip)).getD .skip)) (Exit.then K Q) ⟨#[c0, c1, c2, c3, .pointer (some ⟨w.heap.size, 0, none⟩), c5, c6, c7, c8, .pointer (some ⟨b, 0, none⟩), c10, .slice Ae s.evs.length ce, .int .i64 (s.va : Int), .int .i64 (s.bl : Int), .int .i64 s.due, .int .i64 (k : Int), c16, c17, c18, c19, c20, c21, c22, c23, c24, c25, c26, c27, c28, c29, c30, c31, c32, c33, c34, c35, c36, c37, c38, c39, c40, c41, c42, c43, c44, c45, c46, c47, c48, c49, c50, c51, c52, c53, c54, c55, c56, c57, c58, c59, c60, c61, c62, c63, c64, c65, c66, c67, c68, c69, c70, c71, c72, c73, c74, c75, c76, c77, c78, c79, c80, c81, c82, c83, c84, c85, c86, c87, c88, c89, c90, c91, c92, c93, c94, c95, c96, c97, c98, c99, c100, c101, c102, c103, c104, c105, c106, c107, c108, c109, c110, c111, c112, c113, c114, c115, c116, c117, c118, c119, c120, c121, c122, c123, c124, c125, c126, c127, c128, c129, c130, c131, c132, c133, c134, c135, c136, c137, c138, c139, c140, c141, c142, c143, c144, c145, c146, c147, c148, c149, c150, c151, c152, c153, c154, c155, c156, c157, c158, c159, c160, c161, c162, c163, c164, c165, c166, c167, c168, c169, c170, c171, c172, c173, c174, c175, c176, c177, c178, c179, c180, c181, c182, c183, c184, c185, c186, c187, c188, c189, c190, c191, c192, c193, c194, c195, c196, c197, c198, c199, c200, c201, c202, c203, c204, c205, c206, c207, c208, c209, c210, c211, c212, c213, c214, c215], []⟩ W := by
  have hct : s.m.count ≤ 3000 := by have := hok.cle; omega
  have hbk := s.blk_may hxm (k : Int)
  have h1 : s.due = (k : Int) → 1 ≤ s.bl := fun e => by
    rcases hok.due hf with ⟨d1, -⟩ | ⟨-, -, d3⟩
    · omega
    · exact d3
  refine rdA _ _ _ _ _ _ _ _ _ _ _ _ _ _ _ _ _ _ _ _ _ _ _ _ _ _ _ _ _ _ _ _ _ _ _ _ _ _ _ _ _ _ _ _ _ _ _ _ _ _ _ _ _ _ _ _ _ _ _ _ _ _ _ _ _ _ _ _ _ _ _ _ _ _ _ _ _ _ _ _ _ _ _ _ _ _ _ _ _ _ _ _ _ _ _ _ _ _ _ _ _ _ _ _ _ _ _ _ _ _ _ _ _ _ _ _ _ _ _ _ _ _ _ _ _ _ _ _ _ _ _ _ _ _ _ _ _ _ _ _ _ _ _ _ _ _ _ _ _ _ _ _ _ _ _ _ _ _ _ _ _ _ _ _ _ _ _ _ _ _ _ _ _ _ _ _ _ _ _ _ _ _ _ _ _ _ _ _ _ _ _ _ _ _ _ _ _ _ _ _ _ _ _ _ _ _ _ _ _ _ _ _  A0 A1 A2 A3 k0 k1 k2 k3 x b rv mv ov s.m k Ae ce s.evs w W Q K hc h hw (by omega) hk ?_
  intro _u17 _u59 _u60 _u61 _u62 _u63 _u64 _u65 _u66 _u67 _u68 _u69 _u70 _u71 _u72 _u73 _u74 _u75 _u76 _u77 _u78 _u79 _u80 _u81 Ae1 ce1 L1 W1 K1 hL1 ro1 hc1
  have hl1 : L1.length ≤ 1001 := by rw [hL1]; split <;> simp <;> omega
  refine rdB _ _ _ _ _ _ _ _ _ _ _ _ _ _ _ _ _ _ _ _ _ _ _ _ _ _ _ _ _ _ _ _ _ _ _ _ _ _ _ _ _ _ _ _ _ _ _ _ _ _ _ _ _ _ _ _ _ _ _ _ _ _ _ _ _ _ _ _ _ _ _ _ _ _ _ _ _ _ _ _ _ _ _ _ _ _ _ _ _ _ _ _ _ _ _ _ _ _ _ _ _ _ _ _ _ _ _ _ _ _ _ _ _ _ _ _ _ _ _ _ _ _ _ _ _ _ _ _ _ _ _ _ _ _ _ _ _ _ _ _ _ _ _ _ _ _ _ _ _ _ _ _ _ _ _ _ _ _ _ _ _ _ _ _ _ _ _ _ _ _ _ _ _ _ _ _ _ _ _ _ _ _ _ _ _ _ _ _ _ _ _ _ _ _ _ _ _ _ _ _ _ _ _ _ _ _ _ _ _ _  A0 A1 A2 A3 k0 k1 k2 k3 x b rv mv ov s.m k Ae1 ce1 L1 s.bl s.due w W1 Q K1 hc1 ro1 hw hxm (by omega) hk h1 (by omega) ?_
  intro _u82 _u83 _u84 _u85 _u86 _u87 _u88 _u89 _u90 _u91 _u92 _u93 _u94 _u95 _u96 _u97 _u98 _u99 _u100 _u101 _u102 _u103 Ae2 ce2 Bb cb blk L2 W2 K2 hblk hL2 hik ro2 hc2
  have hikc := hik
  replace hik := hikc W2 W2 (Below.refl _ _) (KpI.refl _ _)
  have eblk : blk = s.blk x k := hblk
  clear hblk
  subst eblk
  have hl2 : L2.length ≤ 1002 := by rw [hL2]; split <;> simp <;> omega
  refine rdC1 _ _ _ _ _ _ _ _ _ _ _ _ _ _ _ _ _ _ _ _ _ _ _ _ _ _ _ _ _ _ _ _ _ _ _ _ _ _ _ _ _ _ _ _ _ _ _ _ _ _ _ _ _ _ _ _ _ _ _ _ _ _ _ _ _ _ _ _ _ _ _ _ _ _ _ _ _ _ _ _ _ _ _ _ _ _ _ _ _ _ _ _ _ _ _ _ _ _ _ _ _ _ _ _ _ _ _ _ _ _ _ _ _ _ _ _ _ _ _ _ _ _ _ _ _ _ _ _ _ _ _ _ _ _ _ _ _ _ _ _ _ _ _ _ _ _ _ _ _ _ _ _ _ _ _ _ _ _ _ _ _ _ _ _ _ _ _ _ _ _ _ _ _ _ _ _ _ _ _ _ _ _ _ _ _ _ _ _ _ _ _ _ _ _ _ _ _ _ _ _ _ _ _ _ _ _ _ _ _ _ _ _ _  A0 A1 A2 A3 k0 k1 k2 k3 x b rv mv ov s.m k (.slice Ae2 L2.length ce2) L2 (s.irq x k) Bb cb (s.blk x k) w W2 Q K2 hc2 ro2 hok.may hik hbk.1 hbk.2 hct ?_
  intro _u20 _u104 _u105 _u106 _u107 _u108 _u109 _u110 _u111 bx rx mx ox W3 K3 hbx hx3 ox3 hb3 hc3
  have keep : ∀ {V V' : World} {v : Value} {l : List Int}, IntsK (KKo rv mv ov) w.heap.size V v l → Below V.heap.size V V' → IntsK (KKo rv mv ov) w.heap.size V' v l := fun hI hB => by
    obtain ⟨A, c, e, h8, hcc⟩ := hI
    refine ⟨A, c, e, h8, fun h0 => ?_⟩
    obtain ⟨b4, o4, e5, hlt, hj⟩ := hcc h0
    exact ⟨b4, o4, e5, ⟨Nat.lt_of_lt_of_le hlt.1 hB.size, hlt.2⟩, fun j hjl => (hB.cell (p := ⟨b4, o4 + j, none⟩) hlt.1).trans (hj j hjl)⟩
  refine rdC2 _ _ _ _ _ _ _ _ _ _ _ _ _ _ _ _ _ _ _ _ _ _ _ _ _ _ _ _ _ _ _ _ _ _ _ _ _ _ _ _ _ _ _ _ _ _ _ _ _ _ _ _ _ _ _ _ _ _ _ _ _ _ _ _ _ _ _ _ _ _ _ _ _ _ _ _ _ _ _ _ _ _ _ _ _ _ _ _ _ _ _ _ _ _ _ _ _ _ _ _ _ _ _ _ _ _ _ _ _ _ _ _ _ _ _ _ _ _ _ _ _ _ _ _ _ _ _ _ _ _ _ _ _ _ _ _ _ _ _ _ _ _ _ _ _ _ _ _ _ _ _ _ _ _ _ _ _ _ _ _ _ _ _ _ _ _ _ _ _ _ _ _ _ _ _ _ _ _ _ _ _ _ _ _ _ _ _ _ _ _ _ _ _ _ _ _ _ _ _ _ _ _ _ _ _ _ _ _ _ _ _ _ _  A0 A1 A2 A3 k0 k1 k2 k3 x b rv mv ov s.m k (.slice Ae2 L2.length ce2) L2 (s.irq x k) Bb cb (s.blk x k) w W3 Q K3 hc3 (ro2.below hb3) hok.may (keep hik hb3) hbk.1 hbk.2 hct ?_
  intro _u22 _u112 _u113 _u114 _u115 _u116 _u117 _u118 _u119 by_ ry my oy W4 K4 hby hy4 oy4 hb4 hc4
  have hX := (hok.may.step (s.irq x k) hbk.2 hbk.1 (v := 1) (by decide) (by omega))
  have hY := (hok.may.step (s.irq x k) hbk.2 hbk.1 (v := 2) (by decide) (by omega))
  refine rdD _ _ _ _ _ _ _ _ _ _ _ _ _ _ _ _ _ _ _ _ _ _ _ _ _ _ _ _ _ _ _ _ _ _ _ _ _ _ _ _ _ _ _ _ _ _ _ _ _ _ _ _ _ _ _ _ _ _ _ _ _ _ _ _ _ _ _ _ _ _ _ _ _ _ _ _ _ _ _ _ _ _ _ _ _ _ _ _ _ _ _ _ _ _ _ _ _ _ _ _ _ _ _ _ _ _ _ _ _ _ _ _ _ _ _ _ _ _ _ _ _ _ _ _ _ _ _ _ _ _ _ _ _ _ _ _ _ _ _ _ _ _ _ _ _ _ _ _ _ _ _ _ _ _ _ _ _ _ _ _ _ _ _ _ _ _ _ _ _ _ _ _ _ _ _ _ _ _ _ _ _ _ _ _ _ _ _ _ _ _ _ _ _ _ _ _ _ _ _ _ _ _ _ _ _ _ _ _ _ _ _ _ _ _  bx by_ rx mx ox ry my oy _ _ w W4 Q K4 hc4 ((hb4.block _ (lt_of_block hx3)).trans hx3) hy4 ((ox3.at hX.fits).below hb4).regs (oy4.at hY.fits).regs hX.regs hY.regs ?_
  intro _u25 _u120 _u121 _u122 _u123 _u124 _u125 _u126 _u127 _u128 _u129 _u130 _u131 _u132 _u133 _u134 _u135 _u136 _u137 n W5 K5 J5 e5 hc5 hj5
  subst e5
  have eask : difR (s.m.step (s.irq x k) (s.blk x k) 1).1.regs (s.m.step (s.irq x k) (s.blk x k) 2).1.regs 8 = s.ask x k := asks_regs hok.may (s.irq x k) hbk.2 hbk.1 hf
  rw [eask]
  have hb5 : Below W2.heap.size W2 (W4.drewN n) := hb3.trans ((hb4.mono hb3.size).trans ⟨rfl, rfl, rfl, Nat.le_refl _, fun _ _ => rfl⟩)
  refine rdE _ _ _ _ _ _ _ _ _ _ _ _ _ _ _ _ _ _ _ _ _ _ _ _ _ _ _ _ _ _ _ _ _ _ _ _ _ _ _ _ _ _ _ _ _ _ _ _ _ _ _ _ _ _ _ _ _ _ _ _ _ _ _ _ _ _ _ _ _ _ _ _ _ _ _ _ _ _ _ _ _ _ _ _ _ _ _ _ _ _ _ _ _ _ _ _ _ _ _ _ _ _ _ _ _ _ _ _ _ _ _ _ _ _ _ _ _ _ _ _ _ _ _ _ _ _ _ _ _ _ _ _ _ _ _ _ _ _ _ _ _ _ _ _ _ _ _ _ _ _ _ _ _ _ _ _ _ _ _ _ _ _ _ _ _ _ _ _ _ _ _ _ _ _ _ _ _ _ _ _ _ _ _ _ _ _ _ _ _ _ _ _ _ _ _ _ _ _ _ _ _ _ _ _ _ _ _ _ _  A0 A1 A2 A3 k0 k1 k2 k3 x b rv mv ov s.m k Ae2 ce2 L2 s.va (s.ask x k) Bb cb (s.blk x k) w (W4.drewN n) Q K5 hc5 J5 hj5 (ro2.below hb5) hw (by omega) hk (by omega) (fun V1 V2 hV1 hV2 => hikc V1 V2 (hb5.trans (hV1.mono hb5.size)) hV2) ?_
  intro _u138 _u139 _u140 _u141 _u142 _u143 _u144 _u145 _u146 _u147 _u148 _u149 _u150 _u151 _u152 _u153 _u154 _u155 _u156 _u157 Ae6 ce6 L6 W6 K6 hL6 hik6 ro6 hc6
  have ev : (if s.ask x k = true then x.values.getD s.va 0 else 0) = s.val x k := rfl
  rw [ev]
  refine rdF _ _ _ _ _ _ _ _ _ _ _ _ _ _ _ _ _ _ _ _ _ _ _ _ _ _ _ _ _ _ _ _ _ _ _ _ _ _ _ _ _ _ _ _ _ _ _ _ _ _ _ _ _ _ _ _ _ _ _ _ _ _ _ _ _ _ _ _ _ _ _ _ _ _ _ _ _ _ _ _ _ _ _ _ _ _ _ _ _ _ _ _ _ _ _ _ _ _ _ _ _ _ _ _ _ _ _ _ _ _ _ _ _ _ _ _ _ _ _ _ _ _ _ _ _ _ _ _ _ _ _ _ _ _ _ _ _ _ _ _ _ _ _ _ _ _ _ _ _ _ _ _ _ _ _ _ _ _ _ _ _ _ _ _ _ _ _ _ _ _ _ _ _ _ _ _ _ _ _ _ _ _ _ _ _ _ _ _ _ _ _ _ _ _ _ _ _ _ _ _ _ _ _ _ _ _ _ _ _ _ _ _  A0 A1 A2 A3 k0 k1 k2 k3 x b rv mv ov s.m k (.slice Ae6 L6.length ce6) L6 (s.irq x k) Bb cb (s.blk x k) (s.val x k) w W6 Q K6 hc6 ro6 hok.may hik6 hbk.1 hbk.2 hct ?_
  intro _u158 _u159 _u160 _u161 _u162 _u163 _u164 _u165 _u166 _u167 _u168 _u169 _u170 rv' mv' ov' W7 K7 J7 ro7 hc7 hj7
  refine rdG _ _ _ _ _ _ _ _ _ _ _ _ _ _ _ _ _ _ _ _ _ _ _ _ _ _ _ _ _ _ _ _ _ _ _ _ _ _ _ _ _ _ _ _ _ _ _ _ _ _ _ _ _ _ _ _ _ _ _ _ _ _ _ _ _ _ _ _ _ _ _ _ _ _ _ _ _ _ _ _ _ _ _ _ _ _ _ _ _ _ _ _ _ _ _ _ _ _ _ _ _ _ _ _ _ _ _ _ _ _ _ _ _ _ _ _ _ _ _ _ _ _ _ _ _ _ _ _ _ _ _ _ _ _ _ _ _ _ _ _ _ _ _ _ _ _ _ _ _ _ _ _ _ _ _ _ _ _ _ _ _ _ _ _ _ _ _ _ _ _ _ _ _ _ _ _ _ _ _ _ _ _ _ _ _ _ _ _ _ _ _ _ _ _ _ _ _ _ _ _ _ _ _ _ _ _ _ _ _ _  A0 A1 A2 A3 k0 k1 k2 k3 x b rv' mv' ov' (s.then_ x k) k (.slice Ae6 L6.length ce6) L6 s.bl _ _ w W7 Q K7 hc7 J7 hj7 ro7 hw hxm hk (by omega) ?_
  intro _u171 _u172 _u173 _u174 _u175 _u176 _u177 _u178 _u179 _u180 _u181 _u182 _u183 _u184 _u185 _u186 _u187 _u188 _u189 _u190 _u191 _u192 _u193 W8 K8 ro8 hc8
  have hwas : ((if 0 < (s.blk x k).length then (-1 : Int) else s.m.want) = -1) ↔ (s.due = (k : Int) ∨ s.m.want = -1) := by
    by_cases hd : s.due = (k : Int)
    · have := RecS.blk_at hxm hd
      rw [if_pos (by omega)]
      exact ⟨fun _ => Or.inl hd, fun _ => rfl⟩
    · have e0 : (s.blk x k).length = 0 := by unfold RecS.blk; rw [if_neg hd]; rfl
      rw [if_neg (by omega)]
      exact ⟨Or.inr, fun e => e.resolve_left hd⟩
  have hnew : ((if 0 < (s.blk x k).length then (-1 : Int) else s.m.want) = -1 ∧ 0 ≤ (s.then_ x k).want) ↔ s.new x k = true := by
    unfold RecS.new
    rw [decide_eq_true_iff, hwas]
  have e13 : (if (if 0 < (s.blk x k).length then (-1 : Int) else s.m.want) = -1 ∧ 0 ≤ (s.then_ x k).want then s.bl + 1 else s.bl) = (s.next x k).bl := by
    show _ = if s.new x k = true then s.bl + 1 else s.bl
    by_cases e : s.new x k = true
    · rw [if_pos (hnew.2 e), if_pos e]
    · rw [if_neg (fun h => e (hnew.1 h)), if_neg e]
  have e14 : (if (if 0 < (s.blk x k).length then (-1 : Int) else s.m.want) = -1 ∧ 0 ≤ (s.then_ x k).want then (k : Int) + 1 + x.delays.getD s.bl 0 else if s.due = (k : Int) then -1 else s.due) = (s.next x k).due := by
    show _ = if s.new x k = true then (k : Int) + 1 + x.delays.getD s.bl 0 else if s.due = (k : Int) then -1 else s.due
    by_cases e : s.new x k = true
    · rw [if_pos (hnew.2 e), if_pos e]
    · rw [if_neg (fun h => e (hnew.1 h)), if_neg e]
  have eL : L6 = (s.next x k).evs := by
    show L6 = s.evs ++ s.evI x k ++ s.evB x k ++ s.evV x k
    have eV : (if s.ask x k = true then [(⟨(k : Int), 3, [x.values.getD s.va 0]⟩ : Ev)] else []) = s.evV x k := by
      unfold RecS.evV
      by_cases e : s.ask x k = true
      · rw [if_pos e, if_pos e, RecS.val, if_pos e]
      · rw [if_neg e, if_neg e]
    rw [hL6, hL2, hL1, eV]
    rfl
  subst eL
  rw [e13, e14]
  exact hK _ _ _ _ _ _ _ _ _ _ _ _ _ _ _ _ _ _ _ _ _ _ _ _ _ _ _ _ _ _ _ _ _ _ _ _ _ _ _ _ _ _ _ _ _ _ _ _ _ _ _ _ _ _ _ _ _ _ _ _ _ _ _ _ _ _ _ _ _ _ _ _ _ _ _ _ _ _ _ _ _ _ _ _ _ _ _ _ _ _ _ _ _ _ _ _ _ _ _ _ _ _ _ _ _ _ _ _ _ _ _ _ _ _ _ _ _ _ _ _ _ _ _ _ _ _ _ _ _ _ _ _ _ _ _ _ _ _ _ _ _ _ _ _ _ _  rv' mv' ov' Ae6 ce6 W8 K8 ro8 hc8

end Go.Proofs.YtbjlfhpiebokkaaDoor

/- The recorder's step, walked: the guest asks for a word. -/

namespace Go.Proofs.YtbjlfhpiebokkaaDoor
open Go.RowKit
set_option maxRecDepth 100000

set_option maxHeartbeats 16000000 in
theorem rstep_ask (g : RcB) (lo : Nat) (iv zv : Value) (x : Wd) (s : RecS) (cm : Nat) (due k : Int) (R : List (Ev × Value)) (rv mv ov : Value) (w : World)
    (h : RcAt w lo g iv zv x s.va cm s.bl due R) (hr : RcRel k s cm due R) (hx : WdMay x) (hR : R.length ≤ 8997) (ho : OwnM w lo rv mv ov s.m) (hm : MayP s.m) (hf : s.m.fin = 0) (hc : s.m.count = k) (hk : 0 ≤ k ∧ k < 3000) (hV0 : s.ask x k = true) :
    Calls Tryd.prog 27 #[ptr g.p, .agg (s.m.cells rv mv ov)] w fun e w' => RStepQ w lo g iv zv x s k R e w' := by
  obtain ⟨A1, c1, A2, c2, A3, c3, rfl, rfl, rfl⟩ := ho.shape
  obtain ⟨b0, b1, b2⟩ := two_boxes (Below.refl (((w.alloc (.cells (s.m.cells (.slice A1 s.m.regs.length c1) (.slice A2 s.m.mem.length c2) (.slice A3 s.m.out.length c3)) 30)).alloc (.cells zeroM 30)).heap.size) ((w.alloc (.cells (s.m.cells (.slice A1 s.m.regs.length c1) (.slice A2 s.m.mem.length c2) (.slice A3 s.m.out.length c3)) 30)).alloc (.cells zeroM 30)))
  obtain ⟨W, hW⟩ : ∃ W, W = (w.alloc (.cells (s.m.cells (.slice A1 s.m.regs.length c1) (.slice A2 s.m.mem.length c2) (.slice A3 s.m.out.length c3)) 30)).alloc (.cells zeroM 30) := ⟨_, rfl⟩
  rw [← hW] at b0 b1 b2
  have HW : Hid (W = (w.alloc (.cells (s.m.cells (.slice A1 s.m.regs.length c1) (.slice A2 s.m.mem.length c2) (.slice A3 s.m.out.length c3)) 30)).alloc (.cells zeroM 30)) := hW
  have q22 : ∀ (w : World) (a : Option Addr) (n c n' c' : Nat), (binOp .eql 22 (.slice a n c) (.slice none n' c')).run Tryd.prog w = .ok (.bool a.isNone) w := fun w a n c n' c' => Lib.run_eql_slice_nil w _ _ a n c n' c' Tryd.underlying22
  obtain ⟨M, hM⟩ : ∃ M, M = s.m := ⟨_, rfl⟩
  have HLO : Hid (lo ≤ w.heap.size) := h.lw
  have HRL : Hid (R.length ≤ 8997) := hR
  have HV0 : Hid (s.ask x k = true) := hV0
  have HGP : Hid (g.p < w.heap.size) := h.six.2.2
  have HX : Hid (W.heap[w.heap.size]? = some (.cells (M.cells (.slice A1 M.regs.length c1) (.slice A2 M.mem.length c2) (.slice A3 M.out.length c3)) 30 (0, 0)) ∧ W.heap[w.heap.size + 1]? = some (.cells zeroM 30 (0, 0)) ∧ OwnM W lo (.slice A1 M.regs.length c1) (.slice A2 M.mem.length c2) (.slice A3 M.out.length c3) M ∧ KpI lo w W) := by
    rw [hM]
    exact ⟨b0, b1, ho.below b2, KpI.of_below b2 h.lw⟩
  have HM : Hid (MayP M ∧ M.fin = 0 ∧ M.count = k ∧ M = s.m) := by rw [hM]; exact ⟨hm, hf, hc, rfl⟩
  have hcM : M.count = k := HM.out.2.2.1
  have HREL : Hid (RcRel k s cm due R ∧ WdMay x ∧ (0 ≤ k ∧ k < 3000)) := ⟨hr, hx, hk⟩
  have HA : Hid (Calls Tryd.prog 56 #[ptr g.p, .int .i64 k] W fun e w' => ∃ R' Bk cb cm', e = .returned (.tuple #[.bool (s.irq x k), .slice Bk (s.blk x k).length cb]) ∧ RcAt w' lo g iv zv x s.va cm' s.bl due R' ∧ DataOk w' lo (.slice Bk (s.blk x k).length cb) (s.blk x k) ∧ Bk.isNone = decide (s.due ≠ k) ∧ R'.map Prod.fst = s.evs ++ s.evI x k ++ s.evB x k ∧ R'.length ≤ R.length + 2 ∧ cm' = (if s.due = k then s.bl else cm) ∧ KpI lo W w') := ahead_rel g lo iv zv x s s.va cm s.bl due k R W (h.below b2) hr hx hk.1 hR
  have HBM : Hid (((s.blk x k).length = 0 ∨ (s.blk x k).length = 16) ∧ allB (s.blk x k) = true) := RecS.blk_may hx s k
  rw [← hM] at HW ⊢
  obtain ⟨⟨z0, z1, z2, z3, z4, z5, z6, z7, z8, z9, z10, z11⟩, zf, zl⟩ := twelve_cells HX.out.1
  clear hV0 h hr hx hR ho hm hf hc b0 b1 b2 hW
  obtain ⟨irq, hirq⟩ : ∃ irq, irq = s.irq x k := ⟨_, rfl⟩
  obtain ⟨blk, hblk⟩ : ∃ blk, blk = s.blk x k := ⟨_, rfl⟩
  rw [← hirq, ← hblk] at HA
  rw [← hblk] at HBM
  have HIB : Hid (irq = s.irq x k ∧ blk = s.blk x k) := ⟨hirq, hblk⟩
  clear hirq hblk hM
  simp only [Mach.cells, hcM] at HW z6 ⊢
  go_enter Tryd.func27, Tryd.ntmps27
  go_wp2_with fail
  rw [← HW.out]
  refine HA.out.mono ?_
  rintro e w1 ⟨R1, Bk, cb, cm1, rfl, g1, g2, g3, g4, g5, g6, g7⟩
  have H1 : Hid (RcAt w1 lo g iv zv x s.va cm1 s.bl due R1 ∧ DataOk w1 lo (.slice Bk blk.length cb) blk ∧ Bk.isNone = decide (s.due ≠ k) ∧ R1.map Prod.fst = s.evs ++ s.evI x k ++ s.evB x k ∧ R1.length ≤ R.length + 2 ∧ cm1 = (if s.due = k then s.bl else cm) ∧ KpI lo w w1) := ⟨g1, g2, g3, g4, g5, g6, HX.out.2.2.2.trans g7⟩
  have HB1 : Hid (w1.heap[w.heap.size]? = some (.cells (M.cells (.slice A1 M.regs.length c1) (.slice A2 M.mem.length c2) (.slice A3 M.out.length c3)) 30 (0, 0)) ∧ w1.heap[w.heap.size + 1]? = some (.cells zeroM 30 (0, 0)) ∧ OwnM w1 lo (.slice A1 M.regs.length c1) (.slice A2 M.mem.length c2) (.slice A3 M.out.length c3) M) := ⟨g7.kept _ _ _ mutM HX.out.1, g7.kept _ _ _ mutM HX.out.2.1, HX.out.2.2.1.kp g7⟩
  have HAS : Hid (Calls Tryd.prog 57 #[.agg (M.cells (.slice A1 M.regs.length c1) (.slice A2 M.mem.length c2) (.slice A3 M.out.length c3)), .bool irq, .slice Bk blk.length cb] w1 fun e w' => e = .returned (.bool (M.asks irq blk)) ∧ Below w1.heap.size w1 w') := by
    show Calls _ _ _ _ _
    have hl := HBM.out.1
    exact Asks_go M _ _ _ irq Bk cb blk w1 (HB1.out.2.2.at HM.out.1.fits) (g2.at g1.lw (by omega)) HM.out.1 HBM.out.2 HBM.out.1 (by have := HM.out.2.2.1; have := HREL.out.2.2; omega) HM.out.2.1
  simp only [Mach.cells, hcM] at HAS
  clear HA HX g1 g2 g3 g4 g5 g6 g7 z0 z1 z2 z3 z4 z5 z6 z7 z8 z9 z10 z11 zf zl
  obtain ⟨⟨z0, z1, z2, z3, z4, z5, z6, z7, z8, z9, z10, z11⟩, zf, zl⟩ := twelve_cells HB1.out.1
  rw [hcM] at z6
  obtain ⟨ask, hask⟩ : ∃ ask, ask = M.asks irq blk := ⟨_, rfl⟩
  rw [← hask] at HAS
  have HASK : Hid (ask = s.ask x k) := by
    show _ = _
    rw [hask, HIB.out.1, HIB.out.2, HM.out.2.2.2]
    rfl
  clear hask
  dsimp only
  go_wp2_with fail
  refine HAS.out.mono ?_
  rintro e w2 ⟨rfl, hb2⟩
  have hk2 : KpI lo w1 w2 := KpI.of_below hb2 H1.out.1.lw
  have H2 : Hid (RcAt w2 lo g iv zv x s.va cm1 s.bl due R1 ∧ DataOk w2 lo (.slice Bk blk.length cb) blk ∧ KpI lo w w2 ∧ w2.heap[w.heap.size]? = some (.cells (M.cells (.slice A1 M.regs.length c1) (.slice A2 M.mem.length c2) (.slice A3 M.out.length c3)) 30 (0, 0)) ∧ w2.heap[w.heap.size + 1]? = some (.cells zeroM 30 (0, 0)) ∧ OwnM w2 lo (.slice A1 M.regs.length c1) (.slice A2 M.mem.length c2) (.slice A3 M.out.length c3) M) := ⟨H1.out.1.below hb2, H1.out.2.1.kp hk2, H1.out.2.2.2.2.2.2.trans hk2, hk2.kept _ _ _ mutM HB1.out.1, hk2.kept _ _ _ mutM HB1.out.2.1, HB1.out.2.2.kp hk2⟩
  clear HAS HB1 hb2 hk2 z0 z1 z2 z3 z4 z5 z6 z7 z8 z9 z10 z11 zf zl
  obtain ⟨⟨z0, z1, z2, z3, z4, z5, z6, z7, z8, z9, z10, z11⟩, zf, zl⟩ := twelve_cells H2.out.2.2.2.1
  rw [hcM] at z6
  obtain ⟨⟨p0, p1, p2, p3, p4⟩, pf, pl⟩ := H2.out.1.six
  have hW3 : (M.want != -1) = false ∨ ((M.want != -1) = true ∧ Bk.isNone = true) ∨ ((M.want != -1) = true ∧ Bk.isNone = false) := by
    cases (M.want != -1) <;> cases Bk.isNone <;> simp
  obtain ⟨wt, hwt⟩ : ∃ wt, wt = ((M.want != -1) && Bk.isNone) := ⟨_, rfl⟩
  have HWT : Hid (wt = ((M.want != -1) && Bk.isNone)) := hwt
  obtain ⟨V, hVV⟩ : ∃ V, V = s.val x k := ⟨_, rfl⟩
  have HVV : Hid (V = s.val x k ∧ wordB V = true) := ⟨hVV, hVV ▸ RecS.val_may HREL.out.2.1 s k⟩
  obtain ⟨va1, hva⟩ : ∃ va1, va1 = if s.ask x k = true then s.va + 1 else s.va := ⟨_, rfl⟩
  obtain ⟨N, hN⟩ : ∃ N, N = s.then_ x k := ⟨_, rfl⟩
  have HN : Hid (N = s.then_ x k) := hN
  have HNM : Hid (-1 ≤ N.want ∧ N.count = k + 1) := by
    have hb := HBM.out
    rw [HIB.out.2] at hb
    have hm' : MayP (s.then_ x k) := (HM.out.2.2.2 ▸ HM.out.1).step (s.irq x k) hb.2 hb.1 (RecS.val_may HREL.out.2.1 s k) (by have := HM.out.2.2.1; have := HREL.out.2.2; rw [← HM.out.2.2.2]; omega)
    refine ⟨by rw [hN]; exact hm'.want.1, ?_⟩
    rw [hN]
    show (s.m.step _ _ _).1.count = _
    rw [step_going _ _ _ (by rw [← HM.out.2.2.2]; exact HM.out.2.1), ← HM.out.2.2.2, hcM]
  have HNEW : Hid (∀ b, ((N.want != -1) && !((M.want != -1) && Bk.isNone)) = b → s.new x k = b) := fun b e => by rw [new_is HM.out.2.2.2 hN HNM.out.1 H1.out.2.2.1, e]
  obtain ⟨d, hd⟩ : ∃ d, d = x.delays.getD s.bl 0 := ⟨_, rfl⟩
  have HD : Hid (d = x.delays.getD s.bl 0 ∧ 0 ≤ d ∧ d ≤ 3000) := ⟨hd, by rw [hd]; exact (HREL.out.2.1.delay s.bl).1, by rw [hd]; exact (HREL.out.2.1.delay s.bl).2⟩
  have hwr : IntKind.i64.wrap (N.count + d) = N.count + d := IntWalk.i64_in _ (by have := HNM.out.2; have := HD.out.2; have := HREL.out.2.2; omega)
  have HST : Hid (∀ w', MachAt w' (.slice A1 M.regs.length c1) (.slice A2 M.mem.length c2) (.slice A3 M.out.length c3) M → IntsAt w' (.slice Bk blk.length cb) blk → Calls Tryd.prog 22 #[.agg #[.slice A1 M.regs.length c1, .int .i64 M.pc, .int .i64 M.back, .bool M.ints, .bool M.wait, .int .i64 M.table, .int .i64 k, .int .i64 M.fin, .slice A2 M.mem.length c2, .slice A3 M.out.length c3, .int .i64 M.ready, .int .i64 M.want], .bool irq, .slice Bk blk.length cb, .int .i64 V] w' fun e w'' => ∃ rv' mv' ov', e = .returned (.tuple #[.agg (N.cells rv' mv' ov'), .int .i64 (M.step irq blk V).2, .int .i64 0]) ∧ OwnM w'' w'.heap.size rv' mv' ov' N ∧ Below w'.heap.size w' w'') := fun w' ha hi => by
    have e := Step_ok M _ _ _ irq Bk cb blk V w' ha hi HM.out.1 HBM.out.2 HBM.out.1 (by have := HM.out.2.2.1; have := HREL.out.2.2; omega) (stepNo_of HM.out.1 HBM.out.1 HBM.out.2 HVV.out.2 (by have := HM.out.2.2.1; have := HREL.out.2.2; omega))
    have eS : (M.step irq blk V).1 = N := by rw [hN, HIB.out.1, HIB.out.2, HM.out.2.2.2, HVV.out.1]; rfl
    rw [eS] at e
    simp only [Mach.cells, hcM] at e ⊢
    exact e
  have HVA : Hid (va1 = (s.next x k).va ∧ (s.ask x k = true → va1 = s.va + 1 ∧ V = x.values.getD s.va 0 ∧ s.evV x k = [⟨k, 3, [V]⟩]) ∧ (s.ask x k = false → va1 = s.va ∧ V = 0 ∧ s.evV x k = [])) := by
    refine ⟨hva, fun e => ⟨by rw [hva, if_pos e], by rw [hVV]; unfold RecS.val; rw [if_pos e], by rw [hVV]; unfold RecS.evV; rw [if_pos e]⟩, fun e => ?_⟩
    have e' : ¬ s.ask x k = true := by rw [e]; simp
    exact ⟨by rw [hva, if_neg e'], by rw [hVV]; unfold RecS.val; rw [if_neg e'], by unfold RecS.evV; rw [if_neg e']⟩
  clear hwt hVV hva hN hd
  obtain ⟨Tn, hTn⟩ : ∃ Tn, Tn = (M.step irq blk V).2 := ⟨_, rfl⟩
  rw [← hTn] at HST
  clear hTn
  have hV : ask = true := HASK.out.trans HV0.out
  have HV2 : Hid (s.ask x k = true) := by show _ = _; rw [← HASK.out, hV]
  obtain ⟨hva1, hV1, hev1⟩ := HVA.out.2.1 HV2.out
  rw [hV]
  clear hV
  dsimp only
  go_wp2_with fail
  refine (valueNext g lo iv zv x s.va cm1 s.bl due R1 w2 H2.out.1).mono ?_
  rw [← hV1, ← hva1]
  rintro e w3 ⟨rfl, f1, f2⟩
  have H3 : Hid (RcAt w3 lo g iv zv x va1 cm1 s.bl due R1 ∧ KpI lo w2 w3 ∧ s.evV x k = [⟨k, 3, [V]⟩]) := ⟨f1, f2, hev1⟩
  clear f1 f2 hV1 hva1 hev1 z0 z1 z2 z3 z4 z5 z6 z7 z8 z9 z10 z11 zf zl p0 p1 p2 p3 p4 pf pl
  go_wp2_with fail
  refine (note_any g lo iv zv x va1 cm1 s.bl due R1 k 3 _ 1 1 [V] _ (H3.out.1.below (below_alloc _ _)) (Or.inr (OwnI.madeOne H3.out.1.lw V)) (by have := H1.out.2.2.2.2.1; have := HRL.out; omega)).mono ?_
  rintro e w4 ⟨rfl, f1, f2⟩
  have f3 := H3.out.2.1.trans ((KpI.of_below (below_alloc w3 (.cells #[.int .i64 V] 3)) H3.out.1.lw).trans f2)
  obtain ⟨R4, hR4⟩ : ∃ R4, R4 = R1 ++ [((⟨k, 3, [V]⟩ : Ev), Value.slice (some ⟨w3.heap.size, 0, none⟩) 1 1)] := ⟨_, rfl⟩
  rw [← hR4] at f1
  have H4 : Hid (RcAt w4 lo g iv zv x va1 cm1 s.bl due R4 ∧ KpI lo w2 w4 ∧ R4.map Prod.fst = (s.next x k).evs ∧ R4.length ≤ R.length + 3) := ⟨f1, f3, by rw [hR4, List.map_append, H1.out.2.2.2.1]; show _ = s.evs ++ s.evI x k ++ s.evB x k ++ s.evV x k; rw [H3.out.2.2]; rfl, by rw [hR4]; simp; exact H1.out.2.2.2.2.1⟩
  clear f1 f2 f3 hR4 H3
  all_goals
    have H5 : Hid (w4.heap[w.heap.size]? = some (.cells (M.cells (.slice A1 M.regs.length c1) (.slice A2 M.mem.length c2) (.slice A3 M.out.length c3)) 30 (0, 0)) ∧ w4.heap[w.heap.size + 1]? = some (.cells zeroM 30 (0, 0)) ∧ OwnM w4 lo (.slice A1 M.regs.length c1) (.slice A2 M.mem.length c2) (.slice A3 M.out.length c3) M ∧ KpI lo w w4 ∧ DataOk w4 lo (.slice Bk blk.length cb) blk) := ⟨H4.out.2.1.kept _ _ _ mutM H2.out.2.2.2.1, H4.out.2.1.kept _ _ _ mutM H2.out.2.2.2.2.1, H2.out.2.2.2.2.2.kp H4.out.2.1, H2.out.2.2.1.trans H4.out.2.1, H2.out.2.1.kp H4.out.2.1⟩
    obtain ⟨⟨z0, z1, z2, z3, z4, z5, z6, z7, z8, z9, z10, z11⟩, zf, zl⟩ := twelve_cells H5.out.1
    rw [hcM] at z6
    rcases hW3 with hw3 | ⟨hw3, hb3⟩ | ⟨hw3, hb3⟩
  all_goals
    rcases (by cases (N.want != -1) <;> simp : (N.want != -1) = true ∨ (N.want != -1) = false) with hn5 | hn5
  all_goals
    try dsimp only
    go_wp2_with fail
    refine (HST.out w4 (H5.out.2.2.1.at HM.out.1.fits) (H5.out.2.2.2.2.at H4.out.1.lw (by have := HBM.out.1; omega))).mono ?_
    rintro e w5 ⟨rv', mv', ov', rfl, ho5, hb5⟩
    obtain ⟨D1, f1, D2, f2, D3, f3, rfl, rfl, rfl⟩ := ho5.shape
    have k5 := KpI.of_below hb5 H4.out.1.lw
    have H6 : Hid (RcAt w5 lo g iv zv x va1 cm1 s.bl due R4 ∧ OwnM w5 lo (.slice D1 N.regs.length f1) (.slice D2 N.mem.length f2) (.slice D3 N.out.length f3) N ∧ KpI lo w w5 ∧ w5.heap[w.heap.size]? = some (.cells (M.cells (.slice A1 M.regs.length c1) (.slice A2 M.mem.length c2) (.slice A3 M.out.length c3)) 30 (0, 0)) ∧ w5.heap[w.heap.size + 1]? = some (.cells zeroM 30 (0, 0))) := ⟨H4.out.1.below hb5, ho5.mono H4.out.1.lw, H5.out.2.2.2.1.trans k5, k5.kept _ _ _ mutM H5.out.1, k5.kept _ _ _ mutM H5.out.2.1⟩
    clear ho5 hb5 k5 HST z0 z1 z2 z3 z4 z5 z6 z7 z8 z9 z10 z11 zf zl
    obtain ⟨⟨z0, z1, z2, z3, z4, z5, z6, z7, z8, z9, z10, z11⟩, zf, zl⟩ := twelve_cells H6.out.2.2.2.1
    obtain ⟨⟨y0, y1, y2, y3, y4, y5, y6, y7, y8, y9, y10, y11⟩, yf, yl⟩ := twelve_cells H6.out.2.2.2.2
    obtain ⟨⟨p0, p1, p2, p3, p4⟩, pf, pl⟩ := H6.out.1.six
    rw [hcM] at z6
    simp only [Mach.cells]
    go_wp2_with fail
    have h7 := one12 H6.out.1 H6.out.2.1 H6.out.2.2.1 HLO.out (Nat.le_refl _) ⟨_, H6.out.2.2.2.1⟩ (.slice D1 N.regs.length f1) (.int .i64 N.pc) (.int .i64 N.back) (.bool N.ints) (.bool N.wait) (.int .i64 N.table) (.int .i64 N.count) (.int .i64 N.fin) (.slice D2 N.mem.length f2) (.slice D3 N.out.length f3) (.int .i64 N.ready) (.int .i64 N.want)
    have hx7 := box_set12 H6.out.2.2.2.1 rfl (.slice D1 N.regs.length f1) (.int .i64 N.pc) (.int .i64 N.back) (.bool N.ints) (.bool N.wait) (.int .i64 N.table) (.int .i64 N.count) (.int .i64 N.fin) (.slice D2 N.mem.length f2) (.slice D3 N.out.length f3) (.int .i64 N.ready) (.int .i64 N.want)
    have hy7 := (heap_set12 (w := w5) (b := w.heap.size + 1) (c := w.heap.size) (by omega) (.slice D1 N.regs.length f1) (.int .i64 N.pc) (.int .i64 N.back) (.bool N.ints) (.bool N.wait) (.int .i64 N.table) (.int .i64 N.count) (.int .i64 N.fin) (.slice D2 N.mem.length f2) (.slice D3 N.out.length f3) (.int .i64 N.ready) (.int .i64 N.want)).trans H6.out.2.2.2.2
    obtain ⟨W6, hW6⟩ : ∃ W6, W6 = set12 w5 w.heap.size (.slice D1 N.regs.length f1) (.int .i64 N.pc) (.int .i64 N.back) (.bool N.ints) (.bool N.wait) (.int .i64 N.table) (.int .i64 N.count) (.int .i64 N.fin) (.slice D2 N.mem.length f2) (.slice D3 N.out.length f3) (.int .i64 N.ready) (.int .i64 N.want) := ⟨_, rfl⟩
    have hW6' : W6 = (((((((((((w5.setCell ⟨w.heap.size, 0, none⟩ (.slice D1 N.regs.length f1)).setCell ⟨w.heap.size, 1, none⟩ (.int .i64 N.pc)).setCell ⟨w.heap.size, 2, none⟩ (.int .i64 N.back)).setCell ⟨w.heap.size, 3, none⟩ (.bool N.ints)).setCell ⟨w.heap.size, 4, none⟩ (.bool N.wait)).setCell ⟨w.heap.size, 5, none⟩ (.int .i64 N.table)).setCell ⟨w.heap.size, 6, none⟩ (.int .i64 N.count)).setCell ⟨w.heap.size, 7, none⟩ (.int .i64 N.fin)).setCell ⟨w.heap.size, 8, none⟩ (.slice D2 N.mem.length f2)).setCell ⟨w.heap.size, 9, none⟩ (.slice D3 N.out.length f3)).setCell ⟨w.heap.size, 10, none⟩ (.int .i64 N.ready)).setCell ⟨w.heap.size, 11, none⟩ (.int .i64 N.want) := hW6
    rw [← hW6] at h7 hy7
    rw [← hW6'] at hx7
    have H7 : Hid (RcAt W6 lo g iv zv x va1 cm1 s.bl due R4 ∧ OwnM W6 lo (.slice D1 N.regs.length f1) (.slice D2 N.mem.length f2) (.slice D3 N.out.length f3) N ∧ KpI lo w W6 ∧ W6.heap[w.heap.size]? = some (.cells #[.slice D1 N.regs.length f1, .int .i64 N.pc, .int .i64 N.back, .bool N.ints, .bool N.wait, .int .i64 N.table, .int .i64 N.count, .int .i64 N.fin, .slice D2 N.mem.length f2, .slice D3 N.out.length f3, .int .i64 N.ready, .int .i64 N.want] 30 (0, 0)) ∧ W6.heap[w.heap.size + 1]? = some (.cells zeroM 30 (0, 0))) := ⟨h7.1, h7.2.1, h7.2.2, hx7, hy7⟩
    rw [← hW6']
    clear h7 hx7 hy7 hW6 hW6' H6 z0 z1 z2 z3 z4 z5 z6 z7 z8 z9 z10 z11 zf zl p0 p1 p2 p3 p4 pf pl y0 y1 y2 y3 y4 y5 y6 y7 y8 y9 y10 y11 yf yl
    obtain ⟨⟨z0, z1, z2, z3, z4, z5, z6, z7, z8, z9, z10, z11⟩, zf, zl⟩ := twelve_cells H7.out.2.2.2.1
    obtain ⟨⟨y0, y1, y2, y3, y4, y5, y6, y7, y8, y9, y10, y11⟩, yf, yl⟩ := twelve_cells H7.out.2.2.2.2
    obtain ⟨⟨p0, p1, p2, p3, p4⟩, pf, pl⟩ := H7.out.1.six
    first
      | refine bodyPost_ret (v := .tuple #[.agg #[.slice D1 N.regs.length f1, .int .i64 N.pc, .int .i64 N.back, .bool N.ints, .bool N.wait, .int .i64 N.table, .int .i64 N.count, .int .i64 N.fin, .slice D2 N.mem.length f2, .slice D3 N.out.length f3, .int .i64 N.ready, .int .i64 N.want], .int .i64 0]) (by simp [results, Tryd.results27, go_sem, y0, y1, y2, y3, y4, y5, y6, y7, y8, y9, y10, y11]) rfl ?_
        have hnew := HNEW.out false (by first | (rw [hn5]; rfl) | (rw [hn5, hw3, hb3]; rfl))
        have h8 := one12 H7.out.1 H7.out.2.1 H7.out.2.2.1 HLO.out (Nat.le_succ _) ⟨_, H7.out.2.2.2.2⟩ (.slice D1 N.regs.length f1) (.int .i64 N.pc) (.int .i64 N.back) (.bool N.ints) (.bool N.wait) (.int .i64 N.table) (.int .i64 N.count) (.int .i64 N.fin) (.slice D2 N.mem.length f2) (.slice D3 N.out.length f3) (.int .i64 N.ready) (.int .i64 N.want)
        exact RStepQ.mk HN.out HVA.out.1 (by show s.bl = if s.new x k = true then _ else _; rw [hnew]; rfl) h8.1 h8.2.1 h8.2.2 (HREL.out.1.next HREL.out.2.1 (HM.out.2.2.2 ▸ HM.out.1) (HM.out.2.2.2 ▸ HM.out.2.1) (HM.out.2.2.2 ▸ hcM) HREL.out.2.2 H1.out.2.2.2.2.2.1 rfl (by rw [hnew]; rfl) H4.out.2.2.1) H4.out.2.2.2
      | skip
  all_goals
    clear y0 y1 y2 y3 y4 y5 y6 y7 y8 y9 y10 y11 yf yl
    have hnew := HNEW.out true (by first | (rw [hn5, hw3]; rfl) | (rw [hn5, hw3, hb3]; rfl))
    have HDL : Hid (∀ w', RcAt w' lo g iv zv x va1 cm1 s.bl due R4 → Calls Tryd.prog 93 #[.pointer (some ⟨g.pd, 0, none⟩), .pointer (some ⟨g.qd, 0, none⟩)] w' fun e w'' => e = .returned (.int .i64 d) ∧ RcAt w'' lo g iv zv x va1 cm1 (s.bl + 1) due R4 ∧ KpI lo w' w'') := fun w' h' => by
      have e := delayNext g lo iv zv x va1 cm1 s.bl due R4 w' h'
      rw [← HD.out.1] at e
      exact e
    have HNEW2 : Hid (s.new x k = true) := hnew
    have hne1 : ¬ g.p = w.heap.size := by have := HGP.out; omega
    have hne2 : ¬ w.heap.size = g.p := by have := HGP.out; omega
    clear hnew
    go_region_law (go_simp; go_at_call 93; refine (HDL.out _ (H7.out.1.below ((Below.refl _ W6).drew))).mono ?_; rintro e w7 ⟨rfl, t1, t2⟩; have H8 : Hid (RcAt w7 lo g iv zv x va1 cm1 (s.bl + 1) due R4 ∧ OwnM w7 lo (.slice D1 N.regs.length f1) (.slice D2 N.mem.length f2) (.slice D3 N.out.length f3) N ∧ KpI lo w w7 ∧ w7.heap[w.heap.size]? = some (.cells #[.slice D1 N.regs.length f1, .int .i64 N.pc, .int .i64 N.back, .bool N.ints, .bool N.wait, .int .i64 N.table, .int .i64 N.count, .int .i64 N.fin, .slice D2 N.mem.length f2, .slice D3 N.out.length f3, .int .i64 N.ready, .int .i64 N.want] 30 (0, 0)) ∧ w7.heap[w.heap.size + 1]? = some (.cells zeroM 30 (0, 0))) := ⟨t1, (H7.out.2.1.below ((Below.refl _ W6).drew)).kp t2, H7.out.2.2.1.trans ((KpI.of_below ((Below.refl _ W6).drew) H7.out.1.lw).trans t2), t2.kept _ _ _ mutM H7.out.2.2.2.1, t2.kept _ _ _ mutM H7.out.2.2.2.2⟩; clear t1 t2 z0 z1 z2 z3 z4 z5 z6 z7 z8 z9 z10 z11 zf zl p0 p1 p2 p3 p4 pf pl; obtain ⟨⟨z0, z1, z2, z3, z4, z5, z6, z7, z8, z9, z10, z11⟩, zf, zl⟩ := twelve_cells H8.out.2.2.2.1; obtain ⟨⟨p0, p1, p2, p3, p4⟩, pf, pl⟩ := H8.out.1.six)
  all_goals
    have h9 := H8.out.1.setDue (N.count + d)
    have hB9 := But.set w7 H8.out.1.le.1 4 (.int .i64 (N.count + d))
    obtain ⟨w8, hw8⟩ : ∃ w8, w8 = w7.setCell ⟨g.p, 4, none⟩ (.int .i64 (N.count + d)) := ⟨_, rfl⟩
    rw [← hw8] at h9 hB9 ⊢
    have H9 : Hid (RcAt w8 lo g iv zv x va1 cm1 (s.bl + 1) (N.count + d) R4 ∧ OwnM w8 lo (.slice D1 N.regs.length f1) (.slice D2 N.mem.length f2) (.slice D3 N.out.length f3) N ∧ KpI lo w w8 ∧ w8.heap[w.heap.size]? = some (.cells #[.slice D1 N.regs.length f1, .int .i64 N.pc, .int .i64 N.back, .bool N.ints, .bool N.wait, .int .i64 N.table, .int .i64 N.count, .int .i64 N.fin, .slice D2 N.mem.length f2, .slice D3 N.out.length f3, .int .i64 N.ready, .int .i64 N.want] 30 (0, 0)) ∧ w8.heap[w.heap.size + 1]? = some (.cells zeroM 30 (0, 0))) := ⟨h9.1, H8.out.2.1.kp h9.2, H8.out.2.2.1.trans h9.2, h9.2.kept _ _ _ mutM H8.out.2.2.2.1, h9.2.kept _ _ _ mutM H8.out.2.2.2.2⟩
    clear h9 hB9 hw8 z0 z1 z2 z3 z4 z5 z6 z7 z8 z9 z10 z11 zf zl p0 p1 p2 p3 p4 pf pl
    obtain ⟨⟨z0, z1, z2, z3, z4, z5, z6, z7, z8, z9, z10, z11⟩, zf, zl⟩ := twelve_cells H9.out.2.2.2.1
    obtain ⟨⟨y0, y1, y2, y3, y4, y5, y6, y7, y8, y9, y10, y11⟩, yf, yl⟩ := twelve_cells H9.out.2.2.2.2
    go_wp2_with fail
    refine bodyPost_ret (v := .tuple #[.agg #[.slice D1 N.regs.length f1, .int .i64 N.pc, .int .i64 N.back, .bool N.ints, .bool N.wait, .int .i64 N.table, .int .i64 N.count, .int .i64 N.fin, .slice D2 N.mem.length f2, .slice D3 N.out.length f3, .int .i64 N.ready, .int .i64 N.want], .int .i64 0]) (by simp [results, Tryd.results27, go_sem, y0, y1, y2, y3, y4, y5, y6, y7, y8, y9, y10, y11]) rfl ?_
    have h10 := one12 H9.out.1 H9.out.2.1 H9.out.2.2.1 HLO.out (Nat.le_succ _) ⟨_, H9.out.2.2.2.2⟩ (.slice D1 N.regs.length f1) (.int .i64 N.pc) (.int .i64 N.back) (.bool N.ints) (.bool N.wait) (.int .i64 N.table) (.int .i64 N.count) (.int .i64 N.fin) (.slice D2 N.mem.length f2) (.slice D3 N.out.length f3) (.int .i64 N.ready) (.int .i64 N.want)
    exact RStepQ.mk HN.out HVA.out.1 (by show s.bl + 1 = if s.new x k = true then _ else _; rw [HNEW2.out]; rfl) h10.1 h10.2.1 h10.2.2 (HREL.out.1.next HREL.out.2.1 (HM.out.2.2.2 ▸ HM.out.1) (HM.out.2.2.2 ▸ HM.out.2.1) (HM.out.2.2.2 ▸ hcM) HREL.out.2.2 H1.out.2.2.2.2.2.1 rfl (by rw [HNEW2.out, HNM.out.2, HD.out.1]; rfl) H4.out.2.2.1) H4.out.2.2.2

end Go.Proofs.YtbjlfhpiebokkaaDoor
