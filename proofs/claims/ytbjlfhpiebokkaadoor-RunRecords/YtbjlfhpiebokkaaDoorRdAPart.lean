/- The document's recording in memory: boxes, the guest, the events. -/
import Derived.Test.YtbjlfhpiebokkaaDoorRecBPart
import Derived.Test.YtbjlfhpiebokkaaDoorSpWPart
import Derived.Test.YtbjlfhpiebokkaaDoorMadeZPart
import Derived.Deep.DeepCutAuto
namespace Go.Proofs.YtbjlfhpiebokkaaDoor
open Go.RowKit
set_option maxRecDepth 100000

def KKo (rv mv ov : Value) (g : Nat) : Prop := rv.ownBlock ≠ some g ∧ mv.ownBlock ≠ some g ∧ ov.ownBlock ≠ some g

theorem ownsRow_kept {w w' : World} {base n size : Nat} {e : TypeId} {v : Value} {xs : List Value} (k : w.ownsRow base e size v n xs) (h : ∀ g o, v.ownBlock = some g → w.heap[g]? = some o → w'.heap[g]? = some o) : w'.ownsRow base e size v n xs := by
  obtain ⟨h1, h2⟩ := k
  refine ⟨h1, ?_⟩
  rcases h2 with h2 | ⟨g, cap, cur, rfl, hg, hh, r⟩
  · exact Or.inl h2
  · exact Or.inr ⟨g, cap, cur, rfl, hg, h g _ (by simp [Value.ownBlock]) hh, r⟩
theorem ownsRow_lt {w : World} {base n size : Nat} {e : TypeId} {v : Value} {xs : List Value} (k : w.ownsRow base e size v n xs) {g : Nat} (h : v.ownBlock = some g) : g < w.heap.size := (World.ownsRow.lt k g h).2

def EvI (w : World) (lo : Nat) (KK : Nat → Prop) (ev : Value) (L : List Ev) : Prop :=
  ∃ R, OwnV w lo ev R ∧ R.map Prod.fst = L ∧ ∀ p ∈ R, ∀ g, p.2.ownBlock = some g → KK g ∧ g < w.heap.size
theorem EvI.nil (w : World) (lo : Nat) (KK : Nat → Prop) : EvI w lo KK (.slice none 0 0) [] := ⟨[], OwnV.nil _ _, rfl, fun p hp => by simp at hp⟩
theorem EvI.own {w : World} {lo : Nat} {rv mv ov ev : Value} {M : Mach} {L : List Ev} (h : EvI w lo (KKo rv mv ov) ev L) (ho : OwnM w lo rv mv ov M) : ∀ g, ev.ownBlock = some g → KKo rv mv ov g := by
  obtain ⟨R, h1, -, -⟩ := h
  intro g hg
  have hb : ∃ cur, w.heap[g]? = some (.cells cur 54 (0, 0)) := by
    rcases h1.row.2 with ⟨rfl, _⟩ | ⟨g', cap, cur, rfl, _, hh, _⟩
    · simp [Value.ownBlock] at hg
    · simp [Value.ownBlock] at hg
      subst hg
      exact ⟨cur, hh⟩
  obtain ⟨cur, hb⟩ := hb
  exact ⟨own_ne ho.regs hb (by decide), own_ne ho.mem hb (by decide), own_ne ho.out hb (by decide)⟩
theorem EvI.kept {w w' : World} {lo : Nat} {KK KK' : Nat → Prop} {ev : Value} {L : List Ev} (h : EvI w lo KK ev L) (hB : Below lo w w') (hs : w.heap.size ≤ w'.heap.size) (hK : ∀ g o, KK g → w.heap[g]? = some o → w'.heap[g]? = some o) (hev : ∀ g, ev.ownBlock = some g → KK g) (hKK : ∀ g, g < w.heap.size → KK g → KK' g) : EvI w' lo KK' ev L := by
  obtain ⟨R, h1, h2, h3⟩ := h
  refine ⟨R, ⟨ownsRow_kept h1.row fun g o hg => hK g o (hev g hg), fun p hp => ?_⟩, h2, fun p hp g hg => ?_⟩
  · rcases h1.data p hp with k | k
    · exact Or.inl (k.below hB)
    · exact Or.inr (ownsRow_kept k fun g o hg => hK g o (h3 p hp g hg).1)
  · obtain ⟨k1, k2⟩ := h3 p hp g hg
    exact ⟨hKK g k2 k1, Nat.lt_of_lt_of_le k2 hs⟩
theorem EvI.below {w w' : World} {lo : Nat} {KK : Nat → Prop} {ev : Value} {L : List Ev} (h : EvI w lo KK ev L) (hb : Below w.heap.size w w') (hlo : lo ≤ w.heap.size) : EvI w' lo KK ev L := by
  obtain ⟨R, h1, h2, h3⟩ := h
  exact ⟨R, h1.below hb hlo, h2, fun p hp g hg => ⟨(h3 p hp g hg).1, Nat.lt_of_lt_of_le (h3 p hp g hg).2 hb.size⟩⟩
theorem EvI.shape {w : World} {lo : Nat} {KK : Nat → Prop} {ev : Value} {L : List Ev} (h : EvI w lo KK ev L) : ∃ A c, ev = .slice A L.length c := by
  obtain ⟨R, h1, h2, -⟩ := h
  obtain ⟨A, c, e⟩ := h1.shape
  exact ⟨A, c, by rw [e, ← h2, List.length_map]⟩
theorem EvI.row {w : World} {lo : Nat} {KK : Nat → Prop} {ev : Value} {L : List Ev} (h : EvI w lo KK ev L) : ∃ xs, w.ownsRow lo 54 3 ev L.length xs ∧ ∃ R, R.map Prod.fst = L ∧ xs = flat R ∧ OwnV w lo ev R ∧ ∀ p ∈ R, ∀ g, p.2.ownBlock = some g → KK g ∧ g < w.heap.size := by
  obtain ⟨R, h1, h2, h3⟩ := h
  exact ⟨flat R, by rw [← h2, List.length_map]; exact h1.row, R, h2, rfl, h1, h3⟩
theorem EvI.noted {w w1 : World} {lo : Nat} {KK : Nat → Prop} {ev ev' d : Value} {R : List (Ev × Value)} {y : Ev} {o : Obj} (h : OwnV w lo ev R) (h3 : ∀ p ∈ R, ∀ g, p.2.ownBlock = some g → KK g ∧ g < w.heap.size) (hlo : lo ≤ w.heap.size) (hd : DataOk w lo d y.data) (hdk : ∀ g, d.ownBlock = some g → KK g ∧ g < w.heap.size)
    (hg : (w.alloc o).grownBy w1 ev.ownBlock) (ho : w1.ownsRow lo 54 3 ev' (R.length + 1) (flat R ++ [.int .i64 y.at_, .int .i64 y.kind, d])) :
    EvI w1 lo KK ev' (R.map Prod.fst ++ [y]) ∧ KpI lo w w1 := by
  have hA : Below w.heap.size w (w.alloc o) := below_alloc w o
  have hr : (w.alloc o).ownsRow lo 54 3 ev R.length (flat R) := ownsRow_below h.row hA
  have keep : ∀ (b : Nat) (cur : Array Value) (t : TypeId), 54 ≠ t → w.heap[b]? = some (.cells cur t (0, 0)) → w1.heap[b]? = some (.cells cur t (0, 0)) := fun b cur t ht hb => by
    have hb' : (w.alloc o).heap[b]? = some (.cells cur t (0, 0)) := by rw [hA.block b (lt_of_block hb)]; exact hb
    rw [hg.block b (lt_of_block hb') (fun e => own_ne3 hr hb' ht e.symm)]
    exact hb'
  have hB : Below lo w w1 := (hA.mono hlo).grown hg (Nat.le_trans hlo hA.size) (fun k hk => (World.ownsRow.lt hr k hk).1)
  have hK1 : KpI lo w w1 := ⟨hB, fun b cur t ht hb => keep b cur t (fun e => ht (by subst e; unfold Mut; decide)) hb⟩
  have hsz : w.heap.size ≤ w1.heap.size := hB.size
  refine ⟨⟨R ++ [(y, d)], ⟨by rw [flat_append]; simpa using ho, fun q hq => ?_⟩, by simp, fun q hq g hgq => ?_⟩, hK1⟩
  · simp at hq
    rcases hq with hq | rfl
    · exact (h.data q hq).kp hK1
    · exact hd.kp hK1
  · simp at hq
    rcases hq with hq | rfl
    · exact ⟨(h3 q hq g hgq).1, Nat.lt_of_lt_of_le (h3 q hq g hgq).2 hsz⟩
    · exact ⟨(hdk g hgq).1, Nat.lt_of_lt_of_le (hdk g hgq).2 hsz⟩

structure RoAt (w W : World) (wv : Array Value) (b : Nat) (rv mv ov : Value) (M : Mach) (ev : Value) (L : List Ev) : Prop where
  wb : W.heap[w.heap.size]? = some (.cells wv 25 (0, 0))
  tb : W.heap[w.heap.size + 1]? = some (.cells zeroT 28 (0, 0))
  rb : W.heap[w.heap.size + 1 + 1]? = some (.cells zeroM 30 (0, 0))
  mb : W.heap[b]? = some (.cells (M.cells rv mv ov) 30 (0, 0))
  own : OwnM W w.heap.size rv mv ov M
  evs : EvI W w.heap.size (KKo rv mv ov) ev L
  old : Below w.heap.size w W
  hb : w.heap.size + 1 + 1 < b
theorem RoAt.below {w W W' : World} {wv : Array Value} {b : Nat} {rv mv ov ev : Value} {M : Mach} {L : List Ev} (h : RoAt w W wv b rv mv ov M ev L) (hb : Below W.heap.size W W') : RoAt w W' wv b rv mv ov M ev L :=
  ⟨(hb.block _ (lt_of_block h.wb)).trans h.wb, (hb.block _ (lt_of_block h.tb)).trans h.tb, (hb.block _ (lt_of_block h.rb)).trans h.rb, (hb.block _ (lt_of_block h.mb)).trans h.mb, h.own.below hb, h.evs.below hb h.old.size, h.old.trans (hb.mono h.old.size), h.hb⟩
theorem RoAt.kp {w W W' : World} {wv : Array Value} {b : Nat} {rv mv ov ev ev' : Value} {M : Mach} {L L' : List Ev} (h : RoAt w W wv b rv mv ov M ev L) (hb : KpI w.heap.size W W') (he : EvI W' w.heap.size (KKo rv mv ov) ev' L') : RoAt w W' wv b rv mv ov M ev' L' :=
  ⟨hb.kept _ _ _ mutW h.wb, hb.kept _ _ _ mutT h.tb, hb.kept _ _ _ mutM h.rb, hb.kept _ _ _ mutM h.mb, h.own.kp hb, he, h.old.trans hb.old, h.hb⟩
theorem RoAt.step {w W W' : World} {wv : Array Value} {b : Nat} {rv mv ov rv' mv' ov' ev : Value} {M M' : Mach} {L : List Ev} (h : RoAt w W wv b rv mv ov M ev L) (hB : Below w.heap.size W W') (hK : KeptK (KKo rv mv ov) W W') (ho : OwnM W' w.heap.size rv' mv' ov' M') (f1 : Free (KKo rv mv ov) W rv') (f2 : Free (KKo rv mv ov) W mv') (f3 : Free (KKo rv mv ov) W ov') :
    RoAt w (set12 W' b rv' (.int .i64 M'.pc) (.int .i64 M'.back) (.bool M'.ints) (.bool M'.wait) (.int .i64 M'.table) (.int .i64 M'.count) (.int .i64 M'.fin) mv' ov' (.int .i64 M'.ready) (.int .i64 M'.want)) wv b rv' mv' ov' M' ev L := by
  have kb : ∀ (g : Nat) (cur : Array Value) (t : TypeId), 3 ≠ t → W.heap[g]? = some (.cells cur t (0, 0)) → W'.heap[g]? = some (.cells cur t (0, 0)) := fun g cur t ht hg => hK g _ ⟨own_ne h.own.regs hg ht, own_ne h.own.mem hg ht, own_ne h.own.out hg ht⟩ hg
  have hb := h.hb
  have hmb := kb _ _ _ (by decide) h.mb
  have hev : EvI W' w.heap.size (KKo rv' mv' ov') ev L := h.evs.kept hB hB.size hK (h.evs.own h.own) (fun g hg hk => ⟨fun e => f1 g e hg hk, fun e => f2 g e hg hk, fun e => f3 g e hg hk⟩)
  have hother : ∀ (g : Nat) (o : Obj), g ≠ b → W'.heap[g]? = some o → (set12 W' b rv' (.int .i64 M'.pc) (.int .i64 M'.back) (.bool M'.ints) (.bool M'.wait) (.int .i64 M'.table) (.int .i64 M'.count) (.int .i64 M'.fin) mv' ov' (.int .i64 M'.ready) (.int .i64 M'.want)).heap[g]? = some o := fun g o hne hg => (heap_set12 hne _ _ _ _ _ _ _ _ _ _ _ _).trans hg
  have hne3 : ∀ {size n : Nat} {e : TypeId} {v : Value} {xs : List Value}, W'.ownsRow w.heap.size e size v n xs → e ≠ 30 → ∀ g, v.ownBlock = some g → g ≠ b := fun k he g hg e => own_ne3 k hmb he (by rw [hg, e])
  have hrow : ∀ {size n : Nat} {e : TypeId} {v : Value} {xs : List Value}, W'.ownsRow w.heap.size e size v n xs → e ≠ 30 → (set12 W' b rv' (.int .i64 M'.pc) (.int .i64 M'.back) (.bool M'.ints) (.bool M'.wait) (.int .i64 M'.table) (.int .i64 M'.count) (.int .i64 M'.fin) mv' ov' (.int .i64 M'.ready) (.int .i64 M'.want)).ownsRow w.heap.size e size v n xs := fun k he => ownsRow_kept k fun g o hg ho => hother g o (hne3 k he g hg) ho
  have hB2 : Below w.heap.size W' (set12 W' b rv' (.int .i64 M'.pc) (.int .i64 M'.back) (.bool M'.ints) (.bool M'.wait) (.int .i64 M'.table) (.int .i64 M'.count) (.int .i64 M'.fin) mv' ov' (.int .i64 M'.ready) (.int .i64 M'.want)) := below_set12 (Below.refl _ _) (by omega) _ _ _ _ _ _ _ _ _ _ _ _
  refine ⟨hother _ _ (by omega) (kb _ _ _ (by decide) h.wb), hother _ _ (by omega) (kb _ _ _ (by decide) h.tb), hother _ _ (by omega) (kb _ _ _ (by decide) h.rb), ?_, ⟨hrow ho.regs (by decide), hrow ho.mem (by decide), hrow ho.out (by decide), ho.rm, ho.ro, ho.mo⟩, ?_, (h.old.trans hB).trans hB2, hb⟩
  · exact box_set12 hmb rfl _ _ _ _ _ _ _ _ _ _ _ _
  · obtain ⟨R, k1, k2, k3⟩ := hev
    refine ⟨R, ⟨hrow k1.row (by decide), fun p hp => ?_⟩, k2, fun p hp g hg => ⟨(k3 p hp g hg).1, Nat.lt_of_lt_of_le (k3 p hp g hg).2 hB2.size⟩⟩
    rcases k1.data p hp with k | k
    · exact Or.inl (k.below hB2)
    · exact Or.inr (hrow k (by decide))

end Go.Proofs.YtbjlfhpiebokkaaDoor

/- The document's recording: is there an interrupt? (Written by tools/gen_rd.py.) -/

namespace Go.Proofs.YtbjlfhpiebokkaaDoor
open Go.RowKit

def blockOf (n : Nat) : Code → Option Code
  | .block m c => match Nat.beq m n with
    | true => some c
    | false => blockOf n c
  | .loop c => blockOf n c
  | .scope c => blockOf n c
  | .seq a b => match blockOf n a with
    | some c => some c
    | none => blockOf n b
  | .cond _ a b => match blockOf n a with
    | some c => some c
    | none => blockOf n b
  | _ => none

set_option linter.unusedVariables false in
set_option maxRecDepth 1000000 in
set_option maxHeartbeats 4000000 in
theorem rdA (c0 c1 c2 c3 c5 c6 c7 c8 c10 c12 c13 c14 c16 c17 c18 c19 c20 c21 c22 c23 c24 c25 c26 c27 c28 c29 c30 c31 c32 c33 c34 c35 c36 c37 c38 c39 c40 c41 c42 c43 c44 c45 c46 c47 c48 c49 c50 c51 c52 c53 c54 c55 c56 c57 c58 c59 c60 c61 c62 c63 c64 c65 c66 c67 c68 c69 c70 c71 c72 c73 c74 c75 c76 c77 c78 c79 c80 c81 c82 c83 c84 c85 c86 c87 c88 c89 c90 c91 c92 c93 c94 c95 c96 c97 c98 c99 c100 c101 c102 c103 c104 c105 c106 c107 c108 c109 c110 c111 c112 c113 c114 c115 c116 c117 c118 c119 c120 c121 c122 c123 c124 c125 c126 c127 c128 c129 c130 c131 c132 c133 c134 c135 c136 c137 c138 c139 c140 c141 c142 c143 c144 c145 c146 c147 c148 c149 c150 c151 c152 c153 c154 c155 c156 c157 c158 c159 c160 c161 c162 c163 c164 c165 c166 c167 c168 c169 c170 c171 c172 c173 c174 c175 c176 c177 c178 c179 c180 c181 c182 c183 c184 c185 c186 c187 c188 c189 c190 c191 c192 c193 c194 c195 c196 c197 c198 c199 c200 c201 c202 c203 c204 c205 c206 c207 c208 c209 c210 c211 c212 c213 c214 c215 : Value) (A0 A1 A2 A3 : Option Addr) (k0 k1 k2 k3 : Nat) (x : Wd) (b : Nat) (rv mv ov : Value) (M : Mach) (k : Nat) (Ae : Option Addr) (ce : Nat) (L : List Ev) (w W : World) (Q : Exit → Act → World → Prop) (K : Act → World → Prop) (hc : ∀ a' w', Code.wp Tryd.prog (rst 1 ((blockOf 1 (Tryd.f9.body.getD .skip)).getD .skip)) Q a' w' → K a' w')
    (h : RoAt w W #[.slice A0 x.irqs.length k0, .slice A1 x.values.length k1, .slice A2 x.blocks.length k2, .slice A3 x.delays.length k3] b rv mv ov M (.slice Ae L.length ce) L) (hw : WdAt w (.slice A0 x.irqs.length k0) (.slice A1 x.values.length k1) (.slice A2 x.blocks.length k2) (.slice A3 x.delays.length k3) x) (hL : L.length ≤ 5000) (hk : k < 3000)
    (hK : ∀ (u17 u59 u60 u61 u62 u63 u64 u65 u66 u67 u68 u69 u70 u71 u72 u73 u74 u75 u76 u77 u78 u79 u80 u81 : Value) (Ae' : Option Addr) (ce' : Nat) (L' : List Ev) (W' : World) (K' : Act → World → Prop) , L' = L ++ (if hasI x.irqs k = true then [⟨k, 1, []⟩] else []) → RoAt w W' #[.slice A0 x.irqs.length k0, .slice A1 x.values.length k1, .slice A2 x.blocks.length k2, .slice A3 x.delays.length k3] b rv mv ov M (.slice Ae' L'.length ce') L' → (∀ a' w', Code.wp Tryd.prog (rst 4 ((blockOf 1 (Tryd.f9.body.getD .skip)).getD .skip)) Q a' w' → K' a' w') → Code.wp Tryd.prog (stm 3 ((blockOf 1 (Tryd.f9.body.getD .skip)).getD .skip)) (Exit.then K' Q) ⟨#[c0, c1, c2, c3, .pointer (some ⟨w.heap.size, 0, none⟩), c5, c6, c7, c8, .pointer (some ⟨b, 0, none⟩), c10, .slice Ae' L'.length ce', c12, c13, c14, .int .i64 (k : Int), .bool (hasI x.irqs k), u17, c18, c19, c20, c21, c22, c23, c24, c25, c26, c27, c28, c29, c30, c31, c32, c33, c34, c35, c36, c37, c38, c39, c40, c41, c42, c43, c44, c45, c46, c47, c48, c49, c50, c51, c52, c53, c54, c55, c56, c57, c58, u59, u60, u61, u62, u63, u64, u65, u66, u67, u68, u69, u70, u71, u72, u73, u74, u75, u76, u77, u78, u79, u80, u81, c82, c83, c84, c85, c86, c87, c88, c89, c90, c91, c92, c93, c94, c95, c96, c97, c98, c99, c100, c101, c102, c103, c104, c105, c106, c107, c108, c109, c110, c111, c112, c113, c114, c115, c116, c117, c118, c119, c120, c121, c122, c123, c124, c125, c126, c127, c128, c129, c130, c131, c132, c133, c134, c135, c136, c137, c138, c139, c140, c141, c142, c143, c144, c145, c146, c147, c148, c149, c150, c151, c152, c153, c154, c155, c156, c157, c158, c159, c160, c161, c162, c163, c164, c165, c166, c167, c168, c169, c170, c171, c172, c173, c174, c175, c176, c177, c178, c179, c180, c181, c182, c183, c184, c185, c186, c187, c188, c189, c190, c191, c192, c193, c194, c195, c196, c197, c198, c199, c200, c201, c202, c203, c204, c205, c206, c207, c208, c209, c210, c211, c212, c213, c214, c215], []⟩ W') :
    Code.wp Tryd.prog (stm 0 ((blockOf 1 (Tryd.f9.body.getD .skip)).getD .skip)) (Exit.then K Q) ⟨#[c0, c1, c2, c3, .pointer (some ⟨w.heap.size, 0, none⟩), c5, c6, c7, c8, .pointer (some ⟨b, 0, none⟩), c10, .slice Ae L.length ce, c12, c13, c14, .int .i64 (k : Int), c16, c17, c18, c19, c20, c21, c22, c23, c24, c25, c26, c27, c28, c29, c30, c31, c32, c33, c34, c35, c36, c37, c38, c39, c40, c41, c42, c43, c44, c45, c46, c47, c48, c49, c50, c51, c52, c53, c54, c55, c56, c57, c58, c59, c60, c61, c62, c63, c64, c65, c66, c67, c68, c69, c70, c71, c72, c73, c74, c75, c76, c77, c78, c79, c80, c81, c82, c83, c84, c85, c86, c87, c88, c89, c90, c91, c92, c93, c94, c95, c96, c97, c98, c99, c100, c101, c102, c103, c104, c105, c106, c107, c108, c109, c110, c111, c112, c113, c114, c115, c116, c117, c118, c119, c120, c121, c122, c123, c124, c125, c126, c127, c128, c129, c130, c131, c132, c133, c134, c135, c136, c137, c138, c139, c140, c141, c142, c143, c144, c145, c146, c147, c148, c149, c150, c151, c152, c153, c154, c155, c156, c157, c158, c159, c160, c161, c162, c163, c164, c165, c166, c167, c168, c169, c170, c171, c172, c173, c174, c175, c176, c177, c178, c179, c180, c181, c182, c183, c184, c185, c186, c187, c188, c189, c190, c191, c192, c193, c194, c195, c196, c197, c198, c199, c200, c201, c202, c203, c204, c205, c206, c207, c208, c209, c210, c211, c212, c213, c214, c215], []⟩ W := by
  have HK : Hid (∀ (u17 u59 u60 u61 u62 u63 u64 u65 u66 u67 u68 u69 u70 u71 u72 u73 u74 u75 u76 u77 u78 u79 u80 u81 : Value) (Ae' : Option Addr) (ce' : Nat) (L' : List Ev) (W' : World) (K' : Act → World → Prop) , L' = L ++ (if hasI x.irqs k = true then [⟨k, 1, []⟩] else []) → RoAt w W' #[.slice A0 x.irqs.length k0, .slice A1 x.values.length k1, .slice A2 x.blocks.length k2, .slice A3 x.delays.length k3] b rv mv ov M (.slice Ae' L'.length ce') L' → (∀ a' w', Code.wp Tryd.prog (rst 4 ((blockOf 1 (Tryd.f9.body.getD .skip)).getD .skip)) Q a' w' → K' a' w') → Code.wp Tryd.prog (stm 3 ((blockOf 1 (Tryd.f9.body.getD .skip)).getD .skip)) (Exit.then K' Q) ⟨#[c0, c1, c2, c3, .pointer (some ⟨w.heap.size, 0, none⟩), c5, c6, c7, c8, .pointer (some ⟨b, 0, none⟩), c10, .slice Ae' L'.length ce', c12, c13, c14, .int .i64 (k : Int), .bool (hasI x.irqs k), u17, c18, c19, c20, c21, c22, c23, c24, c25, c26, c27, c28, c29, c30, c31, c32, c33, c34, c35, c36, c37, c38, c39, c40, c41, c42, c43, c44, c45, c46, c47, c48, c49, c50, c51, c52, c53, c54, c55, c56, c57, c58, u59, u60, u61, u62, u63, u64, u65, u66, u67, u68, u69, u70, u71, u72, u73, u74, u75, u76, u77, u78, u79, u80, u81, c82, c83, c84, c85, c86, c87, c88, c89, c90, c91, c92, c93, c94, c95, c96, c97, c98, c99, c100, c101, c102, c103, c104, c105, c106, c107, c108, c109, c110, c111, c112, c113, c114, c115, c116, c117, c118, c119, c120, c121, c122, c123, c124, c125, c126, c127, c128, c129, c130, c131, c132, c133, c134, c135, c136, c137, c138, c139, c140, c141, c142, c143, c144, c145, c146, c147, c148, c149, c150, c151, c152, c153, c154, c155, c156, c157, c158, c159, c160, c161, c162, c163, c164, c165, c166, c167, c168, c169, c170, c171, c172, c173, c174, c175, c176, c177, c178, c179, c180, c181, c182, c183, c184, c185, c186, c187, c188, c189, c190, c191, c192, c193, c194, c195, c196, c197, c198, c199, c200, c201, c202, c203, c204, c205, c206, c207, c208, c209, c210, c211, c212, c213, c214, c215], []⟩ W') := hK
  clear hK
  conv => arg 2; whnf
  conv at hc => intro a' w'; lhs; arg 2; whnf
  obtain ⟨i3, hi3, hz30, hz31, hz32⟩ := info_parts infoEvent
  obtain ⟨Ai, ki, ei, hli, hci⟩ := hw.irqs
  simp only [Value.slice.injEq, true_and] at ei
  obtain ⟨rfl, rfl⟩ := ei
  have HCI : Hid (0 < x.irqs.length → ∃ b off, A0 = some ⟨b, off, none⟩ ∧ b < W.heap.size ∧ ∀ j, j < x.irqs.length → W.cell? ⟨b, off + j, none⟩ = some (.int .i64 (x.irqs.getD j 0))) := fun h0 => by
    obtain ⟨bi, oi, e, hb, hj⟩ := hci h0
    exact ⟨bi, oi, e, Nat.lt_of_lt_of_le hb h.old.size, fun j hjl => (h.old.cell (p := ⟨bi, oi + j, none⟩) hb).trans (hj j hjl)⟩
  obtain ⟨z0, z1, z2, z3, zf, zl⟩ := four_cells h.wb
  have H : Hid (RoAt w W #[.slice A0 x.irqs.length k0, .slice A1 x.values.length k1, .slice A2 x.blocks.length k2, .slice A3 x.delays.length k3] b rv mv ov M (.slice Ae L.length ce) L) := h
  clear h hci hw
  go_wp2_with fail
  go_loop [16, 17] (fun t i => ∃ j : Nat, j ≤ x.irqs.length ∧ i = .int .i64 j ∧ t = .bool (hasI (x.irqs.take j) k)) (fun _ i => x.irqs.length - (intOf i).toNat)
  case atStart => exact ⟨0, by omega, rfl, rfl⟩
  case round =>
    obtain ⟨j, hj, rfl, rfl⟩ := hrel
    by_cases hlt : j < x.irqs.length
    · obtain ⟨bi, oi, rfl, hbi, hcj⟩ := HCI.out (by omega)
      have g := hcj j hlt
      have HT : Hid (hasI (x.irqs.take (j + 1)) k = (hasI (x.irqs.take j) k || decide (x.irqs.getD j 0 = k))) := hasI_take _ _ _ hlt
      clear hcj
      obtain ⟨y, hy⟩ : ∃ y, x.irqs.getD j 0 = y := ⟨_, rfl⟩
      rw [hy] at g HT
      obtain ⟨t, ht⟩ : ∃ t, hasI (x.irqs.take j) k = t := ⟨_, rfl⟩
      rw [ht] at HT ⊢
      clear ht hy
      cases t
      · by_cases hyk : y = (k : Int)
        · have e1 : (y == (k : Int)) = true := by simpa using hyk
          have e2 : hasI (x.irqs.take (j + 1)) k = true := by rw [HT.out]; simp [hyk]
          clear hyk
          go_wp2_with fail
          go_round
          case rel => exact ⟨j + 1, by omega, by go_num, by rw [e2]⟩
          case measure => simp [intOf]; omega
        · have e1 : (y == (k : Int)) = false := by simpa using hyk
          have e2 : hasI (x.irqs.take (j + 1)) k = false := by rw [HT.out]; simp [hyk]
          clear hyk
          go_wp2_with fail
          go_round
          case rel => exact ⟨j + 1, by omega, by go_num, by rw [e2]⟩
          case measure => simp [intOf]; omega
      · have e2 : hasI (x.irqs.take (j + 1)) k = true := by rw [HT.out]; simp
        go_wp2_with fail
        go_round
        case rel => exact ⟨j + 1, by omega, by go_num, by rw [e2]⟩
        case measure => simp [intOf]; omega
    · obtain rfl : j = x.irqs.length := by omega
      rw [List.take_length]
      obtain ⟨t, ht⟩ : ∃ t, hasI x.irqs k = t := ⟨_, rfl⟩
      rw [ht] at HK ⊢
      cases t
      · go_upto_region 22 with fail
        (refine HK.out _ _ _ _ _ _ _ _ _ _ _ _ _ _ _ _ _ _ _ _ _ _ _ _ _ _ L W _ (by simp) H.out ?_; assumption)
      · obtain ⟨R, hR, hRL, hR3⟩ := H.out.evs
        have hRn : R.length = L.length := by rw [← hRL, List.length_map]
        have HR : Hid (OwnV W w.heap.size (.slice Ae L.length ce) R ∧ R.map Prod.fst = L ∧ ∀ p ∈ R, ∀ g, p.2.ownBlock = some g → KKo rv mv ov g ∧ g < W.heap.size) := ⟨hR, hRL, hR3⟩
        have HO : Hid (W.ownsRow w.heap.size 54 3 (.slice Ae L.length ce) L.length (flat R)) := hRn ▸ hR.row
        have hLn : (flat R).length = L.length * 3 := HO.out.1
        clear hR hRL hR3
        have hold := H.out.old.size
        go_upto_region 22 with (first
          | (at_builtin; refine wpList_append_own_at _ rfl _ _ 43 rfl w.heap.size 54 i3 (.agg #[.int .i64 0, .int .i64 0, .slice none 0 0]) 3 40 Tryd.underlying43 hi3 hz30 hz31 hz32 rfl (by decide) (.slice Ae L.length ce) L.length (flat R) rfl (World.ownsRow.alloc HO.out _) ⟨W.heap.size, 0, none⟩ 1 1 [.int .i64 (k : Int), .int .i64 1, .slice none 0 0] rfl rfl (cell_three_new _ _ _ _ _) (by intro u hu; simp at hu; rcases hu with rfl | rfl | rfl <;> rfl) ?c3 ?c4 ?c5 ?_))
        case c3 => unfold maxLen; omega
        case c4 => omega
        case c5 => omega
        intro v' w3 hown hgrow _ _
        obtain ⟨A', c', rfl⟩ := row_shape hown
        have hN := EvI.noted (KK := KKo rv mv ov) (y := ⟨(k : Int), 1, []⟩) HR.out.1 HR.out.2.2 hold (Or.inr (World.ownsRow_nil _ _ _ _)) (fun g e => by simp [Value.ownBlock] at e) hgrow (by rw [hRn]; exact hown)
        rw [HR.out.2.1] at hN
        have HN : Hid (RoAt w w3 #[.slice A0 x.irqs.length k0, .slice A1 x.values.length k1, .slice A2 x.blocks.length k2, .slice A3 x.delays.length k3] b rv mv ov M (.slice A' (L.length + 1) c') (L ++ [⟨(k : Int), 1, []⟩])) := H.out.kp hN.2 hN.1
        clear hN hown hgrow z0 z1 z2 z3 zf zl
        go_upto_region 22 with fail
        have hl1 : (L ++ [(⟨(k : Int), 1, []⟩ : Ev)]).length = L.length + 1 := by simp
        have HN2 := HN.out
        rw [← hl1] at HN2 ⊢
        (refine HK.out _ _ _ _ _ _ _ _ _ _ _ _ _ _ _ _ _ _ _ _ _ _ _ _ _ _ (L ++ [⟨(k : Int), 1, []⟩]) w3 _ rfl HN2 ?_; assumption)


end Go.Proofs.YtbjlfhpiebokkaaDoor
