/- Contract of hourglassref.words: new memory that holds the same numbers. -/
import Derived.Test.YtbjlfhpiebokkaaDoorInfoPart
import Derived.Test.YtbjlfhpiebokkaaDoorRecBPart
import Derived.Test.YtbjlfhpiebokkaaDoorRdAPart
namespace Go.Proofs.YtbjlfhpiebokkaaDoor
open Go.RowKit

set_option maxHeartbeats 1000000 in
theorem words_some (v : Value) (l : List Int) (w : World) (h : IntsAt w v l) :
    Calls Tryd.prog 33 #[v] w fun e w' => ∃ v', e = .returned v' ∧ OwnI w' w.heap.size v' l ∧ Below w.heap.size w w' := by
  obtain ⟨A, c, rfl, hl, hc⟩ := h
  obtain ⟨i0, hi, hz0, hz1, hz2⟩ := info_parts infoInt
  go_enter Tryd.func33, Tryd.ntmps33
  go_wp2
  go_loopw [3, 4] (fun o i wr => ∃ k : Nat, k ≤ l.length ∧ i = .int .i64 k ∧ Hid (OwnI wr w.heap.size o (l.take k)) ∧ Below w.heap.size w wr) (fun _ i _ => l.length - (intOf i).toNat)
  case atStart => exact ⟨0, Nat.zero_le _, rfl, World.ownsRow_nil _ _ _ _, Below.refl _ _⟩
  case round =>
    obtain ⟨k, hk, rfl, hown, hnx⟩ := hrel
    by_cases hlt : k < l.length
    · obtain ⟨b, off, rfl, hbs, hcell⟩ := hc (by omega)
      have h1 : wr.cell? ⟨b, off + k, none⟩ = some (.int .i64 (l.getD k 0)) := (hnx.cell (p := ⟨b, off + k, none⟩) hbs).trans (hcell k hlt)
      have hsz := hnx.size
      have HT := take_snoc l k hlt
      have HT' : Hid (l.take (k + 1) = l.take k ++ [l.getD k 0]) := HT
      have hlk : Hid ((l.take k).length = k) := by show _ = _; simp; omega
      clear HT hcell hc
      revert h1 HT'
      generalize l.getD k 0 = x
      intro h1 HT'
      revert hown HT' hlk
      generalize l.take k = lk
      intro hown hlk HT'
      go_wp2_with (first
        | (at_builtin; refine wpList_append_own _ rfl _ _ 22 rfl w.heap.size 3 i0 (.int .i64 0) 1 8 Tryd.underlying22 hi hz0 hz1 hz2 rfl (by decide) _ _ _ rfl (hown.out.alloc _) ⟨wr.heap.size, 0, none⟩ 1 1 [.int .i64 x] rfl rfl ?c1 ?c2 ?c3 ?c4 ?c5 ?_))
      case c1 => exact cell_one_new _ _ _
      case c2 => intro u hu; simp at hu; subst hu; rfl
      case c3 => have := hlk.out; unfold maxLen; omega
      case c4 => have := hlk.out; omega
      case c5 => simp; omega
      intro v' w1 hown' hgrow _
      have R1 : Hid (OwnI w1 w.heap.size v' (l.take (k + 1))) := OwnI.snoc hown' HT'.out
      have R2 : Below w.heap.size w w1 := grown_below hnx hown.out (Nat.le_refl _) hsz hgrow
      clear hown' hgrow hown h1 hnx
      go_wp2
      refine ⟨⟨k + 1, by omega, by go_num, R1, R2⟩, ?_⟩
      simp [intOf]; omega
    · clear hc
      go_wp2
      go_ret
      exact ⟨_, rfl, by have := hown.out; rwa [List.take_of_length_le (by omega)] at this, hnx⟩

theorem words_any (v : Value) (l : List Int) (w : World) (h : IntsAt w v l) :
    Calls Tryd.prog 33 #[v] w fun e w' => ∃ A c, e = .returned (.slice A l.length c) ∧ OwnI w' w.heap.size (.slice A l.length c) l ∧ Below w.heap.size w w' :=
  (words_some v l w h).mono fun e w' ⟨v', he, ho, hb⟩ => by
    obtain ⟨A, c, rfl⟩ := ho.shape
    exact ⟨A, c, he, ho, hb⟩

end Go.Proofs.YtbjlfhpiebokkaaDoor

/- The document's recording: the block that comes. (Written by tools/gen_rd.py.) -/

namespace Go.Proofs.YtbjlfhpiebokkaaDoor
open Go.RowKit

theorem own_base {w : World} {base n size g : Nat} {e : TypeId} {v : Value} {xs : List Value} (k : w.ownsRow base e size v n xs) (h : v.ownBlock = some g) : base ≤ g := by
  rcases k.2 with ⟨rfl, _⟩ | ⟨g', cap, cur, rfl, hg, _⟩
  · simp [Value.ownBlock] at h
  · simp [Value.ownBlock] at h
    omega
theorem intsK_of_own {KK : Nat → Prop} {w : World} {base lo c : Nat} {A : Option Addr} {l : List Int} (k : OwnI w base (.slice A l.length c) l) (h : ∀ g, base ≤ g → KK g) (hl : l.length * 8 ≤ 140737488351232) : IntsK KK lo w (.slice A l.length c) l := by
  obtain ⟨A4, c4, e4, h8, hc4⟩ := OwnI.at k hl
  simp only [Value.slice.injEq, true_and] at e4
  obtain ⟨rfl, rfl⟩ := e4
  refine ⟨A, c, rfl, h8, fun h0 => ?_⟩
  obtain ⟨b4, o4, rfl, hlt, hj⟩ := hc4 h0
  exact ⟨b4, o4, rfl, ⟨hlt, Or.inr (h _ (own_base k rfl))⟩, hj⟩
theorem words_is (u : Value) (row : List Int) (w : World) (h : IntsAt w u row) (hl : row.length = 16) :
    Calls Tryd.prog 33 #[u] w fun e w' => ∃ A c, e = .returned (.slice A 16 c) ∧ OwnI w' w.heap.size (.slice A 16 c) row ∧ Below w.heap.size w w' :=
  (words_any u row w h).mono fun _ _ ⟨A, c, he, ho, hb⟩ => ⟨A, c, hl ▸ he, hl ▸ ho, hb⟩

set_option linter.unusedVariables false in
set_option maxRecDepth 1000000 in
set_option maxHeartbeats 4000000 in
theorem rdB (c0 c1 c2 c3 c5 c6 c7 c8 c10 c12 c16 c17 c18 c19 c20 c21 c22 c23 c24 c25 c26 c27 c28 c29 c30 c31 c32 c33 c34 c35 c36 c37 c38 c39 c40 c41 c42 c43 c44 c45 c46 c47 c48 c49 c50 c51 c52 c53 c54 c55 c56 c57 c58 c59 c60 c61 c62 c63 c64 c65 c66 c67 c68 c69 c70 c71 c72 c73 c74 c75 c76 c77 c78 c79 c80 c81 c82 c83 c84 c85 c86 c87 c88 c89 c90 c91 c92 c93 c94 c95 c96 c97 c98 c99 c100 c101 c102 c103 c104 c105 c106 c107 c108 c109 c110 c111 c112 c113 c114 c115 c116 c117 c118 c119 c120 c121 c122 c123 c124 c125 c126 c127 c128 c129 c130 c131 c132 c133 c134 c135 c136 c137 c138 c139 c140 c141 c142 c143 c144 c145 c146 c147 c148 c149 c150 c151 c152 c153 c154 c155 c156 c157 c158 c159 c160 c161 c162 c163 c164 c165 c166 c167 c168 c169 c170 c171 c172 c173 c174 c175 c176 c177 c178 c179 c180 c181 c182 c183 c184 c185 c186 c187 c188 c189 c190 c191 c192 c193 c194 c195 c196 c197 c198 c199 c200 c201 c202 c203 c204 c205 c206 c207 c208 c209 c210 c211 c212 c213 c214 c215 : Value) (A0 A1 A2 A3 : Option Addr) (k0 k1 k2 k3 : Nat) (x : Wd) (b : Nat) (rv mv ov : Value) (M : Mach) (k : Nat) (Ae : Option Addr) (ce : Nat) (L : List Ev) (bl : Nat) (due : Int) (w W : World) (Q : Exit → Act → World → Prop) (K : Act → World → Prop) (hc : ∀ a' w', Code.wp Tryd.prog (rst 4 ((blockOf 1 (Tryd.f9.body.getD .skip)).getD .skip)) Q a' w' → K a' w')
    (h : RoAt w W #[.slice A0 x.irqs.length k0, .slice A1 x.values.length k1, .slice A2 x.blocks.length k2, .slice A3 x.delays.length k3] b rv mv ov M (.slice Ae L.length ce) L) (hw : WdAt w (.slice A0 x.irqs.length k0) (.slice A1 x.values.length k1) (.slice A2 x.blocks.length k2) (.slice A3 x.delays.length k3) x) (hxm : WdMay x) (hL : L.length ≤ 5001) (hk : k < 3000) (hbl : due = (k : Int) → 1 ≤ bl) (hbb : bl ≤ 3000)
    (hK : ∀ (u82 u83 u84 u85 u86 u87 u88 u89 u90 u91 u92 u93 u94 u95 u96 u97 u98 u99 u100 u101 u102 u103 : Value) (Ae' : Option Addr) (ce' : Nat) (Bb : Option Addr) (cb : Nat) (blk : List Int) (L' : List Ev) (W' : World) (K' : Act → World → Prop) , blk = (if due = (k : Int) then x.blocks.getD (bl - 1) zero16 else []) → L' = L ++ (if due = (k : Int) then [⟨k, 2, blk⟩] else []) → (∀ V1 V2, Below W'.heap.size W' V1 → KpI w.heap.size V1 V2 → IntsK (KKo rv mv ov) w.heap.size V2 (.slice Bb blk.length cb) blk) → RoAt w W' #[.slice A0 x.irqs.length k0, .slice A1 x.values.length k1, .slice A2 x.blocks.length k2, .slice A3 x.delays.length k3] b rv mv ov M (.slice Ae' L'.length ce') L' → (∀ a' w', Code.wp Tryd.prog (rst 6 ((blockOf 1 (Tryd.f9.body.getD .skip)).getD .skip)) Q a' w' → K' a' w') → Code.wp Tryd.prog (stm 5 ((blockOf 1 (Tryd.f9.body.getD .skip)).getD .skip)) (Exit.then K' Q) ⟨#[c0, c1, c2, c3, .pointer (some ⟨w.heap.size, 0, none⟩), c5, c6, c7, c8, .pointer (some ⟨b, 0, none⟩), c10, .slice Ae' L'.length ce', c12, .int .i64 (bl : Int), .int .i64 (if due = (k : Int) then -1 else due), .int .i64 (k : Int), c16, c17, .slice Bb blk.length cb, c19, c20, c21, c22, c23, c24, c25, c26, c27, c28, c29, c30, c31, c32, c33, c34, c35, c36, c37, c38, c39, c40, c41, c42, c43, c44, c45, c46, c47, c48, c49, c50, c51, c52, c53, c54, c55, c56, c57, c58, c59, c60, c61, c62, c63, c64, c65, c66, c67, c68, c69, c70, c71, c72, c73, c74, c75, c76, c77, c78, c79, c80, c81, u82, u83, u84, u85, u86, u87, u88, u89, u90, u91, u92, u93, u94, u95, u96, u97, u98, u99, u100, u101, u102, u103, c104, c105, c106, c107, c108, c109, c110, c111, c112, c113, c114, c115, c116, c117, c118, c119, c120, c121, c122, c123, c124, c125, c126, c127, c128, c129, c130, c131, c132, c133, c134, c135, c136, c137, c138, c139, c140, c141, c142, c143, c144, c145, c146, c147, c148, c149, c150, c151, c152, c153, c154, c155, c156, c157, c158, c159, c160, c161, c162, c163, c164, c165, c166, c167, c168, c169, c170, c171, c172, c173, c174, c175, c176, c177, c178, c179, c180, c181, c182, c183, c184, c185, c186, c187, c188, c189, c190, c191, c192, c193, c194, c195, c196, c197, c198, c199, c200, c201, c202, c203, c204, c205, c206, c207, c208, c209, c210, c211, c212, c213, c214, c215], []⟩ W') :
    Code.wp Tryd.prog (stm 3 ((blockOf 1 (Tryd.f9.body.getD .skip)).getD .skip)) (Exit.then K Q) ⟨#[c0, c1, c2, c3, .pointer (some ⟨w.heap.size, 0, none⟩), c5, c6, c7, c8, .pointer (some ⟨b, 0, none⟩), c10, .slice Ae L.length ce, c12, .int .i64 (bl : Int), .int .i64 due, .int .i64 (k : Int), c16, c17, c18, c19, c20, c21, c22, c23, c24, c25, c26, c27, c28, c29, c30, c31, c32, c33, c34, c35, c36, c37, c38, c39, c40, c41, c42, c43, c44, c45, c46, c47, c48, c49, c50, c51, c52, c53, c54, c55, c56, c57, c58, c59, c60, c61, c62, c63, c64, c65, c66, c67, c68, c69, c70, c71, c72, c73, c74, c75, c76, c77, c78, c79, c80, c81, c82, c83, c84, c85, c86, c87, c88, c89, c90, c91, c92, c93, c94, c95, c96, c97, c98, c99, c100, c101, c102, c103, c104, c105, c106, c107, c108, c109, c110, c111, c112, c113, c114, c115, c116, c117, c118, c119, c120, c121, c122, c123, c124, c125, c126, c127, c128, c129, c130, c131, c132, c133, c134, c135, c136, c137, c138, c139, c140, c141, c142, c143, c144, c145, c146, c147, c148, c149, c150, c151, c152, c153, c154, c155, c156, c157, c158, c159, c160, c161, c162, c163, c164, c165, c166, c167, c168, c169, c170, c171, c172, c173, c174, c175, c176, c177, c178, c179, c180, c181, c182, c183, c184, c185, c186, c187, c188, c189, c190, c191, c192, c193, c194, c195, c196, c197, c198, c199, c200, c201, c202, c203, c204, c205, c206, c207, c208, c209, c210, c211, c212, c213, c214, c215], []⟩ W := by
  have HK : Hid (∀ (u82 u83 u84 u85 u86 u87 u88 u89 u90 u91 u92 u93 u94 u95 u96 u97 u98 u99 u100 u101 u102 u103 : Value) (Ae' : Option Addr) (ce' : Nat) (Bb : Option Addr) (cb : Nat) (blk : List Int) (L' : List Ev) (W' : World) (K' : Act → World → Prop) , blk = (if due = (k : Int) then x.blocks.getD (bl - 1) zero16 else []) → L' = L ++ (if due = (k : Int) then [⟨k, 2, blk⟩] else []) → (∀ V1 V2, Below W'.heap.size W' V1 → KpI w.heap.size V1 V2 → IntsK (KKo rv mv ov) w.heap.size V2 (.slice Bb blk.length cb) blk) → RoAt w W' #[.slice A0 x.irqs.length k0, .slice A1 x.values.length k1, .slice A2 x.blocks.length k2, .slice A3 x.delays.length k3] b rv mv ov M (.slice Ae' L'.length ce') L' → (∀ a' w', Code.wp Tryd.prog (rst 6 ((blockOf 1 (Tryd.f9.body.getD .skip)).getD .skip)) Q a' w' → K' a' w') → Code.wp Tryd.prog (stm 5 ((blockOf 1 (Tryd.f9.body.getD .skip)).getD .skip)) (Exit.then K' Q) ⟨#[c0, c1, c2, c3, .pointer (some ⟨w.heap.size, 0, none⟩), c5, c6, c7, c8, .pointer (some ⟨b, 0, none⟩), c10, .slice Ae' L'.length ce', c12, .int .i64 (bl : Int), .int .i64 (if due = (k : Int) then -1 else due), .int .i64 (k : Int), c16, c17, .slice Bb blk.length cb, c19, c20, c21, c22, c23, c24, c25, c26, c27, c28, c29, c30, c31, c32, c33, c34, c35, c36, c37, c38, c39, c40, c41, c42, c43, c44, c45, c46, c47, c48, c49, c50, c51, c52, c53, c54, c55, c56, c57, c58, c59, c60, c61, c62, c63, c64, c65, c66, c67, c68, c69, c70, c71, c72, c73, c74, c75, c76, c77, c78, c79, c80, c81, u82, u83, u84, u85, u86, u87, u88, u89, u90, u91, u92, u93, u94, u95, u96, u97, u98, u99, u100, u101, u102, u103, c104, c105, c106, c107, c108, c109, c110, c111, c112, c113, c114, c115, c116, c117, c118, c119, c120, c121, c122, c123, c124, c125, c126, c127, c128, c129, c130, c131, c132, c133, c134, c135, c136, c137, c138, c139, c140, c141, c142, c143, c144, c145, c146, c147, c148, c149, c150, c151, c152, c153, c154, c155, c156, c157, c158, c159, c160, c161, c162, c163, c164, c165, c166, c167, c168, c169, c170, c171, c172, c173, c174, c175, c176, c177, c178, c179, c180, c181, c182, c183, c184, c185, c186, c187, c188, c189, c190, c191, c192, c193, c194, c195, c196, c197, c198, c199, c200, c201, c202, c203, c204, c205, c206, c207, c208, c209, c210, c211, c212, c213, c214, c215], []⟩ W') := hK
  clear hK
  conv => arg 2; whnf
  conv at hc => intro a' w'; lhs; arg 2; whnf
  obtain ⟨i3, hi3, hz30, hz31, hz32⟩ := info_parts infoEvent
  have hm16 : ∀ W : World, (Instr.makeSlice 22 (.int .i64 16) (.int .i64 16)).run Tryd.prog W = .ok (.slice (some ⟨W.heap.size, 0, none⟩) 16 16) (W.alloc (.cells (madeCells #[.int .i64 0] 16) 3)) := fun W => run_make_row' (P := Tryd.prog) 22 3 (.int .i64 0) 8 Tryd.underlying22 infoInt rfl .i64 .i64 16 (by omega) (by omega) W
  have hold := h.old.size
  have H : Hid (RoAt w W #[.slice A0 x.irqs.length k0, .slice A1 x.values.length k1, .slice A2 x.blocks.length k2, .slice A3 x.delays.length k3] b rv mv ov M (.slice Ae L.length ce) L) := h
  by_cases hd : due = (k : Int)
  case neg =>
    have hd' : (due == (k : Int)) = false := by simpa using hd
    have HKn : Hid (∀ V1 V2, Below W.heap.size W V1 → KpI w.heap.size V1 V2 → IntsK (KKo rv mv ov) w.heap.size V2 (.slice none ([] : List Int).length 0) []) := fun _ _ _ _ => ⟨none, 0, rfl, by simp, fun h0 => by simp at h0⟩
    clear h hw hbl hm16
    rw [show (if due = (k : Int) then (-1 : Int) else due) = due from if_neg hd] at HK
    go_upto_region 29 with fail
    (refine HK.out _ _ _ _ _ _ _ _ _ _ _ _ _ _ _ _ _ _ _ _ _ _ _ _ _ _ [] L W _ (by rw [if_neg hd]) (by rw [if_neg hd]; simp) HKn.out H.out ?_; assumption)
  case pos =>
  subst hd
  rw [show (if (k : Int) = (k : Int) then (-1 : Int) else (k : Int)) = -1 from if_pos rfl] at HK
  obtain ⟨R, hR, hRL, hR3⟩ := h.evs
  have hRn : R.length = L.length := by rw [← hRL, List.length_map]
  have HO : Hid (W.ownsRow w.heap.size 54 3 (.slice Ae L.length ce) L.length (flat R)) := hRn ▸ hR.row
  have hLn : (flat R).length = L.length * 3 := HO.out.1
  have HR : Hid (OwnV W w.heap.size (.slice Ae L.length ce) R ∧ R.map Prod.fst = L ∧ ∀ p ∈ R, ∀ g, p.2.ownBlock = some g → KKo rv mv ov g ∧ g < W.heap.size) := ⟨hR, hRL, hR3⟩
  have HG : Hid (∀ g, W.heap.size ≤ g → KKo rv mv ov g) := fun g hg => ⟨fun e => by have := ownsRow_lt H.out.own.regs e; omega, fun e => by have := ownsRow_lt H.out.own.mem e; omega, fun e => by have := ownsRow_lt H.out.own.out e; omega⟩
  obtain ⟨z0, z1, z2, z3, zf, zl⟩ := four_cells h.wb
  clear hR hRL hR3
  by_cases hb1 : bl ≤ x.blocks.length
  case neg =>
    have hb' : ¬ (bl : Int) ≤ (x.blocks.length : Int) := by omega
    have hz : x.blocks.getD (bl - 1) zero16 = zero16 := by simp [List.getD, show ¬ bl - 1 < x.blocks.length by omega]
    clear h hw
    go_upto_region 29 with (first
      | (at_builtin; refine wpList_append_own_at _ rfl _ _ 43 rfl w.heap.size 54 i3 (.agg #[.int .i64 0, .int .i64 0, .slice none 0 0]) 3 40 Tryd.underlying43 hi3 hz30 hz31 hz32 rfl (by decide) (.slice Ae L.length ce) L.length (flat R) rfl (World.ownsRow.alloc (World.ownsRow.alloc HO.out _) _) ⟨W.heap.size + 1, 0, none⟩ 1 1 [.int .i64 (k : Int), .int .i64 2, .slice (some ⟨W.heap.size, 0, none⟩) 16 16] rfl rfl ?c2 (by intro u hu; simp at hu; rcases hu with rfl | rfl | rfl <;> rfl) ?c3 ?c4 ?c5 ?_))
    case c3 => unfold maxLen; omega
    case c4 => omega
    case c5 => omega
    intro v' w3 hown hgrow _ _
    obtain ⟨A', c', rfl⟩ := row_shape hown
    have hA := below_alloc W (.cells (madeCells #[.int .i64 0] 16) 3)
    have hOI : OwnI (W.alloc (.cells (madeCells #[.int .i64 0] 16) 3)) W.heap.size (.slice (some ⟨W.heap.size, 0, none⟩) 16 16) zero16 := by
      refine ⟨by simp [zero16], Or.inr ⟨W.heap.size, 16, _, rfl, Nat.le_refl _, Go.Deep.blk_alloc_new _ _, Nat.le_refl _, by unfold maxLen; omega, by simp [size_madeCells], by kernel_rfl⟩⟩
    have hN := EvI.noted (w := W.alloc (.cells (madeCells #[.int .i64 0] 16) 3)) (KK := KKo rv mv ov) (y := ⟨(k : Int), 2, zero16⟩) (d := .slice (some ⟨W.heap.size, 0, none⟩) 16 16) (HR.out.1.below hA hold) (fun p hp g hg => ⟨(HR.out.2.2 p hp g hg).1, Nat.lt_of_lt_of_le (HR.out.2.2 p hp g hg).2 hA.size⟩) (Nat.le_trans hold hA.size) (Or.inr (ownsRow_mono hOI hold)) (fun g e => by
      simp [Value.ownBlock] at e
      subst e
      exact ⟨HG.out _ (Nat.le_refl _), by simp⟩) hgrow (by rw [hRn]; exact hown)
    rw [HR.out.2.1] at hN
    have HN : Hid (RoAt w w3 #[.slice A0 x.irqs.length k0, .slice A1 x.values.length k1, .slice A2 x.blocks.length k2, .slice A3 x.delays.length k3] b rv mv ov M (.slice A' (L.length + 1) c') (L ++ [⟨(k : Int), 2, zero16⟩])) := (H.out.below hA).kp hN.2 hN.1
    have HKK : Hid (∀ V1 V2, Below w3.heap.size w3 V1 → KpI w.heap.size V1 V2 → IntsK (KKo rv mv ov) w.heap.size V2 (.slice (some ⟨W.heap.size, 0, none⟩) zero16.length 16) zero16) := fun V1 V2 h1 h2 => intsK_of_own (OwnI.kp (OwnI.below (OwnI.kp hOI hN.2) h1) h2) HG.out (by simp [zero16])
    clear hN hown hgrow z0 z1 z2 z3 zf zl hA hOI
    go_upto_region 29 with fail
    have hl1 : (L ++ [(⟨(k : Int), 2, zero16⟩ : Ev)]).length = L.length + 1 := by simp
    have HN2 := HN.out
    rw [← hl1] at HN2 ⊢
    (refine HK.out _ _ _ _ _ _ _ _ _ _ _ _ _ _ _ _ _ _ _ _ _ _ _ _ _ _ zero16 (L ++ [⟨(k : Int), 2, zero16⟩]) w3 _ (by first | exact hz.symm | (rw [if_pos trivial]; exact hz.symm)) (by simp) HKK.out HN2 ?_; assumption)
  case pos =>
    have hb' : (bl : Int) ≤ (x.blocks.length : Int) := by omega
    have hbw : IntKind.i64.wrap ((bl : Int) - 1) = ((bl - 1 : Nat) : Int) := by rw [IntWalk.i64_in _ (by omega)]; omega
    have hb2 : ((bl - 1 : Nat) : Int) < (x.blocks.length : Int) := by omega
    have hz : x.blocks.getD (bl - 1) zero16 = x.blocks.getD (bl - 1) [] := by simp [List.getD, show bl - 1 < x.blocks.length by omega]
    have h16 : (x.blocks.getD (bl - 1) []).length = 16 := (hxm.blocks _ (by omega)).1
    obtain ⟨A2', k2', e2', hl2, hc2⟩ := hw.blocks.below h.old
    simp only [Value.slice.injEq, true_and] at e2'
    obtain ⟨rfl, rfl⟩ := e2'
    obtain ⟨b2, o2, rfl, hbb2, hj2⟩ := hc2 (by omega)
    obtain ⟨u, hu1, hu2⟩ := hj2 (bl - 1) (by omega)
    have HW : Hid (∀ V, Below W.heap.size W V → Calls Tryd.prog 33 #[u] V fun e w' => ∃ A c, e = .returned (.slice A 16 c) ∧ OwnI w' V.heap.size (.slice A 16 c) (x.blocks.getD (bl - 1) []) ∧ Below V.heap.size V w') := fun V hV => words_is u _ V (hu2.below hV) h16
    obtain ⟨D, hD⟩ : ∃ D, x.blocks.getD (bl - 1) [] = D := ⟨_, rfl⟩
    rw [hD] at HW hz h16
    have hz' : Hid (x.blocks.getD (bl - 1) zero16 = D) := hz
    clear h hw hc2 hj2 hu2 hz hD
    obtain ⟨q, hq⟩ : ∃ q, bl - 1 = q := ⟨_, rfl⟩
    rw [hq] at hbw hb2 hu1
    have hu0 : ((q : Nat) : Int) = (q : Int) := rfl
    go_upto_region 29 with (first
      | (go_at_call 33; refine (HW.out _ (below_alloc _ _)).mono ?_; rintro e w1 ⟨A5, q5, rfl, ho5, hb5⟩; have H5 : Hid (OwnI w1 W.heap.size (.slice A5 16 q5) D ∧ Below W.heap.size W w1) := ⟨ownsRow_mono ho5 (below_alloc W _).size, (below_alloc W _).trans (hb5.mono (below_alloc W _).size)⟩; have HO5 : Hid (w1.ownsRow w.heap.size 54 3 (.slice Ae L.length ce) L.length (flat R)) := ownsRow_below HO.out H5.out.2; clear ho5 hb5)
      | (at_builtin; refine wpList_append_own_at _ rfl _ _ 43 rfl w.heap.size 54 i3 (.agg #[.int .i64 0, .int .i64 0, .slice none 0 0]) 3 40 Tryd.underlying43 hi3 hz30 hz31 hz32 rfl (by decide) (.slice Ae L.length ce) L.length (flat R) rfl (World.ownsRow.alloc HO5.out _) ⟨w1.heap.size, 0, none⟩ 1 1 [.int .i64 (k : Int), .int .i64 2, .slice A5 16 q5] rfl rfl (cell_three_new _ _ _ _ _) (by intro u hu; simp at hu; rcases hu with rfl | rfl | rfl <;> rfl) ?d3 ?d4 ?d5 ?_))
    case d3 => unfold maxLen; omega
    case d4 => omega
    case d5 =>
      have h5s := H5.out.2.size
      first | omega | (simp; omega)
    intro v' w3 hown hgrow _ _
    obtain ⟨A', c', rfl⟩ := row_shape hown
    have hA := H5.out.2
    have hN := EvI.noted (w := w1) (KK := KKo rv mv ov) (y := ⟨(k : Int), 2, D⟩) (d := .slice A5 16 q5) (HR.out.1.below hA hold) (fun p hp g hg => ⟨(HR.out.2.2 p hp g hg).1, Nat.lt_of_lt_of_le (HR.out.2.2 p hp g hg).2 hA.size⟩) (Nat.le_trans hold hA.size) (Or.inr (ownsRow_mono H5.out.1 hold)) (fun g e => ⟨HG.out _ (own_base H5.out.1 e), ownsRow_lt H5.out.1 e⟩) hgrow (by rw [hRn]; exact hown)
    rw [HR.out.2.1] at hN
    have HN : Hid (RoAt w w3 _ b rv mv ov M (.slice A' (L.length + 1) c') (L ++ [⟨(k : Int), 2, D⟩])) := (H.out.below hA).kp hN.2 hN.1
    have HKK : Hid (∀ V1 V2, Below w3.heap.size w3 V1 → KpI w.heap.size V1 V2 → IntsK (KKo rv mv ov) w.heap.size V2 (.slice A5 D.length q5) D) := fun V1 V2 h1 h2 => intsK_of_own (h16.symm ▸ OwnI.kp (OwnI.below (OwnI.kp H5.out.1 hN.2) h1) h2) HG.out (by omega)
    clear hN hown hgrow z0 z1 z2 z3 zf zl hA
    go_upto_region 29 with fail
    have hl1 : (L ++ [(⟨(k : Int), 2, D⟩ : Ev)]).length = L.length + 1 := by simp
    have HN2 := HN.out
    rw [← hl1] at HN2 ⊢
    rw [show Value.slice A5 16 q5 = .slice A5 D.length q5 by rw [h16]]
    (refine HK.out _ _ _ _ _ _ _ _ _ _ _ _ _ _ _ _ _ _ _ _ _ _ _ _ _ _ D (L ++ [⟨(k : Int), 2, D⟩]) w3 _ (by first | exact hz'.out.symm | (rw [if_pos trivial]; exact hz'.out.symm)) (by simp) HKK.out HN2 ?_; assumption)


end Go.Proofs.YtbjlfhpiebokkaaDoor
