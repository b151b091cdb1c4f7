/- space.Play: what lies in memory; the writes ahead of the fork. (Written by tools/gen_pl.py.) -/
import Derived.Test.YtlcdefpdahjjeafWrRel
import Derived.Test.YtlcdefpdahjjeafRowsB
import Derived.Test.YtlcdefpdahjjeafFk
import Derived.Test.YtlcdefpdahjjeafPgW
import Derived.Test.YtlcdefpdahjjeafWalkH
import Derived.Deep.DeepCutAuto
namespace Go.Proofs.Ytlcdefpdahjjeaf
open Go.RowKit

/-- A slice over pairs, over threes of numbers. -/
def PairsAt (w : World) (v : Value) (l : List (Int × Int)) : Prop :=
  ∃ (A : Option Addr) (c : Nat), v = .slice A l.length c ∧ l.length * 16 ≤ 140737488351232 ∧
    (0 < l.length → ∃ b off, A = some ⟨b, off, none⟩ ∧ b < w.heap.size ∧ ∀ j, j < l.length → w.cell? ⟨b, off + j * 2, none⟩ = some (.int .i64 (l.getD j (0, 0)).1) ∧ w.cell? ⟨b, off + j * 2 + 1, none⟩ = some (.int .i64 (l.getD j (0, 0)).2))
def ThreesAt (w : World) (v : Value) (l : List (Int × Int × Int)) : Prop :=
  ∃ (A : Option Addr) (c : Nat), v = .slice A l.length c ∧ l.length * 24 ≤ 140737488351232 ∧
    (0 < l.length → ∃ b off, A = some ⟨b, off, none⟩ ∧ b < w.heap.size ∧ ∀ j, j < l.length → w.cell? ⟨b, off + j * 3, none⟩ = some (.int .i64 (l.getD j (0, 0, 0)).1) ∧ w.cell? ⟨b, off + j * 3 + 1, none⟩ = some (.int .i64 (l.getD j (0, 0, 0)).2.1) ∧ w.cell? ⟨b, off + j * 3 + 2, none⟩ = some (.int .i64 (l.getD j (0, 0, 0)).2.2))

/-- What a play answers. -/
def PlayPost (w : World) (P : List Int × List Int × Int × Int) (e : Ending) (w' : World) : Prop :=
  ∃ va vb, e = .returned (.tuple #[va, vb, .int .i64 P.2.2.1, .int .i64 P.2.2.2]) ∧ IntsLo w.heap.size w' va P.1 ∧ IntsLo w.heap.size w' vb P.2.1 ∧ Below w.heap.size w w'
theorem playPost_no {w w' : World} {er : Int} (hb : Below w.heap.size w w') : PlayPost w ([], [], 0, er) (.returned (.tuple #[.slice none 0 0, .slice none 0 0, .int .i64 0, .int .i64 er])) w' :=
  ⟨_, _, rfl, IntsLo.nil _ _, IntsLo.nil _ _, hb⟩

/-- The frames' box and a space's box. -/
structure PlI (w W : World) (bf bs : Nat) (d r : Value) (s : List Int) (D : List (List Int)) (R : List Int) : Prop where
  fb : W.heap[bf]? = some (.cells #[d, r] 44 (0, 0))
  sb : W.heap[bs]? = some (.cells (pgc s) 48 (0, 0))
  rows : RowsB (fun b => b ≠ bf ∧ b ≠ bs) W d D
  ints : IntsB (fun b => b ≠ bf ∧ b ≠ bs) W r R
  lf : w.heap.size ≤ bf
  ls : w.heap.size ≤ bs
  ne : bf ≠ bs
  old : Below w.heap.size w W
theorem PlI.below {w W W' : World} {bf bs : Nat} {d r : Value} {s : List Int} {D : List (List Int)} {R : List Int} (h : PlI w W bf bs d r s D R) (hb : Below W.heap.size W W') : PlI w W' bf bs d r s D R :=
  ⟨(hb.block _ (lt_of_block h.fb)).trans h.fb, (hb.block _ (lt_of_block h.sb)).trans h.sb, h.rows.below hb, h.ints.below hb, h.lf, h.ls, h.ne, h.old.trans (hb.mono h.old.size)⟩

theorem PlI.store {w W : World} {bf bs lo : Nat} {d r d' r' : Value} {s : List Int} {D D' : List (List Int)} {R R' : List Int} (h : PlI w W bf bs d r s D R) (hs : s.length = 16) (hlf : bf < lo) (hls : bs < lo) (hD : RowsLo lo W d' D') (hR : IntsLo lo W r' R') (x0 x1 x2 x3 x4 x5 x6 x7 x8 x9 x10 x11 x12 x13 x14 x15 : Int) : PlI w ((((((((((((((((((W.setCell ⟨bf, 0, none⟩ d').setCell ⟨bf, 1, none⟩ r').setCell ⟨bs, 0, none⟩ (.int .i64 x0)).setCell ⟨bs, 1, none⟩ (.int .i64 x1)).setCell ⟨bs, 2, none⟩ (.int .i64 x2)).setCell ⟨bs, 3, none⟩ (.int .i64 x3)).setCell ⟨bs, 4, none⟩ (.int .i64 x4)).setCell ⟨bs, 5, none⟩ (.int .i64 x5)).setCell ⟨bs, 6, none⟩ (.int .i64 x6)).setCell ⟨bs, 7, none⟩ (.int .i64 x7)).setCell ⟨bs, 8, none⟩ (.int .i64 x8)).setCell ⟨bs, 9, none⟩ (.int .i64 x9)).setCell ⟨bs, 10, none⟩ (.int .i64 x10)).setCell ⟨bs, 11, none⟩ (.int .i64 x11)).setCell ⟨bs, 12, none⟩ (.int .i64 x12)).setCell ⟨bs, 13, none⟩ (.int .i64 x13)).setCell ⟨bs, 14, none⟩ (.int .i64 x14)).setCell ⟨bs, 15, none⟩ (.int .i64 x15)) bf bs d' r' [x0, x1, x2, x3, x4, x5, x6, x7, x8, x9, x10, x11, x12, x13, x14, x15] D' R' := by
  have hne := h.ne
  refine ⟨set16_other (set1 (set0 h.fb d') r') hne _ _ _ _ _ _ _ _ _ _ _ _ _ _ _ _, set16_box (c := pgc s) (other_block (other_block h.sb (Ne.symm hne) _) (Ne.symm hne) _) (by simp [pgc, hs]) _ _ _ _ _ _ _ _ _ _ _ _ _ _ _ _, ?_, ?_, h.lf, h.ls, hne, set16_below ((h.old.setCell h.lf _).setCell h.lf _) h.ls _ _ _ _ _ _ _ _ _ _ _ _ _ _ _ _⟩
  · exact (((((((((((((((((((hD.inB.mono fun b _ hb => (⟨by omega, by omega⟩ : b ≠ bf ∧ b ≠ bs)).setCell (fun h => h.1 rfl) _).setCell (fun h => h.1 rfl) _).setCell (fun h => h.2 rfl) _).setCell (fun h => h.2 rfl) _).setCell (fun h => h.2 rfl) _).setCell (fun h => h.2 rfl) _).setCell (fun h => h.2 rfl) _).setCell (fun h => h.2 rfl) _).setCell (fun h => h.2 rfl) _).setCell (fun h => h.2 rfl) _).setCell (fun h => h.2 rfl) _).setCell (fun h => h.2 rfl) _).setCell (fun h => h.2 rfl) _).setCell (fun h => h.2 rfl) _).setCell (fun h => h.2 rfl) _).setCell (fun h => h.2 rfl) _).setCell (fun h => h.2 rfl) _).setCell (fun h => h.2 rfl) _)
  · exact (((((((((((((((((((hR.inB.mono fun b _ hb => (⟨by omega, by omega⟩ : b ≠ bf ∧ b ≠ bs)).setCell (fun h => h.1 rfl) _).setCell (fun h => h.1 rfl) _).setCell (fun h => h.2 rfl) _).setCell (fun h => h.2 rfl) _).setCell (fun h => h.2 rfl) _).setCell (fun h => h.2 rfl) _).setCell (fun h => h.2 rfl) _).setCell (fun h => h.2 rfl) _).setCell (fun h => h.2 rfl) _).setCell (fun h => h.2 rfl) _).setCell (fun h => h.2 rfl) _).setCell (fun h => h.2 rfl) _).setCell (fun h => h.2 rfl) _).setCell (fun h => h.2 rfl) _).setCell (fun h => h.2 rfl) _).setCell (fun h => h.2 rfl) _).setCell (fun h => h.2 rfl) _).setCell (fun h => h.2 rfl) _)

set_option maxRecDepth 100000 in
set_option maxHeartbeats 4000000 in
theorem pl4 (c0 c2 c3 c4 c5 c6 c7 c8 c9 c11 c13 c14 c15 c16 c17 c18 c19 c20 c21 c22 c23 c24 c25 c26 c27 c28 c29 c30 c31 c32 c33 c34 c35 c36 c37 c38 c39 c40 c41 c42 c43 c44 c45 c46 c47 c48 c49 c50 c51 c52 c53 c54 c55 c56 c57 c58 c59 c60 c61 c62 c63 c64 c65 c66 c67 c68 c69 c70 c71 c72 c73 c74 c75 c76 c77 c78 c79 c80 c81 c82 c83 c84 c85 c86 c87 c88 c89 c90 c91 c92 c93 c94 c95 c96 c97 c98 c99 c100 : Value) (VA : Option Addr) (vc : Nat) (F : List (Int × Int)) (PP : List Int × List Int × Int × Int) (bf bs n : Nat) (A B : Option Addr) (c c' : Nat) (D : List (List Int)) (R s : List Int) (w W : World) (K : Act → World → Prop) 
    (h : PlI w W bf bs (.slice A D.length c) (.slice B R.length c') s D R) (hrel0 : Rel n D R s blank PS.start) (hp : PairsAt w (.slice VA F.length vc) F) (herr : (playF n PS.start F).2 ≠ 0 → PP = ([], [], 0, (playF n PS.start F).2))
    (hK : ∀ (u6 u7 u8 u9 u11 u13 u14 u29 u30 u31 u32 u33 u34 u35 u36 u37 u38 u39 u40 u41 u42 u43 u44 u45 u46 u47 u48 u49 : Value) (D1 : List (List Int)) (R1 s1 : List Int) (A1 B1 : Option Addr) (k1 k1' : Nat) (W' : World), PlI w W' bf bs (.slice A1 D1.length k1) (.slice B1 R1.length k1') s1 D1 R1 → Rel n D1 R1 s1 blank (playF n PS.start F).1 → (playF n PS.start F).2 = 0 → K ⟨#[c0, .slice VA F.length vc, c2, c3, c4, c5, u6, u7, u8, u9, .pointer (some ⟨bf, 0, none⟩), u11, .pointer (some ⟨bs, 0, none⟩), u13, u14, c15, c16, c17, c18, c19, c20, c21, c22, c23, c24, c25, c26, c27, c28, u29, u30, u31, u32, u33, u34, u35, u36, u37, u38, u39, u40, u41, u42, u43, u44, u45, u46, u47, u48, u49, c50, c51, c52, c53, c54, c55, c56, c57, c58, c59, c60, c61, c62, c63, c64, c65, c66, c67, c68, c69, c70, c71, c72, c73, c74, c75, c76, c77, c78, c79, c80, c81, c82, c83, c84, c85, c86, c87, c88, c89, c90, c91, c92, c93, c94, c95, c96, c97, c98, c99, c100], []⟩ W') :
    Code.wp Try.prog (stm 4 (Try.f6.body.getD .skip)) (Exit.then K (bodyPost Try.prog Try.f6 (fun e w' => PlayPost w PP e w'))) ⟨#[c0, .slice VA F.length vc, c2, c3, c4, c5, c6, c7, c8, c9, .pointer (some ⟨bf, 0, none⟩), c11, .pointer (some ⟨bs, 0, none⟩), c13, c14, c15, c16, c17, c18, c19, c20, c21, c22, c23, c24, c25, c26, c27, c28, c29, c30, c31, c32, c33, c34, c35, c36, c37, c38, c39, c40, c41, c42, c43, c44, c45, c46, c47, c48, c49, c50, c51, c52, c53, c54, c55, c56, c57, c58, c59, c60, c61, c62, c63, c64, c65, c66, c67, c68, c69, c70, c71, c72, c73, c74, c75, c76, c77, c78, c79, c80, c81, c82, c83, c84, c85, c86, c87, c88, c89, c90, c91, c92, c93, c94, c95, c96, c97, c98, c99, c100], []⟩ W := by
  have HK : Hid (∀ (u6 u7 u8 u9 u11 u13 u14 u29 u30 u31 u32 u33 u34 u35 u36 u37 u38 u39 u40 u41 u42 u43 u44 u45 u46 u47 u48 u49 : Value) (D1 : List (List Int)) (R1 s1 : List Int) (A1 B1 : Option Addr) (k1 k1' : Nat) (W' : World), PlI w W' bf bs (.slice A1 D1.length k1) (.slice B1 R1.length k1') s1 D1 R1 → Rel n D1 R1 s1 blank (playF n PS.start F).1 → (playF n PS.start F).2 = 0 → K ⟨#[c0, .slice VA F.length vc, c2, c3, c4, c5, u6, u7, u8, u9, .pointer (some ⟨bf, 0, none⟩), u11, .pointer (some ⟨bs, 0, none⟩), u13, u14, c15, c16, c17, c18, c19, c20, c21, c22, c23, c24, c25, c26, c27, c28, u29, u30, u31, u32, u33, u34, u35, u36, u37, u38, u39, u40, u41, u42, u43, u44, u45, u46, u47, u48, u49, c50, c51, c52, c53, c54, c55, c56, c57, c58, c59, c60, c61, c62, c63, c64, c65, c66, c67, c68, c69, c70, c71, c72, c73, c74, c75, c76, c77, c78, c79, c80, c81, c82, c83, c84, c85, c86, c87, c88, c89, c90, c91, c92, c93, c94, c95, c96, c97, c98, c99, c100], []⟩ W') := hK
  clear hK
  conv => arg 2; whnf
  obtain ⟨Aq, cq, eq, hFl, hFc⟩ := hp
  simp only [Value.slice.injEq, true_and] at eq
  obtain ⟨rfl, rfl⟩ := eq
  have HFC : Hid (0 < F.length → ∃ b off, VA = some ⟨b, off, none⟩ ∧ b < w.heap.size ∧ ∀ j, j < F.length → w.cell? ⟨b, off + j * 2, none⟩ = some (.int .i64 (F.getD j (0, 0)).1) ∧ w.cell? ⟨b, off + j * 2 + 1, none⟩ = some (.int .i64 (F.getD j (0, 0)).2)) := hFc
  have HL : Hid (F.length * 16 ≤ 140737488351232) := hFl
  have H0 : Hid (PlI w W bf bs (.slice A D.length c) (.slice B R.length c') s D R ∧ Rel n D R s blank PS.start) := ⟨h, hrel0⟩
  have HER : Hid ((playF n PS.start F).2 ≠ 0 → PP = ([], [], 0, (playF n PS.start F).2)) := herr
  clear h hrel0 hFc hFl herr
  go_wp2_with fail
  go_loopw [31] (fun i wr => ∃ (k : Nat) (D1 : List (List Int)) (R1 s1 : List Int) (S : PS) (A1 B1 : Option Addr) (k1 k1' : Nat), k ≤ F.length ∧ i = .int .i64 (k : Int) ∧ PlI w wr bf bs (.slice A1 D1.length k1) (.slice B1 R1.length k1') s1 D1 R1 ∧ Rel n D1 R1 s1 blank S ∧ playF n PS.start F = playF n S (F.drop k)) (fun i _ => F.length - (intOf i).toNat)
  case atStart => exact ⟨0, D, R, s, PS.start, A, B, c, c', Nat.zero_le _, rfl, H0.out.1, H0.out.2, rfl⟩
  case round =>
    obtain ⟨k, D1, R1, s1, S, A1, B1, k1, k1', hk, rfl, hI, hR, hP⟩ := hrel
    have hFL := HL.out
    by_cases hlt : k < F.length
    · obtain ⟨bq, oq, rfl, hbq, hcq⟩ := HFC.out (by omega)
      obtain ⟨y0, y1⟩ := hcq k hlt
      obtain ⟨⟨a, v⟩, hav⟩ : ∃ x, x = F.getD k (0, 0) := ⟨_, rfl⟩
      rw [← hav] at y0 y1
      have hdr : F.drop k = (a, v) :: F.drop (k + 1) := by
        have e := List.drop_eq_getElem_cons hlt
        have e2 : F.getD k (0, 0) = F[k] := by simp [List.getD, hlt]
        rw [hav, e2]
        exact e
      have x0 := (hI.old.cell (p := ⟨bq, oq + k * 2, none⟩) hbq).trans y0
      have x1 := (hI.old.cell (p := ⟨bq, oq + k * 2 + 1, none⟩) hbq).trans y1
      have hbs : bq < wr.heap.size := Nat.lt_of_lt_of_le hbq hI.old.size
      have hl : (k : Int) < (F.length : Int) := by omega
      have hw2 : IntKind.i64.wrap ((k : Int) + 1) = (k : Int) + 1 := IntWalk.i64_in _ (by omega)
      have HIR : Hid (PlI w wr bf bs (.slice A1 D1.length k1) (.slice B1 R1.length k1') s1 D1 R1 ∧ Rel n D1 R1 s1 blank S ∧ playF n PS.start F = playF n S ((a, v) :: F.drop (k + 1))) := ⟨hI, hR, by rw [← hdr]; exact hP⟩
      clear hI hR hP hcq y0 y1 hav hdr H0
      go_upto_region 8 with fail
      obtain ⟨W1, hW1⟩ : ∃ W1, W1 = wr.alloc (.cells #[.int .i64 a, .int .i64 v] 34) := ⟨_, rfl⟩
      have hb1 := below_alloc wr (.cells #[.int .i64 a, .int .i64 v] 34)
      have hw1 := Go.Deep.blk_alloc_new wr (.cells #[.int .i64 a, .int .i64 v] 34)
      rw [← hW1] at hb1 hw1 ⊢
      have hI1 := HIR.out.1.below hb1
      obtain ⟨q0, q1, q2, q3, q4, q5, q6, q7, q8, q9, q10, q11, q12, q13, q14, q15, hsl⟩ := list16 HIR.out.2.1.ls
      have hsb : W1.heap[bs]? = some (.cells #[.int .i64 q0, .int .i64 q1, .int .i64 q2, .int .i64 q3, .int .i64 q4, .int .i64 q5, .int .i64 q6, .int .i64 q7, .int .i64 q8, .int .i64 q9, .int .i64 q10, .int .i64 q11, .int .i64 q12, .int .i64 q13, .int .i64 q14, .int .i64 q15] 48 (0, 0)) := by have := hI1.sb; rw [hsl] at this; exact this
      obtain ⟨⟨z0, z1, z2, z3, z4, z5, z6, z7, z8, z9, z10, z11, z12, z13, z14, z15⟩, zf, zl⟩ := sixteen_cells hsb
      obtain ⟨f0, f1, ff, fl⟩ := two_cells hI1.fb
      obtain ⟨g0, g1, gf, gl⟩ := two_cells hw1
      have HC : Hid (Calls Try.prog 16 #[.agg #[.slice A1 D1.length k1, .slice B1 R1.length k1'], .agg #[.int .i64 q0, .int .i64 q1, .int .i64 q2, .int .i64 q3, .int .i64 q4, .int .i64 q5, .int .i64 q6, .int .i64 q7, .int .i64 q8, .int .i64 q9, .int .i64 q10, .int .i64 q11, .int .i64 q12, .int .i64 q13, .int .i64 q14, .int .i64 q15], .int .i64 a, .int .i64 v] W1 fun e w' => WrAns n blank S a v W1 e w') := by
        have := write_rel A1 B1 k1 k1' n D1 R1 s1 blank S a v W1 HIR.out.2.1 hI1.rows.at hI1.ints.at
        rw [show Value.agg (pgc s1) = .agg #[.int .i64 q0, .int .i64 q1, .int .i64 q2, .int .i64 q3, .int .i64 q4, .int .i64 q5, .int .i64 q6, .int .i64 q7, .int .i64 q8, .int .i64 q9, .int .i64 q10, .int .i64 q11, .int .i64 q12, .int .i64 q13, .int .i64 q14, .int .i64 q15] by rw [hsl]; rfl] at this
        exact this
      have HI1 : Hid (PlI w W1 bf bs (.slice A1 D1.length k1) (.slice B1 R1.length k1') s1 D1 R1 ∧ s1.length = 16 ∧ playF n PS.start F = playF n S ((a, v) :: F.drop (k + 1))) := ⟨hI1, HIR.out.2.1.ls, HIR.out.2.2⟩
      clear hW1 hb1 hw1 hI1 hsb hsl HIR x0 x1 hbs hbq
      go_wp2_with fail
      refine HC.out.mono ?_
      rintro e w2 (⟨hne, A2, k2, B2, k2', rfl, -, -, hb2⟩ | ⟨he0, D2, R2, s2, hRel2, A2, k2, B2, k2', rfl, hD2, hR2, hb2⟩)
      · obtain ⟨er, her⟩ : ∃ er, er = S.err n a := ⟨_, rfl⟩
        rw [← her] at hne ⊢
        have hI2 := HI1.out.1.below hb2
        have hPF : playF n PS.start F = (S, er) := by rw [HI1.out.2.2, playF, if_neg (by rw [← her]; exact hne), ← her]
        have HPP : Hid (PP = ([], [], 0, er)) := by
          have := HER.out (by rw [hPF]; exact hne)
          rw [hPF] at this
          exact this
        have d0 : (er != 0) = true := by simpa using hne
        have HBL : Hid (Below w.heap.size w w2 ∧ w.heap.size ≤ bf ∧ w.heap.size ≤ bs) := ⟨hI2.old, hI2.lf, hI2.ls⟩
        have nfs : ¬ bf = bs := hI2.ne
        have nsf : ¬ bs = bf := fun e => nfs e.symm
        obtain ⟨q0, q1, q2, q3, q4, q5, q6, q7, q8, q9, q10, q11, q12, q13, q14, q15, hsl⟩ := list16 HI1.out.2.1
        have hsb : w2.heap[bs]? = some (.cells #[.int .i64 q0, .int .i64 q1, .int .i64 q2, .int .i64 q3, .int .i64 q4, .int .i64 q5, .int .i64 q6, .int .i64 q7, .int .i64 q8, .int .i64 q9, .int .i64 q10, .int .i64 q11, .int .i64 q12, .int .i64 q13, .int .i64 q14, .int .i64 q15] 48 (0, 0)) := by have := hI2.sb; rw [hsl] at this; exact this
        clear z0 z1 z2 z3 z4 z5 z6 z7 z8 z9 z10 z11 z12 z13 z14 z15 zf zl f0 f1 ff fl g0 g1 gf gl
        obtain ⟨⟨z0, z1, z2, z3, z4, z5, z6, z7, z8, z9, z10, z11, z12, z13, z14, z15⟩, zf, zl⟩ := sixteen_cells hsb
        obtain ⟨f0, f1, ff, fl⟩ := two_cells hI2.fb
        rw [show pgc zeros = zero16 from rfl]
        clear hI2 hPF hne her hsl hsb HC HI1 hb2
        dsimp only
        go_wp2_with fail
        change bodyPost Try.prog Try.f6 _ _ _ _
        refine bodyPost_ret (v := .tuple #[.slice none 0 0, .slice none 0 0, .int .i64 0, .int .i64 er]) (by simp [results, Try.results6, go_sem]) rfl ?_
        rw [HPP.out]
        exact playPost_no (set16_below ((HBL.out.1.setCell (by simpa using HBL.out.2.1) _).setCell (by simpa using HBL.out.2.1) _) HBL.out.2.2 _ _ _ _ _ _ _ _ _ _ _ _ _ _ _ _)
      · have hI2 := HI1.out.1.below hb2
        have hP2 : playF n PS.start F = playF n (S.put a.toNat v) (F.drop (k + 1)) := by rw [HI1.out.2.2, playF, if_pos he0]
        have nfs : ¬ bf = bs := hI2.ne
        have nsf : ¬ bs = bf := fun e => nfs e.symm
        obtain ⟨q0, q1, q2, q3, q4, q5, q6, q7, q8, q9, q10, q11, q12, q13, q14, q15, hsl⟩ := list16 HI1.out.2.1
        obtain ⟨t0, t1, t2, t3, t4, t5, t6, t7, t8, t9, t10, t11, t12, t13, t14, t15, htl⟩ := list16 hRel2.ls
        have hsb : w2.heap[bs]? = some (.cells #[.int .i64 q0, .int .i64 q1, .int .i64 q2, .int .i64 q3, .int .i64 q4, .int .i64 q5, .int .i64 q6, .int .i64 q7, .int .i64 q8, .int .i64 q9, .int .i64 q10, .int .i64 q11, .int .i64 q12, .int .i64 q13, .int .i64 q14, .int .i64 q15] 48 (0, 0)) := by have := hI2.sb; rw [hsl] at this; exact this
        have HN : Hid (∀ W', W' = ((((((((((((((((((w2.setCell ⟨bf, 0, none⟩ (.slice A2 D2.length k2)).setCell ⟨bf, 1, none⟩ (.slice B2 R2.length k2')).setCell ⟨bs, 0, none⟩ (.int .i64 t0)).setCell ⟨bs, 1, none⟩ (.int .i64 t1)).setCell ⟨bs, 2, none⟩ (.int .i64 t2)).setCell ⟨bs, 3, none⟩ (.int .i64 t3)).setCell ⟨bs, 4, none⟩ (.int .i64 t4)).setCell ⟨bs, 5, none⟩ (.int .i64 t5)).setCell ⟨bs, 6, none⟩ (.int .i64 t6)).setCell ⟨bs, 7, none⟩ (.int .i64 t7)).setCell ⟨bs, 8, none⟩ (.int .i64 t8)).setCell ⟨bs, 9, none⟩ (.int .i64 t9)).setCell ⟨bs, 10, none⟩ (.int .i64 t10)).setCell ⟨bs, 11, none⟩ (.int .i64 t11)).setCell ⟨bs, 12, none⟩ (.int .i64 t12)).setCell ⟨bs, 13, none⟩ (.int .i64 t13)).setCell ⟨bs, 14, none⟩ (.int .i64 t14)).setCell ⟨bs, 15, none⟩ (.int .i64 t15)) → PlI w W' bf bs (.slice A2 D2.length k2) (.slice B2 R2.length k2') s2 D2 R2) := fun W' e => by
          rw [e, htl]
          exact hI2.store HI1.out.2.1 (lt_of_block HI1.out.1.fb) (lt_of_block HI1.out.1.sb) hD2 hR2 t0 t1 t2 t3 t4 t5 t6 t7 t8 t9 t10 t11 t12 t13 t14 t15
        have HR2 : Hid (Rel n D2 R2 s2 blank (S.put a.toNat v) ∧ playF n PS.start F = playF n (S.put a.toNat v) (F.drop (k + 1))) := ⟨hRel2, hP2⟩
        clear z0 z1 z2 z3 z4 z5 z6 z7 z8 z9 z10 z11 z12 z13 z14 z15 zf zl f0 f1 ff fl g0 g1 gf gl
        obtain ⟨⟨z0, z1, z2, z3, z4, z5, z6, z7, z8, z9, z10, z11, z12, z13, z14, z15⟩, zf, zl⟩ := sixteen_cells hsb
        obtain ⟨f0, f1, ff, fl⟩ := two_cells hI2.fb
        rw [show Value.agg (pgc s2) = .agg #[.int .i64 t0, .int .i64 t1, .int .i64 t2, .int .i64 t3, .int .i64 t4, .int .i64 t5, .int .i64 t6, .int .i64 t7, .int .i64 t8, .int .i64 t9, .int .i64 t10, .int .i64 t11, .int .i64 t12, .int .i64 t13, .int .i64 t14, .int .i64 t15] by rw [htl]; rfl]
        clear hI2 hsl hsb HC HI1 hb2 htl hRel2 hP2 hD2 hR2 he0
        dsimp only
        go_wp2_with fail
        refine ⟨⟨k + 1, D2, R2, s2, _, A2, B2, k2, k2', by omega, by go_num, HN.out _ rfl, HR2.out.1, HR2.out.2⟩, ?_⟩
        simp [intOf]; omega
    · have e : k = F.length := by omega
      subst e
      have hnl : ¬ (F.length : Int) < (F.length : Int) := by omega
      rw [List.drop_length, playF] at hP
      have HE : Hid (PlI w wr bf bs (.slice A1 D1.length k1) (.slice B1 R1.length k1') s1 D1 R1 ∧ Rel n D1 R1 s1 blank (playF n PS.start F).1 ∧ (playF n PS.start F).2 = 0) := ⟨hI, by rw [hP]; exact hR, by rw [hP]⟩
      clear hI hR hP
      go_wp2_with fail
      exact HK.out _ _ _ _ _ _ _ _ _ _ _ _ _ _ _ _ _ _ _ _ _ _ _ _ _ _ _ _ D1 R1 s1 A1 B1 k1 k1' _ HE.out.1 HE.out.2.1 HE.out.2.2


end Go.Proofs.Ytlcdefpdahjjeaf
