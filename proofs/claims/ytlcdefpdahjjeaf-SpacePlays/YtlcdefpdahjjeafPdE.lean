/- The document's PlayedOf: the writes behind the fork, the end. (Written by tools/gen_pd.py.) -/
import Derived.Test.YtlcdefpdahjjeafPdAPart
import Derived.Test.YtlcdefpdahjjeafPlE
import Derived.Deep.DeepCutAuto
namespace Go.Proofs.Ytlcdefpdahjjeaf
open Go.RowKit

/-- The box of both rows is another block. -/
structure PdO (w : World) (ga gb gs g0 g1 go : Nat) : Prop where
  n : PdN w ga gb gs g0 g1
  a : go ≠ ga
  b : go ≠ gb
  s : go ≠ gs
  z : go ≠ g0
  y : go ≠ g1
theorem PS.err_no {n : Int} {S : PS} {m : Nat} (hm : m < 256) (h : S.need (m / 16) = false ∨ S.kn ≠ n) : S.err n (m : Int) = 0 := by
  simp only [PS.err]
  rw [if_neg (by omega), if_neg (by
    rw [Int.toNat_natCast]
    rintro ⟨h1, h2⟩
    rcases h with h | h
    · rw [h] at h1; cases h1
    · exact h h2)]
theorem PS.err_room {n : Int} {S : PS} {m : Nat} (hm : m < 256) (h1 : S.need (m / 16) = true) (h2 : S.kn = n) : S.err n (m : Int) = 7 := by
  simp only [PS.err]
  rw [if_neg (by omega), if_pos ⟨by rw [Int.toNat_natCast]; exact h1, h2⟩]

set_option maxRecDepth 100000 in
set_option maxHeartbeats 4000000 in
theorem pd10 (c1 c3 c4 c5 c6 c7 c8 c9 c11 c13 c14 c18 c19 c20 c21 c22 c23 c24 c25 c26 c27 c28 c29 c30 c31 c32 c33 c34 c35 c36 c37 c38 c39 c40 c41 c42 c43 c44 c45 c46 c47 c48 c49 c50 c51 c52 c53 c54 c55 c56 c57 c58 c59 c60 c61 c62 c63 c64 c65 c66 c67 c68 c69 c70 c71 c72 c73 c74 c75 c76 c77 c78 c79 c80 c81 c82 c83 c84 c85 c86 c87 c88 c89 c90 c91 c92 c93 c94 c95 c96 c97 c98 c99 c100 c101 c102 c103 c104 c105 c106 c107 c108 c109 c110 c111 c112 c113 c114 c115 c116 c117 c118 c119 c120 c121 c122 c123 c124 c125 c126 c127 c128 c129 c130 c131 c132 c133 c134 c135 c136 c137 c138 c139 c140 c141 c142 c143 c144 c145 c146 c147 c148 c149 c150 c151 c152 c153 c154 c155 c156 c157 c158 c159 c160 c161 c162 : Value) (VA : Option Addr) (vc : Nat) (F : List (Int × Int × Int)) (PP : List Int × List Int × Int × Int) (ga gb gs g0 g1 go cb : Nat) (n : Int) (S0 : PS) (w W : World) (K : Act → World → Prop) 
    (h : PdR w W ga gb gs g0 g1 n S0) (hbo : RowV W go 59 [.slice (some ⟨g0, 0, none⟩) 16 16, .slice (some ⟨g1, 0, none⟩) 16 16]) (hO : PdO w ga gb gs g0 g1 go) (hn : n ≤ 200) (hp : ThreesAt w (.slice VA F.length vc) F) (herr : (playB n S0 F).2 ≠ 0 → PP = ([], [], 0, (playB n S0 F).2))
    (hK : ∀ (u6 u7 u8 u9 u19 u20 u21 u22 u82 u83 u84 u85 u86 u87 u88 u89 u90 u91 u92 u93 u94 u95 u96 u97 u98 u99 u100 u101 u102 u103 u104 u105 u106 u107 u108 u109 u110 u111 u112 u113 u114 u115 u116 u117 u118 u119 u120 u121 u122 u123 u124 u125 u126 u127 u128 u129 u130 u131 u132 u133 u134 u135 u136 u137 u138 u139 u140 u141 u142 u143 u144 u145 u146 u147 u148 u149 u150 u151 u152 u153 u154 u155 u156 u157 u158 u159 : Value) (W' : World), PdR w W' ga gb gs g0 g1 n (playB n S0 F).1 → (playB n S0 F).2 = 0 → K ⟨#[.int .i64 n, c1, .slice VA F.length vc, c3, c4, c5, u6, u7, u8, u9, .slice (some ⟨ga, 0, none⟩) 256 256, c11, .int .i64 (playB n S0 F).1.kn, c13, c14, .slice (some ⟨gb, 0, none⟩) 256 cb, .slice (some ⟨gs, 0, none⟩) 16 16, .pointer (some ⟨go, 0, none⟩), c18, u19, u20, u21, u22, c23, c24, c25, c26, c27, c28, c29, c30, c31, c32, c33, c34, c35, c36, c37, c38, c39, c40, c41, c42, c43, c44, c45, c46, c47, c48, c49, c50, c51, c52, c53, c54, c55, c56, c57, c58, c59, c60, c61, c62, c63, c64, c65, c66, c67, c68, c69, c70, c71, c72, c73, c74, c75, c76, c77, c78, c79, c80, c81, u82, u83, u84, u85, u86, u87, u88, u89, u90, u91, u92, u93, u94, u95, u96, u97, u98, u99, u100, u101, u102, u103, u104, u105, u106, u107, u108, u109, u110, u111, u112, u113, u114, u115, u116, u117, u118, u119, u120, u121, u122, u123, u124, u125, u126, u127, u128, u129, u130, u131, u132, u133, u134, u135, u136, u137, u138, u139, u140, u141, u142, u143, u144, u145, u146, u147, u148, u149, u150, u151, u152, u153, u154, u155, u156, u157, u158, u159, c160, c161, c162], []⟩ W') :
    Code.wp Try.prog (stm 10 (Try.f7.body.getD .skip)) (Exit.then K (bodyPost Try.prog Try.f7 (fun e w' => PlayPost w PP e w'))) ⟨#[.int .i64 n, c1, .slice VA F.length vc, c3, c4, c5, c6, c7, c8, c9, .slice (some ⟨ga, 0, none⟩) 256 256, c11, .int .i64 S0.kn, c13, c14, .slice (some ⟨gb, 0, none⟩) 256 cb, .slice (some ⟨gs, 0, none⟩) 16 16, .pointer (some ⟨go, 0, none⟩), c18, c19, c20, c21, c22, c23, c24, c25, c26, c27, c28, c29, c30, c31, c32, c33, c34, c35, c36, c37, c38, c39, c40, c41, c42, c43, c44, c45, c46, c47, c48, c49, c50, c51, c52, c53, c54, c55, c56, c57, c58, c59, c60, c61, c62, c63, c64, c65, c66, c67, c68, c69, c70, c71, c72, c73, c74, c75, c76, c77, c78, c79, c80, c81, c82, c83, c84, c85, c86, c87, c88, c89, c90, c91, c92, c93, c94, c95, c96, c97, c98, c99, c100, c101, c102, c103, c104, c105, c106, c107, c108, c109, c110, c111, c112, c113, c114, c115, c116, c117, c118, c119, c120, c121, c122, c123, c124, c125, c126, c127, c128, c129, c130, c131, c132, c133, c134, c135, c136, c137, c138, c139, c140, c141, c142, c143, c144, c145, c146, c147, c148, c149, c150, c151, c152, c153, c154, c155, c156, c157, c158, c159, c160, c161, c162], []⟩ W := by
  have HK : Hid (∀ (u6 u7 u8 u9 u19 u20 u21 u22 u82 u83 u84 u85 u86 u87 u88 u89 u90 u91 u92 u93 u94 u95 u96 u97 u98 u99 u100 u101 u102 u103 u104 u105 u106 u107 u108 u109 u110 u111 u112 u113 u114 u115 u116 u117 u118 u119 u120 u121 u122 u123 u124 u125 u126 u127 u128 u129 u130 u131 u132 u133 u134 u135 u136 u137 u138 u139 u140 u141 u142 u143 u144 u145 u146 u147 u148 u149 u150 u151 u152 u153 u154 u155 u156 u157 u158 u159 : Value) (W' : World), PdR w W' ga gb gs g0 g1 n (playB n S0 F).1 → (playB n S0 F).2 = 0 → K ⟨#[.int .i64 n, c1, .slice VA F.length vc, c3, c4, c5, u6, u7, u8, u9, .slice (some ⟨ga, 0, none⟩) 256 256, c11, .int .i64 (playB n S0 F).1.kn, c13, c14, .slice (some ⟨gb, 0, none⟩) 256 cb, .slice (some ⟨gs, 0, none⟩) 16 16, .pointer (some ⟨go, 0, none⟩), c18, u19, u20, u21, u22, c23, c24, c25, c26, c27, c28, c29, c30, c31, c32, c33, c34, c35, c36, c37, c38, c39, c40, c41, c42, c43, c44, c45, c46, c47, c48, c49, c50, c51, c52, c53, c54, c55, c56, c57, c58, c59, c60, c61, c62, c63, c64, c65, c66, c67, c68, c69, c70, c71, c72, c73, c74, c75, c76, c77, c78, c79, c80, c81, u82, u83, u84, u85, u86, u87, u88, u89, u90, u91, u92, u93, u94, u95, u96, u97, u98, u99, u100, u101, u102, u103, u104, u105, u106, u107, u108, u109, u110, u111, u112, u113, u114, u115, u116, u117, u118, u119, u120, u121, u122, u123, u124, u125, u126, u127, u128, u129, u130, u131, u132, u133, u134, u135, u136, u137, u138, u139, u140, u141, u142, u143, u144, u145, u146, u147, u148, u149, u150, u151, u152, u153, u154, u155, u156, u157, u158, u159, c160, c161, c162], []⟩ W') := hK
  clear hK
  conv => arg 2; whnf
  obtain ⟨Aq, cq, eq, hFl, hFc⟩ := hp
  simp only [Value.slice.injEq, true_and] at eq
  obtain ⟨rfl, rfl⟩ := eq
  have HFC : Hid (0 < F.length → ∃ b off, VA = some ⟨b, off, none⟩ ∧ b < w.heap.size ∧ ∀ j, j < F.length → w.cell? ⟨b, off + j * 3, none⟩ = some (.int .i64 (F.getD j (0, 0, 0)).1) ∧ w.cell? ⟨b, off + j * 3 + 1, none⟩ = some (.int .i64 (F.getD j (0, 0, 0)).2.1) ∧ w.cell? ⟨b, off + j * 3 + 2, none⟩ = some (.int .i64 (F.getD j (0, 0, 0)).2.2)) := hFc
  have HL : Hid (F.length * 24 ≤ 140737488351232 ∧ n ≤ 200) := ⟨hFl, hn⟩
  have H0 : Hid (PdR w W ga gb gs g0 g1 n S0 ∧ RowV W go 59 [.slice (some ⟨g0, 0, none⟩) 16 16, .slice (some ⟨g1, 0, none⟩) 16 16]) := ⟨h, hbo⟩
  have HO : Hid (PdO w ga gb gs g0 g1 go) := hO
  have HER : Hid ((playB n S0 F).2 ≠ 0 → PP = ([], [], 0, (playB n S0 F).2)) := herr
  clear h hFc hFl herr hn hbo hO
  go_wp2_with fail
  go_loopw [12, 19] (fun kv i wr => ∃ (k : Nat) (S : PS), k ≤ F.length ∧ i = .int .i64 (k : Int) ∧ kv = .int .i64 S.kn ∧ PdR w wr ga gb gs g0 g1 n S ∧ RowV wr go 59 [.slice (some ⟨g0, 0, none⟩) 16 16, .slice (some ⟨g1, 0, none⟩) 16 16] ∧ playB n S0 F = playB n S (F.drop k)) (fun _ i _ => F.length - (intOf i).toNat)
  case atStart => exact ⟨0, S0, Nat.zero_le _, rfl, rfl, H0.out.1, H0.out.2, rfl⟩
  case round =>
    obtain ⟨k, S, hk, rfl, rfl, hI, hB, hP⟩ := hrel
    have hFL := HL.out.1
    by_cases hlt : k < F.length
    · obtain ⟨bq, oq, rfl, hbq, hcq⟩ := HFC.out (by omega)
      obtain ⟨l0, l1, l2⟩ := hcq k hlt
      obtain ⟨⟨y0, y1, y2⟩, hav⟩ : ∃ x, x = F.getD k (0, 0, 0) := ⟨_, rfl⟩
      rw [← hav] at l0 l1 l2
      have hdr : F.drop k = (y0, y1, y2) :: F.drop (k + 1) := by
        have e := List.drop_eq_getElem_cons hlt
        have e2 : F.getD k (0, 0, 0) = F[k] := by simp [List.getD, hlt]
        rw [hav, e2]
        exact e
      have x0 := (hI.old.cell (p := ⟨bq, oq + k * 3, none⟩) hbq).trans l0
      have x1 := (hI.old.cell (p := ⟨bq, oq + k * 3 + 1, none⟩) hbq).trans l1
      have x2 := (hI.old.cell (p := ⟨bq, oq + k * 3 + 2, none⟩) hbq).trans l2
      have hbs : bq < wr.heap.size := Nat.lt_of_lt_of_le hbq hI.old.size
      have hl : (k : Int) < (F.length : Int) := by omega
      have hw2 : IntKind.i64.wrap ((k : Int) + 1) = (k : Int) + 1 := IntWalk.i64_in _ (by omega)
      have HIR : Hid (PdR w wr ga gb gs g0 g1 n S ∧ RowV wr go 59 [.slice (some ⟨g0, 0, none⟩) 16 16, .slice (some ⟨g1, 0, none⟩) 16 16] ∧ playB n S0 F = playB n S ((y0, y1, y2) :: F.drop (k + 1))) := ⟨hI, hB, by rw [← hdr]; exact hP⟩
      clear hI hP hcq l0 l1 l2 hav hdr H0 hB
      by_cases ha : 0 ≤ y0 ∧ y0 ≤ 255
      case neg =>
        have hi : inB y0 0 255 = false := inB_no ha
        have HPP : Hid (PP = ([], [], 0, 2)) := by
          have he : S.errW n (y0, y1, y2) = 2 := by
            unfold PS.errW
            split
            · exact PS.err_range ha
            · exact PS.err_range ha
          have hPF : playB n S0 F = (S, 2) := by rw [HIR.out.2.2, playB, if_neg (by rw [he]; decide), he]
          have := HER.out (by rw [hPF]; exact (by decide : (2 : Int) ≠ 0))
          rw [hPF] at this
          exact this
        clear ha
        go_wp2_with (go_at_call 21; refine (In_B _ _ _ _).mono ?_; rw [hi]; rintro e w' ⟨rfl, hw'⟩; rw [hw']; clear hw' w'; dsimp only)
        change bodyPost Try.prog Try.f7 _ _ _ _
        refine bodyPost_ret (v := .tuple #[.slice none 0 0, .slice none 0 0, .int .i64 0, .int .i64 2]) (by simp [results, Try.results7, go_sem]) rfl ?_
        rw [HPP.out]
        exact playPost_no HIR.out.1.old
      case pos =>
        have hi : inB y0 0 255 = true := inB_yes ha.1 ha.2
        obtain ⟨m, rfl⟩ : ∃ m : Nat, y0 = (m : Int) := ⟨y0.toNat, by omega⟩
        have hm : m < 256 := by omega
        obtain ⟨q, hq⟩ : ∃ q, q = m / 16 := ⟨_, rfl⟩
        have hq1 : (m : Int).tdiv 16 = (q : Int) := by rw [hq, Int.tdiv_eq_ediv_of_nonneg (by omega)]; omega
        have hq16 : (q : Int) < 16 := by omega
        have hm256 : (m : Int) < 256 := by omega
        have r0 : wr.cell? ⟨ga, m, none⟩ = some (.int .i64 (S.a.getD m 0)) := HIR.out.1.ba.cell (vI_at (by have := HIR.out.1.sa; omega))
        have r1 : wr.cell? ⟨gb, m, none⟩ = some (.int .i64 (S.b.getD m 0)) := HIR.out.1.bb.cell (vI_at (by have := HIR.out.1.sb; omega))
        have r2 : wr.cell? ⟨gs, q, none⟩ = some (.bool (S.sh.getD q false)) := HIR.out.1.bs.cell (vB_at (by have := HIR.out.1.ss; omega))
        have r3 : wr.cell? ⟨g0, q, none⟩ = some (.bool (S.o0.getD q false)) := HIR.out.1.b0.cell (vB_at (by have := HIR.out.1.s0; omega))
        have r4 : wr.cell? ⟨g1, q, none⟩ = some (.bool (S.o1.getD q false)) := HIR.out.1.b1.cell (vB_at (by have := HIR.out.1.s1; omega))
        have r5 : wr.cell? ⟨go, 0, none⟩ = some (.slice (some ⟨g0, 0, none⟩) 16 16) := HIR.out.2.1.cell rfl
        have r6 : wr.cell? ⟨go, 1, none⟩ = some (.slice (some ⟨g1, 0, none⟩) 16 16) := HIR.out.2.1.cell rfl
        have f0 := HIR.out.1.ba.frozen
        have f1 := HIR.out.1.bb.frozen
        have f2 := HIR.out.1.bs.frozen
        have f3 := HIR.out.1.b0.frozen
        have f4 := HIR.out.1.b1.frozen
        have t0 := HIR.out.1.ba.lt
        have t1 := HIR.out.1.bb.lt
        have t2 := HIR.out.1.bs.lt
        have t3 := HIR.out.1.b0.lt
        have t4 := HIR.out.1.b1.lt
        have t5 := HIR.out.2.1.lt
        have nab : ¬ ga = gb := HO.out.n.ab
        have nba : ¬ gb = ga := fun e => nab e.symm
        have nas : ¬ ga = gs := HO.out.n.ah
        have nsa : ¬ gs = ga := fun e => nas e.symm
        have na0 : ¬ ga = g0 := HO.out.n.a0
        have n0a : ¬ g0 = ga := fun e => na0 e.symm
        have na1 : ¬ ga = g1 := HO.out.n.a1
        have n1a : ¬ g1 = ga := fun e => na1 e.symm
        have nbs : ¬ gb = gs := HO.out.n.bs
        have nsb : ¬ gs = gb := fun e => nbs e.symm
        have nb0 : ¬ gb = g0 := HO.out.n.b0
        have n0b : ¬ g0 = gb := fun e => nb0 e.symm
        have nb1 : ¬ gb = g1 := HO.out.n.b1
        have n1b : ¬ g1 = gb := fun e => nb1 e.symm
        have ns0 : ¬ gs = g0 := HO.out.n.s0
        have n0s : ¬ g0 = gs := fun e => ns0 e.symm
        have ns1 : ¬ gs = g1 := HO.out.n.s1
        have n1s : ¬ g1 = gs := fun e => ns1 e.symm
        have n01 : ¬ g0 = g1 := HO.out.n.z1
        have n10 : ¬ g1 = g0 := fun e => n01 e.symm
        have noa : ¬ go = ga := HO.out.a
        have nao : ¬ ga = go := fun e => noa e.symm
        have nob : ¬ go = gb := HO.out.b
        have nbo : ¬ gb = go := fun e => nob e.symm
        have nos : ¬ go = gs := HO.out.s
        have nso : ¬ gs = go := fun e => nos e.symm
        have no0 : ¬ go = g0 := HO.out.z
        have n0o : ¬ g0 = go := fun e => no0 e.symm
        have no1 : ¬ go = g1 := HO.out.y
        have n1o : ¬ g1 = go := fun e => no1 e.symm
        have nqa : ¬ bq = ga := by have := HO.out.n.la; omega
        have nqb : ¬ bq = gb := by have := HO.out.n.lb; omega
        have nqs : ¬ bq = gs := by have := HO.out.n.ls; omega
        have nq0 : ¬ bq = g0 := by have := HO.out.n.l0; omega
        have nq1 : ¬ bq = g1 := by have := HO.out.n.l1; omega
        have HM : Hid (m < 256 ∧ q = m / 16) := ⟨hm, hq⟩
        have hw3 : IntKind.i64.wrap (S.kn + 1) = S.kn + 1 := IntWalk.i64_in _ (by have := HIR.out.1.k0; have := HIR.out.1.kn; have := HL.out.2; omega)
        clear ha hm hq hbq
        by_cases hh : y2 = 0
        · have d2 : (y2 != 0) = false := by simp [hh]
          cases hs : S.sh.getD q false with
          | true =>
            rw [hs] at r2
            cases hkn : S.kn == n with
            | true =>
              have HPP : Hid (PP = ([], [], 0, 7)) := by
                have he : S.errW n ((m : Int), y1, y2) = 7 := by
                  unfold PS.errW
                  rw [if_pos hh]
                  exact PS.err_room HM.out.1 (by rw [PS.need, ← HM.out.2]; simp only [hs]; rfl) (by show S.kn = n; simpa using hkn)
                have hPF : playB n S0 F = (S, 7) := by rw [HIR.out.2.2, playB, if_neg (by rw [he]; decide), he]
                have := HER.out (by rw [hPF]; exact (by decide : (7 : Int) ≠ 0))
                rw [hPF] at this
                exact this
              clear hs
              go_wp2_with (go_at_call 21; refine (In_B _ _ _ _).mono ?_; rw [hi]; rintro e w' ⟨rfl, hw'⟩; rw [hw']; clear hw' w'; dsimp only)
              change bodyPost Try.prog Try.f7 _ _ _ _
              refine bodyPost_ret (v := .tuple #[.slice none 0 0, .slice none 0 0, .int .i64 0, .int .i64 7]) (by simp [results, Try.results7, go_sem]) rfl ?_
              rw [HPP.out]
              exact playPost_no HIR.out.1.old
            | false =>
              have hkn' : S.kn ≠ n := by simpa using hkn
              have hs' : S.sh.getD (m / 16) false = true := by rw [← HM.out.2]; exact hs
              have HN : Hid (PdR w (((((wr.setCell ⟨gs, q, none⟩ (.bool false)).setCell ⟨g0, q, none⟩ (.bool true)).setCell ⟨g1, q, none⟩ (.bool true)).setCell ⟨g0, q, none⟩ (.bool true)).setCell ⟨ga, m, none⟩ (.int .i64 y1)) ga gb gs g0 g1 n (S.putW ((m : Int), y1, y2)) ∧ RowV (((((wr.setCell ⟨gs, q, none⟩ (.bool false)).setCell ⟨g0, q, none⟩ (.bool true)).setCell ⟨g1, q, none⟩ (.bool true)).setCell ⟨g0, q, none⟩ (.bool true)).setCell ⟨ga, m, none⟩ (.int .i64 y1)) go 59 [.slice (some ⟨g0, 0, none⟩) 16 16, .slice (some ⟨g1, 0, none⟩) 16 16] ∧ (S.putW ((m : Int), y1, y2)).kn = S.kn + 1 ∧ playB n S0 F = playB n (S.putW ((m : Int), y1, y2)) (F.drop (k + 1))) := by
                have hp : S.putW ((m : Int), y1, y2) = S.put m y1 := by
                  unfold PS.putW
                  rw [if_pos hh, Int.toNat_natCast]
                have he : S.errW n ((m : Int), y1, y2) = 0 := by
                  unfold PS.errW
                  rw [if_pos hh]
                  exact PS.err_no HM.out.1 (Or.inr hkn')
                rw [hp]
                (try rw [HM.out.2])
                have hx := HIR.out.1.shared HO.out.n (x := g0) (y := g1) (Or.inl ⟨rfl, rfl⟩) hs' hkn' y1
                refine ⟨hx.1, (((((HIR.out.2.1.other HO.out.s _ _).other HO.out.z _ _).other HO.out.y _ _).other HO.out.z _ _).other HO.out.a _ _), hx.2, ?_⟩
                rw [HIR.out.2.2, playB, if_pos he, hp]
              clear hs hs' hkn'
              go_wp2_with (go_at_call 21; refine (In_B _ _ _ _).mono ?_; rw [hi]; rintro e w' ⟨rfl, hw'⟩; rw [hw']; clear hw' w'; dsimp only)
              refine ⟨⟨k + 1, _, by omega, by go_num, by rw [HN.out.2.2.1], HN.out.1, HN.out.2.1, HN.out.2.2.2⟩, ?_⟩
              simp [intOf]; omega
          | false =>
            rw [hs] at r2
            have hs' : S.sh.getD (m / 16) false = false := by rw [← HM.out.2]; exact hs
            cases ho : S.o0.getD q false with
            | true =>
              rw [ho] at r3
              have ho' : S.o0.getD (m / 16) false = true := by rw [← HM.out.2]; exact ho
              have HN : Hid (PdR w (wr.setCell ⟨ga, m, none⟩ (.int .i64 y1)) ga gb gs g0 g1 n (S.putW ((m : Int), y1, y2)) ∧ RowV (wr.setCell ⟨ga, m, none⟩ (.int .i64 y1)) go 59 [.slice (some ⟨g0, 0, none⟩) 16 16, .slice (some ⟨g1, 0, none⟩) 16 16] ∧ (S.putW ((m : Int), y1, y2)).kn = S.kn ∧ playB n S0 F = playB n (S.putW ((m : Int), y1, y2)) (F.drop (k + 1))) := by
                have hp : S.putW ((m : Int), y1, y2) = S.put m y1 := by
                  unfold PS.putW
                  rw [if_pos hh, Int.toNat_natCast]
                have he : S.errW n ((m : Int), y1, y2) = 0 := by
                  unfold PS.errW
                  rw [if_pos hh]
                  exact PS.err_no HM.out.1 (Or.inl (by rw [PS.need]; simp only [hs', ho']; rfl))
                rw [hp]
                (try rw [HM.out.2])
                have hx := HIR.out.1.own HO.out.n hs' ho' y1
                refine ⟨hx.1, (HIR.out.2.1.other HO.out.a _ _), hx.2, ?_⟩
                rw [HIR.out.2.2, playB, if_pos he, hp]
              clear hs hs' ho ho'
              go_wp2_with (go_at_call 21; refine (In_B _ _ _ _).mono ?_; rw [hi]; rintro e w' ⟨rfl, hw'⟩; rw [hw']; clear hw' w'; dsimp only)
              refine ⟨⟨k + 1, _, by omega, by go_num, by rw [HN.out.2.2.1], HN.out.1, HN.out.2.1, HN.out.2.2.2⟩, ?_⟩
              simp [intOf]; omega
            | false =>
              rw [ho] at r3
              have ho' : S.o0.getD (m / 16) false = false := by rw [← HM.out.2]; exact ho
              cases hkn : S.kn == n with
              | true =>
                have HPP : Hid (PP = ([], [], 0, 7)) := by
                  have he : S.errW n ((m : Int), y1, y2) = 7 := by
                    unfold PS.errW
                    rw [if_pos hh]
                    exact PS.err_room HM.out.1 (by rw [PS.need, ← HM.out.2]; simp only [hs, ho]; rfl) (by show S.kn = n; simpa using hkn)
                  have hPF : playB n S0 F = (S, 7) := by rw [HIR.out.2.2, playB, if_neg (by rw [he]; decide), he]
                  have := HER.out (by rw [hPF]; exact (by decide : (7 : Int) ≠ 0))
                  rw [hPF] at this
                  exact this
                clear hs hs' ho ho'
                go_wp2_with (go_at_call 21; refine (In_B _ _ _ _).mono ?_; rw [hi]; rintro e w' ⟨rfl, hw'⟩; rw [hw']; clear hw' w'; dsimp only)
                change bodyPost Try.prog Try.f7 _ _ _ _
                refine bodyPost_ret (v := .tuple #[.slice none 0 0, .slice none 0 0, .int .i64 0, .int .i64 7]) (by simp [results, Try.results7, go_sem]) rfl ?_
                rw [HPP.out]
                exact playPost_no HIR.out.1.old
              | false =>
                have hkn' : S.kn ≠ n := by simpa using hkn
                have HN : Hid (PdR w ((wr.setCell ⟨g0, q, none⟩ (.bool true)).setCell ⟨ga, m, none⟩ (.int .i64 y1)) ga gb gs g0 g1 n (S.putW ((m : Int), y1, y2)) ∧ RowV ((wr.setCell ⟨g0, q, none⟩ (.bool true)).setCell ⟨ga, m, none⟩ (.int .i64 y1)) go 59 [.slice (some ⟨g0, 0, none⟩) 16 16, .slice (some ⟨g1, 0, none⟩) 16 16] ∧ (S.putW ((m : Int), y1, y2)).kn = S.kn + 1 ∧ playB n S0 F = playB n (S.putW ((m : Int), y1, y2)) (F.drop (k + 1))) := by
                  have hp : S.putW ((m : Int), y1, y2) = S.put m y1 := by
                    unfold PS.putW
                    rw [if_pos hh, Int.toNat_natCast]
                  have he : S.errW n ((m : Int), y1, y2) = 0 := by
                    unfold PS.errW
                    rw [if_pos hh]
                    exact PS.err_no HM.out.1 (Or.inr hkn')
                  rw [hp]
                  (try rw [HM.out.2])
                  have hx := HIR.out.1.fresh HO.out.n hs' ho' hkn' y1
                  refine ⟨hx.1, ((HIR.out.2.1.other HO.out.z _ _).other HO.out.a _ _), hx.2, ?_⟩
                  rw [HIR.out.2.2, playB, if_pos he, hp]
                clear hs hs' ho ho' hkn'
                go_wp2_with (go_at_call 21; refine (In_B _ _ _ _).mono ?_; rw [hi]; rintro e w' ⟨rfl, hw'⟩; rw [hw']; clear hw' w'; dsimp only)
                refine ⟨⟨k + 1, _, by omega, by go_num, by rw [HN.out.2.2.1], HN.out.1, HN.out.2.1, HN.out.2.2.2⟩, ?_⟩
                simp [intOf]; omega
        · have d2 : (y2 != 0) = true := by simpa using hh
          cases hs : S.sh.getD q false with
          | true =>
            rw [hs] at r2
            cases hkn : S.kn == n with
            | true =>
              have HPP : Hid (PP = ([], [], 0, 7)) := by
                have he : S.errW n ((m : Int), y1, y2) = 7 := by
                  unfold PS.errW
                  rw [if_neg hh]
                  exact PS.err_room HM.out.1 (by rw [PS.need, ← HM.out.2]; simp only [PS.swap, hs]; rfl) (by show S.kn = n; simpa using hkn)
                have hPF : playB n S0 F = (S, 7) := by rw [HIR.out.2.2, playB, if_neg (by rw [he]; decide), he]
                have := HER.out (by rw [hPF]; exact (by decide : (7 : Int) ≠ 0))
                rw [hPF] at this
                exact this
              clear hs
              go_wp2_with (go_at_call 21; refine (In_B _ _ _ _).mono ?_; rw [hi]; rintro e w' ⟨rfl, hw'⟩; rw [hw']; clear hw' w'; dsimp only)
              change bodyPost Try.prog Try.f7 _ _ _ _
              refine bodyPost_ret (v := .tuple #[.slice none 0 0, .slice none 0 0, .int .i64 0, .int .i64 7]) (by simp [results, Try.results7, go_sem]) rfl ?_
              rw [HPP.out]
              exact playPost_no HIR.out.1.old
            | false =>
              have hkn' : S.kn ≠ n := by simpa using hkn
              have hs' : S.sh.getD (m / 16) false = true := by rw [← HM.out.2]; exact hs
              have HN : Hid (PdR w (((((wr.setCell ⟨gs, q, none⟩ (.bool false)).setCell ⟨g0, q, none⟩ (.bool true)).setCell ⟨g1, q, none⟩ (.bool true)).setCell ⟨g1, q, none⟩ (.bool true)).setCell ⟨gb, m, none⟩ (.int .i64 y1)) ga gb gs g0 g1 n (S.putW ((m : Int), y1, y2)) ∧ RowV (((((wr.setCell ⟨gs, q, none⟩ (.bool false)).setCell ⟨g0, q, none⟩ (.bool true)).setCell ⟨g1, q, none⟩ (.bool true)).setCell ⟨g1, q, none⟩ (.bool true)).setCell ⟨gb, m, none⟩ (.int .i64 y1)) go 59 [.slice (some ⟨g0, 0, none⟩) 16 16, .slice (some ⟨g1, 0, none⟩) 16 16] ∧ (S.putW ((m : Int), y1, y2)).kn = S.kn + 1 ∧ playB n S0 F = playB n (S.putW ((m : Int), y1, y2)) (F.drop (k + 1))) := by
                have hp : S.putW ((m : Int), y1, y2) = (S.swap.put m y1).swap := by
                  unfold PS.putW
                  rw [if_neg hh, Int.toNat_natCast]
                have he : S.errW n ((m : Int), y1, y2) = 0 := by
                  unfold PS.errW
                  rw [if_neg hh]
                  exact PS.err_no HM.out.1 (Or.inr hkn')
                rw [hp]
                (try rw [HM.out.2])
                have hx := HIR.out.1.swap.shared HO.out.n.swap (x := g0) (y := g1) (Or.inr ⟨rfl, rfl⟩) hs' hkn' y1
                refine ⟨hx.1.swap, (((((HIR.out.2.1.other HO.out.s _ _).other HO.out.z _ _).other HO.out.y _ _).other HO.out.y _ _).other HO.out.b _ _), hx.2, ?_⟩
                rw [HIR.out.2.2, playB, if_pos he, hp]
              clear hs hs' hkn'
              go_wp2_with (go_at_call 21; refine (In_B _ _ _ _).mono ?_; rw [hi]; rintro e w' ⟨rfl, hw'⟩; rw [hw']; clear hw' w'; dsimp only)
              refine ⟨⟨k + 1, _, by omega, by go_num, by rw [HN.out.2.2.1], HN.out.1, HN.out.2.1, HN.out.2.2.2⟩, ?_⟩
              simp [intOf]; omega
          | false =>
            rw [hs] at r2
            have hs' : S.sh.getD (m / 16) false = false := by rw [← HM.out.2]; exact hs
            cases ho : S.o1.getD q false with
            | true =>
              rw [ho] at r4
              have ho' : S.o1.getD (m / 16) false = true := by rw [← HM.out.2]; exact ho
              have HN : Hid (PdR w (wr.setCell ⟨gb, m, none⟩ (.int .i64 y1)) ga gb gs g0 g1 n (S.putW ((m : Int), y1, y2)) ∧ RowV (wr.setCell ⟨gb, m, none⟩ (.int .i64 y1)) go 59 [.slice (some ⟨g0, 0, none⟩) 16 16, .slice (some ⟨g1, 0, none⟩) 16 16] ∧ (S.putW ((m : Int), y1, y2)).kn = S.kn ∧ playB n S0 F = playB n (S.putW ((m : Int), y1, y2)) (F.drop (k + 1))) := by
                have hp : S.putW ((m : Int), y1, y2) = (S.swap.put m y1).swap := by
                  unfold PS.putW
                  rw [if_neg hh, Int.toNat_natCast]
                have he : S.errW n ((m : Int), y1, y2) = 0 := by
                  unfold PS.errW
                  rw [if_neg hh]
                  exact PS.err_no HM.out.1 (Or.inl (by rw [PS.need]; simp only [PS.swap, hs', ho']; rfl))
                rw [hp]
                (try rw [HM.out.2])
                have hx := HIR.out.1.swap.own HO.out.n.swap hs' ho' y1
                refine ⟨hx.1.swap, (HIR.out.2.1.other HO.out.b _ _), hx.2, ?_⟩
                rw [HIR.out.2.2, playB, if_pos he, hp]
              clear hs hs' ho ho'
              go_wp2_with (go_at_call 21; refine (In_B _ _ _ _).mono ?_; rw [hi]; rintro e w' ⟨rfl, hw'⟩; rw [hw']; clear hw' w'; dsimp only)
              refine ⟨⟨k + 1, _, by omega, by go_num, by rw [HN.out.2.2.1], HN.out.1, HN.out.2.1, HN.out.2.2.2⟩, ?_⟩
              simp [intOf]; omega
            | false =>
              rw [ho] at r4
              have ho' : S.o1.getD (m / 16) false = false := by rw [← HM.out.2]; exact ho
              cases hkn : S.kn == n with
              | true =>
                have HPP : Hid (PP = ([], [], 0, 7)) := by
                  have he : S.errW n ((m : Int), y1, y2) = 7 := by
                    unfold PS.errW
                    rw [if_neg hh]
                    exact PS.err_room HM.out.1 (by rw [PS.need, ← HM.out.2]; simp only [PS.swap, hs, ho]; rfl) (by show S.kn = n; simpa using hkn)
                  have hPF : playB n S0 F = (S, 7) := by rw [HIR.out.2.2, playB, if_neg (by rw [he]; decide), he]
                  have := HER.out (by rw [hPF]; exact (by decide : (7 : Int) ≠ 0))
                  rw [hPF] at this
                  exact this
                clear hs hs' ho ho'
                go_wp2_with (go_at_call 21; refine (In_B _ _ _ _).mono ?_; rw [hi]; rintro e w' ⟨rfl, hw'⟩; rw [hw']; clear hw' w'; dsimp only)
                change bodyPost Try.prog Try.f7 _ _ _ _
                refine bodyPost_ret (v := .tuple #[.slice none 0 0, .slice none 0 0, .int .i64 0, .int .i64 7]) (by simp [results, Try.results7, go_sem]) rfl ?_
                rw [HPP.out]
                exact playPost_no HIR.out.1.old
              | false =>
                have hkn' : S.kn ≠ n := by simpa using hkn
                have HN : Hid (PdR w ((wr.setCell ⟨g1, q, none⟩ (.bool true)).setCell ⟨gb, m, none⟩ (.int .i64 y1)) ga gb gs g0 g1 n (S.putW ((m : Int), y1, y2)) ∧ RowV ((wr.setCell ⟨g1, q, none⟩ (.bool true)).setCell ⟨gb, m, none⟩ (.int .i64 y1)) go 59 [.slice (some ⟨g0, 0, none⟩) 16 16, .slice (some ⟨g1, 0, none⟩) 16 16] ∧ (S.putW ((m : Int), y1, y2)).kn = S.kn + 1 ∧ playB n S0 F = playB n (S.putW ((m : Int), y1, y2)) (F.drop (k + 1))) := by
                  have hp : S.putW ((m : Int), y1, y2) = (S.swap.put m y1).swap := by
                    unfold PS.putW
                    rw [if_neg hh, Int.toNat_natCast]
                  have he : S.errW n ((m : Int), y1, y2) = 0 := by
                    unfold PS.errW
                    rw [if_neg hh]
                    exact PS.err_no HM.out.1 (Or.inr hkn')
                  rw [hp]
                  (try rw [HM.out.2])
                  have hx := HIR.out.1.swap.fresh HO.out.n.swap hs' ho' hkn' y1
                  refine ⟨hx.1.swap, ((HIR.out.2.1.other HO.out.y _ _).other HO.out.b _ _), hx.2, ?_⟩
                  rw [HIR.out.2.2, playB, if_pos he, hp]
                clear hs hs' ho ho' hkn'
                go_wp2_with (go_at_call 21; refine (In_B _ _ _ _).mono ?_; rw [hi]; rintro e w' ⟨rfl, hw'⟩; rw [hw']; clear hw' w'; dsimp only)
                refine ⟨⟨k + 1, _, by omega, by go_num, by rw [HN.out.2.2.1], HN.out.1, HN.out.2.1, HN.out.2.2.2⟩, ?_⟩
                simp [intOf]; omega
    · have e : k = F.length := by omega
      subst e
      have hnl : ¬ (F.length : Int) < (F.length : Int) := by omega
      rw [List.drop_length, playB] at hP
      have HE : Hid (PdR w wr ga gb gs g0 g1 n (playB n S0 F).1 ∧ (playB n S0 F).2 = 0 ∧ S.kn = (playB n S0 F).1.kn) := ⟨by rw [hP]; exact hI, by rw [hP], by rw [hP]⟩
      clear hI hP hB
      go_wp2_with fail
      rw [HE.out.2.2]
      exact HK.out _ _ _ _ _ _ _ _ _ _ _ _ _ _ _ _ _ _ _ _ _ _ _ _ _ _ _ _ _ _ _ _ _ _ _ _ _ _ _ _ _ _ _ _ _ _ _ _ _ _ _ _ _ _ _ _ _ _ _ _ _ _ _ _ _ _ _ _ _ _ _ _ _ _ _ _ _ _ _ _ _ _ _ _ _ _ _ HE.out.1 HE.out.2.1


end Go.Proofs.Ytlcdefpdahjjeaf
