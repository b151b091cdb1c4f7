/- The document's PlayedOf: the whole. (Written by tools/gen_pd.py.) -/
import Derived.Test.YtlcdefpdahjjeafPdE
namespace Go.Proofs.Ytlcdefpdahjjeaf
open Go.RowKit

theorem pdS0 : rst 0 (Try.f7.body.getD .skip) = .seq (stm 0 (Try.f7.body.getD .skip)) (rst 1 (Try.f7.body.getD .skip)) := by kernel_rfl
theorem pdS1 : rst 1 (Try.f7.body.getD .skip) = .seq (stm 1 (Try.f7.body.getD .skip)) (rst 2 (Try.f7.body.getD .skip)) := by kernel_rfl
theorem pdS2 : rst 2 (Try.f7.body.getD .skip) = .seq (stm 2 (Try.f7.body.getD .skip)) (rst 3 (Try.f7.body.getD .skip)) := by kernel_rfl
theorem pdS3 : rst 3 (Try.f7.body.getD .skip) = .seq (stm 3 (Try.f7.body.getD .skip)) (rst 4 (Try.f7.body.getD .skip)) := by kernel_rfl
theorem pdS4 : rst 4 (Try.f7.body.getD .skip) = .seq (stm 4 (Try.f7.body.getD .skip)) (rst 5 (Try.f7.body.getD .skip)) := by kernel_rfl
theorem pdS5 : rst 5 (Try.f7.body.getD .skip) = .seq (stm 5 (Try.f7.body.getD .skip)) (rst 6 (Try.f7.body.getD .skip)) := by kernel_rfl
theorem pdS6 : rst 6 (Try.f7.body.getD .skip) = .seq (stm 6 (Try.f7.body.getD .skip)) (rst 7 (Try.f7.body.getD .skip)) := by kernel_rfl
theorem pdS7 : rst 7 (Try.f7.body.getD .skip) = .seq (stm 7 (Try.f7.body.getD .skip)) (rst 8 (Try.f7.body.getD .skip)) := by kernel_rfl
theorem pdS8 : rst 8 (Try.f7.body.getD .skip) = .seq (stm 8 (Try.f7.body.getD .skip)) (rst 9 (Try.f7.body.getD .skip)) := by kernel_rfl
theorem pdS9 : rst 9 (Try.f7.body.getD .skip) = .seq (stm 9 (Try.f7.body.getD .skip)) (rst 10 (Try.f7.body.getD .skip)) := by kernel_rfl
theorem pdS10 : rst 10 (Try.f7.body.getD .skip) = .seq (stm 10 (Try.f7.body.getD .skip)) (rst 11 (Try.f7.body.getD .skip)) := by kernel_rfl

set_option maxRecDepth 100000 in
set_option maxHeartbeats 4000000 in
theorem pd11 (c0 c1 c2 c3 c4 c5 c6 c7 c8 c9 c11 c13 c14 c16 c17 c18 c19 c20 c21 c22 c23 c24 c25 c26 c27 c28 c29 c30 c31 c32 c33 c34 c35 c36 c37 c38 c39 c40 c41 c42 c43 c44 c45 c46 c47 c48 c49 c50 c51 c52 c53 c54 c55 c56 c57 c58 c59 c60 c61 c62 c63 c64 c65 c66 c67 c68 c69 c70 c71 c72 c73 c74 c75 c76 c77 c78 c79 c80 c81 c82 c83 c84 c85 c86 c87 c88 c89 c90 c91 c92 c93 c94 c95 c96 c97 c98 c99 c100 c101 c102 c103 c104 c105 c106 c107 c108 c109 c110 c111 c112 c113 c114 c115 c116 c117 c118 c119 c120 c121 c122 c123 c124 c125 c126 c127 c128 c129 c130 c131 c132 c133 c134 c135 c136 c137 c138 c139 c140 c141 c142 c143 c144 c145 c146 c147 c148 c149 c150 c151 c152 c153 c154 c155 c156 c157 c158 c159 c160 c161 c162 : Value) (ga gb gs g0 g1 cb : Nat) (n : Int) (S : PS) (PP : List Int × List Int × Int × Int) (w W : World) 
    (h : PdR w W ga gb gs g0 g1 n S) (hN : PdN w ga gb gs g0 g1) (hP : PP = (S.a, S.b, S.kn, 0)) :
    Code.wp Try.prog (rst 11 (Try.f7.body.getD .skip)) (bodyPost Try.prog Try.f7 (fun e w' => PlayPost w PP e w')) ⟨#[c0, c1, c2, c3, c4, c5, c6, c7, c8, c9, .slice (some ⟨ga, 0, none⟩) 256 256, c11, .int .i64 S.kn, c13, c14, .slice (some ⟨gb, 0, none⟩) 256 cb, c16, c17, c18, c19, c20, c21, c22, c23, c24, c25, c26, c27, c28, c29, c30, c31, c32, c33, c34, c35, c36, c37, c38, c39, c40, c41, c42, c43, c44, c45, c46, c47, c48, c49, c50, c51, c52, c53, c54, c55, c56, c57, c58, c59, c60, c61, c62, c63, c64, c65, c66, c67, c68, c69, c70, c71, c72, c73, c74, c75, c76, c77, c78, c79, c80, c81, c82, c83, c84, c85, c86, c87, c88, c89, c90, c91, c92, c93, c94, c95, c96, c97, c98, c99, c100, c101, c102, c103, c104, c105, c106, c107, c108, c109, c110, c111, c112, c113, c114, c115, c116, c117, c118, c119, c120, c121, c122, c123, c124, c125, c126, c127, c128, c129, c130, c131, c132, c133, c134, c135, c136, c137, c138, c139, c140, c141, c142, c143, c144, c145, c146, c147, c148, c149, c150, c151, c152, c153, c154, c155, c156, c157, c158, c159, c160, c161, c162], []⟩ W := by
  conv => arg 2; whnf
  have HI : Hid (IntsLo w.heap.size W (.slice (some ⟨ga, 0, none⟩) 256 256) S.a ∧ IntsLo w.heap.size W (.slice (some ⟨gb, 0, none⟩) 256 cb) S.b ∧ Below w.heap.size w W) := ⟨h.ba.low hN.la h.sa (by omega), h.bb.low hN.lb h.sb (by omega), h.old⟩
  have HP : Hid (PP = (S.a, S.b, S.kn, 0)) := hP
  clear h hP hN
  go_wp2_with fail
  change bodyPost Try.prog Try.f7 _ _ _ _
  refine bodyPost_ret (v := .tuple #[.slice (some ⟨ga, 0, none⟩) 256 256, .slice (some ⟨gb, 0, none⟩) 256 cb, .int .i64 S.kn, .int .i64 0]) (by simp [results, Try.results7, go_sem]) rfl ?_
  rw [HP.out]
  exact ⟨_, _, rfl, HI.out.1, HI.out.2.1, HI.out.2.2⟩


set_option maxRecDepth 100000 in
set_option maxHeartbeats 4000000 in
theorem PlayedOf_any (n : Int) (VA TA : Option Addr) (vc tc : Nat) (F : List (Int × Int)) (T : List (Int × Int × Int)) (w : World) (hF : PairsAt w (.slice VA F.length vc) F) (hT : ThreesAt w (.slice TA T.length tc) T) :
    Calls Try.prog 7 #[.int .i64 n, .slice VA F.length vc, .slice TA T.length tc] w fun e w' => PlayPost w (played n F T) e w' := by
  obtain ⟨PP, hPP⟩ : ∃ PP, PP = played n F T := ⟨_, rfl⟩
  rw [← hPP]
  go_enter Try.func7, Try.ntmps7
  refine wp_stm (k := 0) pdS0 (pd0 _ _ _ _ _ _ _ _ _ _ _ _ _ _ _ _ _ _ _ _ _ _ _ _ _ _ _ _ _ _ _ _ _ _ _ _ _ _ _ _ _ _ _ _ _ _ _ _ _ _ _ _ _ _ _ _ _ _ _ _ _ _ _ _ _ _ _ _ _ _ _ _ _ _ _ _ _ _ _ _ _ _ _ _ _ _ _ _ _ _ _ _ _ _ _ _ _ _ _ _ _ _ _ _ _ _ _ _ _ _ _ _ _ _ _ _ _ _ _ _ _ _ _ _ _ _ _ _ _ _ _ _ _ _ _ _ _ _ _ _ _ _ _ _ _ _ _ _ _ _ _ _ _ _ _ _ _ _ _ _ _ _ _ w _ _ ?_)
  intro u6 u7 u8 u9 W0 e0
  rw [e0]
  clear e0 W0
  by_cases hn : 0 ≤ n ∧ n ≤ 200
  case neg =>
    rw [hPP, played, if_pos hn]
    exact wp_stm pdS1 (pd1r _ _ _ _ _ _ _ _ _ _ _ _ _ _ _ _ _ _ _ _ _ _ _ _ _ _ _ _ _ _ _ _ _ _ _ _ _ _ _ _ _ _ _ _ _ _ _ _ _ _ _ _ _ _ _ _ _ _ _ _ _ _ _ _ _ _ _ _ _ _ _ _ _ _ _ _ _ _ _ _ _ _ _ _ _ _ _ _ _ _ _ _ _ _ _ _ _ _ _ _ _ _ _ _ _ _ _ _ _ _ _ _ _ _ _ _ _ _ _ _ _ _ _ _ _ _ _ _ _ _ _ _ _ _ _ _ _ _ _ _ _ _ _ _ _ _ _ _ _ _ _ _ _ _ _ _ _ _ _ _ _ _ n w w _ hn (Below.refl _ _))
  case pos =>
    refine wp_stm pdS1 (pd1 _ _ _ _ _ _ _ _ _ _ _ _ _ _ _ _ _ _ _ _ _ _ _ _ _ _ _ _ _ _ _ _ _ _ _ _ _ _ _ _ _ _ _ _ _ _ _ _ _ _ _ _ _ _ _ _ _ _ _ _ _ _ _ _ _ _ _ _ _ _ _ _ _ _ _ _ _ _ _ _ _ _ _ _ _ _ _ _ _ _ _ _ _ _ _ _ _ _ _ _ _ _ _ _ _ _ _ _ _ _ _ _ _ _ _ _ _ _ _ _ _ _ _ _ _ _ _ _ _ _ _ _ _ _ _ _ _ _ _ _ _ _ _ _ _ _ _ _ _ _ _ _ _ _ _ _ _ _ _ _ _ _ n w _ _ hn ?_)
    intro u23 u24 u25 W1 e1
    rw [e1]
    clear e1 W1
    refine wp_stm pdS2 (pd2 _ _ _ _ _ _ _ _ _ _ _ _ _ _ _ _ _ _ _ _ _ _ _ _ _ _ _ _ _ _ _ _ _ _ _ _ _ _ _ _ _ _ _ _ _ _ _ _ _ _ _ _ _ _ _ _ _ _ _ _ _ _ _ _ _ _ _ _ _ _ _ _ _ _ _ _ _ _ _ _ _ _ _ _ _ _ _ _ _ _ _ _ _ _ _ _ _ _ _ _ _ _ _ _ _ _ _ _ _ _ _ _ _ _ _ _ _ _ _ _ _ _ _ _ _ _ _ _ _ _ _ _ _ _ _ _ _ _ _ _ _ _ _ _ _ _ _ _ _ _ _ _ _ _ _ _ _ _ _ _ _ _ _ w _ _ ?_)
    intro u26 ga W2 r2 l2 b2
    refine wp_stm pdS3 (pd3 _ _ _ _ _ _ _ _ _ _ _ _ _ _ _ _ _ _ _ _ _ _ _ _ _ _ _ _ _ _ _ _ _ _ _ _ _ _ _ _ _ _ _ _ _ _ _ _ _ _ _ _ _ _ _ _ _ _ _ _ _ _ _ _ _ _ _ _ _ _ _ _ _ _ _ _ _ _ _ _ _ _ _ _ _ _ _ _ _ _ _ _ _ _ _ _ _ _ _ _ _ _ _ _ _ _ _ _ _ _ _ _ _ _ _ _ _ _ _ _ _ _ _ _ _ _ _ _ _ _ _ _ _ _ _ _ _ _ _ _ _ _ _ _ _ _ _ _ _ _ _ _ _ _ _ _ _ _ _ _ _ _ _ W2 _ _ ?_)
    intro u27 gh W3 r3 l3 b3
    have hb3 : Below w.heap.size w W3 := b2.trans (b3.mono b2.size)
    have ra3 := r2.below b3
    have hlt := r2.lt
    refine wp_stm pdS4 (pd4 _ _ _ _ _ _ _ _ _ _ _ _ _ _ _ _ _ _ _ _ _ _ _ _ _ _ _ _ _ _ _ _ _ _ _ _ _ _ _ _ _ _ _ _ _ _ _ _ _ _ _ _ _ _ _ _ _ _ _ _ _ _ _ _ _ _ _ _ _ _ _ _ _ _ _ _ _ _ _ _ _ _ _ _ _ _ _ _ _ _ _ _ _ _ _ _ _ _ _ _ _ _ _ _ _ _ _ _ _ _ _ _ _ _ _ _ _ _ _ _ _ _ _ _ _ _ _ _ _ _ _ _ _ _ _ _ _ _ _ _ _ _ _ _ _ _ _ _ _ _ _ _ _ _ _ _ _ _ _ _ _ _ _ W3 _ _ ?_)
    intro W4 e4
    rw [e4]
    clear e4 W4
    have hP1 : Pd1 w W3 ga gh n PS.start := ⟨ra3, r3, by omega, l2, by have := b2.size; omega, by simp [PS.start], by simp [PS.start], rfl, by simp [PS.start], by simp [PS.start]; omega, hb3⟩
    refine wp_stm pdS5 (pd5 _ _ _ _ _ _ _ _ _ _ _ _ _ _ _ _ _ _ _ _ _ _ _ _ _ _ _ _ _ _ _ _ _ _ _ _ _ _ _ _ _ _ _ _ _ _ _ _ _ _ _ _ _ _ _ _ _ _ _ _ _ _ _ _ _ _ _ _ _ _ _ _ _ _ _ _ _ _ _ _ _ _ _ _ _ _ _ _ _ _ _ _ _ _ _ _ _ _ _ _ _ _ _ _ _ _ _ _ _ _ _ _ _ _ _ _ _ _ _ _ _ _ _ _ _ _ _ _ _ _ _ _ _ _ _ _ _ _ _ _ _ _ _ _ _ _ _ _ _ _ _ _ _ _ _ _ _ _ VA vc F PP ga gh n w W3 _ hP1 hn.2 hF (fun he => by rw [hPP, played, if_neg (by simpa using hn), if_pos he]) ?_)
    intro v6 v7 v8 v9 v13 v14 v28 v29 v30 v31 v32 v33 v34 v35 v36 v37 v38 v39 v40 v41 v42 v43 v44 v45 v46 v47 v48 v49 v50 v51 v52 v53 v54 v55 v56 v57 v58 v59 v60 v61 v62 v63 v64 W5 h5 he5
    obtain ⟨S, hS⟩ : ∃ S, S = (playF n PS.start F).1 := ⟨_, rfl⟩
    rw [← hS] at h5 ⊢
    refine wp_stm pdS6 (pd6 _ _ _ _ _ _ _ _ _ _ _ _ _ _ _ _ _ _ _ _ _ _ _ _ _ _ _ _ _ _ _ _ _ _ _ _ _ _ _ _ _ _ _ _ _ _ _ _ _ _ _ _ _ _ _ _ _ _ _ _ _ _ _ _ _ _ _ _ _ _ _ _ _ _ _ _ _ _ _ _ _ _ _ _ _ _ _ _ _ _ _ _ _ _ _ _ _ _ _ _ _ _ _ _ _ _ _ _ _ _ _ _ _ _ _ _ _ _ _ _ _ _ _ _ _ _ _ _ _ _ _ _ _ _ _ _ _ _ _ _ _ _ _ _ _ _ _ _ _ _ _ _ _ _ _ _ _ _ _ _ _ _ ga S.a W5 _ _ h5.ba h5.sa ?_)
    intro u65 u66 gb cb W6 r6 l6 b6
    refine wp_stm pdS7 (pd7 _ _ _ _ _ _ _ _ _ _ _ _ _ _ _ _ _ _ _ _ _ _ _ _ _ _ _ _ _ _ _ _ _ _ _ _ _ _ _ _ _ _ _ _ _ _ _ _ _ _ _ _ _ _ _ _ _ _ _ _ _ _ _ _ _ _ _ _ _ _ _ _ _ _ _ _ _ _ _ _ _ _ _ _ _ _ _ _ _ _ _ _ _ _ _ _ _ _ _ _ _ _ _ _ _ _ _ _ _ _ _ _ _ _ _ _ _ _ _ _ _ _ _ _ _ _ _ _ _ _ _ _ _ _ _ _ _ _ _ _ _ _ _ _ _ _ _ _ _ _ _ _ _ _ _ _ _ _ _ _ _ _ _ W6 _ _ ?_)
    intro u67 gs W7 r7 l7 b7
    refine wp_stm pdS8 (pd8 _ _ _ _ _ _ _ _ _ _ _ _ _ _ _ _ _ _ _ _ _ _ _ _ _ _ _ _ _ _ _ _ _ _ _ _ _ _ _ _ _ _ _ _ _ _ _ _ _ _ _ _ _ _ _ _ _ _ _ _ _ _ _ _ _ _ _ _ _ _ _ _ _ _ _ _ _ _ _ _ _ _ _ _ _ _ _ _ _ _ _ _ _ _ _ _ _ _ _ _ _ _ _ _ _ _ _ _ _ _ _ _ _ _ _ _ _ _ _ _ _ _ _ _ _ _ _ _ _ _ _ _ _ _ _ _ _ _ _ _ _ _ _ _ _ _ _ _ _ _ _ _ _ _ _ _ _ _ _ _ _ _ _ W7 _ _ ?_)
    intro u68 u69 u70 g0 g1 go W8 q0 q1 qo k0 k1 ko n01 n0o n1o b8
    have tg := h5.ba.lt
    have th := h5.bh.lt
    have tb := r6.lt
    have ts := r7.lt
    have s6 := b6.size
    have s7 := b7.size
    have s8 := b8.size
    have hla := h5.la
    have hlh := h5.lh
    have sz5 := h5.old.size
    have hb8 : Below w.heap.size w W8 := ((h5.old.trans (b6.mono h5.old.size)).trans (b7.mono (by omega))).trans (b8.mono (by omega))
    refine wp_stm pdS9 (pd9 _ _ _ _ _ _ _ _ _ _ _ _ _ _ _ _ _ _ _ _ _ _ _ _ _ _ _ _ _ _ _ _ _ _ _ _ _ _ _ _ _ _ _ _ _ _ _ _ _ _ _ _ _ _ _ _ _ _ _ _ _ _ _ _ _ _ _ _ _ _ _ _ _ _ _ _ _ _ _ _ _ _ _ _ _ _ _ _ _ _ _ _ _ _ _ _ _ _ _ _ _ _ _ _ _ _ _ _ _ _ _ _ _ _ _ _ _ _ _ _ _ _ _ _ _ _ _ _ _ _ _ _ _ _ _ _ _ _ _ _ _ _ _ _ _ _ _ _ _ _ _ _ _ _ _ _ _ _ _ _ _ gh gs S.o0 W8 _ _ (((h5.bh.below b6).below b7).below b8) (r7.below b8) h5.so (by omega) ?_)
    rintro u18 u71 u72 u73 u74 u75 u76 u77 u78 u79 u80 u81 W9 ⟨f, hf, hF9⟩ r9
    have hN : PdN w ga gb gs g0 g1 := ⟨by omega, by omega, by omega, by omega, by omega, by omega, by omega, by omega, by omega, n01, by omega, by omega, by omega, by omega, by omega⟩
    have hO : PdO w ga gb gs g0 g1 go := ⟨hN, by omega, by omega, by omega, Ne.symm n0o, Ne.symm n1o⟩
    have hR : PdR w W9 ga gb gs g0 g1 n S.fork := by
      rw [hf] at r9 ⊢
      refine ⟨(hF9 W8).2 _ _ _ hN.ah (((h5.ba.below b6).below b7).below b8), (hF9 W8).2 _ _ _ hN.bs ((r6.below b7).below b8), r9, (hF9 W8).2 _ _ _ (Ne.symm hN.s0) q0, (hF9 W8).2 _ _ _ (Ne.symm hN.s1) q1, h5.sa, h5.sa, h5.so, by simp [PS.fork], by simp [PS.fork], h5.k0, h5.kn, hb8.trans ((hF9 W8).1 _ hN.ls)⟩
    have hbo : RowV W9 go 59 [.slice (some ⟨g0, 0, none⟩) 16 16, .slice (some ⟨g1, 0, none⟩) 16 16] := by rw [hf]; exact (hF9 W8).2 _ _ _ hO.s qo
    refine wp_stm pdS10 (pd10 _ _ _ _ _ _ _ _ _ _ _ _ _ _ _ _ _ _ _ _ _ _ _ _ _ _ _ _ _ _ _ _ _ _ _ _ _ _ _ _ _ _ _ _ _ _ _ _ _ _ _ _ _ _ _ _ _ _ _ _ _ _ _ _ _ _ _ _ _ _ _ _ _ _ _ _ _ _ _ _ _ _ _ _ _ _ _ _ _ _ _ _ _ _ _ _ _ _ _ _ _ _ _ _ _ _ _ _ _ _ _ _ _ _ _ _ _ _ _ _ _ _ _ _ _ _ _ _ _ _ _ _ _ _ _ _ _ _ _ _ _ _ _ _ _ _ _ _ _ _ _ _ _ _ _ _ TA tc T PP ga gb gs g0 g1 go cb n S.fork w W9 _ hR hbo hO hn.2 hT (fun he => by rw [hS] at he ⊢; rw [hPP, played, if_neg (by simpa using hn), if_neg (by simpa using he5), if_pos he]) ?_)
    intro x6 x7 x8 x9 x19 x20 x21 x22 x82 x83 x84 x85 x86 x87 x88 x89 x90 x91 x92 x93 x94 x95 x96 x97 x98 x99 x100 x101 x102 x103 x104 x105 x106 x107 x108 x109 x110 x111 x112 x113 x114 x115 x116 x117 x118 x119 x120 x121 x122 x123 x124 x125 x126 x127 x128 x129 x130 x131 x132 x133 x134 x135 x136 x137 x138 x139 x140 x141 x142 x143 x144 x145 x146 x147 x148 x149 x150 x151 x152 x153 x154 x155 x156 x157 x158 x159 W10 h10 he10
    exact pd11 _ _ _ _ _ _ _ _ _ _ _ _ _ _ _ _ _ _ _ _ _ _ _ _ _ _ _ _ _ _ _ _ _ _ _ _ _ _ _ _ _ _ _ _ _ _ _ _ _ _ _ _ _ _ _ _ _ _ _ _ _ _ _ _ _ _ _ _ _ _ _ _ _ _ _ _ _ _ _ _ _ _ _ _ _ _ _ _ _ _ _ _ _ _ _ _ _ _ _ _ _ _ _ _ _ _ _ _ _ _ _ _ _ _ _ _ _ _ _ _ _ _ _ _ _ _ _ _ _ _ _ _ _ _ _ _ _ _ _ _ _ _ _ _ _ _ _ _ _ _ _ _ _ _ _ _ _ _ _ _ ga gb gs g0 g1 cb n _ PP w W10 h10 hN (by rw [hS] at he10 ⊢; rw [hPP, played, if_neg (by simpa using hn), if_neg (by simpa using he5), if_neg (by simpa using he10)])

end Go.Proofs.Ytlcdefpdahjjeaf
