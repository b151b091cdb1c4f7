/- Contract of space.Play, whole. (Written by tools/gen_pl.py.) -/
import Derived.Test.YtlcdefpdahjjeafRegTwoPart
namespace Go.Proofs.Ytlcdefpdahjjeaf
open Go.RowKit

theorem plS0 : rst 0 (Try.f6.body.getD .skip) = .seq (stm 0 (Try.f6.body.getD .skip)) (rst 1 (Try.f6.body.getD .skip)) := by kernel_rfl
theorem plS1 : rst 1 (Try.f6.body.getD .skip) = .seq (stm 1 (Try.f6.body.getD .skip)) (rst 2 (Try.f6.body.getD .skip)) := by kernel_rfl
theorem plS2 : rst 2 (Try.f6.body.getD .skip) = .seq (stm 2 (Try.f6.body.getD .skip)) (rst 3 (Try.f6.body.getD .skip)) := by kernel_rfl
theorem plS3 : rst 3 (Try.f6.body.getD .skip) = .seq (stm 3 (Try.f6.body.getD .skip)) (rst 4 (Try.f6.body.getD .skip)) := by kernel_rfl
theorem plS4 : rst 4 (Try.f6.body.getD .skip) = .seq (stm 4 (Try.f6.body.getD .skip)) (rst 5 (Try.f6.body.getD .skip)) := by kernel_rfl
theorem plS5 : rst 5 (Try.f6.body.getD .skip) = .seq (stm 5 (Try.f6.body.getD .skip)) (rst 6 (Try.f6.body.getD .skip)) := by kernel_rfl
theorem plS6 : rst 6 (Try.f6.body.getD .skip) = .seq (stm 6 (Try.f6.body.getD .skip)) (rst 7 (Try.f6.body.getD .skip)) := by kernel_rfl
theorem plS7 : rst 7 (Try.f6.body.getD .skip) = .seq (stm 7 (Try.f6.body.getD .skip)) (rst 8 (Try.f6.body.getD .skip)) := by kernel_rfl
theorem plS8 : rst 8 (Try.f6.body.getD .skip) = .seq (stm 8 (Try.f6.body.getD .skip)) (rst 9 (Try.f6.body.getD .skip)) := by kernel_rfl

set_option maxRecDepth 100000 in
set_option maxHeartbeats 4000000 in
theorem Play_any (n : Int) (VA TA : Option Addr) (vc tc : Nat) (F : List (Int × Int)) (T : List (Int × Int × Int)) (w : World) (hF : PairsAt w (.slice VA F.length vc) F) (hT : ThreesAt w (.slice TA T.length tc) T) :
    Calls Try.prog 6 #[.int .i64 n, .slice VA F.length vc, .slice TA T.length tc] w fun e w' => PlayPost w (played n F T) e w' := by
  obtain ⟨PP, hPP⟩ : ∃ PP, PP = played n F T := ⟨_, rfl⟩
  rw [← hPP]
  go_enter Try.func6, Try.ntmps6
  refine wp_stm (k := 0) plS0 (pl0 _ _ _ _ _ _ _ _ _ _ _ _ _ _ _ _ _ _ _ _ _ _ _ _ _ _ _ _ _ _ _ _ _ _ _ _ _ _ _ _ _ _ _ _ _ _ _ _ _ _ _ _ _ _ _ _ _ _ _ _ _ _ _ _ _ _ _ _ _ _ _ _ _ _ _ _ _ _ _ _ _ _ _ _ _ _ _ _ _ _ _ _ _ _ _ _ _ _ _ _ _ w _ _ ?_)
  intro u6 u7 u8 u9 W0 e0
  rw [e0]
  clear e0 W0
  refine wp_stm plS1 (pl1 _ _ _ _ _ _ _ _ _ _ _ _ _ _ _ _ _ _ _ _ _ _ _ _ _ _ _ _ _ _ _ _ _ _ _ _ _ _ _ _ _ _ _ _ _ _ _ _ _ _ _ _ _ _ _ _ _ _ _ _ _ _ _ _ _ _ _ _ _ _ _ _ _ _ _ _ _ _ _ _ _ _ _ _ _ _ _ _ _ _ _ _ _ _ _ _ _ _ _ _ n w w _ _ (Below.refl _ _) ?_)
  intro u20 u21 u22 u23 u24 bf A B c c' W1 hf hD hR hlf hb1
  by_cases hn : 0 ≤ n ∧ n ≤ 200
  case neg =>
    have h2 : newE n = 2 := if_neg hn
    rw [hPP, played, if_pos hn, h2]
    exact wp_stm plS2 (pl2r _ _ _ _ _ _ _ _ _ _ _ _ _ _ _ _ _ _ _ _ _ _ _ _ _ _ _ _ _ _ _ _ _ _ _ _ _ _ _ _ _ _ _ _ _ _ _ _ _ _ _ _ _ _ _ _ _ _ _ _ _ _ _ _ _ _ _ _ _ _ _ _ _ _ _ _ _ _ _ _ _ _ _ _ _ _ _ _ _ _ _ _ _ _ _ _ _ _ _ _ 2 w W1 _ (by decide) hb1)
  case pos =>
    have h2 : newE n = 0 := if_pos hn
    rw [h2]
    obtain ⟨k, rfl⟩ : ∃ k : Nat, n = (k : Int) := ⟨n.toNat, by omega⟩
    have hrel : Rel k (newD k) (newR k) blank blank PS.start := by
      rw [newD, newR, if_pos hn, if_pos hn, Int.toNat_natCast]
      exact Rel.start (by omega)
    refine wp_stm plS2 (pl2 _ _ _ _ _ _ _ _ _ _ _ _ _ _ _ _ _ _ _ _ _ _ _ _ _ _ _ _ _ _ _ _ _ _ _ _ _ _ _ _ _ _ _ _ _ _ _ _ _ _ _ _ _ _ _ _ _ _ _ _ _ _ _ _ _ _ _ _ _ _ _ _ _ _ _ _ _ _ _ _ _ _ _ _ _ _ _ _ _ _ _ _ _ _ _ _ _ _ _ _ W1 _ _ ?_)
    intro u25 u26 W2 e2
    rw [e2]
    clear e2 W2
    refine wp_stm plS3 (pl3 _ _ _ _ _ _ _ _ _ _ _ _ _ _ _ _ _ _ _ _ _ _ _ _ _ _ _ _ _ _ _ _ _ _ _ _ _ _ _ _ _ _ _ _ _ _ _ _ _ _ _ _ _ _ _ _ _ _ _ _ _ _ _ _ _ _ _ _ _ _ _ _ _ _ _ _ _ _ _ _ _ _ _ _ _ _ _ _ _ _ _ _ _ _ _ _ _ _ _ _ bf A B c c' (newD k) (newR k) w W1 _ _ hf hD hR hlf hb1 ?_)
    intro u28 bs W3 h3
    refine wp_stm plS4 (pl4 _ _ _ _ _ _ _ _ _ _ _ _ _ _ _ _ _ _ _ _ _ _ _ _ _ _ _ _ _ _ _ _ _ _ _ _ _ _ _ _ _ _ _ _ _ _ _ _ _ _ _ _ _ _ _ _ _ _ _ _ _ _ _ _ _ _ _ _ _ _ _ _ _ _ _ _ _ _ _ _ _ _ _ _ _ _ _ _ _ _ _ _ _ _ _ _ _ _ VA vc F PP bf bs k A B c c' (newD k) (newR k) blank w W3 _ h3 hrel hF (fun he => by rw [hPP, played, if_neg (by simpa using hn), if_pos he]) ?_)
    intro u6 u7 u8 u9 u11 u13 u14 u29 u30 u31 u32 u33 u34 u35 u36 u37 u38 u39 u40 u41 u42 u43 u44 u45 u46 u47 u48 u49 D1 R1 s1 A1 B1 k1 k1' W4 h4 hr4 he4
    refine wp_stm plS5 (pl5 _ _ _ _ _ _ _ _ _ _ _ _ _ _ _ _ _ _ _ _ _ _ _ _ _ _ _ _ _ _ _ _ _ _ _ _ _ _ _ _ _ _ _ _ _ _ _ _ _ _ _ _ _ _ _ _ _ _ _ _ _ _ _ _ _ _ _ _ _ _ _ _ _ _ _ _ _ _ _ _ _ _ _ _ _ _ _ _ _ _ _ _ _ _ _ _ _ _ _ bf bs k A1 B1 k1 k1' D1 R1 s1 (playF k PS.start F).1 w W4 _ _ h4 hr4 ?_)
    intro u50 u51 u52 u53 u54 u55 u56 bt R2 A2 B2 k2 k2' W5 h5 hr5
    refine wp_stm plS6 (pl6 _ _ _ _ _ _ _ _ _ _ _ _ _ _ _ _ _ _ _ _ _ _ _ _ _ _ _ _ _ _ _ _ _ _ _ _ _ _ _ _ _ _ _ _ _ _ _ _ _ _ _ _ _ _ _ _ _ _ _ _ _ _ _ _ _ _ _ _ _ _ _ _ _ _ _ _ _ _ _ _ _ _ _ _ _ _ _ _ _ _ _ _ _ _ _ _ _ _ _ _ W5 _ _ ?_)
    intro u57 u58 W6 e6
    rw [e6]
    clear e6 W6
    refine wp_stm plS7 (pl7 _ _ _ _ _ _ _ _ _ _ _ _ _ _ _ _ _ _ _ _ _ _ _ _ _ _ _ _ _ _ _ _ _ _ _ _ _ _ _ _ _ _ _ _ _ _ _ _ _ _ _ _ _ _ _ _ _ _ _ _ _ _ _ _ _ _ _ _ _ _ _ _ _ _ _ _ _ _ _ _ _ _ _ _ _ _ _ _ _ _ _ _ _ _ _ _ _ _ bf bs bt (.slice A2 D1.length k2) (.slice B2 R2.length k2') D1 R2 s1 s1 w W5 _ _ h5 hr5.ls hr5.lt ?_)
    intro u60 u61 u62 bo W7 h7
    refine wp_stm plS8 (pl8 _ _ _ _ _ _ _ _ _ _ _ _ _ _ _ _ _ _ _ _ _ _ _ _ _ _ _ _ _ _ _ _ _ _ _ _ _ _ _ _ _ _ _ _ _ _ _ _ _ _ _ _ _ _ _ _ _ _ _ _ _ _ _ _ _ _ _ _ _ _ _ _ _ _ _ _ _ _ _ _ _ _ _ _ _ _ _ _ _ _ _ _ _ _ _ _ _ _ TA tc T PP bf bo k A2 B2 k2 k2' D1 R2 s1 s1 (playF k PS.start F).1.fork w W7 _ h7 hr5 hT (fun he => by rw [hPP, played, if_neg (by simpa using hn), if_neg (by simpa using he4), if_pos he]) ?_)
    intro v6 v7 v8 v9 v11 v17 v18 v19 v63 v64 v65 v66 v67 v68 v69 v70 v71 v72 v73 v74 v75 v76 v77 v78 v79 v80 v81 v82 v83 v84 v85 v86 v87 v88 v89 v90 D3 R3 s3 t3 A3 B3 k3 k3' W8 h8 hr8 he8
    exact pl9 _ _ _ _ _ _ _ _ _ _ _ _ _ _ _ _ _ _ _ _ _ _ _ _ _ _ _ _ _ _ _ _ _ _ _ _ _ _ _ _ _ _ _ _ _ _ _ _ _ _ _ _ _ _ _ _ _ _ _ _ _ _ _ _ _ _ _ _ _ _ _ _ _ _ _ _ _ _ _ _ _ _ _ _ _ _ _ _ _ _ _ _ _ _ _ _ _ _ _ bf bo k A3 B3 k3 k3' D3 R3 s3 t3 (playB k (playF k PS.start F).1.fork T).1 PP w W8 h8 hr8 (by rw [hPP, played, if_neg (by simpa using hn), if_neg (by simpa using he4), if_neg (by simpa using he8)])

end Go.Proofs.Ytlcdefpdahjjeaf
