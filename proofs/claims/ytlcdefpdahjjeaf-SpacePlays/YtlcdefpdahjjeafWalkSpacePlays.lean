/- SpacePlays, walked. -/
import Derived.Test.YtlcdefpdahjjeafPlJ
import Derived.Test.YtlcdefpdahjjeafPdF
import Derived.Test.YtlcdefpdahjjeafWalkB
namespace Go.Proofs.Ytlcdefpdahjjeaf
open Go.RowKit

theorem PairsAt.below {w w' : World} {v : Value} {l : List (Int × Int)} (h : PairsAt w v l) (hb : Below w.heap.size w w') : PairsAt w' v l := by
  obtain ⟨A, c, rfl, hl, hc⟩ := h
  refine ⟨A, c, rfl, hl, fun h0 => ?_⟩
  obtain ⟨b, off, rfl, hlt, hj⟩ := hc h0
  exact ⟨b, off, rfl, Nat.lt_of_lt_of_le hlt hb.size, fun j hjl => ⟨(hb.cell (p := ⟨b, off + j * 2, none⟩) hlt).trans (hj j hjl).1, (hb.cell (p := ⟨b, off + j * 2 + 1, none⟩) hlt).trans (hj j hjl).2⟩⟩
theorem ThreesAt.below {w w' : World} {v : Value} {l : List (Int × Int × Int)} (h : ThreesAt w v l) (hb : Below w.heap.size w w') : ThreesAt w' v l := by
  obtain ⟨A, c, rfl, hl, hc⟩ := h
  refine ⟨A, c, rfl, hl, fun h0 => ?_⟩
  obtain ⟨b, off, rfl, hlt, hj⟩ := hc h0
  exact ⟨b, off, rfl, Nat.lt_of_lt_of_le hlt hb.size, fun j hjl => ⟨(hb.cell (p := ⟨b, off + j * 3, none⟩) hlt).trans (hj j hjl).1, (hb.cell (p := ⟨b, off + j * 3 + 1, none⟩) hlt).trans (hj j hjl).2.1, (hb.cell (p := ⟨b, off + j * 3 + 2, none⟩) hlt).trans (hj j hjl).2.2⟩⟩

set_option maxRecDepth 20000 in
set_option maxHeartbeats 1000000 in
theorem SpacePlays_any (n : Int) (v0 : Value) (F : List (Int × Int)) (v1 : Value) (T : List (Int × Int × Int)) (w : World) (_ : (Lit.int .i64 n).wf = true) (hF : PairsAt w v0 F) (hT : ThreesAt w v1 T) :
    Calls Try.prog 3 #[.int .i64 n, v0, v1] w fun e w' => e = .returned (.bool true) ∧ Below w.heap.size w w' := by
  have hF0 := hF
  have hT0 := hT
  obtain ⟨VA, vc, rfl, -, -⟩ := hF0
  obtain ⟨TA, tc, rfl, -, -⟩ := hT0
  have HC : Hid (∀ X, Below w.heap.size w X → Calls Try.prog 6 #[.int .i64 n, .slice VA F.length vc, .slice TA T.length tc] X fun e w' => PlayPost X (played n F T) e w') := fun X hX => Play_any n VA TA vc tc F T X (hF.below hX) (hT.below hX)
  have HD : Hid (∀ X, Below w.heap.size w X → Calls Try.prog 7 #[.int .i64 n, .slice VA F.length vc, .slice TA T.length tc] X fun e w' => PlayPost X (played n F T) e w') := fun X hX => PlayedOf_any n VA TA vc tc F T X (hF.below hX) (hT.below hX)
  clear hF hT
  obtain ⟨⟨pa, pb, pk, pe⟩, hP⟩ : ∃ P, P = played n F T := ⟨_, rfl⟩
  rw [← hP] at HC HD
  clear hP
  go_enter Try.func3, Try.ntmps3
  go_wp2_with fail
  refine (HC.out _ (Below.refl _ _)).mono ?_
  rintro e w1 ⟨va, vb, rfl, h1, h2, hb1⟩
  have H1 : Hid (IntsAt w1 va pa ∧ IntsAt w1 vb pb ∧ Below w.heap.size w w1) := ⟨h1.at, h2.at, hb1⟩
  clear h1 h2 hb1 HC
  dsimp only
  go_wp2_with fail
  refine (HD.out _ H1.out.2.2).mono ?_
  rintro e w2 ⟨vc, vd, rfl, h3, h4, hb2⟩
  have hb12 : Below w.heap.size w w2 := H1.out.2.2.trans (hb2.mono H1.out.2.2.size)
  have H2 : Hid (IntsAt w2 va pa ∧ IntsAt w2 vb pb ∧ IntsAt w2 vc pa ∧ IntsAt w2 vd pb ∧ Below w.heap.size w w2) := ⟨H1.out.1.below hb2, H1.out.2.1.below hb2, h3.at, h4.at, hb12⟩
  clear h3 h4 hb2 hb12 HD H1
  dsimp only
  go_wp2_with fail
  refine (sameInts_any _ _ _ _ _ H2.out.1 H2.out.2.2.1).mono ?_
  rintro e w3 ⟨rfl, n1, hw3⟩
  rw [hw3]
  clear hw3 w3
  rw [decide_eq_true (rfl : pa = pa)]
  go_wp2_with fail
  refine (sameInts_any _ _ _ _ _ (H2.out.2.1.drewN n1) (H2.out.2.2.2.1.drewN n1)).mono ?_
  rintro e w4 ⟨rfl, n2, hw4⟩
  rw [hw4]
  clear hw4 w4
  rw [decide_eq_true (rfl : pb = pb)]
  go_wp2_with fail
  go_ret
  exact ⟨rfl, below_drewN H2.out.2.2.2.2 _⟩

end Go.Proofs.Ytlcdefpdahjjeaf
