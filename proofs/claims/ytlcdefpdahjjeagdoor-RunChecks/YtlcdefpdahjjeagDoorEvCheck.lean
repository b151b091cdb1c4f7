/- Contract of evlog.checkEvent. -/
import Derived.Test.YtlcdefpdahjjeagDoorEv
import Derived.Test.YtlcdefpdahjjeagDoorEClo
namespace Go.Proofs.YtlcdefpdahjjeagDoor
open Go.RowKit
set_option maxRecDepth 100000

set_option maxHeartbeats 2000000 in
theorem checkEvent_any (a k : Int) (v : Value) (l : List Int) (w : World) (h : IntsAt w v l) (hL : Laid w) :
    Calls Tryd.prog 101 #[.agg #[.int .i64 a, .int .i64 k, v]] w fun e w' => e = .returned (.int .i64 (evNo ⟨a, k, l⟩)) ∧ Below w.heap.size w w' := by
  have H : Hid (IntsAt w v l) := h
  obtain ⟨A, c, rfl, hl, hc⟩ := h
  have HL : Hid (Laid w) := hL
  clear hc hL
  go_enter Tryd.func101, Tryd.ntmps101
  go_wp2_with fail
  refine (outsideE_any _ _ _).mono ?_
  rintro e w1 ⟨p, q, rfl, hc, hb⟩
  obtain ⟨z0, z1, z2, zf, zl⟩ := three_cells (box_kept hb)
  have hB : Below w.heap.size w w1 := (below_alloc _ _).trans (hb.mono (by simp))
  have HB : Hid (Below w.heap.size w w1) := hB
  have HC : Hid (CloAtE w1 p q (-1099511627776) 1099511627776) := hc
  have HI : Hid (IntsAt w1 (.slice A l.length c) l) := H.out.below hB
  obtain ⟨g0, g1, g2, g3, g4⟩ := HL.out.below hB
  clear hc hb hB H HL
  by_cases k1 : k < 1
  · have HE : Hid (evNo ⟨a, k, l⟩ = 3) := by show _ = _; simp [evNo, inB_no (n := k) (lo := 1) (hi := 3) (by omega)]
    go_wp2_with fail
    go_ret
    exact ⟨ret_int HE.out.symm, HB.out⟩
  by_cases k2 : 3 < k
  · have HE : Hid (evNo ⟨a, k, l⟩ = 3) := by show _ = _; simp [evNo, inB_no (n := k) (lo := 1) (hi := 3) (by omega)]
    go_wp2_with fail
    go_ret
    exact ⟨ret_int HE.out.symm, HB.out⟩
  have hk : inB k 1 3 = true := inB_yes (by omega) (by omega)
  by_cases a1 : a < 0
  · have HE : Hid (evNo ⟨a, k, l⟩ = 2) := by show _ = _; simp [evNo, hk, inB_no (n := a) (lo := 0) (hi := 2999) (by omega)]
    clear hk
    go_wp2_with fail
    go_ret
    exact ⟨ret_int HE.out.symm, HB.out⟩
  by_cases a2 : 3000 ≤ a
  · have HE : Hid (evNo ⟨a, k, l⟩ = 2) := by show _ = _; simp [evNo, hk, inB_no (n := a) (lo := 0) (hi := 2999) (by omega)]
    clear hk
    go_wp2_with fail
    go_ret
    exact ⟨ret_int HE.out.symm, HB.out⟩
  have ha : inB a 0 2999 = true := inB_yes (by omega) (by omega)
  cases hw : allB l with
  | false =>
    have HE : Hid (evNo ⟨a, k, l⟩ = 2) := by show _ = _; simp [evNo, hk, ha, hw]
    clear hk ha
    go_wp2_with fail
    refine (ContainsFuncE_word _ l p q _ HI.out HC.out).mono ?_
    rw [hw]
    rintro e w' ⟨rfl, rfl⟩
    go_wp2_with fail
    go_ret
    exact ⟨ret_int HE.out.symm, HB.out⟩
  | true =>
    by_cases hn : (l.length : Int) = wordsN k
    · have HE : Hid (evNo ⟨a, k, l⟩ = 0) := by show _ = _; simp [evNo, hk, ha, hw, hn]
      have HK : Hid (k = 1 ∧ (l.length : Int) = 0 ∨ k = 2 ∧ (l.length : Int) = 16 ∨ k = 3 ∧ (l.length : Int) = 1) := by
        have : k = 1 ∨ k = 2 ∨ k = 3 := by omega
        show _ ∨ _
        rcases this with rfl | rfl | rfl
        · exact Or.inl ⟨rfl, hn⟩
        · exact Or.inr (Or.inl ⟨rfl, hn⟩)
        · exact Or.inr (Or.inr ⟨rfl, hn⟩)
      clear hk ha hn
      go_wp2_with fail
      refine (ContainsFuncE_word _ l p q _ HI.out HC.out).mono ?_
      rw [hw]
      rintro e w' ⟨rfl, rfl⟩
      clear HI HC hw a1 a2
      rcases HK.out with ⟨rfl, hn⟩ | ⟨rfl, hn⟩ | ⟨rfl, hn⟩
      all_goals
        go_wp2_with fail
        go_quiet (fail)
        go_wp2_with fail
        go_ret
        exact ⟨ret_int HE.out.symm, below_drewN HB.out _⟩
    · have HE : Hid (evNo ⟨a, k, l⟩ = 1) := by show _ = _; simp [evNo, hk, ha, hw, hn]
      have HK : Hid (k = 1 ∧ ¬ (l.length : Int) = 0 ∨ k = 2 ∧ ¬ (l.length : Int) = 16 ∨ k = 3 ∧ ¬ (l.length : Int) = 1) := by
        have : k = 1 ∨ k = 2 ∨ k = 3 := by omega
        show _ ∨ _
        rcases this with rfl | rfl | rfl
        · exact Or.inl ⟨rfl, hn⟩
        · exact Or.inr (Or.inl ⟨rfl, hn⟩)
        · exact Or.inr (Or.inr ⟨rfl, hn⟩)
      clear hk ha hn
      go_wp2_with fail
      refine (ContainsFuncE_word _ l p q _ HI.out HC.out).mono ?_
      rw [hw]
      rintro e w' ⟨rfl, rfl⟩
      clear HI HC hw a1 a2
      rcases HK.out with ⟨rfl, hn⟩ | ⟨rfl, hn⟩ | ⟨rfl, hn⟩
      all_goals
        go_wp2_with fail
        go_quiet (fail)
        go_wp2_with fail
        go_ret
        exact ⟨ret_int HE.out.symm, below_drewN HB.out _⟩

end Go.Proofs.YtlcdefpdahjjeagDoor
