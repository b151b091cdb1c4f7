/- Contract of the document's WorldFault. -/
import Derived.Test.YtlcdefpdahjjeafRunW
import Derived.Test.YtlcdefpdahjjeafMay
namespace Go.Proofs.Ytlcdefpdahjjeaf
open Go.RowKit

theorem IntsAt.look {w : World} {A : Option Addr} {c : Nat} {l : List Int} (h : IntsAt w (.slice A l.length c) l) :
    l.length * 8 ≤ 140737488351232 ∧ (0 < l.length → ∃ b off, A = some ⟨b, off, none⟩ ∧ b < w.heap.size ∧ ∀ j, j < l.length → w.cell? ⟨b, off + j, none⟩ = some (.int .i64 (l.getD j 0))) := by
  obtain ⟨A', c', e, hl, hc⟩ := h
  simp only [Value.slice.injEq, true_and] at e
  obtain ⟨rfl, rfl⟩ := e
  exact ⟨hl, hc⟩

set_option maxRecDepth 20000 in
set_option maxHeartbeats 4000000 in
theorem WorldFault_any (a b c d : Value) (x : Wd) (w : World) (h : WdAt w a b c d x) :
    Calls Try.prog 13 #[.agg #[a, b, c, d]] w fun e w' => e = .returned (.int .i64 (worldNo x)) ∧ Below w.heap.size w w' := by
  obtain ⟨A0, k0, rfl, -, -⟩ := h.irqs
  obtain ⟨A1, k1, rfl, -, -⟩ := h.values
  obtain ⟨A2, k2, rfl, -, -⟩ := h.blocks
  obtain ⟨A3, k3, rfl, -, -⟩ := h.delays
  obtain ⟨N, eN⟩ : ∃ N, N = worldNo x := ⟨_, rfl⟩
  rw [← eN]
  have hx : (w.alloc (.cells #[.slice A0 x.irqs.length k0, .slice A1 x.values.length k1, .slice A2 x.blocks.length k2, .slice A3 x.delays.length k3] 40)).heap[w.heap.size]? = some (.cells #[.slice A0 x.irqs.length k0, .slice A1 x.values.length k1, .slice A2 x.blocks.length k2, .slice A3 x.delays.length k3] 40 (0, 0)) := Go.Deep.blk_alloc_new _ _
  have hb0 := below_alloc w (.cells #[.slice A0 x.irqs.length k0, .slice A1 x.values.length k1, .slice A2 x.blocks.length k2, .slice A3 x.delays.length k3] 40)
  obtain ⟨W, hW⟩ : ∃ W, W = w.alloc (.cells #[.slice A0 x.irqs.length k0, .slice A1 x.values.length k1, .slice A2 x.blocks.length k2, .slice A3 x.delays.length k3] 40) := ⟨_, rfl⟩
  rw [← hW] at hx hb0
  have HW : Hid (W = w.alloc (.cells #[.slice A0 x.irqs.length k0, .slice A1 x.values.length k1, .slice A2 x.blocks.length k2, .slice A3 x.delays.length k3] 40)) := hW
  have HD : Hid (WdAt W (.slice A0 x.irqs.length k0) (.slice A1 x.values.length k1) (.slice A2 x.blocks.length k2) (.slice A3 x.delays.length k3) x ∧ Below w.heap.size w W) := ⟨h.below hb0, hb0⟩
  have EN : Hid (N = worldNo x) := eN
  clear h hb0 hW eN
  by_cases l0 : 1000 < (x.irqs.length : Int)
  · have HE : Hid (N = 1) := by show _ = _; rw [EN.out, worldNo, if_neg (by simp only [Wd.fits, decide_eq_true_eq]; omega)]
    clear hx EN
    go_enter Try.func13, Try.ntmps13
    go_wp2_with fail
    go_ret
    exact ⟨ret_int HE.out.symm, below_alloc _ _⟩
  by_cases l1 : 1000 < (x.values.length : Int)
  · have HE : Hid (N = 1) := by show _ = _; rw [EN.out, worldNo, if_neg (by simp only [Wd.fits, decide_eq_true_eq]; omega)]
    clear hx EN
    go_enter Try.func13, Try.ntmps13
    go_wp2_with fail
    go_ret
    exact ⟨ret_int HE.out.symm, below_alloc _ _⟩
  by_cases l2 : 1000 < (x.blocks.length : Int)
  · have HE : Hid (N = 1) := by show _ = _; rw [EN.out, worldNo, if_neg (by simp only [Wd.fits, decide_eq_true_eq]; omega)]
    clear hx EN
    go_enter Try.func13, Try.ntmps13
    go_wp2_with fail
    go_ret
    exact ⟨ret_int HE.out.symm, below_alloc _ _⟩
  by_cases l3 : 1000 < (x.delays.length : Int)
  · have HE : Hid (N = 1) := by show _ = _; rw [EN.out, worldNo, if_neg (by simp only [Wd.fits, decide_eq_true_eq]; omega)]
    clear hx EN
    go_enter Try.func13, Try.ntmps13
    go_wp2_with fail
    go_ret
    exact ⟨ret_int HE.out.symm, below_alloc _ _⟩
  have EN2 : Hid (N = if allIn 0 3000 x.irqs = true ∧ allIn 0 3000 x.delays = true ∧ allB x.values = true then blocksNo x.blocks else 2) := by show _ = _; rw [EN.out, worldNo, if_pos (by simp only [Wd.fits, decide_eq_true_eq]; omega)]
  clear EN
  go_enter Try.func13, Try.ntmps13
  go_wp2_with fail
  rw [← HW.out]
  obtain ⟨z0, z1, z2, z3⟩ := wd_cells hx
  clear hx HW l1 l2
  go_loopw [3] (fun i wr => ∃ k : Nat, k ≤ x.irqs.length ∧ i = .int .i64 k ∧ Hid (∀ i, i < k → inB (x.irqs.getD i 0) 0 3000 = true) ∧ wr = W) (fun i _ => x.irqs.length - (intOf i).toNat)
  case atStart => exact ⟨0, Nat.zero_le _, rfl, fun i hi => absurd hi (Nat.not_lt_zero _), rfl⟩
  case round =>
    obtain ⟨k, hk, rfl, ht, hw⟩ := hrel
    subst wr
    by_cases hlt : k < x.irqs.length
    · obtain ⟨b, off, rfl, hbs, hcell⟩ := HD.out.1.irqs.look.2 (by omega)
      have h1 := hcell k hlt
      have hw2 : IntKind.i64.wrap ((k : Int) + 1) = (k : Int) + 1 := IntWalk.i64_in _ (by omega)
      cases g : inB (x.irqs.getD k 0) 0 3000 with
      | false =>
        have HE : Hid (N = 2) := by show _ = _; rw [EN2.out, if_neg (by rw [allIn_no hlt g]; simp)]
        clear hcell
        revert h1 g
        generalize x.irqs.getD k 0 = y
        intro h1 g
        go_wp2_with (go_at_call 21; refine (In_B _ _ _ _).mono ?_; rw [g]; rintro e w' ⟨rfl, hw'⟩; rw [hw']; clear hw' w')
        go_ret
        exact ⟨ret_int HE.out.symm, HD.out.2⟩
      | true =>
        have HN : Hid (∀ i, i < k + 1 → inB (x.irqs.getD i 0) 0 3000 = true) := allIn_step ht.out g
        clear hcell
        revert h1 g
        generalize x.irqs.getD k 0 = y
        intro h1 g
        go_wp2_with (go_at_call 21; refine (In_B _ _ _ _).mono ?_; rw [g]; rintro e w' ⟨rfl, hw'⟩; rw [hw']; clear hw' w')
        refine ⟨⟨k + 1, by omega, by go_num, HN, trivial⟩, ?_⟩
        simp [intOf]; omega
    · have HAI : Hid (allIn 0 3000 x.irqs = true) := allIn_iff.2 fun i hi => ht.out i (by omega)
      clear ht
      go_wp2_with fail
      go_loopw [4] (fun i wr => ∃ k : Nat, k ≤ x.delays.length ∧ i = .int .i64 k ∧ Hid (∀ i, i < k → inB (x.delays.getD i 0) 0 3000 = true) ∧ wr = W) (fun i _ => x.delays.length - (intOf i).toNat)
      case atStart => exact ⟨0, Nat.zero_le _, rfl, fun i hi => absurd hi (Nat.not_lt_zero _), rfl⟩
      case round =>
        obtain ⟨k, hk, rfl, ht, hw⟩ := hrel
        subst wr
        by_cases hlt : k < x.delays.length
        · obtain ⟨b, off, rfl, hbs, hcell⟩ := HD.out.1.delays.look.2 (by omega)
          have h1 := hcell k hlt
          have hw2 : IntKind.i64.wrap ((k : Int) + 1) = (k : Int) + 1 := IntWalk.i64_in _ (by omega)
          cases g : inB (x.delays.getD k 0) 0 3000 with
          | false =>
            have HE : Hid (N = 2) := by show _ = _; rw [EN2.out, if_neg (by rw [allIn_no hlt g]; simp)]
            clear hcell
            revert h1 g
            generalize x.delays.getD k 0 = y
            intro h1 g
            go_wp2_with (go_at_call 21; refine (In_B _ _ _ _).mono ?_; rw [g]; rintro e w' ⟨rfl, hw'⟩; rw [hw']; clear hw' w')
            go_ret
            exact ⟨ret_int HE.out.symm, HD.out.2⟩
          | true =>
            have HN : Hid (∀ i, i < k + 1 → inB (x.delays.getD i 0) 0 3000 = true) := allIn_step ht.out g
            clear hcell
            revert h1 g
            generalize x.delays.getD k 0 = y
            intro h1 g
            go_wp2_with (go_at_call 21; refine (In_B _ _ _ _).mono ?_; rw [g]; rintro e w' ⟨rfl, hw'⟩; rw [hw']; clear hw' w')
            refine ⟨⟨k + 1, by omega, by go_num, HN, trivial⟩, ?_⟩
            simp [intOf]; omega
        · have HAL : Hid (allIn 0 3000 x.delays = true) := allIn_iff.2 fun i hi => ht.out i (by omega)
          clear ht
          go_wp2_with fail
          clear hk hlt
          cases g2 : allB x.values with
          | false =>
            have HE : Hid (N = 2) := by show _ = _; rw [EN2.out, if_neg (by rw [g2]; simp)]
            refine (wordsMay_any _ _ _ HD.out.1.values).mono ?_
            rw [g2]
            rintro e w' ⟨rfl, hw'⟩
            rw [hw']
            clear hw' w'
            go_wp2_with fail
            go_ret
            exact ⟨ret_int HE.out.symm, HD.out.2⟩
          | true =>
            have HE : Hid (N = blocksNo x.blocks) := by show _ = _; rw [EN2.out, if_pos ⟨HAI.out, HAL.out, g2⟩]
            refine (wordsMay_any _ _ _ HD.out.1.values).mono ?_
            rw [g2]
            rintro e w' ⟨rfl, hw'⟩
            rw [hw']
            clear hw' w' HAI HAL EN2 g2
            go_wp2_with fail
            go_loopw [5] (fun i wr => ∃ k : Nat, k ≤ x.blocks.length ∧ i = .int .i64 k ∧ Hid (N = blocksNo (x.blocks.drop k)) ∧ wr = W) (fun i _ => x.blocks.length - (intOf i).toNat)
            case atStart => exact ⟨0, Nat.zero_le _, rfl, HE, rfl⟩
            case round =>
              obtain ⟨k, hk, rfl, ht, hw⟩ := hrel
              subst wr
              by_cases hlt : k < x.blocks.length
              · have hbd := HD.out.1.blocks.look.1
                obtain ⟨b, off, rfl, hbs, hcell⟩ := HD.out.1.blocks.look.2 (by omega)
                obtain ⟨rv, h1, h2⟩ := hcell k hlt
                have HT : Hid (N = if (x.blocks.getD k []).length = 16 then (if allB (x.blocks.getD k []) = true then blocksNo (x.blocks.drop (k + 1)) else 2) else 1) := by show _ = _; rw [← blocksNo_drop x.blocks k hlt]; exact ht.out
                obtain ⟨row, hrow⟩ : ∃ row, row = x.blocks.getD k [] := ⟨_, rfl⟩
                rw [← hrow] at h2 HT
                have HI : Hid (IntsAt W rv row) := h2
                obtain ⟨A, c, rfl, -, -⟩ := h2
                have hw2 : IntKind.i64.wrap ((k : Int) + 1) = (k : Int) + 1 := IntWalk.i64_in _ (by omega)
                clear hcell hrow ht HE hbd
                by_cases hr : row.length = 16
                · have d0 : ((row.length : Int) != 16) = false := by simp [hr]
                  have HT2 : Hid (N = if allB row = true then blocksNo (x.blocks.drop (k + 1)) else 2) := by show _ = _; rw [HT.out, if_pos hr]
                  clear hr HT
                  cases g : allB row with
                  | false =>
                    have HE : Hid (N = 2) := by show _ = _; rw [HT2.out, g]; rfl
                    go_wp2_with fail
                    refine (wordsMay_any _ _ _ HI.out).mono ?_
                    rw [g]
                    rintro e w' ⟨rfl, hw'⟩
                    rw [hw']
                    clear hw' w'
                    go_wp2_with fail
                    go_ret
                    exact ⟨ret_int HE.out.symm, HD.out.2⟩
                  | true =>
                    have HE : Hid (N = blocksNo (x.blocks.drop (k + 1))) := by show _ = _; rw [HT2.out, if_pos g]
                    go_wp2_with fail
                    refine (wordsMay_any _ _ _ HI.out).mono ?_
                    rw [g]
                    rintro e w' ⟨rfl, hw'⟩
                    rw [hw']
                    clear hw' w'
                    go_wp2_with fail
                    refine ⟨⟨k + 1, by omega, by go_num, HE, trivial⟩, ?_⟩
                    simp [intOf]; omega
                · have d0 : ((row.length : Int) != 16) = true := by simp; omega
                  have HE : Hid (N = 1) := by show _ = _; rw [HT.out, if_neg hr]
                  go_wp2_with fail
                  go_ret
                  exact ⟨ret_int HE.out.symm, HD.out.2⟩
              · have HT : Hid (N = 0) := by show _ = _; rw [ht.out, List.drop_of_length_le (by omega)]; rfl
                clear ht HE
                go_wp2_with fail
                go_ret
                exact ⟨ret_int HT.out.symm, HD.out.2⟩

end Go.Proofs.Ytlcdefpdahjjeaf
