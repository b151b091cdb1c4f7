/- Contract of run.CheckWorld. -/
import Derived.Test.YtlcdefpdahjjeafRClo
namespace Go.Proofs.Ytlcdefpdahjjeaf
open Go.RowKit

theorem wd_cells {w : World} {b : Nat} {x0 x1 x2 x3 : Value} {t : TypeId} (h : w.heap[b]? = some (.cells #[x0, x1, x2, x3] t (0, 0))) :
    w.cell? ⟨b, 0, none⟩ = some x0 ∧ w.cell? ⟨b, 1, none⟩ = some x1 ∧ w.cell? ⟨b, 2, none⟩ = some x2 ∧ w.cell? ⟨b, 3, none⟩ = some x3 := by
  refine ⟨?_, ?_, ?_, ?_⟩ <;> simp [World.cell?, h]

theorem max4_run {P : Program} (ts : Array TypeId) (t : TypeId) (x y z u : Int) : ∃ M, (∀ w, (Builtin.max_ ts t #[.int .i64 x, .int .i64 y, .int .i64 z, .int .i64 u]).run P w = .ok (.int .i64 M) w) ∧ (1000 < M ↔ ¬ (x ≤ 1000 ∧ y ≤ 1000 ∧ z ≤ 1000 ∧ u ≤ 1000)) := by
  refine ⟨_, fun w => by simp only [Builtin.max_, Builtin.max2, List.foldlM, Sem.run_bind, Sem.run_pure, Result.andThen_ok]; rfl, ?_⟩
  split <;> split <;> split <;> omega

theorem RowsAt.look {w : World} {A : Option Addr} {c : Nat} {D : List (List Int)} (h : RowsAt w (.slice A D.length c) D) :
    D.length * 24 ≤ 140737488351232 ∧ (0 < D.length → ∃ b off, A = some ⟨b, off, none⟩ ∧ b < w.heap.size ∧ ∀ j, j < D.length → ∃ rv, w.cell? ⟨b, off + j, none⟩ = some rv ∧ IntsAt w rv (D.getD j [])) := by
  obtain ⟨A', c', e, hl, hc⟩ := h
  simp only [Value.slice.injEq, true_and] at e
  obtain ⟨rfl, rfl⟩ := e
  exact ⟨hl, hc⟩

set_option maxHeartbeats 2000000 in
theorem CheckWorld_any (a b c d : Value) (x : Wd) (w : World) (h : WdAt w a b c d x) :
    Calls Try.prog 12 #[.agg #[a, b, c, d]] w fun e w' => e = .returned (.int .i64 (worldNo x)) ∧ Below w.heap.size w w' := by
  have H : Hid (WdAt w a b c d x) := h
  obtain ⟨A0, k0, rfl, -, -⟩ := h.irqs
  obtain ⟨A1, k1, rfl, -, -⟩ := h.values
  obtain ⟨A2, k2, rfl, -, -⟩ := h.blocks
  obtain ⟨A3, k3, rfl, -, -⟩ := h.delays
  obtain ⟨N, eN⟩ : ∃ N, N = worldNo x := ⟨_, rfl⟩
  rw [← eN]
  obtain ⟨M, hM, hm⟩ := max4_run (P := Try.prog) #[3, 3, 3, 3] 3 x.irqs.length x.values.length x.blocks.length x.delays.length
  clear h
  by_cases hf : x.fits = true
  case neg =>
    have hq : 1000 < M := hm.2 (by simp only [Wd.fits, decide_eq_true_eq] at hf; omega)
    have HE : Hid (N = 1) := by show _ = _; rw [eN, worldNo, if_neg hf]
    clear hf eN hm
    go_enter Try.func12, Try.ntmps12
    go_wp2_with fail
    go_ret
    exact ⟨ret_int HE.out.symm, below_alloc _ _⟩
  case pos =>
    have hq : ¬ 1000 < M := fun hh => (hm.1 hh) (by simp only [Wd.fits, decide_eq_true_eq] at hf; omega)
    have hx : (w.alloc (.cells #[.slice A0 x.irqs.length k0, .slice A1 x.values.length k1, .slice A2 x.blocks.length k2, .slice A3 x.delays.length k3] 40)).heap[w.heap.size]? = some (.cells #[.slice A0 x.irqs.length k0, .slice A1 x.values.length k1, .slice A2 x.blocks.length k2, .slice A3 x.delays.length k3] 40 (0, 0)) := Go.Deep.blk_alloc_new _ _
    have hb0 := below_alloc w (.cells #[.slice A0 x.irqs.length k0, .slice A1 x.values.length k1, .slice A2 x.blocks.length k2, .slice A3 x.delays.length k3] 40)
    obtain ⟨W, hW⟩ : ∃ W, W = w.alloc (.cells #[.slice A0 x.irqs.length k0, .slice A1 x.values.length k1, .slice A2 x.blocks.length k2, .slice A3 x.delays.length k3] 40) := ⟨_, rfl⟩
    rw [← hW] at hx hb0
    have HW : Hid (W = w.alloc (.cells #[.slice A0 x.irqs.length k0, .slice A1 x.values.length k1, .slice A2 x.blocks.length k2, .slice A3 x.delays.length k3] 40)) := hW
    have HX : Hid (W.heap[w.heap.size]? = some (.cells #[.slice A0 x.irqs.length k0, .slice A1 x.values.length k1, .slice A2 x.blocks.length k2, .slice A3 x.delays.length k3] 40 (0, 0)) ∧ Below w.heap.size w W) := ⟨hx, hb0⟩
    have EN : Hid (N = if allIn 0 3000 x.irqs = true ∧ allIn 0 3000 x.delays = true ∧ allB x.values = true then blocksNo x.blocks else 2) := by show _ = _; rw [eN, worldNo, if_pos hf]
    clear hm hf hx hb0 hW eN
    go_enter Try.func12, Try.ntmps12
    go_wp2_with fail
    rw [← HW.out]
    refine (isNoCount_any _).mono ?_
    rintro e w1 ⟨p, q, rfl, hc1, hb1⟩
    have HC1 : Hid (CloAtR w1 p q 0 3000 ∧ Below w.heap.size w w1 ∧ Below W.heap.size W w1) := ⟨hc1, HX.out.2.trans (hb1.mono HX.out.2.size), hb1⟩
    clear hc1 hb1
    go_wp2_with fail
    refine (isNoWordR_any _).mono ?_
    rintro e w2 ⟨p2, q2, rfl, hc3, hb2⟩
    have hb12 : Below W.heap.size W w2 := HC1.out.2.2.trans (hb2.mono HC1.out.2.2.size)
    have hbw : Below w.heap.size w w2 := HX.out.2.trans (hb12.mono HX.out.2.size)
    obtain ⟨z0, z1, z2, z3⟩ := wd_cells (show w2.heap[w.heap.size]? = _ from (hb12.block _ (lt_of_block HX.out.1)).trans HX.out.1)
    have HD : Hid (CloAtR w2 p q 0 3000 ∧ CloAtR w2 p2 q2 (-1099511627776) 1099511627776 ∧ WdAt w2 (.slice A0 x.irqs.length k0) (.slice A1 x.values.length k1) (.slice A2 x.blocks.length k2) (.slice A3 x.delays.length k3) x ∧ Below w.heap.size w w2) := ⟨HC1.out.1.below hb2, hc3, H.out.below hbw, hbw⟩
    clear hc3 hb2 hb12 hbw HC1 HX HW H hM
    obtain ⟨hl2, hc2⟩ := HD.out.2.2.1.blocks.look
    have HC : Hid (0 < x.blocks.length → ∃ b off, A2 = some ⟨b, off, none⟩ ∧ b < w2.heap.size ∧ ∀ j, j < x.blocks.length → ∃ rv, w2.cell? ⟨b, off + j, none⟩ = some rv ∧ IntsAt w2 rv (x.blocks.getD j [])) := hc2
    clear hc2
    cases g0 : allIn 0 3000 x.irqs with
    | false =>
      have HE : Hid (N = 2) := by show _ = _; rw [EN.out, if_neg (by rw [g0]; simp)]
      go_wp2_with fail
      refine (ContainsFuncR _ x.irqs p q 0 3000 _ HD.out.2.2.1.irqs HD.out.1).mono ?_
      rw [g0]
      rintro e w' ⟨rfl, hw'⟩
      rw [hw']
      clear hw' w'
      go_wp2_with fail
      go_ret
      exact ⟨ret_int HE.out.symm, HD.out.2.2.2⟩
    | true =>
    cases g1 : allIn 0 3000 x.delays with
    | false =>
      have HE : Hid (N = 2) := by show _ = _; rw [EN.out, if_neg (by rw [g1]; simp)]
      go_wp2_with fail
      refine (ContainsFuncR _ x.irqs p q 0 3000 _ HD.out.2.2.1.irqs HD.out.1).mono ?_
      rw [g0]
      rintro e w' ⟨rfl, hw'⟩
      rw [hw']
      clear hw' w'
      go_wp2_with fail
      refine (ContainsFuncR _ x.delays p q 0 3000 _ HD.out.2.2.1.delays HD.out.1).mono ?_
      rw [g1]
      rintro e w' ⟨rfl, hw'⟩
      rw [hw']
      clear hw' w'
      go_wp2_with fail
      go_ret
      exact ⟨ret_int HE.out.symm, HD.out.2.2.2⟩
    | true =>
    cases g2 : allB x.values with
    | false =>
      have HE : Hid (N = 2) := by show _ = _; rw [EN.out, if_neg (by rw [g2]; simp)]
      go_wp2_with fail
      refine (ContainsFuncR _ x.irqs p q 0 3000 _ HD.out.2.2.1.irqs HD.out.1).mono ?_
      rw [g0]
      rintro e w' ⟨rfl, hw'⟩
      rw [hw']
      clear hw' w'
      go_wp2_with fail
      refine (ContainsFuncR _ x.delays p q 0 3000 _ HD.out.2.2.1.delays HD.out.1).mono ?_
      rw [g1]
      rintro e w' ⟨rfl, hw'⟩
      rw [hw']
      clear hw' w'
      go_wp2_with fail
      refine (ContainsFuncR _ x.values p2 q2 _ _ _ HD.out.2.2.1.values HD.out.2.1).mono ?_
      rw [allIn_word, g2]
      rintro e w' ⟨rfl, hw'⟩
      rw [hw']
      clear hw' w'
      go_wp2_with fail
      go_ret
      exact ⟨ret_int HE.out.symm, HD.out.2.2.2⟩
    | true =>
      have HE : Hid (N = blocksNo x.blocks) := by show _ = _; rw [EN.out, if_pos ⟨g0, g1, g2⟩]
      go_wp2_with fail
      refine (ContainsFuncR _ x.irqs p q 0 3000 _ HD.out.2.2.1.irqs HD.out.1).mono ?_
      rw [g0]
      rintro e w' ⟨rfl, hw'⟩
      rw [hw']
      clear hw' w'
      go_wp2_with fail
      refine (ContainsFuncR _ x.delays p q 0 3000 _ HD.out.2.2.1.delays HD.out.1).mono ?_
      rw [g1]
      rintro e w' ⟨rfl, hw'⟩
      rw [hw']
      clear hw' w'
      go_wp2_with fail
      refine (ContainsFuncR _ x.values p2 q2 _ _ _ HD.out.2.2.1.values HD.out.2.1).mono ?_
      rw [allIn_word, g2]
      rintro e w' ⟨rfl, hw'⟩
      rw [hw']
      clear hw' w' EN g0 g1 g2 hq
      go_wp2_with fail
      go_loopw [42] (fun i wr => ∃ k : Nat, k ≤ x.blocks.length ∧ i = .int .i64 k ∧ Hid (N = blocksNo (x.blocks.drop k)) ∧ wr = w2) (fun i _ => x.blocks.length - (intOf i).toNat)
      case atStart => exact ⟨0, Nat.zero_le _, rfl, HE, rfl⟩
      case round =>
        obtain ⟨k, hk, rfl, ht, hw⟩ := hrel
        subst wr
        by_cases hlt : k < x.blocks.length
        · obtain ⟨b, off, rfl, hbs, hcell⟩ := HC.out (by omega)
          obtain ⟨rv, h1, h2⟩ := hcell k hlt
          have HT : Hid (N = if (x.blocks.getD k []).length = 16 then (if allB (x.blocks.getD k []) = true then blocksNo (x.blocks.drop (k + 1)) else 2) else 1) := by show _ = _; rw [← blocksNo_drop x.blocks k hlt]; exact ht.out
          obtain ⟨row, hrow⟩ : ∃ row, row = x.blocks.getD k [] := ⟨_, rfl⟩
          rw [← hrow] at h2 HT
          have HI : Hid (IntsAt w2 rv row) := h2
          obtain ⟨A, c, rfl, -, -⟩ := h2
          clear hcell hrow HC ht HE
          by_cases hr : row.length = 16
          · have d0 : ((row.length : Int) != 16) = false := by simp [hr]
            have HT2 : Hid (N = if allB row = true then blocksNo (x.blocks.drop (k + 1)) else 2) := by show _ = _; rw [HT.out, if_pos hr]
            clear hr HT
            cases g : allB row with
            | false =>
              have HE : Hid (N = 2) := by show _ = _; rw [HT2.out, g]; rfl
              go_wp2_with fail
              refine (ContainsFuncR _ row p2 q2 _ _ _ HI.out HD.out.2.1).mono ?_
              rw [allIn_word, g]
              rintro e w' ⟨rfl, hw'⟩
              rw [hw']
              clear hw' w'
              go_wp2_with fail
              go_ret
              exact ⟨ret_int HE.out.symm, HD.out.2.2.2⟩
            | true =>
              have HE : Hid (N = blocksNo (x.blocks.drop (k + 1))) := by show _ = _; rw [HT2.out, if_pos g]
              have hw2 : IntKind.i64.wrap ((k : Int) + 1) = (k : Int) + 1 := IntWalk.i64_in _ (by omega)
              go_wp2_with fail
              refine (ContainsFuncR _ row p2 q2 _ _ _ HI.out HD.out.2.1).mono ?_
              rw [allIn_word, g]
              rintro e w' ⟨rfl, hw'⟩
              rw [hw']
              clear hw' w'
              go_wp2_with fail
              refine ⟨⟨k + 1, by omega, by go_num, HE, trivial⟩, ?_⟩
              simp [intOf]; omega
          · have d0 : ((row.length : Int) != 16) = true := by simp; omega
            have HE : Hid (N = 1) := by show _ = _; rw [HT.out, if_neg hr]
            go_wp2_with fail
            go_ret
            exact ⟨ret_int HE.out.symm, HD.out.2.2.2⟩
        · have HT : Hid (N = 0) := by show _ = _; rw [ht.out, List.drop_of_length_le (by omega)]; rfl
          clear HC ht HE
          go_wp2_with fail
          go_ret
          exact ⟨ret_int HT.out.symm, HD.out.2.2.2⟩

end Go.Proofs.Ytlcdefpdahjjeaf
