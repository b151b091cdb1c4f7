/- Contracts of run.outside, of the closure that it makes, and of what is no word. -/
import Derived.Test.YtbjlfhpiebokkaaDoorOpenIPart
import Derived.Deep.RegionHeld3
import Derived.Deep.RegionLaw
import Derived.Deep.RegionWith
import Derived.Deep.DeepCutAuto
import Derived.Test.YtbjlfhpiebokkaaDoorByEncPart
namespace Go.Proofs.YtbjlfhpiebokkaaDoor
open Go.RowKit

abbrev cloR (p q : Nat) : Value := .func (.func 71) #[] #[.pointer (some ⟨p, 0, none⟩), .pointer (some ⟨q, 0, none⟩)]
structure CloAtR (w : World) (p q : Nat) (lo hi : Int) : Prop where
  c1 : w.cell? ⟨p, 0, none⟩ = some (.int .i64 lo)
  c2 : w.cell? ⟨q, 0, none⟩ = some (.int .i64 hi)
  l1 : p < w.heap.size
  l2 : q < w.heap.size
theorem CloAtR.below {w w' : World} {p q : Nat} {lo hi : Int} (h : CloAtR w p q lo hi) (hb : Below w.heap.size w w') : CloAtR w' p q lo hi :=
  ⟨(hb.cell (p := ⟨p, 0, none⟩) h.l1).trans h.c1, (hb.cell (p := ⟨q, 0, none⟩) h.l2).trans h.c2, Nat.lt_of_lt_of_le h.l1 hb.size, Nat.lt_of_lt_of_le h.l2 hb.size⟩
theorem CloAtR.drew {w : World} {p q : Nat} {lo hi : Int} (h : CloAtR w p q lo hi) : CloAtR w.drew p q lo hi := h.below ((Below.refl _ w).drew)

theorem one_cellR {w : World} {b : Nat} {x : Value} {t : TypeId} (h : w.heap[b]? = some (.cells #[x] t (0, 0))) : w.cell? ⟨b, 0, none⟩ = some x := by simp [World.cell?, h]

theorem outsideR_any (lo hi : Int) (w : World) : Calls Tryd.prog 38 #[.int .i64 lo, .int .i64 hi] w fun e w' => ∃ p q, e = .returned (cloR p q) ∧ CloAtR w' p q lo hi ∧ Below w.heap.size w w' := by
  go_enter Tryd.func38, Tryd.ntmps38
  go_wp2
  go_ret
  obtain ⟨b0, b1, b2⟩ := two_boxes (Below.refl ((w.alloc (.cells #[.int .i64 lo] 3)).alloc (.cells #[.int .i64 hi] 3)).heap.size ((w.alloc (.cells #[.int .i64 lo] 3)).alloc (.cells #[.int .i64 hi] 3)))
  exact ⟨_, _, rfl, ⟨one_cellR b0, one_cellR b1, by simp; omega, by simp⟩, b2⟩

theorem cloR_any (x lo hi : Int) (p q : Nat) (w : World) (h : CloAtR w p q lo hi) :
    Calls Tryd.prog 71 #[.int .i64 x, .pointer (some ⟨p, 0, none⟩), .pointer (some ⟨q, 0, none⟩)] w fun e w' => e = .returned (.bool (!inB x lo hi)) ∧ w' = w := by
  obtain ⟨c1, c2, -, -⟩ := h
  by_cases h1 : x < lo
  · have hI : (!inB x lo hi) = true := by simp [inB]; omega
    rw [hI]
    go_enter Tryd.func71, Tryd.ntmps71
    go_wp2
    go_ret
    exact ⟨rfl, rfl⟩
  · by_cases h2 : hi < x
    · have hI : (!inB x lo hi) = true := by simp [inB]; omega
      rw [hI]
      go_enter Tryd.func71, Tryd.ntmps71
      go_wp2
      go_ret
      exact ⟨rfl, rfl⟩
    · have hI : (!inB x lo hi) = false := by simp [inB]; omega
      rw [hI]
      go_enter Tryd.func71, Tryd.ntmps71
      go_wp2
      go_ret
      exact ⟨rfl, rfl⟩

set_option maxHeartbeats 400000 in
theorem IndexFuncR (v : Value) (l : List Int) (p q : Nat) (lo hi : Int) (w : World) (h : IntsAt w v l) (hq : CloAtR w p q lo hi) :
    Calls Tryd.prog 92 #[v, cloR p q] w fun e w' => ∃ r : Int, e = .returned (.int .i64 r) ∧ decide (0 ≤ r) = !allIn lo hi l ∧ w' = w := by
  obtain ⟨A, c, rfl, hl, hc⟩ := h
  have HQ : Hid (CloAtR w p q lo hi) := hq
  clear hq
  go_enter Tryd.func92, Tryd.ntmps92
  go_wp2
  go_loopw [8] (fun i wr => ∃ k : Nat, k ≤ l.length ∧ i = .int .i64 k ∧ Hid (∀ i, i < k → inB (l.getD i 0) lo hi = true) ∧ wr = w) (fun i _ => l.length - (intOf i).toNat)
  case atStart => exact ⟨0, Nat.zero_le _, rfl, fun i hi => absurd hi (Nat.not_lt_zero _), rfl⟩
  case round =>
    obtain ⟨k, hk, rfl, ht, hw⟩ := hrel
    subst wr
    by_cases hlt : k < l.length
    · obtain ⟨b, off, rfl, hbs, hcell⟩ := hc (by omega)
      have h1 := hcell k hlt
      cases hw : inB (l.getD k 0) lo hi with
      | false =>
        have HN : Hid (true = !allIn lo hi l) := by show _ = _; rw [allIn_no hlt hw]; rfl
        clear hcell hc
        revert h1 hw
        generalize l.getD k 0 = x
        intro h1 hw
        go_wp2_with (go_at_call 71; refine (cloR_any _ lo hi p q _ HQ.out).mono ?_; rintro e w' ⟨rfl, rfl⟩)
        go_ret
        exact ⟨k, rfl, by rw [← HN.out]; simp, rfl⟩
      | true =>
        have HN : Hid (∀ i, i < k + 1 → inB (l.getD i 0) lo hi = true) := allIn_step ht.out hw
        clear hcell hc
        revert h1 hw
        generalize l.getD k 0 = x
        intro h1 hw
        go_wp2_with (go_at_call 71; refine (cloR_any _ lo hi p q _ HQ.out).mono ?_; rintro e w' ⟨rfl, rfl⟩)
        refine ⟨⟨k + 1, by omega, by go_num, HN, trivial⟩, ?_⟩
        simp [intOf]; omega
    · have HN : Hid (false = !allIn lo hi l) := by show _ = _; rw [allIn_iff.2 fun i hi => ht.out i (by omega)]; rfl
      clear hc
      go_wp2
      go_ret
      exact ⟨-1, rfl, by rw [← HN.out]; rfl, rfl⟩

theorem ContainsFuncR (v : Value) (l : List Int) (p q : Nat) (lo hi : Int) (w : World) (h : IntsAt w v l) (hq : CloAtR w p q lo hi) :
    Calls Tryd.prog 53 #[v, cloR p q] w fun e w' => e = .returned (.bool (!allIn lo hi l)) ∧ w' = w := by
  go_enter Tryd.func53, Tryd.ntmps53
  go_wp2_with (go_at_call 92; refine (IndexFuncR v l p q lo hi _ h hq).mono ?_; rintro e w' ⟨r, rfl, hr, rfl⟩)
  go_ret
  exact ⟨rfl, rfl⟩

theorem isNoWordR_any (w : World) : Calls Tryd.prog 52 #[] w fun e w' => ∃ p q, e = .returned (cloR p q) ∧ CloAtR w' p q (-1099511627776) 1099511627776 ∧ Below w.heap.size w w' := by
  go_enter Tryd.func52, Tryd.ntmps52
  go_wp2_with (go_at_call 38; refine (outsideR_any _ _ _).mono ?_; rintro e w' ⟨p, q, rfl, hc, hb⟩)
  go_ret
  exact ⟨p, q, rfl, hc, hb⟩

theorem isNoCount_any (w : World) : Calls Tryd.prog 25 #[] w fun e w' => ∃ p q, e = .returned (cloR p q) ∧ CloAtR w' p q 0 3000 ∧ Below w.heap.size w w' := by
  go_enter Tryd.func25, Tryd.ntmps25
  go_wp2_with (go_at_call 38; refine (outsideR_any _ _ _).mono ?_; rintro e w' ⟨p, q, rfl, hc, hb⟩)
  go_ret
  exact ⟨p, q, rfl, hc, hb⟩

end Go.Proofs.YtbjlfhpiebokkaaDoor

/- Contract of run.CheckWorld. -/

namespace Go.Proofs.YtbjlfhpiebokkaaDoor
open Go.RowKit

theorem wd_cells {w : World} {b : Nat} {x0 x1 x2 x3 : Value} {t : TypeId} (h : w.heap[b]? = some (.cells #[x0, x1, x2, x3] t (0, 0))) :
    w.cell? ⟨b, 0, none⟩ = some x0 ∧ w.cell? ⟨b, 1, none⟩ = some x1 ∧ w.cell? ⟨b, 2, none⟩ = some x2 ∧ w.cell? ⟨b, 3, none⟩ = some x3 := by
  refine ⟨?_, ?_, ?_, ?_⟩ <;> simp [World.cell?, h]

theorem max4_run {P : Program} (ts : Array TypeId) (t : TypeId) (x y z u : Int) : ∃ M, (∀ w, (Builtin.max_ ts t #[.int .i64 x, .int .i64 y, .int .i64 z, .int .i64 u]).run P w = .ok (.int .i64 M) w) ∧ (1000 < M ↔ ¬ (x ≤ 1000 ∧ y ≤ 1000 ∧ z ≤ 1000 ∧ u ≤ 1000)) := by
  refine ⟨_, fun w => by simp only [Builtin.max_, Builtin.max2, List.foldlM, Sem.run_bind, Sem.run_pure, Result.andThen_ok]; rfl, ?_⟩
  split <;> split <;> split <;> omega

theorem RowsAt.look {w : World} {A : Option Addr} {c : Nat} {D : List (List Int)} (h : RowsAt w (.slice A D.length c) D) :
    D.length * 24 ≤ 140737488351232 ∧ (0 < D.length → ∃ b off, A = some ⟨b, off, none⟩ ∧ b < w.heap.size ∧ ∀ j, j < D.length → ∃ rv, w.cell? ⟨b, off + j, none⟩ = some rv ∧ IntsAt w rv (D.getD j [])) := by
  obtain ⟨A', c', e, hl, hc⟩ := h
  simp only [Value.slice.injEq, true_and] at e
  obtain ⟨rfl, rfl⟩ := e
  exact ⟨hl, hc⟩

set_option maxHeartbeats 2000000 in
theorem CheckWorld_any (a b c d : Value) (x : Wd) (w : World) (h : WdAt w a b c d x) :
    Calls Tryd.prog 24 #[.agg #[a, b, c, d]] w fun e w' => e = .returned (.int .i64 (worldNo x)) ∧ Below w.heap.size w w' := by
  have H : Hid (WdAt w a b c d x) := h
  obtain ⟨A0, k0, rfl, -, -⟩ := h.irqs
  obtain ⟨A1, k1, rfl, -, -⟩ := h.values
  obtain ⟨A2, k2, rfl, -, -⟩ := h.blocks
  obtain ⟨A3, k3, rfl, -, -⟩ := h.delays
  obtain ⟨N, eN⟩ : ∃ N, N = worldNo x := ⟨_, rfl⟩
  rw [← eN]
  obtain ⟨M, hM, hm⟩ := max4_run (P := Tryd.prog) #[3, 3, 3, 3] 3 x.irqs.length x.values.length x.blocks.length x.delays.length
  clear h
  by_cases hf : x.fits = true
  case neg =>
    have hq : 1000 < M := hm.2 (by simp only [Wd.fits, decide_eq_true_eq] at hf; omega)
    have HE : Hid (N = 1) := by show _ = _; rw [eN, worldNo, if_neg hf]
    clear hf eN hm
    go_enter Tryd.func24, Tryd.ntmps24
    go_wp2_with fail
    go_ret
    exact ⟨ret_int HE.out.symm, below_alloc _ _⟩
  case pos =>
    have hq : ¬ 1000 < M := fun hh => (hm.1 hh) (by simp only [Wd.fits, decide_eq_true_eq] at hf; omega)
    have hx : (w.alloc (.cells #[.slice A0 x.irqs.length k0, .slice A1 x.values.length k1, .slice A2 x.blocks.length k2, .slice A3 x.delays.length k3] 25)).heap[w.heap.size]? = some (.cells #[.slice A0 x.irqs.length k0, .slice A1 x.values.length k1, .slice A2 x.blocks.length k2, .slice A3 x.delays.length k3] 25 (0, 0)) := Go.Deep.blk_alloc_new _ _
    have hb0 := below_alloc w (.cells #[.slice A0 x.irqs.length k0, .slice A1 x.values.length k1, .slice A2 x.blocks.length k2, .slice A3 x.delays.length k3] 25)
    obtain ⟨W, hW⟩ : ∃ W, W = w.alloc (.cells #[.slice A0 x.irqs.length k0, .slice A1 x.values.length k1, .slice A2 x.blocks.length k2, .slice A3 x.delays.length k3] 25) := ⟨_, rfl⟩
    rw [← hW] at hx hb0
    have HW : Hid (W = w.alloc (.cells #[.slice A0 x.irqs.length k0, .slice A1 x.values.length k1, .slice A2 x.blocks.length k2, .slice A3 x.delays.length k3] 25)) := hW
    have HX : Hid (W.heap[w.heap.size]? = some (.cells #[.slice A0 x.irqs.length k0, .slice A1 x.values.length k1, .slice A2 x.blocks.length k2, .slice A3 x.delays.length k3] 25 (0, 0)) ∧ Below w.heap.size w W) := ⟨hx, hb0⟩
    have EN : Hid (N = if allIn 0 3000 x.irqs = true ∧ allIn 0 3000 x.delays = true ∧ allB x.values = true then blocksNo x.blocks else 2) := by show _ = _; rw [eN, worldNo, if_pos hf]
    clear hm hf hx hb0 hW eN
    go_enter Tryd.func24, Tryd.ntmps24
    go_wp2_with fail
    rw [← HW.out]
    refine (isNoCount_any _).mono ?_
    rintro e w1 ⟨p, q, rfl, hc1, hb1⟩
    have HC1 : Hid (CloAtR w1 p q 0 3000 ∧ Below w.heap.size w w1 ∧ Below W.heap.size W w1) := ⟨hc1, HX.out.2.trans (hb1.mono HX.out.2.size), hb1⟩
    clear hc1 hb1
    go_wp2_with fail
    refine (isNoWordR_any _).mono ?_
    rintro e w2 ⟨p2, q2, rfl, hc3, hb2⟩
    have hb12 : Below W.heap.size W w2 := HC1.out.2.2.trans (hb2.mono HC1.out.2.2.size)
    have hbw : Below w.heap.size w w2 := HX.out.2.trans (hb12.mono HX.out.2.size)
    obtain ⟨z0, z1, z2, z3⟩ := wd_cells (show w2.heap[w.heap.size]? = _ from (hb12.block _ (lt_of_block HX.out.1)).trans HX.out.1)
    have HD : Hid (CloAtR w2 p q 0 3000 ∧ CloAtR w2 p2 q2 (-1099511627776) 1099511627776 ∧ WdAt w2 (.slice A0 x.irqs.length k0) (.slice A1 x.values.length k1) (.slice A2 x.blocks.length k2) (.slice A3 x.delays.length k3) x ∧ Below w.heap.size w w2) := ⟨HC1.out.1.below hb2, hc3, H.out.below hbw, hbw⟩
    clear hc3 hb2 hb12 hbw HC1 HX HW H hM
    obtain ⟨hl2, hc2⟩ := HD.out.2.2.1.blocks.look
    have HC : Hid (0 < x.blocks.length → ∃ b off, A2 = some ⟨b, off, none⟩ ∧ b < w2.heap.size ∧ ∀ j, j < x.blocks.length → ∃ rv, w2.cell? ⟨b, off + j, none⟩ = some rv ∧ IntsAt w2 rv (x.blocks.getD j [])) := hc2
    clear hc2
    cases g0 : allIn 0 3000 x.irqs with
    | false =>
      have HE : Hid (N = 2) := by show _ = _; rw [EN.out, if_neg (by rw [g0]; simp)]
      go_wp2_with fail
      refine (ContainsFuncR _ x.irqs p q 0 3000 _ HD.out.2.2.1.irqs HD.out.1).mono ?_
      rw [g0]
      rintro e w' ⟨rfl, hw'⟩
      rw [hw']
      clear hw' w'
      go_wp2_with fail
      go_ret
      exact ⟨ret_int HE.out.symm, HD.out.2.2.2⟩
    | true =>
    cases g1 : allIn 0 3000 x.delays with
    | false =>
      have HE : Hid (N = 2) := by show _ = _; rw [EN.out, if_neg (by rw [g1]; simp)]
      go_wp2_with fail
      refine (ContainsFuncR _ x.irqs p q 0 3000 _ HD.out.2.2.1.irqs HD.out.1).mono ?_
      rw [g0]
      rintro e w' ⟨rfl, hw'⟩
      rw [hw']
      clear hw' w'
      go_wp2_with fail
      refine (ContainsFuncR _ x.delays p q 0 3000 _ HD.out.2.2.1.delays HD.out.1).mono ?_
      rw [g1]
      rintro e w' ⟨rfl, hw'⟩
      rw [hw']
      clear hw' w'
      go_wp2_with fail
      go_ret
      exact ⟨ret_int HE.out.symm, HD.out.2.2.2⟩
    | true =>
    cases g2 : allB x.values with
    | false =>
      have HE : Hid (N = 2) := by show _ = _; rw [EN.out, if_neg (by rw [g2]; simp)]
      go_wp2_with fail
      refine (ContainsFuncR _ x.irqs p q 0 3000 _ HD.out.2.2.1.irqs HD.out.1).mono ?_
      rw [g0]
      rintro e w' ⟨rfl, hw'⟩
      rw [hw']
      clear hw' w'
      go_wp2_with fail
      refine (ContainsFuncR _ x.delays p q 0 3000 _ HD.out.2.2.1.delays HD.out.1).mono ?_
      rw [g1]
      rintro e w' ⟨rfl, hw'⟩
      rw [hw']
      clear hw' w'
      go_wp2_with fail
      refine (ContainsFuncR _ x.values p2 q2 _ _ _ HD.out.2.2.1.values HD.out.2.1).mono ?_
      rw [allIn_word, g2]
      rintro e w' ⟨rfl, hw'⟩
      rw [hw']
      clear hw' w'
      go_wp2_with fail
      go_ret
      exact ⟨ret_int HE.out.symm, HD.out.2.2.2⟩
    | true =>
      have HE : Hid (N = blocksNo x.blocks) := by show _ = _; rw [EN.out, if_pos ⟨g0, g1, g2⟩]
      go_wp2_with fail
      refine (ContainsFuncR _ x.irqs p q 0 3000 _ HD.out.2.2.1.irqs HD.out.1).mono ?_
      rw [g0]
      rintro e w' ⟨rfl, hw'⟩
      rw [hw']
      clear hw' w'
      go_wp2_with fail
      refine (ContainsFuncR _ x.delays p q 0 3000 _ HD.out.2.2.1.delays HD.out.1).mono ?_
      rw [g1]
      rintro e w' ⟨rfl, hw'⟩
      rw [hw']
      clear hw' w'
      go_wp2_with fail
      refine (ContainsFuncR _ x.values p2 q2 _ _ _ HD.out.2.2.1.values HD.out.2.1).mono ?_
      rw [allIn_word, g2]
      rintro e w' ⟨rfl, hw'⟩
      rw [hw']
      clear hw' w' EN g0 g1 g2 hq
      go_wp2_with fail
      go_loopw [42] (fun i wr => ∃ k : Nat, k ≤ x.blocks.length ∧ i = .int .i64 k ∧ Hid (N = blocksNo (x.blocks.drop k)) ∧ wr = w2) (fun i _ => x.blocks.length - (intOf i).toNat)
      case atStart => exact ⟨0, Nat.zero_le _, rfl, HE, rfl⟩
      case round =>
        obtain ⟨k, hk, rfl, ht, hw⟩ := hrel
        subst wr
        by_cases hlt : k < x.blocks.length
        · obtain ⟨b, off, rfl, hbs, hcell⟩ := HC.out (by omega)
          obtain ⟨rv, h1, h2⟩ := hcell k hlt
          have HT : Hid (N = if (x.blocks.getD k []).length = 16 then (if allB (x.blocks.getD k []) = true then blocksNo (x.blocks.drop (k + 1)) else 2) else 1) := by show _ = _; rw [← blocksNo_drop x.blocks k hlt]; exact ht.out
          obtain ⟨row, hrow⟩ : ∃ row, row = x.blocks.getD k [] := ⟨_, rfl⟩
          rw [← hrow] at h2 HT
          have HI : Hid (IntsAt w2 rv row) := h2
          obtain ⟨A, c, rfl, -, -⟩ := h2
          clear hcell hrow HC ht HE
          by_cases hr : row.length = 16
          · have d0 : ((row.length : Int) != 16) = false := by simp [hr]
            have HT2 : Hid (N = if allB row = true then blocksNo (x.blocks.drop (k + 1)) else 2) := by show _ = _; rw [HT.out, if_pos hr]
            clear hr HT
            cases g : allB row with
            | false =>
              have HE : Hid (N = 2) := by show _ = _; rw [HT2.out, g]; rfl
              go_wp2_with fail
              refine (ContainsFuncR _ row p2 q2 _ _ _ HI.out HD.out.2.1).mono ?_
              rw [allIn_word, g]
              rintro e w' ⟨rfl, hw'⟩
              rw [hw']
              clear hw' w'
              go_wp2_with fail
              go_ret
              exact ⟨ret_int HE.out.symm, HD.out.2.2.2⟩
            | true =>
              have HE : Hid (N = blocksNo (x.blocks.drop (k + 1))) := by show _ = _; rw [HT2.out, if_pos g]
              have hw2 : IntKind.i64.wrap ((k : Int) + 1) = (k : Int) + 1 := IntWalk.i64_in _ (by omega)
              go_wp2_with fail
              refine (ContainsFuncR _ row p2 q2 _ _ _ HI.out HD.out.2.1).mono ?_
              rw [allIn_word, g]
              rintro e w' ⟨rfl, hw'⟩
              rw [hw']
              clear hw' w'
              go_wp2_with fail
              refine ⟨⟨k + 1, by omega, by go_num, HE, trivial⟩, ?_⟩
              simp [intOf]; omega
          · have d0 : ((row.length : Int) != 16) = true := by simp; omega
            have HE : Hid (N = 1) := by show _ = _; rw [HT.out, if_neg hr]
            go_wp2_with fail
            go_ret
            exact ⟨ret_int HE.out.symm, HD.out.2.2.2⟩
        · have HT : Hid (N = 0) := by show _ = _; rw [ht.out, List.drop_of_length_le (by omega)]; rfl
          clear HC ht HE
          go_wp2_with fail
          go_ret
          exact ⟨ret_int HT.out.symm, HD.out.2.2.2⟩

end Go.Proofs.YtbjlfhpiebokkaaDoor

/- Contract of evlog.Encode. -/

namespace Go.Proofs.YtbjlfhpiebokkaaDoor
open Go.RowKit
set_option maxRecDepth 100000

theorem Encode_no (v : Value) (L : List Ev) (w : World) (h : EvsAt w v L) (hL : Laid w) (hn : chkNo L ≠ 0) :
    Calls Tryd.prog 28 #[v] w fun e w' => e = .returned (.tuple #[.slice none 0 0, .int .i64 (chkNo L)]) ∧ Below w.heap.size w w' := by
  have HF : Hid (Calls Tryd.prog 59 #[v] w fun e w' => e = .returned (.int .i64 (chkNo L)) ∧ Below w.heap.size w w') := Check_any v L w h hL
  clear h hL
  revert HF hn
  generalize chkNo L = en
  intro hn HF
  go_enter Tryd.func28, Tryd.ntmps28
  go_wp2_with fail
  refine HF.out.mono ?_
  rintro e w1 ⟨rfl, hb⟩
  have HB : Hid (Below w.heap.size w w1) := hb
  clear hb HF
  go_wp2_with fail
  go_ret2
  exact ⟨rfl, HB.out⟩

set_option maxRecDepth 20000 in
set_option maxHeartbeats 4000000 in
theorem Encode_ok (v : Value) (L : List Ev) (w : World) (h : EvsF w v L) (hL : Laid w) (hn : chkNo L = 0) :
    Calls Tryd.prog 28 #[v] w fun e w' => ∃ v', e = .returned (.tuple #[v', .int .i64 0]) ∧ OwnB w' w.heap.size v' (fullB L) ∧ Below w.heap.size w w' := by
  have HF : Hid (Calls Tryd.prog 59 #[v] w fun e w' => e = .returned (.int .i64 (chkNo L)) ∧ Below w.heap.size w w') := Check_any v L w h.at_ hL
  rw [hn] at HF
  have HL : Hid ((encB L).length ≤ 231007 ∧ L.length ≤ 1000) := ⟨encB_len hn, (chk_zero hn).1⟩
  have HK : Hid (∀ k, k < L.length → evNo (L.getD k noEv) = 0 ∧ 0 ≤ prevAt L k ∧ prevAt L k ≤ (L.getD k noEv).at_) := ok_at hn
  have HV : Hid (EvsF w v L) := h
  obtain ⟨A, c, rfl, hl, hc⟩ := h.at_
  have hln := HL.out.2
  have HN : Hid (∀ W v1 (l1 : List Int) (n lo : Nat), OwnB W lo v1 l1 → lo ≤ W.heap.size → n < 100000 → l1.length ≤ 1000000 → Calls Tryd.prog 60 #[v1, .int .i64 n] W fun e w' => ∃ v', e = .returned v' ∧ Appd lo W w' v1 v' (l1 ++ sevens n)) := fun W v1 l1 n lo ho hlo hn hl => appendNumber_any v1 l1 n lo W ho hlo (by omega) (by have := sevens_len7 (n := n) (by omega); omega)
  clear h hL hn
  obtain ⟨i0, hi, hz0, hz1, hz2⟩ := info_parts infoByte
  go_enter Tryd.func28, Tryd.ntmps28
  go_wp2_with fail
  refine HF.out.mono ?_
  rintro e w1 ⟨rfl, hb⟩
  have HB1 : Hid (Below w.heap.size w w1) := hb
  have hs1 := hb.size
  clear hb HF
  go_wp2_with fail
  refine (HN.out _ _ [] L.length w1.heap.size (OwnB.nil _ _) (Nat.le_refl _) (by omega) (by simp)).mono ?_
  rintro e w2 ⟨v1, rfl, ha⟩
  have HA0 : Hid (Appd w1.heap.size w1 w2 (.slice none 0 0) v1 (sevens L.length)) := ha
  clear ha
  go_wp2_with fail
  go_loopw [5, 6, 19] (fun o t i wr => ∃ (k : Nat) (bs' : List Int), k ≤ L.length ∧ i = .int .i64 k ∧ t = .int .i64 (prevAt L k) ∧ Hid (encB L = bs' ++ encFrom (prevAt L k) (L.drop k)) ∧ Hid (Appd w1.heap.size w1 wr (.slice none 0 0) o bs')) (fun _ _ i _ => L.length - (intOf i).toNat)
  case atStart => exact ⟨0, sevens L.length, Nat.zero_le _, rfl, rfl, rfl, HA0⟩
  case round =>
    obtain ⟨k, bs', hk, rfl, rfl, hE, hA⟩ := hrel
    have hsz := hA.out.old.size
    have hbl : bs'.length ≤ 231007 := by
      have h1 := congrArg List.length hE.out
      have h2 := HL.out.1
      simp at h1
      omega
    by_cases hlt : k < L.length
    · obtain ⟨b, off, rfl, hbs, hcell⟩ := hc (by omega)
      obtain ⟨x0, x1, vx, x2, xi⟩ := hcell k hlt
      obtain ⟨he, hp0, hp1⟩ := HK.out k hlt
      have hfit := HV.out.fit b off c rfl k hlt vx x2
      have HE : Hid (encB L = (bs' ++ sevens (4 * ((L.getD k noEv).at_ - prevAt L k) + (L.getD k noEv).kind).toNat ++ dataB (L.getD k noEv)) ++ encFrom (prevAt L (k + 1)) (L.drop (k + 1))) := by
        show _ = _
        rw [hE.out, enc_step hlt, prevAt_succ]
        simp [List.append_assoc]
      have HP : Hid (prevAt L (k + 1) = (L.getD k noEv).at_) := prevAt_succ L k
      clear hE hc hcell HK HV
      revert x0 x1 xi he hp0 hp1 HE HP
      generalize L.getD k noEv = x
      generalize prevAt L k = last
      intro x0 x1 xi he hp0 hp1 HE HP
      obtain ⟨xa, xk, xd⟩ := x
      simp only at x0 x1 xi hp1 HE HP
      obtain ⟨hkk, haa, -, -⟩ := evNo_bd he
      simp only at hkk haa
      have HXI : Hid (IntsAt w vx xd) := xi
      have HHB : Hid (∀ b off n c, 0 < xd.length → vx = .slice (some ⟨b, off, none⟩) n c → b < w1.heap.size) := fun b' off' n' c' h0 e => by
        obtain ⟨A2, c2, e2, _, hcc⟩ := xi
        obtain ⟨b3, off3, e3, hlt3, _⟩ := hcc h0
        rw [e] at e2
        simp only [Value.slice.injEq] at e2
        have e4 := e2.1.trans e3
        simp only [Option.some.injEq, Addr.mk.injEq] at e4
        omega
      have HFT : Hid (Fits vx) := hfit
      obtain ⟨A1, c1, rfl, hl1, -⟩ := xi
      have hB : Below w.heap.size w wr := HB1.out.trans (hA.out.old.mono hs1)
      have y0 := (hB.cell (p := ⟨b, off + k * 3, none⟩) hbs).trans x0
      have y1 := (hB.cell (p := ⟨b, off + k * 3 + 1, none⟩) hbs).trans x1
      have y2 := (hB.cell (p := ⟨b, off + k * 3 + 2, none⟩) hbs).trans x2
      have HB : Hid (Below w.heap.size w wr) := hB
      have hw1 : IntKind.i64.wrap (xa - last) = xa - last := IntWalk.i64_in _ (by omega)
      have hw2 : IntKind.i64.wrap (4 * (xa - last)) = 4 * (xa - last) := IntWalk.i64_in _ (by omega)
      have hw3 : IntKind.i64.wrap (4 * (xa - last) + xk) = 4 * (xa - last) + xk := IntWalk.i64_in _ (by omega)
      obtain ⟨n, hnn⟩ : ∃ n : Nat, (n : Int) = 4 * (xa - last) + xk := ⟨(4 * (xa - last) + xk).toNat, by omega⟩
      have hn100 : n < 100000 := by omega
      have HNN : Hid ((n : Int) = 4 * (xa - last) + xk) := hnn
      rw [show (4 * (xa - last) + xk).toNat = n by omega] at HE
      have HD : Hid (∀ W v1 (l1 : List Int), Below w.heap.size w W → OwnB W w1.heap.size v1 l1 → w1.heap.size ≤ W.heap.size → l1.length ≤ 1000000 → Calls Tryd.prog 61 #[v1, .agg #[.int .i64 xa, .int .i64 xk, .slice A1 xd.length c1]] W fun e w' => ∃ v', e = .returned v' ∧ Appd w1.heap.size W w' v1 v' (l1 ++ dataB ⟨xa, xk, xd⟩)) := fun W v1 l1 hB ho hlo hl => appendData_any v1 _ l1 xa xk xd w1.heap.size W ho hlo he (HXI.out.below hB) HFT.out HHB.out hl
      clear x0 x1 x2 hfit hB he HXI HHB HFT hnn hp0 hp1 hkk haa
      go_wp2_with fail
      rw [← HNN.out]
      refine (HN.out _ _ bs' n w1.heap.size (OwnB.below hA.out.own (below_alloc _ _)) (by simp; omega) hn100 (by omega)).mono ?_
      rintro e w3 ⟨v3, rfl, ha3⟩
      have hne : u5.ownBlock ≠ some wr.heap.size := own_ne (e' := 54) (OwnB.below hA.out.own (below_alloc _ (.cells #[.int .i64 xa, .int .i64 xk, .slice A1 xd.length c1] 54))) (Go.Deep.blk_alloc_new _ _) (by decide)
      have hbox : w3.heap[wr.heap.size]? = some (.cells #[.int .i64 xa, .int .i64 xk, .slice A1 xd.length c1] 54 (0, 0)) := by rw [ha3.grown.block _ (by simp) hne]; exact Go.Deep.blk_alloc_new _ _
      obtain ⟨z0, z1, z2, zf, zl⟩ := three_cells hbox
      have HBX : Hid (w3.heap[wr.heap.size]? = some (.cells #[.int .i64 xa, .int .i64 xk, .slice A1 xd.length c1] 54 (0, 0))) := hbox
      have HA3 : Hid (Appd w1.heap.size w1 w3 (.slice none 0 0) v3 (bs' ++ sevens n)) := hA.out.trans (ha3.pre (below_alloc _ _) (by omega))
      have hl3 : (bs' ++ sevens n).length ≤ 1000000 := by
        have := sevens_len7 (n := n) (by omega)
        simp
        omega
      have hs3 := HA3.out.old.size
      clear ha3 hne hbox y0 y1 y2 hA
      go_wp2_with fail
      refine (HD.out _ _ _ (HB1.out.trans (HA3.out.old.mono hs1)) HA3.out.own hs3 hl3).mono ?_
      rintro e w4 ⟨v4, rfl, ha4⟩
      have hne : v3.ownBlock ≠ some wr.heap.size := own_ne HA3.out.own HBX.out (by decide)
      have hbox : w4.heap[wr.heap.size]? = some (.cells #[.int .i64 xa, .int .i64 xk, .slice A1 xd.length c1] 54 (0, 0)) := by rw [ha4.grown.block _ zl hne]; exact HBX.out
      have HA4 : Hid (Appd w1.heap.size w1 w4 (.slice none 0 0) v4 (bs' ++ sevens n ++ dataB ⟨xa, xk, xd⟩)) := HA3.out.trans ha4
      clear ha4 hne HA3 HD HBX z0 z1 z2 zf zl
      obtain ⟨z0, z1, z2, zf, zl⟩ := three_cells hbox
      clear hbox
      go_wp2_with fail
      refine ⟨⟨k + 1, _, by omega, by go_num, by rw [HP.out], HE, HA4⟩, ?_⟩
      simp [intOf]; omega
    · have HS : Hid (bs' = encB L) := by
        show _ = _
        rw [hE.out, List.drop_eq_nil_of_le (by omega)]
        simp [encFrom]
      have HA : Hid (Appd w1.heap.size w1 wr (.slice none 0 0) u5 (encB L)) := HS.out ▸ hA.out
      have HFB : Hid (fullB L = encB L ++ sumB (encB L)) := rfl
      have HLL : Hid ((encB L).length ≤ 231007) := HL.out.1
      have HBY : Hid (∀ x ∈ encB L, 0 ≤ x ∧ x ≤ 255) := encB_byte L
      clear hE hA HS hc HK HV HN HL
      revert HA HFB HLL HBY
      generalize hfl : fullB L = fl
      generalize encB L = el
      intro HA HFB HLL HBY
      have HQ : Hid (fullB L = fl) := hfl
      clear hfl
      have hsz' := HA.out.old.size
      go_wp2_with fail
      refine (sum_any _ el _ (HA.out.own.read (by have := HLL.out; omega) HBY.out)).mono ?_
      rintro e w3 ⟨g, rfl, ho3, hb3⟩
      obtain ⟨g', cap', hv', hlo', hlt', hcc⟩ := ho3.at (by simp [sumB])
      simp only [Value.slice.injEq, Option.some.injEq, Addr.mk.injEq] at hv'
      obtain ⟨⟨rfl, -, -⟩, -, rfl⟩ := hv'
      have HC : Hid (∀ j u, ((sumB el).map (Value.int .u8))[j]? = some u → w3.cell? ((⟨g, 0, none⟩ : Addr).add j) = some u) := hcc
      have HO : Hid (OwnB w3 w1.heap.size u5 el) := HA.out.own.below hb3
      have HB3 : Hid (Below w1.heap.size w1 w3) := HA.out.old.trans (hb3.mono hsz')
      have HS4 : Hid ((sumB el).length = 4) := rfl
      clear ho3 hb3 hcc
      revert HC HS4 HFB
      generalize sumB el = sl
      intro HFB HC HS4
      go_wp2_with (first
        | (at_builtin; refine wpList_append_own_at _ rfl _ _ 26 rfl w1.heap.size 5 i0 (.int .u8 0) 1 1 Tryd.underlying26 hi hz0 hz1 hz2 rfl (by decide) u5 el.length (el.map (Value.int .u8)) rfl HO.out ⟨g, 0, none⟩ 4 4 (sl.map (Value.int .u8)) rfl (by simp [HS4.out]) HC.out (bytes_oneCell _) ?c3 ?c4 ?c5 ?_))
      case c3 => have := HLL.out; unfold maxLen; omega
      case c4 => have := HLL.out; omega
      case c5 => exact HB3.out.size
      intro v' w4 hown' hgrow _ _
      have HR : Hid (OwnB w4 w.heap.size v' fl ∧ Below w.heap.size w w4) := ⟨OwnB.mono (OwnB.of (l := el) (m := sl) hown' rfl HS4.out.symm HFB.out) hs1, HB1.out.trans ((HB3.out.grown hgrow HB3.out.size (fun k hk => (World.ownsRow.lt HO.out k hk).1)).mono hs1)⟩
      clear hown' hgrow
      go_wp2_with fail
      go_ret2
      exact ⟨v', rfl, by rw [HQ.out]; exact HR.out.1, HR.out.2⟩

end Go.Proofs.YtbjlfhpiebokkaaDoor
