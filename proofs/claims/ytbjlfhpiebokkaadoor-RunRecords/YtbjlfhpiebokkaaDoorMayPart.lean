/- Contracts of hourglassref's wordMay, wordsMay: numbers that are words. -/
import Derived.Test.YtbjlfhpiebokkaaDoorRecBPart
import Derived.Test.YtbjlfhpiebokkaaDoorRCloPart
import Derived.Test.YtbjlfhpiebokkaaDoorMadeZPart
import Derived.Test.YtbjlfhpiebokkaaDoorWordsPart
import Derived.Maps.AppendAt
namespace Go.Proofs.YtbjlfhpiebokkaaDoor
open Go.RowKit
set_option maxRecDepth 100000

theorem wordMay_any (n : Int) (w : World) : Calls Tryd.prog 101 #[.int .i64 n] w fun e w' => e = .returned (.bool (wordB n)) ∧ w' = w := by
  go_enter Tryd.func101, Tryd.ntmps101
  go_wp2_with (go_at_call 32; refine (In_B _ _ _ _).mono ?_; rintro e w' ⟨rfl, rfl⟩)
  go_ret
  exact ⟨rfl, rfl⟩

set_option maxHeartbeats 400000 in
theorem wordsMay_any (v : Value) (l : List Int) (w : World) (h : IntsAt w v l) :
    Calls Tryd.prog 63 #[v] w fun e w' => e = .returned (.bool (allB l)) ∧ w' = w := by
  obtain ⟨A, c, rfl, hl, hc⟩ := h
  go_enter Tryd.func63, Tryd.ntmps63
  go_wp2
  go_loopw [3] (fun i wr => ∃ k : Nat, k ≤ l.length ∧ i = .int .i64 k ∧ Hid (∀ i, i < k → wordB (l.getD i 0) = true) ∧ wr = w) (fun i _ => l.length - (intOf i).toNat)
  case atStart => exact ⟨0, Nat.zero_le _, rfl, fun i hi => absurd hi (Nat.not_lt_zero _), rfl⟩
  case round =>
    obtain ⟨k, hk, rfl, ht, hw⟩ := hrel
    subst wr
    by_cases hlt : k < l.length
    · obtain ⟨b, off, rfl, hbs, hcell⟩ := hc (by omega)
      have h1 := hcell k hlt
      cases hw : wordB (l.getD k 0) with
      | false =>
        have HN : Hid (false = allB l) := (allB_no hlt hw).symm
        clear hcell hc
        revert h1 hw
        generalize l.getD k 0 = x
        intro h1 hw
        go_wp2_with (go_at_call 101; refine (wordMay_any _ _).mono ?_; rintro e w' ⟨rfl, rfl⟩)
        go_ret
        exact ⟨ret_bool HN.out, rfl⟩
      | true =>
        have HN : Hid (∀ i, i < k + 1 → wordB (l.getD i 0) = true) := allB_step ht.out hw
        clear hcell hc
        revert h1 hw
        generalize l.getD k 0 = x
        intro h1 hw
        go_wp2_with (go_at_call 101; refine (wordMay_any _ _).mono ?_; rintro e w' ⟨rfl, rfl⟩)
        refine ⟨⟨k + 1, by omega, by go_num, HN, trivial⟩, ?_⟩
        simp [intOf]; omega
    · have HN : Hid (true = allB l) := (allB_iff.2 fun i hi => ht.out i (by omega)).symm
      clear hc
      go_wp2
      go_ret
      exact ⟨ret_bool HN.out, rfl⟩

end Go.Proofs.YtbjlfhpiebokkaaDoor

/- Contract of the document's WorldFault. -/

namespace Go.Proofs.YtbjlfhpiebokkaaDoor
open Go.RowKit

theorem IntsAt.look {w : World} {A : Option Addr} {c : Nat} {l : List Int} (h : IntsAt w (.slice A l.length c) l) :
    l.length * 8 ≤ 140737488351232 ∧ (0 < l.length → ∃ b off, A = some ⟨b, off, none⟩ ∧ b < w.heap.size ∧ ∀ j, j < l.length → w.cell? ⟨b, off + j, none⟩ = some (.int .i64 (l.getD j 0))) := by
  obtain ⟨A', c', e, hl, hc⟩ := h
  simp only [Value.slice.injEq, true_and] at e
  obtain ⟨rfl, rfl⟩ := e
  exact ⟨hl, hc⟩

set_option maxRecDepth 20000 in
set_option maxHeartbeats 4000000 in
theorem WorldFault_any (a b c d : Value) (x : Wd) (w : World) (h : WdAt w a b c d x) :
    Calls Tryd.prog 31 #[.agg #[a, b, c, d]] w fun e w' => e = .returned (.int .i64 (worldNo x)) ∧ Below w.heap.size w w' := by
  obtain ⟨A0, k0, rfl, -, -⟩ := h.irqs
  obtain ⟨A1, k1, rfl, -, -⟩ := h.values
  obtain ⟨A2, k2, rfl, -, -⟩ := h.blocks
  obtain ⟨A3, k3, rfl, -, -⟩ := h.delays
  obtain ⟨N, eN⟩ : ∃ N, N = worldNo x := ⟨_, rfl⟩
  rw [← eN]
  have hx : (w.alloc (.cells #[.slice A0 x.irqs.length k0, .slice A1 x.values.length k1, .slice A2 x.blocks.length k2, .slice A3 x.delays.length k3] 25)).heap[w.heap.size]? = some (.cells #[.slice A0 x.irqs.length k0, .slice A1 x.values.length k1, .slice A2 x.blocks.length k2, .slice A3 x.delays.length k3] 25 (0, 0)) := Go.Deep.blk_alloc_new _ _
  have hb0 := below_alloc w (.cells #[.slice A0 x.irqs.length k0, .slice A1 x.values.length k1, .slice A2 x.blocks.length k2, .slice A3 x.delays.length k3] 25)
  obtain ⟨W, hW⟩ : ∃ W, W = w.alloc (.cells #[.slice A0 x.irqs.length k0, .slice A1 x.values.length k1, .slice A2 x.blocks.length k2, .slice A3 x.delays.length k3] 25) := ⟨_, rfl⟩
  rw [← hW] at hx hb0
  have HW : Hid (W = w.alloc (.cells #[.slice A0 x.irqs.length k0, .slice A1 x.values.length k1, .slice A2 x.blocks.length k2, .slice A3 x.delays.length k3] 25)) := hW
  have HD : Hid (WdAt W (.slice A0 x.irqs.length k0) (.slice A1 x.values.length k1) (.slice A2 x.blocks.length k2) (.slice A3 x.delays.length k3) x ∧ Below w.heap.size w W) := ⟨h.below hb0, hb0⟩
  have EN : Hid (N = worldNo x) := eN
  clear h hb0 hW eN
  by_cases l0 : 1000 < (x.irqs.length : Int)
  · have HE : Hid (N = 1) := by show _ = _; rw [EN.out, worldNo, if_neg (by simp only [Wd.fits, decide_eq_true_eq]; omega)]
    clear hx EN
    go_enter Tryd.func31, Tryd.ntmps31
    go_wp2_with fail
    go_ret
    exact ⟨ret_int HE.out.symm, below_alloc _ _⟩
  by_cases l1 : 1000 < (x.values.length : Int)
  · have HE : Hid (N = 1) := by show _ = _; rw [EN.out, worldNo, if_neg (by simp only [Wd.fits, decide_eq_true_eq]; omega)]
    clear hx EN
    go_enter Tryd.func31, Tryd.ntmps31
    go_wp2_with fail
    go_ret
    exact ⟨ret_int HE.out.symm, below_alloc _ _⟩
  by_cases l2 : 1000 < (x.blocks.length : Int)
  · have HE : Hid (N = 1) := by show _ = _; rw [EN.out, worldNo, if_neg (by simp only [Wd.fits, decide_eq_true_eq]; omega)]
    clear hx EN
    go_enter Tryd.func31, Tryd.ntmps31
    go_wp2_with fail
    go_ret
    exact ⟨ret_int HE.out.symm, below_alloc _ _⟩
  by_cases l3 : 1000 < (x.delays.length : Int)
  · have HE : Hid (N = 1) := by show _ = _; rw [EN.out, worldNo, if_neg (by simp only [Wd.fits, decide_eq_true_eq]; omega)]
    clear hx EN
    go_enter Tryd.func31, Tryd.ntmps31
    go_wp2_with fail
    go_ret
    exact ⟨ret_int HE.out.symm, below_alloc _ _⟩
  have EN2 : Hid (N = if allIn 0 3000 x.irqs = true ∧ allIn 0 3000 x.delays = true ∧ allB x.values = true then blocksNo x.blocks else 2) := by show _ = _; rw [EN.out, worldNo, if_pos (by simp only [Wd.fits, decide_eq_true_eq]; omega)]
  clear EN
  go_enter Tryd.func31, Tryd.ntmps31
  go_wp2_with fail
  rw [← HW.out]
  obtain ⟨z0, z1, z2, z3⟩ := wd_cells hx
  clear hx HW l1 l2
  go_loopw [3] (fun i wr => ∃ k : Nat, k ≤ x.irqs.length ∧ i = .int .i64 k ∧ Hid (∀ i, i < k → inB (x.irqs.getD i 0) 0 3000 = true) ∧ wr = W) (fun i _ => x.irqs.length - (intOf i).toNat)
  case atStart => exact ⟨0, Nat.zero_le _, rfl, fun i hi => absurd hi (Nat.not_lt_zero _), rfl⟩
  case round =>
    obtain ⟨k, hk, rfl, ht, hw⟩ := hrel
    subst wr
    by_cases hlt : k < x.irqs.length
    · obtain ⟨b, off, rfl, hbs, hcell⟩ := HD.out.1.irqs.look.2 (by omega)
      have h1 := hcell k hlt
      have hw2 : IntKind.i64.wrap ((k : Int) + 1) = (k : Int) + 1 := IntWalk.i64_in _ (by omega)
      cases g : inB (x.irqs.getD k 0) 0 3000 with
      | false =>
        have HE : Hid (N = 2) := by show _ = _; rw [EN2.out, if_neg (by rw [allIn_no hlt g]; simp)]
        clear hcell
        revert h1 g
        generalize x.irqs.getD k 0 = y
        intro h1 g
        go_wp2_with (go_at_call 32; refine (In_B _ _ _ _).mono ?_; rw [g]; rintro e w' ⟨rfl, hw'⟩; rw [hw']; clear hw' w')
        go_ret
        exact ⟨ret_int HE.out.symm, HD.out.2⟩
      | true =>
        have HN : Hid (∀ i, i < k + 1 → inB (x.irqs.getD i 0) 0 3000 = true) := allIn_step ht.out g
        clear hcell
        revert h1 g
        generalize x.irqs.getD k 0 = y
        intro h1 g
        go_wp2_with (go_at_call 32; refine (In_B _ _ _ _).mono ?_; rw [g]; rintro e w' ⟨rfl, hw'⟩; rw [hw']; clear hw' w')
        refine ⟨⟨k + 1, by omega, by go_num, HN, trivial⟩, ?_⟩
        simp [intOf]; omega
    · have HAI : Hid (allIn 0 3000 x.irqs = true) := allIn_iff.2 fun i hi => ht.out i (by omega)
      clear ht
      go_wp2_with fail
      go_loopw [4] (fun i wr => ∃ k : Nat, k ≤ x.delays.length ∧ i = .int .i64 k ∧ Hid (∀ i, i < k → inB (x.delays.getD i 0) 0 3000 = true) ∧ wr = W) (fun i _ => x.delays.length - (intOf i).toNat)
      case atStart => exact ⟨0, Nat.zero_le _, rfl, fun i hi => absurd hi (Nat.not_lt_zero _), rfl⟩
      case round =>
        obtain ⟨k, hk, rfl, ht, hw⟩ := hrel
        subst wr
        by_cases hlt : k < x.delays.length
        · obtain ⟨b, off, rfl, hbs, hcell⟩ := HD.out.1.delays.look.2 (by omega)
          have h1 := hcell k hlt
          have hw2 : IntKind.i64.wrap ((k : Int) + 1) = (k : Int) + 1 := IntWalk.i64_in _ (by omega)
          cases g : inB (x.delays.getD k 0) 0 3000 with
          | false =>
            have HE : Hid (N = 2) := by show _ = _; rw [EN2.out, if_neg (by rw [allIn_no hlt g]; simp)]
            clear hcell
            revert h1 g
            generalize x.delays.getD k 0 = y
            intro h1 g
            go_wp2_with (go_at_call 32; refine (In_B _ _ _ _).mono ?_; rw [g]; rintro e w' ⟨rfl, hw'⟩; rw [hw']; clear hw' w')
            go_ret
            exact ⟨ret_int HE.out.symm, HD.out.2⟩
          | true =>
            have HN : Hid (∀ i, i < k + 1 → inB (x.delays.getD i 0) 0 3000 = true) := allIn_step ht.out g
            clear hcell
            revert h1 g
            generalize x.delays.getD k 0 = y
            intro h1 g
            go_wp2_with (go_at_call 32; refine (In_B _ _ _ _).mono ?_; rw [g]; rintro e w' ⟨rfl, hw'⟩; rw [hw']; clear hw' w')
            refine ⟨⟨k + 1, by omega, by go_num, HN, trivial⟩, ?_⟩
            simp [intOf]; omega
        · have HAL : Hid (allIn 0 3000 x.delays = true) := allIn_iff.2 fun i hi => ht.out i (by omega)
          clear ht
          go_wp2_with fail
          clear hk hlt
          cases g2 : allB x.values with
          | false =>
            have HE : Hid (N = 2) := by show _ = _; rw [EN2.out, if_neg (by rw [g2]; simp)]
            refine (wordsMay_any _ _ _ HD.out.1.values).mono ?_
            rw [g2]
            rintro e w' ⟨rfl, hw'⟩
            rw [hw']
            clear hw' w'
            go_wp2_with fail
            go_ret
            exact ⟨ret_int HE.out.symm, HD.out.2⟩
          | true =>
            have HE : Hid (N = blocksNo x.blocks) := by show _ = _; rw [EN2.out, if_pos ⟨HAI.out, HAL.out, g2⟩]
            refine (wordsMay_any _ _ _ HD.out.1.values).mono ?_
            rw [g2]
            rintro e w' ⟨rfl, hw'⟩
            rw [hw']
            clear hw' w' HAI HAL EN2 g2
            go_wp2_with fail
            go_loopw [5] (fun i wr => ∃ k : Nat, k ≤ x.blocks.length ∧ i = .int .i64 k ∧ Hid (N = blocksNo (x.blocks.drop k)) ∧ wr = W) (fun i _ => x.blocks.length - (intOf i).toNat)
            case atStart => exact ⟨0, Nat.zero_le _, rfl, HE, rfl⟩
            case round =>
              obtain ⟨k, hk, rfl, ht, hw⟩ := hrel
              subst wr
              by_cases hlt : k < x.blocks.length
              · have hbd := HD.out.1.blocks.look.1
                obtain ⟨b, off, rfl, hbs, hcell⟩ := HD.out.1.blocks.look.2 (by omega)
                obtain ⟨rv, h1, h2⟩ := hcell k hlt
                have HT : Hid (N = if (x.blocks.getD k []).length = 16 then (if allB (x.blocks.getD k []) = true then blocksNo (x.blocks.drop (k + 1)) else 2) else 1) := by show _ = _; rw [← blocksNo_drop x.blocks k hlt]; exact ht.out
                obtain ⟨row, hrow⟩ : ∃ row, row = x.blocks.getD k [] := ⟨_, rfl⟩
                rw [← hrow] at h2 HT
                have HI : Hid (IntsAt W rv row) := h2
                obtain ⟨A, c, rfl, -, -⟩ := h2
                have hw2 : IntKind.i64.wrap ((k : Int) + 1) = (k : Int) + 1 := IntWalk.i64_in _ (by omega)
                clear hcell hrow ht HE hbd
                by_cases hr : row.length = 16
                · have d0 : ((row.length : Int) != 16) = false := by simp [hr]
                  have HT2 : Hid (N = if allB row = true then blocksNo (x.blocks.drop (k + 1)) else 2) := by show _ = _; rw [HT.out, if_pos hr]
                  clear hr HT
                  cases g : allB row with
                  | false =>
                    have HE : Hid (N = 2) := by show _ = _; rw [HT2.out, g]; rfl
                    go_wp2_with fail
                    refine (wordsMay_any _ _ _ HI.out).mono ?_
                    rw [g]
                    rintro e w' ⟨rfl, hw'⟩
                    rw [hw']
                    clear hw' w'
                    go_wp2_with fail
                    go_ret
                    exact ⟨ret_int HE.out.symm, HD.out.2⟩
                  | true =>
                    have HE : Hid (N = blocksNo (x.blocks.drop (k + 1))) := by show _ = _; rw [HT2.out, if_pos g]
                    go_wp2_with fail
                    refine (wordsMay_any _ _ _ HI.out).mono ?_
                    rw [g]
                    rintro e w' ⟨rfl, hw'⟩
                    rw [hw']
                    clear hw' w'
                    go_wp2_with fail
                    refine ⟨⟨k + 1, by omega, by go_num, HE, trivial⟩, ?_⟩
                    simp [intOf]; omega
                · have d0 : ((row.length : Int) != 16) = true := by simp; omega
                  have HE : Hid (N = 1) := by show _ = _; rw [HT.out, if_neg hr]
                  go_wp2_with fail
                  go_ret
                  exact ⟨ret_int HE.out.symm, HD.out.2⟩
              · have HT : Hid (N = 0) := by show _ = _; rw [ht.out, List.drop_of_length_le (by omega)]; rfl
                clear ht HE
                go_wp2_with fail
                go_ret
                exact ⟨ret_int HT.out.symm, HD.out.2⟩

end Go.Proofs.YtbjlfhpiebokkaaDoor

/- Contract of hourglassref.GuestNew, where it refuses. -/

namespace Go.Proofs.YtbjlfhpiebokkaaDoor
open Go.RowKit

set_option maxHeartbeats 2000000 in
theorem GuestNew_no (v : Value) (l : List Int) (w : World) (h : IntsAt w v l) (hn : newNo l ≠ 0) :
    Calls Tryd.prog 30 #[v] w fun e w' => e = .returned (.tuple #[.agg zeroM, .int .i64 (newNo l)]) ∧ Below w.heap.size w w' := by
  have H : Hid (IntsAt w v l) := h
  obtain ⟨A, c, rfl, hl, hc⟩ := h
  clear hc
  obtain ⟨⟨y0, y1, y2, y3, y4, y5, y6, y7, y8, y9, y10, y11⟩, yf, yl⟩ := twelve_cells (Go.Deep.blk_alloc_new w (.cells zeroM 30))
  by_cases h1 : 256 < l.length
  · rw [show newNo l = 1 by simp [newNo, h1]]
    have d0 : decide (256 < (l.length : Int)) = true := by simp; omega
    clear hn h1
    go_enter Tryd.func30, Tryd.ntmps30
    go_wp2_with fail
    refine bodyPost_ret (v := .tuple #[.agg zeroM, .int .i64 1]) (by simp [results, Tryd.results30, go_sem, y0, y1, y2, y3, y4, y5, y6, y7, y8, y9, y10, y11]) rfl ?_
    exact ⟨rfl, below_alloc _ _⟩
  · have h2 : allB l = false := by
      cases e : allB l with
      | false => rfl
      | true => exact absurd (by simp [newNo, h1, e]) hn
    rw [show newNo l = 2 by simp [newNo, h1, h2]]
    have d0 : decide (256 < (l.length : Int)) = false := by simp; omega
    clear hn h1
    go_enter Tryd.func30, Tryd.ntmps30
    go_wp2_with fail
    refine (wordsMay_any _ l _ (H.out.below (below_alloc _ _))).mono ?_
    rw [h2]
    rintro e w1 ⟨rfl, rfl⟩
    go_wp2_with fail
    refine bodyPost_ret (v := .tuple #[.agg zeroM, .int .i64 2]) (by simp [results, Tryd.results30, go_sem, y0, y1, y2, y3, y4, y5, y6, y7, y8, y9, y10, y11]) rfl ?_
    exact ⟨rfl, below_alloc _ _⟩

end Go.Proofs.YtbjlfhpiebokkaaDoor

/- Contract of hourglassref.GuestNew, where it answers. -/

namespace Go.Proofs.YtbjlfhpiebokkaaDoor
open Go.RowKit

def imgM (l : List Int) : Mach := ⟨List.replicate 8 0, 0, 0, false, false, -1, 0, 0, l, [], 0, -1⟩

theorem blk_first (w : World) (o o' : Obj) : ((w.alloc o).alloc o').heap[w.heap.size]? = some o := by
  rw [Go.Deep.blk_alloc_lt _ _ _ (by simp)]; exact Go.Deep.blk_alloc_new _ _
theorem blk_second (w : World) (o o' : Obj) : ((w.alloc o).alloc o').heap[w.heap.size + 1]? = some o' := by
  have := Go.Deep.blk_alloc_new (w.alloc o) o'
  rwa [show (w.alloc o).heap.size = w.heap.size + 1 by simp] at this
theorem other12 {w : World} {b c : Nat} {o : Obj} (h : w.heap[c]? = some o) (hne : c ≠ b) (x0 x1 x2 x3 x4 x5 x6 x7 x8 x9 x10 x11 : Value) : ((((((((((((w.setCell ⟨b, 0, none⟩ x0).setCell ⟨b, 1, none⟩ x1).setCell ⟨b, 2, none⟩ x2).setCell ⟨b, 3, none⟩ x3).setCell ⟨b, 4, none⟩ x4).setCell ⟨b, 5, none⟩ x5).setCell ⟨b, 6, none⟩ x6).setCell ⟨b, 7, none⟩ x7).setCell ⟨b, 8, none⟩ x8).setCell ⟨b, 9, none⟩ x9).setCell ⟨b, 10, none⟩ x10).setCell ⟨b, 11, none⟩ x11).heap[c]? = some o :=
  (box_other (box_other (box_other (box_other (box_other (box_other (box_other (box_other (box_other (box_other (box_other (box_other h hne x0) hne x1) hne x2) hne x3) hne x4) hne x5) hne x6) hne x7) hne x8) hne x9) hne x10) hne x11)
theorem own12 {w : World} {lo b : Nat} {v : Value} {l : List Int} (h : OwnI w lo v l) (hb : IsBox w b) (x0 x1 x2 x3 x4 x5 x6 x7 x8 x9 x10 x11 : Value) : OwnI ((((((((((((w.setCell ⟨b, 0, none⟩ x0).setCell ⟨b, 1, none⟩ x1).setCell ⟨b, 2, none⟩ x2).setCell ⟨b, 3, none⟩ x3).setCell ⟨b, 4, none⟩ x4).setCell ⟨b, 5, none⟩ x5).setCell ⟨b, 6, none⟩ x6).setCell ⟨b, 7, none⟩ x7).setCell ⟨b, 8, none⟩ x8).setCell ⟨b, 9, none⟩ x9).setCell ⟨b, 10, none⟩ x10).setCell ⟨b, 11, none⟩ x11) lo v l := by
  have hk : ∀ (W : World) (i : Nat) (x : Value), IsBox W b → OwnI W lo v l → IsBox (W.setCell ⟨b, i, none⟩ x) b ∧ OwnI (W.setCell ⟨b, i, none⟩ x) lo v l := fun W i x ⟨c, hc⟩ ho => ⟨IsBox.set ⟨c, hc⟩ i x, ho.otherType (a := ⟨b, i, none⟩) hc (by decide) x⟩
  have k0 := hk w 0 x0 hb h
  have k1 := hk _ 1 x1 k0.1 k0.2
  have k2 := hk _ 2 x2 k1.1 k1.2
  have k3 := hk _ 3 x3 k2.1 k2.2
  have k4 := hk _ 4 x4 k3.1 k3.2
  have k5 := hk _ 5 x5 k4.1 k4.2
  have k6 := hk _ 6 x6 k5.1 k5.2
  have k7 := hk _ 7 x7 k6.1 k6.2
  have k8 := hk _ 8 x8 k7.1 k7.2
  have k9 := hk _ 9 x9 k8.1 k8.2
  have k10 := hk _ 10 x10 k9.1 k9.2
  have k11 := hk _ 11 x11 k10.1 k10.2
  exact k11.2
theorem box12' {w : World} {b : Nat} {c : Array Value} (h : w.heap[b]? = some (.cells c 30 (0, 0))) (hc : c.size = 12) (x0 x1 x2 x3 x4 x5 x6 x7 x8 x9 x10 x11 : Value) : ((((((((((((w.setCell ⟨b, 0, none⟩ x0).setCell ⟨b, 1, none⟩ x1).setCell ⟨b, 2, none⟩ x2).setCell ⟨b, 3, none⟩ x3).setCell ⟨b, 4, none⟩ x4).setCell ⟨b, 5, none⟩ x5).setCell ⟨b, 6, none⟩ x6).setCell ⟨b, 7, none⟩ x7).setCell ⟨b, 8, none⟩ x8).setCell ⟨b, 9, none⟩ x9).setCell ⟨b, 10, none⟩ x10).setCell ⟨b, 11, none⟩ x11).heap[b]? = some (.cells #[x0, x1, x2, x3, x4, x5, x6, x7, x8, x9, x10, x11] 30 (0, 0)) := by
  have e := box_set (i := 11) (box_set (i := 10) (box_set (i := 9) (box_set (i := 8) (box_set (i := 7) (box_set (i := 6) (box_set (i := 5) (box_set (i := 4) (box_set (i := 3) (box_set (i := 2) (box_set (i := 1) (box_set (i := 0) (h) x0) x1) x2) x3) x4) x5) x6) x7) x8) x9) x10) x11
  rw [e]
  obtain ⟨l⟩ := c
  rcases l with _ | ⟨a0, _ | ⟨a1, _ | ⟨a2, _ | ⟨a3, _ | ⟨a4, _ | ⟨a5, _ | ⟨a6, _ | ⟨a7, _ | ⟨a8, _ | ⟨a9, _ | ⟨a10, _ | ⟨a11, _ | ⟨a12, l⟩⟩⟩⟩⟩⟩⟩⟩⟩⟩⟩⟩⟩ <;> simp at hc ⊢
theorem guest_leaf {w1 wx : World} {b g1 : Nat} {mv : Value} {l : List Int} (box : wx.heap[b]? = some (.cells #[.slice (some ⟨g1, 0, none⟩) 8 8, .int .i64 0, .int .i64 0, .bool false, .bool false, .int .i64 (-1), .int .i64 0, .int .i64 0, mv, .slice none 0 0, .int .i64 0, .int .i64 (-1)] 30 (0, 0))) (r1 : wx.heap[g1]? = some (.cells (madeCells #[.int .i64 0] 8) 3 (0, 0))) (o : OwnI wx w1.heap.size mv l) (lb : w1.heap.size ≤ b) (l1 : w1.heap.size ≤ g1) (ap : mv.ownBlock ≠ some g1) (old : Below w1.heap.size w1 wx) :
    AtP wx w1.heap.size b (.slice (some ⟨g1, 0, none⟩) 8 8) mv (.slice none 0 0) (imgM l) ∧ Below w1.heap.size w1 wx :=
  ⟨⟨box, ⟨OwnI.madeZ l1 (by unfold maxLen; omega) r1, o, World.ownsRow_nil _ _ _ _, fun g e e2 => by simp [Value.ownBlock] at e; subst e; exact ap e2, fun g e e2 => by simp [Value.ownBlock] at e2, fun g e e2 => by simp [Value.ownBlock] at e2⟩, lb⟩, old⟩
theorem leaf1 {w1 w2 : World} {mv : Value} {l : List Int} (ho : OwnI w2 (w1.alloc (.cells (madeCells #[.int .i64 0] 8) 3)).drew.heap.size mv l) (hb : Below (w1.alloc (.cells (madeCells #[.int .i64 0] 8) 3)).drew.heap.size (w1.alloc (.cells (madeCells #[.int .i64 0] 8) 3)).drew w2) :
    AtP (w2.alloc (.cells #[.slice (some ⟨w1.heap.size, 0, none⟩) 8 8, .int .i64 0, .int .i64 0, .bool false, .bool false, .int .i64 (-1), .int .i64 0, .int .i64 0, mv, .slice none 0 0, .int .i64 0, .int .i64 (-1)] 30)) w1.heap.size w2.heap.size (.slice (some ⟨w1.heap.size, 0, none⟩) 8 8) mv (.slice none 0 0) (imgM l) ∧ Below w1.heap.size w1 (w2.alloc (.cells #[.slice (some ⟨w1.heap.size, 0, none⟩) 8 8, .int .i64 0, .int .i64 0, .bool false, .bool false, .int .i64 (-1), .int .i64 0, .int .i64 0, mv, .slice none 0 0, .int .i64 0, .int .i64 (-1)] 30)) := by
  have hs := hb.size
  simp at hs
  have r : w2.heap[w1.heap.size]? = some (.cells (madeCells #[.int .i64 0] 8) 3 (0, 0)) := by rw [hb.block _ (by simp)]; exact Go.Deep.blk_alloc_new _ _
  refine guest_leaf (Go.Deep.blk_alloc_new _ _) (by rw [Go.Deep.blk_alloc_lt _ _ _ (by omega)]; exact r) (ownsRow_mono (ho.below (below_alloc _ _)) (by simp)) (by omega) (Nat.le_refl _) (fun e => ?_) ?_
  · have := (World.ownsRow.lt ho _ e).1; simp at this; omega
  · exact (((below_alloc w1 _).drew).trans (hb.mono (by simp))).alloc (by omega) _
theorem leaf2 {w1 w2 : World} {mv : Value} {l : List Int} (ho : OwnI w2 w1.drew.heap.size mv l) (hb : Below w1.drew.heap.size w1.drew w2) :
    AtP ((w2.alloc (.cells (madeCells #[.int .i64 0] 8) 3)).alloc (.cells #[.slice (some ⟨w2.heap.size, 0, none⟩) 8 8, .int .i64 0, .int .i64 0, .bool false, .bool false, .int .i64 (-1), .int .i64 0, .int .i64 0, mv, .slice none 0 0, .int .i64 0, .int .i64 (-1)] 30)) w1.heap.size (w2.heap.size + 1) (.slice (some ⟨w2.heap.size, 0, none⟩) 8 8) mv (.slice none 0 0) (imgM l) ∧ Below w1.heap.size w1 ((w2.alloc (.cells (madeCells #[.int .i64 0] 8) 3)).alloc (.cells #[.slice (some ⟨w2.heap.size, 0, none⟩) 8 8, .int .i64 0, .int .i64 0, .bool false, .bool false, .int .i64 (-1), .int .i64 0, .int .i64 0, mv, .slice none 0 0, .int .i64 0, .int .i64 (-1)] 30)) := by
  have hs := hb.size
  simp at hs
  refine guest_leaf (blk_second _ _ _) (blk_first _ _ _) ((OwnI.below ho (below_alloc _ _)).below (below_alloc _ _)) (by omega) (by omega) (fun e => ?_) ?_
  · have := (World.ownsRow.lt ho _ e).2; omega
  · exact ((((Below.refl _ w1).drew).trans (hb.mono (by simp))).alloc (by omega) _).alloc (by simp; omega) _
theorem leaf3 {w1 w2 : World} {mv : Value} {l : List Int} (ho : OwnI w2 w1.drew.heap.size mv l) (hb : Below w1.drew.heap.size w1.drew w2) :
    AtP ((w2.alloc (.cells #[.slice (some ⟨(w2.heap.size + 1), 0, none⟩) 8 8, .int .i64 0, .int .i64 0, .bool false, .bool false, .int .i64 (-1), .int .i64 0, .int .i64 0, mv, .slice none 0 0, .int .i64 0, .int .i64 (-1)] 30)).alloc (.cells (madeCells #[.int .i64 0] 8) 3)) w1.heap.size w2.heap.size (.slice (some ⟨(w2.heap.size + 1), 0, none⟩) 8 8) mv (.slice none 0 0) (imgM l) ∧ Below w1.heap.size w1 ((w2.alloc (.cells #[.slice (some ⟨(w2.heap.size + 1), 0, none⟩) 8 8, .int .i64 0, .int .i64 0, .bool false, .bool false, .int .i64 (-1), .int .i64 0, .int .i64 0, mv, .slice none 0 0, .int .i64 0, .int .i64 (-1)] 30)).alloc (.cells (madeCells #[.int .i64 0] 8) 3)) := by
  have hs := hb.size
  simp at hs
  refine guest_leaf (blk_first _ _ _) (blk_second _ _ _) ((OwnI.below ho (below_alloc _ _)).below (below_alloc _ _)) (by omega) (by omega) (fun e => ?_) ?_
  · have := (World.ownsRow.lt ho _ e).2; omega
  · exact ((((Below.refl _ w1).drew).trans (hb.mono (by simp))).alloc (by omega) _).alloc (by simp; omega) _
theorem leaf4 {w1 w2 : World} {mv : Value} {l : List Int} (ho : OwnI w2 ((w1.alloc (.cells (madeCells #[.int .i64 0] 8) 3)).alloc (.cells zeroM 30)).drew.heap.size mv l) (hb : Below ((w1.alloc (.cells (madeCells #[.int .i64 0] 8) 3)).alloc (.cells zeroM 30)).drew.heap.size ((w1.alloc (.cells (madeCells #[.int .i64 0] 8) 3)).alloc (.cells zeroM 30)).drew w2) :
    AtP ((((((((((((w2.setCell ⟨w1.heap.size + 1, 0, none⟩ (.slice (some ⟨w1.heap.size, 0, none⟩) 8 8)).setCell ⟨w1.heap.size + 1, 1, none⟩ (.int .i64 0)).setCell ⟨w1.heap.size + 1, 2, none⟩ (.int .i64 0)).setCell ⟨w1.heap.size + 1, 3, none⟩ (.bool false)).setCell ⟨w1.heap.size + 1, 4, none⟩ (.bool false)).setCell ⟨w1.heap.size + 1, 5, none⟩ (.int .i64 (-1))).setCell ⟨w1.heap.size + 1, 6, none⟩ (.int .i64 0)).setCell ⟨w1.heap.size + 1, 7, none⟩ (.int .i64 0)).setCell ⟨w1.heap.size + 1, 8, none⟩ mv).setCell ⟨w1.heap.size + 1, 9, none⟩ (.slice none 0 0)).setCell ⟨w1.heap.size + 1, 10, none⟩ (.int .i64 0)).setCell ⟨w1.heap.size + 1, 11, none⟩ (.int .i64 (-1))) w1.heap.size (w1.heap.size + 1) (.slice (some ⟨w1.heap.size, 0, none⟩) 8 8) mv (.slice none 0 0) (imgM l) ∧ Below w1.heap.size w1 ((((((((((((w2.setCell ⟨w1.heap.size + 1, 0, none⟩ (.slice (some ⟨w1.heap.size, 0, none⟩) 8 8)).setCell ⟨w1.heap.size + 1, 1, none⟩ (.int .i64 0)).setCell ⟨w1.heap.size + 1, 2, none⟩ (.int .i64 0)).setCell ⟨w1.heap.size + 1, 3, none⟩ (.bool false)).setCell ⟨w1.heap.size + 1, 4, none⟩ (.bool false)).setCell ⟨w1.heap.size + 1, 5, none⟩ (.int .i64 (-1))).setCell ⟨w1.heap.size + 1, 6, none⟩ (.int .i64 0)).setCell ⟨w1.heap.size + 1, 7, none⟩ (.int .i64 0)).setCell ⟨w1.heap.size + 1, 8, none⟩ mv).setCell ⟨w1.heap.size + 1, 9, none⟩ (.slice none 0 0)).setCell ⟨w1.heap.size + 1, 10, none⟩ (.int .i64 0)).setCell ⟨w1.heap.size + 1, 11, none⟩ (.int .i64 (-1))) := by
  have hs := hb.size
  simp at hs
  have z : w2.heap[w1.heap.size + 1]? = some (.cells zeroM 30 (0, 0)) := by rw [hb.block _ (by simp)]; exact blk_second _ _ _
  have r : w2.heap[w1.heap.size]? = some (.cells (madeCells #[.int .i64 0] 8) 3 (0, 0)) := by rw [hb.block _ (by simp; omega)]; exact blk_first _ _ _
  refine guest_leaf (box12' z rfl _ _ _ _ _ _ _ _ _ _ _ _) (other12 r (by omega) _ _ _ _ _ _ _ _ _ _ _ _) (ownsRow_mono (own12 ho ⟨_, z⟩ _ _ _ _ _ _ _ _ _ _ _ _) (by simp; omega)) (by omega) (Nat.le_refl _) (fun e => ?_) ?_
  · have := (World.ownsRow.lt ho _ e).1; simp at this; omega
  · exact below_set12 ((((below_alloc w1 _).alloc (by simp) _).drew).trans (hb.mono (by simp; omega))) (by omega) _ _ _ _ _ _ _ _ _ _ _ _
theorem leaf5 {w1 w2 : World} {mv : Value} {l : List Int} (ho : OwnI w2 ((w1.alloc (.cells zeroM 30)).alloc (.cells (madeCells #[.int .i64 0] 8) 3)).drew.heap.size mv l) (hb : Below ((w1.alloc (.cells zeroM 30)).alloc (.cells (madeCells #[.int .i64 0] 8) 3)).drew.heap.size ((w1.alloc (.cells zeroM 30)).alloc (.cells (madeCells #[.int .i64 0] 8) 3)).drew w2) :
    AtP ((((((((((((w2.setCell ⟨w1.heap.size, 0, none⟩ (.slice (some ⟨(w1.heap.size + 1), 0, none⟩) 8 8)).setCell ⟨w1.heap.size, 1, none⟩ (.int .i64 0)).setCell ⟨w1.heap.size, 2, none⟩ (.int .i64 0)).setCell ⟨w1.heap.size, 3, none⟩ (.bool false)).setCell ⟨w1.heap.size, 4, none⟩ (.bool false)).setCell ⟨w1.heap.size, 5, none⟩ (.int .i64 (-1))).setCell ⟨w1.heap.size, 6, none⟩ (.int .i64 0)).setCell ⟨w1.heap.size, 7, none⟩ (.int .i64 0)).setCell ⟨w1.heap.size, 8, none⟩ mv).setCell ⟨w1.heap.size, 9, none⟩ (.slice none 0 0)).setCell ⟨w1.heap.size, 10, none⟩ (.int .i64 0)).setCell ⟨w1.heap.size, 11, none⟩ (.int .i64 (-1))) w1.heap.size w1.heap.size (.slice (some ⟨(w1.heap.size + 1), 0, none⟩) 8 8) mv (.slice none 0 0) (imgM l) ∧ Below w1.heap.size w1 ((((((((((((w2.setCell ⟨w1.heap.size, 0, none⟩ (.slice (some ⟨(w1.heap.size + 1), 0, none⟩) 8 8)).setCell ⟨w1.heap.size, 1, none⟩ (.int .i64 0)).setCell ⟨w1.heap.size, 2, none⟩ (.int .i64 0)).setCell ⟨w1.heap.size, 3, none⟩ (.bool false)).setCell ⟨w1.heap.size, 4, none⟩ (.bool false)).setCell ⟨w1.heap.size, 5, none⟩ (.int .i64 (-1))).setCell ⟨w1.heap.size, 6, none⟩ (.int .i64 0)).setCell ⟨w1.heap.size, 7, none⟩ (.int .i64 0)).setCell ⟨w1.heap.size, 8, none⟩ mv).setCell ⟨w1.heap.size, 9, none⟩ (.slice none 0 0)).setCell ⟨w1.heap.size, 10, none⟩ (.int .i64 0)).setCell ⟨w1.heap.size, 11, none⟩ (.int .i64 (-1))) := by
  have hs := hb.size
  simp at hs
  have z : w2.heap[w1.heap.size]? = some (.cells zeroM 30 (0, 0)) := by rw [hb.block _ (by simp; omega)]; exact blk_first _ _ _
  have r : w2.heap[w1.heap.size + 1]? = some (.cells (madeCells #[.int .i64 0] 8) 3 (0, 0)) := by rw [hb.block _ (by simp)]; exact blk_second _ _ _
  refine guest_leaf (box12' z rfl _ _ _ _ _ _ _ _ _ _ _ _) (other12 r (by omega) _ _ _ _ _ _ _ _ _ _ _ _) (ownsRow_mono (own12 ho ⟨_, z⟩ _ _ _ _ _ _ _ _ _ _ _ _) (by simp; omega)) (by omega) (by omega) (fun e => ?_) ?_
  · have := (World.ownsRow.lt ho _ e).1; simp at this; omega
  · exact below_set12 ((((below_alloc w1 _).alloc (by simp) _).drew).trans (hb.mono (by simp; omega))) (by omega) _ _ _ _ _ _ _ _ _ _ _ _
theorem leaf6 {w1 w2 : World} {mv : Value} {l : List Int} (ho : OwnI w2 (w1.alloc (.cells zeroM 30)).drew.heap.size mv l) (hb : Below (w1.alloc (.cells zeroM 30)).drew.heap.size (w1.alloc (.cells zeroM 30)).drew w2) :
    AtP (((((((((((((w2.setCell ⟨w1.heap.size, 0, none⟩ (.slice (some ⟨w2.heap.size, 0, none⟩) 8 8)).setCell ⟨w1.heap.size, 1, none⟩ (.int .i64 0)).setCell ⟨w1.heap.size, 2, none⟩ (.int .i64 0)).setCell ⟨w1.heap.size, 3, none⟩ (.bool false)).setCell ⟨w1.heap.size, 4, none⟩ (.bool false)).setCell ⟨w1.heap.size, 5, none⟩ (.int .i64 (-1))).setCell ⟨w1.heap.size, 6, none⟩ (.int .i64 0)).setCell ⟨w1.heap.size, 7, none⟩ (.int .i64 0)).setCell ⟨w1.heap.size, 8, none⟩ mv).setCell ⟨w1.heap.size, 9, none⟩ (.slice none 0 0)).setCell ⟨w1.heap.size, 10, none⟩ (.int .i64 0)).setCell ⟨w1.heap.size, 11, none⟩ (.int .i64 (-1))).alloc (.cells (madeCells #[.int .i64 0] 8) 3)) w1.heap.size w1.heap.size (.slice (some ⟨w2.heap.size, 0, none⟩) 8 8) mv (.slice none 0 0) (imgM l) ∧ Below w1.heap.size w1 (((((((((((((w2.setCell ⟨w1.heap.size, 0, none⟩ (.slice (some ⟨w2.heap.size, 0, none⟩) 8 8)).setCell ⟨w1.heap.size, 1, none⟩ (.int .i64 0)).setCell ⟨w1.heap.size, 2, none⟩ (.int .i64 0)).setCell ⟨w1.heap.size, 3, none⟩ (.bool false)).setCell ⟨w1.heap.size, 4, none⟩ (.bool false)).setCell ⟨w1.heap.size, 5, none⟩ (.int .i64 (-1))).setCell ⟨w1.heap.size, 6, none⟩ (.int .i64 0)).setCell ⟨w1.heap.size, 7, none⟩ (.int .i64 0)).setCell ⟨w1.heap.size, 8, none⟩ mv).setCell ⟨w1.heap.size, 9, none⟩ (.slice none 0 0)).setCell ⟨w1.heap.size, 10, none⟩ (.int .i64 0)).setCell ⟨w1.heap.size, 11, none⟩ (.int .i64 (-1))).alloc (.cells (madeCells #[.int .i64 0] 8) 3)) := by
  have hs := hb.size
  simp at hs
  have z : w2.heap[w1.heap.size]? = some (.cells zeroM 30 (0, 0)) := by rw [hb.block _ (by simp)]; exact Go.Deep.blk_alloc_new _ _
  have hz : ((((((((((((w2.setCell ⟨w1.heap.size, 0, none⟩ (.slice (some ⟨w2.heap.size, 0, none⟩) 8 8)).setCell ⟨w1.heap.size, 1, none⟩ (.int .i64 0)).setCell ⟨w1.heap.size, 2, none⟩ (.int .i64 0)).setCell ⟨w1.heap.size, 3, none⟩ (.bool false)).setCell ⟨w1.heap.size, 4, none⟩ (.bool false)).setCell ⟨w1.heap.size, 5, none⟩ (.int .i64 (-1))).setCell ⟨w1.heap.size, 6, none⟩ (.int .i64 0)).setCell ⟨w1.heap.size, 7, none⟩ (.int .i64 0)).setCell ⟨w1.heap.size, 8, none⟩ mv).setCell ⟨w1.heap.size, 9, none⟩ (.slice none 0 0)).setCell ⟨w1.heap.size, 10, none⟩ (.int .i64 0)).setCell ⟨w1.heap.size, 11, none⟩ (.int .i64 (-1))).heap.size = w2.heap.size := by simp
  refine guest_leaf (by rw [Go.Deep.blk_alloc_lt _ _ _ (by rw [hz]; omega)]; exact box12' z rfl _ _ _ _ _ _ _ _ _ _ _ _) (by have := Go.Deep.blk_alloc_new ((((((((((((w2.setCell ⟨w1.heap.size, 0, none⟩ (.slice (some ⟨w2.heap.size, 0, none⟩) 8 8)).setCell ⟨w1.heap.size, 1, none⟩ (.int .i64 0)).setCell ⟨w1.heap.size, 2, none⟩ (.int .i64 0)).setCell ⟨w1.heap.size, 3, none⟩ (.bool false)).setCell ⟨w1.heap.size, 4, none⟩ (.bool false)).setCell ⟨w1.heap.size, 5, none⟩ (.int .i64 (-1))).setCell ⟨w1.heap.size, 6, none⟩ (.int .i64 0)).setCell ⟨w1.heap.size, 7, none⟩ (.int .i64 0)).setCell ⟨w1.heap.size, 8, none⟩ mv).setCell ⟨w1.heap.size, 9, none⟩ (.slice none 0 0)).setCell ⟨w1.heap.size, 10, none⟩ (.int .i64 0)).setCell ⟨w1.heap.size, 11, none⟩ (.int .i64 (-1))) (.cells (madeCells #[.int .i64 0] 8) 3); rwa [hz] at this) (ownsRow_mono (OwnI.below (own12 ho ⟨_, z⟩ _ _ _ _ _ _ _ _ _ _ _ _) (below_alloc _ _)) (by simp)) (by omega) (by omega) (fun e => ?_) ?_
  · have := (World.ownsRow.lt ho _ e).2; omega
  · exact (below_set12 (((below_alloc w1 _).drew).trans (hb.mono (by simp))) (by omega) _ _ _ _ _ _ _ _ _ _ _ _).alloc (by rw [hz]; omega) _

def lenAt (w : World) (b : Nat) : Nat := match w.cell? ⟨b, 8, none⟩ with | some (.slice _ n _) => n | _ => 0

theorem AtP.appendedM {w w1 : World} {lo b : Nat} {rv mv ov mv' : Value} {m : Mach} {x : Int} {o : Obj} (h : AtP w lo b rv mv ov m) (hlo : lo ≤ w.heap.size) (hg : (w.alloc o).grownBy w1 mv.ownBlock) (ho : OwnI w1 lo mv' (m.mem ++ [x]))
    (hat : mv.ownBlock = mv'.ownBlock ∨ ∀ g, mv'.ownBlock = some g → w.heap.size ≤ g) :
    w1.heap[b]? = some (.cells (m.cells rv mv ov) 30 (0, 0)) ∧ AtP (w1.setCell ⟨b, 8, none⟩ mv') lo b rv mv' ov { m with mem := m.mem ++ [x] } ∧ Below lo w (w1.setCell ⟨b, 8, none⟩ mv') := by
  have hA : Below w.heap.size w (w.alloc o) := below_alloc w o
  have hP := h.below hA
  have hne : mv.ownBlock ≠ some b := own_ne hP.own.mem hP.box (by decide)
  have hb1 : w1.heap[b]? = some (.cells (m.cells rv mv ov) 30 (0, 0)) := by rw [hg.block b hP.lt (fun e => hne e.symm)]; exact hP.box
  have hB : Below lo w w1 := (hA.mono hlo).grown hg (by have := hA.size; omega) (fun k hk => (World.ownsRow.lt hP.own.mem k hk).1)
  have ap : ∀ {v : Value} {l : List Int}, OwnI w lo v l → Apart v mv → Apart v mv' := fun {v l} hv ha g hg' e => by
    rcases hat with hat | hat
    · exact ha g hg' (by rw [hat]; exact e)
    · have := (World.ownsRow.lt hv g hg').2
      have := hat g e
      omega
  have sy : ∀ {u v : Value}, Apart u v → Apart v u := fun {u v} ha g e e2 => ha g e2 e
  have kept : ∀ {v : Value} {l : List Int}, OwnI (w.alloc o) lo v l → Apart v mv → OwnI w1 lo v l := fun {v l} hv ha => World.ownsRow.kept hv hg (by
    cases e : v.ownBlock with
    | none => exact Or.inl rfl
    | some g => exact Or.inr (fun e2 => ha g e e2.symm))
  refine ⟨hb1, ⟨⟨by rw [box_set hb1]; rfl, ?_, h.le⟩, hB.setCell (by simpa using h.le) _⟩⟩
  have hM : OwnM w1 lo rv mv' ov { m with mem := m.mem ++ [x] } := ⟨kept hP.own.regs h.own.rm, ho, kept hP.own.out (sy h.own.mo), ap h.own.regs h.own.rm, h.own.ro, sy (ap h.own.out (sy h.own.mo))⟩
  exact hM.box ⟨_, hb1⟩ 8 mv'

set_option maxRecDepth 20000 in
set_option maxHeartbeats 2000000 in
theorem GuestNew_ok (v : Value) (l : List Int) (w : World) (h : IntsAt w v l) (hn : newNo l = 0) :
    Calls Tryd.prog 30 #[v] w fun e w' => ∃ rv' mv' ov', e = .returned (.tuple #[.agg ((newM l).cells rv' mv' ov'), .int .i64 0]) ∧ OwnM w' w.heap.size rv' mv' ov' (newM l) ∧ Below w.heap.size w w' := by
  have H : Hid (IntsAt w v l) := h
  have h1 : ¬ 256 < l.length := fun e => by simp [newNo, e] at hn
  have h2 : allB l = true := by
    cases e : allB l with
    | true => rfl
    | false => simp [newNo, h1, e] at hn
  obtain ⟨A, c, rfl, hl, hc⟩ := h
  have d0 : decide (256 < (l.length : Int)) = false := by simp; omega
  have hm8 : ∀ W : World, (Instr.makeSlice 22 (.int .i64 8) (.int .i64 8)).run Tryd.prog W = .ok (.slice (some ⟨W.heap.size, 0, none⟩) 8 8) (W.alloc (.cells (madeCells #[.int .i64 0] 8) 3)) := fun W => run_make_row' (P := Tryd.prog) 22 3 (.int .i64 0) 8 Tryd.underlying22 infoInt rfl .i64 .i64 8 (by omega) (by omega) W
  have HL : Hid (l.length ≤ 256) := by show l.length ≤ 256; omega
  clear hn h1 hc
  go_enter Tryd.func30, Tryd.ntmps30
  go_wp2_with fail
  refine (wordsMay_any _ l _ (H.out.below (below_alloc _ _))).mono ?_
  rw [h2]
  rintro e w1 ⟨rfl, rfl⟩
  obtain ⟨w1, hw1⟩ : ∃ w1, w1 = w.alloc (.cells zeroM 30) := ⟨_, rfl⟩
  have HX : Hid (w1.heap[w.heap.size]? = some (.cells zeroM 30 (0, 0)) ∧ Below w.heap.size w w1) := by rw [hw1]; exact ⟨Go.Deep.blk_alloc_new _ _, below_alloc _ _⟩
  rw [← hw1]
  clear hw1
  have HW : Hid (∀ W, Below w1.heap.size w1 W → Calls Tryd.prog 33 #[.slice A l.length c] W fun e w' => ∃ A' c', e = .returned (.slice A' l.length c') ∧ OwnI w' W.heap.size (.slice A' l.length c') l ∧ Below W.heap.size W w') := fun W hb => words_any _ l W (H.out.below (HX.out.2.trans (hb.mono HX.out.2.size)))
  clear H d0 h2
  go_upto_region 5 with fail
  go_cut [4] (fun p wx => ∃ b g1 mv, p = .pointer (some ⟨b, 0, none⟩) ∧ AtP wx w1.heap.size b (.slice (some ⟨g1, 0, none⟩) 8 8) mv (.slice none 0 0) (imgM l) ∧ Below w1.heap.size w1 wx)
  case first =>
    go_region_law ((go_simp; go_at_call 33; refine (HW.out _ (by first | exact Below.refl _ _ | exact below_alloc _ _ | exact (below_alloc _ _).alloc (by simp) _ | exact (Below.refl _ _).drew | exact (below_alloc _ _).drew | exact ((below_alloc _ _).alloc (by simp) _).drew)).mono ?_; rintro e w2 ⟨A', c', rfl, ho, hb⟩; obtain ⟨hc1, hf1⟩ := bcell hb; (try have zl : w1.heap.size < w2.heap.size := (by have := hb.size; simp at this; omega)); (try have zn : ¬ w1.heap.size = w2.heap.size := (by omega)); (try have zl2 : w1.heap.size + 1 < w2.heap.size := (by have := hb.size; simp at this; omega)); have HO : Hid (OwnI _ _ _ _ ∧ Below _ _ _) := ⟨ho, hb⟩; clear ho hb))
    · go_wp2_with fail
      go_meet
      exact ⟨_, _, _, rfl, leaf1 HO.out.1 HO.out.2⟩
    · go_wp2_with fail
      go_meet
      exact ⟨_, _, _, rfl, leaf4 HO.out.1 HO.out.2⟩
    · go_wp2_with fail
      go_meet
      exact ⟨_, _, _, rfl, leaf2 HO.out.1 HO.out.2⟩
    · go_wp2_with fail
      go_meet
      exact ⟨_, _, _, rfl, leaf3 HO.out.1 HO.out.2⟩
    · go_wp2_with fail
      go_meet
      exact ⟨_, _, _, rfl, leaf5 HO.out.1 HO.out.2⟩
    · go_wp2_with fail
      go_meet
      exact ⟨_, _, _, rfl, leaf6 HO.out.1 HO.out.2⟩
  case rest =>
    obtain ⟨b, g1, mv, rfl, hP, hB⟩ := hcut
    have HP : Hid (AtP wc w1.heap.size b (.slice (some ⟨g1, 0, none⟩) 8 8) mv (.slice none 0 0) (imgM l) ∧ Below w1.heap.size w1 wc) := ⟨hP, hB⟩
    clear hP hB HW
    obtain ⟨i0, hi, hz0, hz1, hz2⟩ := info_parts infoInt
    go_wp2_with fail
    go_loopw [] (fun wr => ∃ (k : Nat) (mv : Value), l.length + k ≤ 256 ∧ Hid (AtP wr w1.heap.size b (.slice (some ⟨g1, 0, none⟩) 8 8) mv (.slice none 0 0) (imgM (l ++ List.replicate k 0)) ∧ Below w1.heap.size w1 wr)) (fun wr => 256 - lenAt wr b)
    case atStart => exact ⟨0, mv, by have := HL.out; omega, by have := HP.out; rw [show List.replicate 0 (0 : Int) = [] from rfl, List.append_nil]; exact this⟩
    case round =>
      obtain ⟨k, mv, hk, hI⟩ := hrel
      obtain ⟨C, cc, rfl⟩ := hI.out.1.own.mem.shape
      have hlen : (imgM (l ++ List.replicate k 0)).mem.length = l.length + k := by simp [imgM]
      rw [hlen] at hI
      clear hlen hm8
      obtain ⟨⟨z0, z1, z2, z3, z4, z5, z6, z7, z8, z9, z10, z11⟩, zf, zl⟩ := twelve_cells hI.out.1.box
      simp only [imgM] at z0 z1 z2 z3 z4 z5 z6 z7 z8 z9 z10 z11
      have hsz := hI.out.2.size
      by_cases hlt : l.length + k < 256
      · have zn : ¬ b = wr.heap.size := by omega
        have HLK : Hid ((l ++ List.replicate k (0 : Int)).length = l.length + k) := by show _ = _; simp
        have HO : Hid (wr.ownsRow w1.heap.size 3 1 (.slice C (l.length + k) cc) (l.length + k) ((l ++ List.replicate k 0).map (Value.int .i64))) := by
          have h : wr.ownsRow w1.heap.size 3 1 (.slice C (l.length + k) cc) (l ++ List.replicate k (0 : Int)).length ((l ++ List.replicate k 0).map (Value.int .i64)) := hI.out.1.own.mem
          rw [HLK.out] at h
          exact h
        have HL0 : Hid (lenAt wr b = l.length + k) := by show _ = _; simp [lenAt, z8]
        go_wp2_with (first
          | (at_builtin; refine wpList_append_own_at _ rfl _ _ 22 rfl w1.heap.size 3 i0 (.int .i64 0) 1 8 Tryd.underlying22 hi hz0 hz1 hz2 rfl (by decide) (.slice C (l.length + k) cc) (l.length + k) ((l ++ List.replicate k 0).map (Value.int .i64)) rfl (World.ownsRow.alloc HO.out _) ⟨wr.heap.size, 0, none⟩ 1 1 [.int .i64 0] rfl rfl ?c1 ?c2 ?c3 ?c4 ?c5 ?_))
        case c1 => exact cell_one_new _ _ _
        case c2 => intro u hu; simp at hu; subst hu; rfl
        case c3 => unfold maxLen; omega
        case c4 => omega
        case c5 => simp; omega
        intro mv' w2 hown' hgrow _ hat
        have hO2 : OwnI w2 w1.heap.size mv' (l ++ List.replicate k 0 ++ [0]) := by
          show w2.ownsRow w1.heap.size 3 1 mv' (l ++ List.replicate k 0 ++ [0]).length ((l ++ List.replicate k 0 ++ [0]).map (Value.int .i64))
          simpa [Nat.add_assoc] using hown'
        obtain ⟨hb2, hA2, hB2⟩ := hI.out.1.appendedM hsz hgrow (x := 0) hO2 (by rcases hat with hat | hat; exact Or.inl hat.symm; exact Or.inr (fun g e => by rw [hat] at e; simp at e; omega))
        have HB2 : Hid (Below w1.heap.size w1 (w2.setCell ⟨b, 8, none⟩ mv')) := hI.out.2.trans (hB2)
        obtain ⟨C', cc', rfl⟩ : ∃ C' cc', mv' = .slice C' (l.length + k + 1) cc' := by
          have hsh := hO2.shape
          simpa [Nat.add_assoc] using hsh
        have HA2 : Hid (AtP (w2.setCell ⟨b, 8, none⟩ (.slice C' (l.length + k + 1) cc')) w1.heap.size b (.slice (some ⟨g1, 0, none⟩) 8 8) (.slice C' (l.length + k + 1) cc') (.slice none 0 0) (imgM (l ++ List.replicate (k + 1) 0))) := by
          have e : ({ imgM (l ++ List.replicate k 0) with mem := (imgM (l ++ List.replicate k 0)).mem ++ [0] } : Mach) = imgM (l ++ List.replicate (k + 1) 0) := by simp [imgM, List.replicate_succ', List.append_assoc]
          rw [e] at hA2
          exact hA2
        obtain ⟨⟨y0, y1, y2, y3, y4, y5, y6, y7, y8, y9, y10, y11⟩, yf, yl⟩ := twelve_cells hb2
        have HM : Hid (lenAt (w2.setCell ⟨b, 8, none⟩ (.slice C' (l.length + k + 1) cc')) b = l.length + k + 1) := by
          show _ = _
          obtain ⟨⟨_, _, _, _, _, _, _, _, q8, _, _, _⟩, _, _⟩ := twelve_cells HA2.out.box
          simp [lenAt, q8]
        clear hown' hgrow hat hb2 hA2 hB2 hO2
        go_wp2_with fail
        refine ⟨⟨k + 1, _, by omega, ⟨HA2.out, HB2.out⟩⟩, ?_⟩
        rw [HM.out, HL0.out]
        omega
      · obtain rfl : k = 256 - l.length := by omega
        have e256 : l.length + (256 - l.length) = 256 := by omega
        rw [e256] at hI z8
        have hy : wr.heap[w.heap.size]? = some (.cells zeroM 30 (0, 0)) := by rw [hI.out.2.block _ (lt_of_block HX.out.1)]; exact HX.out.1
        obtain ⟨⟨y0, y1, y2, y3, y4, y5, y6, y7, y8, y9, y10, y11⟩, yf, yl⟩ := twelve_cells hy
        have H4 : Hid (OwnM wr w.heap.size (.slice (some ⟨g1, 0, none⟩) 8 8) (.slice C 256 cc) (.slice none 0 0) (newM l) ∧ IsBox wr w.heap.size ∧ Below w.heap.size w wr) := ⟨hI.out.1.own.mono HX.out.2.size, ⟨_, hy⟩, HX.out.2.trans (hI.out.2.mono HX.out.2.size)⟩
        clear hI hy HX hlt e256 hk
        go_wp2_with fail
        refine bodyPost_ret (v := .tuple #[.agg #[.slice (some ⟨g1, 0, none⟩) 8 8, .int .i64 0, .int .i64 0, .bool false, .bool false, .int .i64 (-1), .int .i64 0, .int .i64 0, .slice C 256 cc, .slice none 0 0, .int .i64 0, .int .i64 (-1)], .int .i64 0]) (by simp [results, Tryd.results30, go_sem, y0, y1, y2, y3, y4, y5, y6, y7, y8, y9, y10, y11]) rfl ?_
        exact ⟨.slice (some ⟨g1, 0, none⟩) 8 8, .slice C 256 cc, .slice none 0 0, rfl, H4.out.1.set12 H4.out.2.1 _ _ _ _ _ _ _ _ _ _ _ _, below_set12 H4.out.2.2 (Nat.le_refl _) _ _ _ _ _ _ _ _ _ _ _ _⟩

end Go.Proofs.YtbjlfhpiebokkaaDoor
