/- Contracts of hourglassref's wordMay, wordsMay: numbers that are words. -/
import Derived.Test.YtlcdefpdahjjeadIn
import Derived.Test.YtlcdefpdahjjeadGuest
import Derived.Test.YtlcdefpdahjjeadInfo
import Derived.Test.YtlcdefpdahjjeadCpuCode
import Derived.Maps.AppendAt
import Derived.Deep.OwnRows
import Derived.Test.YtlcdefpdahjjeadNoWord
import Derived.Test.YtlcdefpdahjjeadCopyLaw
import Derived.Test.YtlcdefpdahjjeadCpuM
import Derived.Test.YtlcdefpdahjjeadRun
import Derived.Test.YtlcdefpdahjjeadStepL
import Derived.Test.YtlcdefpdahjjeadStepD
namespace Go.Proofs.Ytlcdefpdahjjead
open Go.RowKit

theorem wordMay_any (n : Int) (w : World) : Calls Try.prog 26 #[.int .i64 n] w fun e w' => e = .returned (.bool (wordB n)) ∧ w' = w := by
  go_enter Try.func26, Try.ntmps26
  go_wp2_with (go_at_call 48; refine (In_B _ _ _ _).mono ?_; rintro e w' ⟨rfl, rfl⟩)
  go_ret
  exact ⟨rfl, rfl⟩

set_option maxHeartbeats 400000 in
theorem wordsMay_any (v : Value) (l : List Int) (w : World) (h : IntsAt w v l) :
    Calls Try.prog 27 #[v] w fun e w' => e = .returned (.bool (allB l)) ∧ w' = w := by
  obtain ⟨A, c, rfl, hl, hc⟩ := h
  go_enter Try.func27, Try.ntmps27
  go_wp2
  go_loopw [3] (fun i wr => ∃ k : Nat, k ≤ l.length ∧ i = .int .i64 k ∧ Hid (∀ i, i < k → wordB (l.getD i 0) = true) ∧ wr = w) (fun i _ => l.length - (intOf i).toNat)
  case atStart => exact ⟨0, Nat.zero_le _, rfl, fun i hi => absurd hi (Nat.not_lt_zero _), rfl⟩
  case round =>
    obtain ⟨k, hk, rfl, ht, hw⟩ := hrel
    subst wr
    by_cases hlt : k < l.length
    · obtain ⟨b, off, rfl, hbs, hcell⟩ := hc (by omega)
      have h1 := hcell k hlt
      cases hw : wordB (l.getD k 0) with
      | false =>
        have HN : Hid (false = allB l) := (allB_no hlt hw).symm
        clear hcell hc
        revert h1 hw
        generalize l.getD k 0 = x
        intro h1 hw
        go_wp2_with (go_at_call 26; refine (wordMay_any _ _).mono ?_; rintro e w' ⟨rfl, rfl⟩)
        go_ret
        exact ⟨ret_bool HN.out, rfl⟩
      | true =>
        have HN : Hid (∀ i, i < k + 1 → wordB (l.getD i 0) = true) := allB_step ht.out hw
        clear hcell hc
        revert h1 hw
        generalize l.getD k 0 = x
        intro h1 hw
        go_wp2_with (go_at_call 26; refine (wordMay_any _ _).mono ?_; rintro e w' ⟨rfl, rfl⟩)
        refine ⟨⟨k + 1, by omega, by go_num, HN, trivial⟩, ?_⟩
        simp [intOf]; omega
    · have HN : Hid (true = allB l) := (allB_iff.2 fun i hi => ht.out i (by omega)).symm
      clear hc
      go_wp2
      go_ret
      exact ⟨ret_bool HN.out, rfl⟩

end Go.Proofs.Ytlcdefpdahjjead

/- Contract of hourglassref.MachineMay: a guest that may be. -/

namespace Go.Proofs.Ytlcdefpdahjjead
open Go.RowKit
set_option linter.unusedVariables false

set_option maxHeartbeats 4000000 in
theorem MachineMay_any (m : Mach) (rv mv ov : Value) (w : World) (hr : IntsAt w rv m.regs) (hm : IntsAt w mv m.mem) (ho : IntsAt w ov m.out) :
    Calls Try.prog 25 #[.agg (m.cells rv mv ov)] w fun e w' => e = .returned (.bool m.may) ∧ Below w.heap.size w w' := by
  obtain ⟨regs, pc, back, ints, wait, table, count, fin, mem, out, ready, want⟩ := m
  simp only [Mach.cells]
  have H1 : Hid (IntsAt w rv regs) := hr
  have H2 : Hid (IntsAt w mv mem) := hm
  have H3 : Hid (IntsAt w ov out) := ho
  obtain ⟨A1, c1, rfl, -, -⟩ := hr
  obtain ⟨A2, c2, rfl, -, -⟩ := hm
  obtain ⟨A3, c3, rfl, -, -⟩ := ho
  by_cases g0 : regs.length = 8
  case neg =>
    have HN : Hid (false = Mach.may ⟨regs, pc, back, ints, wait, table, count, fin, mem, out, ready, want⟩) := by show _ = _; simp [Mach.may, g0]
    have d0 : ((regs.length : Int) != 8) = true := by simp; omega
    clear g0
    go_enter Try.func25, Try.ntmps25
    go_wp2_with fail
    go_ret
    exact ⟨ret_bool HN.out, below_alloc _ _⟩
  by_cases g1 : mem.length = 256
  case neg =>
    have HN : Hid (false = Mach.may ⟨regs, pc, back, ints, wait, table, count, fin, mem, out, ready, want⟩) := by show _ = _; simp [Mach.may, g1]
    have d0 : ((regs.length : Int) != 8) = false := by simp [g0]
    have d1 : ((mem.length : Int) != 256) = true := by simp; omega
    clear g0 g1
    go_enter Try.func25, Try.ntmps25
    go_wp2_with fail
    go_ret
    exact ⟨ret_bool HN.out, below_alloc _ _⟩
  by_cases g2 : out.length ≤ 200
  case neg =>
    have HN : Hid (false = Mach.may ⟨regs, pc, back, ints, wait, table, count, fin, mem, out, ready, want⟩) := by show _ = _; simp [Mach.may, g2]
    have d0 : ((regs.length : Int) != 8) = false := by simp [g0]
    have d1 : ((mem.length : Int) != 256) = false := by simp [g1]
    have d2 : decide (200 < (out.length : Int)) = true := by simp; omega
    clear g0 g1 g2
    go_enter Try.func25, Try.ntmps25
    go_wp2_with fail
    go_ret
    exact ⟨ret_bool HN.out, below_alloc _ _⟩
  have d0 : ((regs.length : Int) != 8) = false := by simp [g0]
  have d1 : ((mem.length : Int) != 256) = false := by simp [g1]
  have d2 : decide (200 < (out.length : Int)) = false := by simp; omega
  have HM : Hid (Mach.may ⟨regs, pc, back, ints, wait, table, count, fin, mem, out, ready, want⟩ = (allB regs && allB mem && allB out && wordB pc && wordB back && inB table (-1) 15 && inB count 0 1099511627776 && inB fin 0 4 && inB ready 0 1 && inB want (-1) 15)) := by show _ = _; simp [Mach.may, g0, g1, g2]
  clear g0 g1 g2
  rw [HM.out]
  clear HM
  go_enter Try.func25, Try.ntmps25
  go_wp2_with fail
  refine (wordsMay_any (.slice A1 regs.length c1) regs _ (H1.out.below (below_alloc _ _))).mono ?_
  clear H1
  cases g0 : allB regs
  · rintro e w' ⟨rfl, rfl⟩
    have HG : Hid (allB regs = false) := g0
    clear g0
    go_wp2_with fail
    go_ret
    exact ⟨ret_bool (by simp [HG.out]), below_alloc _ _⟩
  have G0 : Hid (allB regs = true) := g0
  clear g0
  rintro e w' ⟨rfl, rfl⟩
  go_wp2_with fail
  refine (wordsMay_any (.slice A2 mem.length c2) mem _ (H2.out.below (below_alloc _ _))).mono ?_
  clear H2
  cases g1 : allB mem
  · rintro e w' ⟨rfl, rfl⟩
    have HG : Hid (allB mem = false) := g1
    clear g1
    go_wp2_with fail
    go_ret
    exact ⟨ret_bool (by simp [HG.out]), below_alloc _ _⟩
  have G1 : Hid (allB mem = true) := g1
  clear g1
  rintro e w' ⟨rfl, rfl⟩
  go_wp2_with fail
  refine (wordsMay_any (.slice A3 out.length c3) out _ (H3.out.below (below_alloc _ _))).mono ?_
  clear H3
  cases g2 : allB out
  · rintro e w' ⟨rfl, rfl⟩
    have HG : Hid (allB out = false) := g2
    clear g2
    go_wp2_with fail
    go_ret
    exact ⟨ret_bool (by simp [HG.out]), below_alloc _ _⟩
  have G2 : Hid (allB out = true) := g2
  clear g2
  rintro e w' ⟨rfl, rfl⟩
  go_wp2_with fail
  refine (wordMay_any pc _).mono ?_
  cases g3 : wordB pc
  · rintro e w' ⟨rfl, rfl⟩
    have HG : Hid (wordB pc = false) := g3
    clear g3
    go_wp2_with fail
    go_ret
    exact ⟨ret_bool (by simp [HG.out]), below_alloc _ _⟩
  have G3 : Hid (wordB pc = true) := g3
  clear g3
  rintro e w' ⟨rfl, rfl⟩
  go_wp2_with fail
  refine (wordMay_any back _).mono ?_
  cases g4 : wordB back
  · rintro e w' ⟨rfl, rfl⟩
    have HG : Hid (wordB back = false) := g4
    clear g4
    go_wp2_with fail
    go_ret
    exact ⟨ret_bool (by simp [HG.out]), below_alloc _ _⟩
  have G4 : Hid (wordB back = true) := g4
  clear g4
  rintro e w' ⟨rfl, rfl⟩
  go_wp2_with fail
  refine (In_B _ _ _ _).mono ?_
  cases g5 : inB table (-1) 15
  · rintro e w' ⟨rfl, rfl⟩
    have HG : Hid (inB table (-1) 15 = false) := g5
    clear g5
    go_wp2_with fail
    go_ret
    exact ⟨ret_bool (by simp [HG.out]), below_alloc _ _⟩
  have G5 : Hid (inB table (-1) 15 = true) := g5
  clear g5
  rintro e w' ⟨rfl, rfl⟩
  go_wp2_with fail
  refine (In_B _ _ _ _).mono ?_
  cases g6 : inB count 0 1099511627776
  · rintro e w' ⟨rfl, rfl⟩
    have HG : Hid (inB count 0 1099511627776 = false) := g6
    clear g6
    go_wp2_with fail
    go_ret
    exact ⟨ret_bool (by simp [HG.out]), below_alloc _ _⟩
  have G6 : Hid (inB count 0 1099511627776 = true) := g6
  clear g6
  rintro e w' ⟨rfl, rfl⟩
  go_wp2_with fail
  refine (In_B _ _ _ _).mono ?_
  cases g7 : inB fin 0 4
  · rintro e w' ⟨rfl, rfl⟩
    have HG : Hid (inB fin 0 4 = false) := g7
    clear g7
    go_wp2_with fail
    go_ret
    exact ⟨ret_bool (by simp [HG.out]), below_alloc _ _⟩
  have G7 : Hid (inB fin 0 4 = true) := g7
  clear g7
  rintro e w' ⟨rfl, rfl⟩
  go_wp2_with fail
  refine (In_B _ _ _ _).mono ?_
  cases g8 : inB ready 0 1
  · rintro e w' ⟨rfl, rfl⟩
    have HG : Hid (inB ready 0 1 = false) := g8
    clear g8
    go_wp2_with fail
    go_ret
    exact ⟨ret_bool (by simp [HG.out]), below_alloc _ _⟩
  have G8 : Hid (inB ready 0 1 = true) := g8
  clear g8
  rintro e w' ⟨rfl, rfl⟩
  go_wp2_with fail
  refine (In_B _ _ _ _).mono ?_
  rintro e w' ⟨rfl, rfl⟩
  go_wp2_with fail
  go_ret
  exact ⟨ret_bool (by simp [G0.out, G1.out, G2.out, G3.out, G4.out, G5.out, G6.out, G7.out, G8.out]), below_alloc _ _⟩

end Go.Proofs.Ytlcdefpdahjjead

/- Contract of hourglassref.words: new memory that holds the same numbers. -/

namespace Go.Proofs.Ytlcdefpdahjjead
open Go.RowKit

set_option maxHeartbeats 1000000 in
theorem words_some (v : Value) (l : List Int) (w : World) (h : IntsAt w v l) :
    Calls Try.prog 20 #[v] w fun e w' => ∃ v', e = .returned v' ∧ OwnI w' w.heap.size v' l ∧ Below w.heap.size w w' := by
  obtain ⟨A, c, rfl, hl, hc⟩ := h
  obtain ⟨i0, hi, hz0, hz1, hz2⟩ := info_parts infoInt
  go_enter Try.func20, Try.ntmps20
  go_wp2
  go_loopw [3, 4] (fun o i wr => ∃ k : Nat, k ≤ l.length ∧ i = .int .i64 k ∧ Hid (OwnI wr w.heap.size o (l.take k)) ∧ Below w.heap.size w wr) (fun _ i _ => l.length - (intOf i).toNat)
  case atStart => exact ⟨0, Nat.zero_le _, rfl, World.ownsRow_nil _ _ _ _, Below.refl _ _⟩
  case round =>
    obtain ⟨k, hk, rfl, hown, hnx⟩ := hrel
    by_cases hlt : k < l.length
    · obtain ⟨b, off, rfl, hbs, hcell⟩ := hc (by omega)
      have h1 : wr.cell? ⟨b, off + k, none⟩ = some (.int .i64 (l.getD k 0)) := (hnx.cell (p := ⟨b, off + k, none⟩) hbs).trans (hcell k hlt)
      have hsz := hnx.size
      have HT := take_snoc l k hlt
      have HT' : Hid (l.take (k + 1) = l.take k ++ [l.getD k 0]) := HT
      have hlk : Hid ((l.take k).length = k) := by show _ = _; simp; omega
      clear HT hcell hc
      revert h1 HT'
      generalize l.getD k 0 = x
      intro h1 HT'
      revert hown HT' hlk
      generalize l.take k = lk
      intro hown hlk HT'
      go_wp2_with (first
        | (at_builtin; refine wpList_append_own _ rfl _ _ 22 rfl w.heap.size 3 i0 (.int .i64 0) 1 8 Try.underlying22 hi hz0 hz1 hz2 rfl (by decide) _ _ _ rfl (hown.out.alloc _) ⟨wr.heap.size, 0, none⟩ 1 1 [.int .i64 x] rfl rfl ?c1 ?c2 ?c3 ?c4 ?c5 ?_))
      case c1 => exact cell_one_new _ _ _
      case c2 => intro u hu; simp at hu; subst hu; rfl
      case c3 => have := hlk.out; unfold maxLen; omega
      case c4 => have := hlk.out; omega
      case c5 => simp; omega
      intro v' w1 hown' hgrow _
      have R1 : Hid (OwnI w1 w.heap.size v' (l.take (k + 1))) := OwnI.snoc hown' HT'.out
      have R2 : Below w.heap.size w w1 := grown_below hnx hown.out (Nat.le_refl _) hsz hgrow
      clear hown' hgrow hown h1 hnx
      go_wp2
      refine ⟨⟨k + 1, by omega, by go_num, R1, R2⟩, ?_⟩
      simp [intOf]; omega
    · clear hc
      go_wp2
      go_ret
      exact ⟨_, rfl, by have := hown.out; rwa [List.take_of_length_le (by omega)] at this, hnx⟩

theorem words_any (v : Value) (l : List Int) (w : World) (h : IntsAt w v l) :
    Calls Try.prog 20 #[v] w fun e w' => ∃ A c, e = .returned (.slice A l.length c) ∧ OwnI w' w.heap.size (.slice A l.length c) l ∧ Below w.heap.size w w' :=
  (words_some v l w h).mono fun e w' ⟨v', he, ho, hb⟩ => by
    obtain ⟨A, c, rfl⟩ := ho.shape
    exact ⟨A, c, he, ho, hb⟩

end Go.Proofs.Ytlcdefpdahjjead

/- Contract of hourglassref.GuestCopy: the same guest in new memory. -/

namespace Go.Proofs.Ytlcdefpdahjjead
open Go.RowKit

set_option maxHeartbeats 4000000 in
theorem GuestCopy_any (m : Mach) (rv mv ov : Value) (w : World) (ha : MachAt w rv mv ov m) :
    Calls Try.prog 9 #[.agg (m.cells rv mv ov)] w fun e w' => ∃ rv' mv' ov', e = .returned (.agg (m.cells rv' mv' ov')) ∧ OwnM w' w.heap.size rv' mv' ov' m ∧ Below w.heap.size w w' := by
  obtain ⟨r, p, k, i, t, a, n, f, m, o, y, q⟩ := m
  have H1 : Hid (IntsAt w rv r) := ha.regs
  have H2 : Hid (IntsAt w mv m) := ha.mem
  have H3 : Hid (IntsAt w ov o) := ha.out
  clear ha
  simp only [Mach.cells]
  obtain ⟨b0, b1, b2⟩ := two_boxes (Below.refl (((w.alloc (.cells #[rv, .int .i64 p, .int .i64 k, .bool i, .bool t, .int .i64 a, .int .i64 n, .int .i64 f, mv, ov, .int .i64 y, .int .i64 q] 24)).alloc (.cells zeroM 24)).heap.size) ((w.alloc (.cells #[rv, .int .i64 p, .int .i64 k, .bool i, .bool t, .int .i64 a, .int .i64 n, .int .i64 f, mv, ov, .int .i64 y, .int .i64 q] 24)).alloc (.cells zeroM 24)))
  obtain ⟨W0, hW0⟩ : ∃ W0, W0 = ((w.alloc (.cells #[rv, .int .i64 p, .int .i64 k, .bool i, .bool t, .int .i64 a, .int .i64 n, .int .i64 f, mv, ov, .int .i64 y, .int .i64 q] 24)).alloc (.cells zeroM 24)) := ⟨_, rfl⟩
  have HW0 : Hid (W0 = ((w.alloc (.cells #[rv, .int .i64 p, .int .i64 k, .bool i, .bool t, .int .i64 a, .int .i64 n, .int .i64 f, mv, ov, .int .i64 y, .int .i64 q] 24)).alloc (.cells zeroM 24))) := hW0
  rw [← hW0] at b0 b1 b2
  clear hW0
  have B0 : Hid (W0.heap[w.heap.size]? = _ ∧ W0.heap[w.heap.size + 1]? = _ ∧ Below w.heap.size w W0) := ⟨b0, b1, b2⟩
  clear b0 b1 b2
  go_enter Try.func9, Try.ntmps9
  go_wp2_with fail
  rw [← HW0.out]
  refine (words_any rv r _ (H1.out.below B0.out.2.2)).mono ?_
  rintro e w1 ⟨A1, d1, rfl, ho1, hb1⟩
  clear H1 HW0
  have O1 : Hid (W0.heap.size ≤ w1.heap.size) := hb1.size
  obtain ⟨c0, c1, c2, c3, c4⟩ := copy_one (i := 0) B0.out.2.2 B0.out.1 B0.out.2.1 hb1 ho1
  obtain ⟨⟨z0, z1, z2, z3, z4, z5, z6, z7, z8, z9, z10, z11⟩, zf, zl⟩ := twelve_cells c0
  have C1 : Hid (_ ∧ _ ∧ _ ∧ _) := ⟨c1, c2, c3, c4⟩
  clear c0 c1 c2 c3 c4 ho1 hb1
  go_wp2_with fail
  clear z0 z1 z2 z3 z4 z5 z6 z7 z8 z9 z10 z11 zf zl
  refine (words_any mv m _ (H2.out.below C1.out.2.2.1)).mono ?_
  rintro e w2 ⟨A2, d2, rfl, ho2, hb2⟩
  clear H2
  have O2 : Hid (OwnI w2 W0.heap.size (.slice A1 r.length d1) r ∧ Apart (.slice A1 r.length d1) (.slice A2 m.length d2)) := ⟨C1.out.2.2.2.below hb2, apart_new C1.out.2.2.2 ho2 (Nat.le_refl _)⟩
  obtain ⟨c0, c1, c2, c3, c4⟩ := copy_one (i := 8) C1.out.2.2.1 C1.out.1 C1.out.2.1 hb2 ho2
  obtain ⟨⟨z0, z1, z2, z3, z4, z5, z6, z7, z8, z9, z10, z11⟩, zf, zl⟩ := twelve_cells c0
  have C2 : Hid (_ ∧ _ ∧ _ ∧ _) := ⟨c1, c2, c3, c4⟩
  have D2 : Hid (OwnI _ _ _ _) := O2.out.1.otherType (a := ⟨w.heap.size, 8, none⟩) c0 (by decide) (.slice A2 m.length d2)
  clear c0 c1 c2 c3 c4 ho2 hb2
  go_wp2_with fail
  clear z0 z1 z2 z3 z4 z5 z6 z7 z8 z9 z10 z11 zf zl
  refine (words_any ov o _ (H3.out.below C2.out.2.2.1)).mono ?_
  rintro e w3 ⟨A3, d3, rfl, ho3, hb3⟩
  clear H3
  have O3 : Hid (OwnI w3 w.heap.size (.slice A1 r.length d1) r ∧ OwnI w3 w.heap.size (.slice A2 m.length d2) m ∧ Apart (.slice A1 r.length d1) (.slice A3 o.length d3) ∧ Apart (.slice A2 m.length d2) (.slice A3 o.length d3)) :=
    ⟨ownsRow_mono (D2.out.below hb3) B0.out.2.2.size, ownsRow_mono (C2.out.2.2.2.below hb3) C1.out.2.2.1.size, apart_new D2.out ho3 (Nat.le_refl _), apart_new C2.out.2.2.2 ho3 (Nat.le_refl _)⟩
  obtain ⟨c0, c1, c2, c3, c4⟩ := copy_one (i := 9) C2.out.2.2.1 C2.out.1 C2.out.2.1 hb3 ho3
  obtain ⟨⟨z0, z1, z2, z3, z4, z5, z6, z7, z8, z9, z10, z11⟩, zf, zl⟩ := twelve_cells c0
  have cy : w3.heap[w.heap.size + 1]? = some (.cells zeroM 24 (0, 0)) := by rw [hb3.block _ (lt_of_block C2.out.2.1)]; exact C2.out.2.1
  obtain ⟨⟨y0, y1, y2, y3, y4, y5, y6, y7, y8, y9, y10, y11⟩, yf, yl⟩ := twelve_cells cy
  have HM : Hid (OwnM w3 w.heap.size (.slice A1 r.length d1) (.slice A2 m.length d2) (.slice A3 o.length d3) ⟨r, p, k, i, t, a, n, f, m, o, y, q⟩) :=
    ⟨O3.out.1, O3.out.2.1, ownsRow_mono ho3 C2.out.2.2.1.size, O2.out.2, O3.out.2.2.1, O3.out.2.2.2⟩
  have HB : Hid (IsBox w3 w.heap.size ∧ IsBox (w3.setCell ⟨w.heap.size, 9, none⟩ (.slice A3 o.length d3)) (w.heap.size + 1) ∧ Below w.heap.size w (w3.setCell ⟨w.heap.size, 9, none⟩ (.slice A3 o.length d3))) := ⟨⟨_, c0⟩, ⟨_, c2⟩, c3⟩
  clear c0 c1 c2 c3 c4 cy ho3 hb3 O3 O2 D2 C2 C1 O1 B0
  go_wp2_with fail
  refine bodyPost_ret (v := .agg #[.slice A1 r.length d1, .int .i64 p, .int .i64 k, .bool i, .bool t, .int .i64 a, .int .i64 n, .int .i64 f, .slice A2 m.length d2, .slice A3 o.length d3, .int .i64 y, .int .i64 q]) (by simp [results, Try.results9, go_sem, y0, y1, y2, y3, y4, y5, y6, y7, y8, y9, y10, y11]) rfl ?_
  exact ⟨_, _, _, rfl, (HM.out.box HB.out.1 9 _).set12 HB.out.2.1 _ _ _ _ _ _ _ _ _ _ _ _, below_set12 HB.out.2.2 (by omega) _ _ _ _ _ _ _ _ _ _ _ _⟩

end Go.Proofs.Ytlcdefpdahjjead

/- Contract of hourglasskeep.words: the words of instructions. -/

namespace Go.Proofs.Ytlcdefpdahjjead
open Go.RowKit

/-- An instruction, as a plain thing. -/
abbrev Ins := Int × Int × Int × Int
def insWord (i : Ins) : Int := wordNo i.1 i.2.1 i.2.2.1 i.2.2.2
/-- A slice of instructions. -/
def InsAt (w : World) (v : Value) (L : List Ins) : Prop :=
  ∃ (A : Option Addr) (c : Nat), v = .slice A L.length c ∧ L.length ≤ 1000 ∧
    (0 < L.length → ∃ b off, A = some ⟨b, off, none⟩ ∧ b < w.heap.size ∧ ∀ j, j < L.length →
      w.cell? ⟨b, off + j * 4, none⟩ = some (.int .i64 (L.getD j (0, 0, 0, 0)).1) ∧ w.cell? ⟨b, off + j * 4 + 1, none⟩ = some (.int .i64 (L.getD j (0, 0, 0, 0)).2.1) ∧ w.cell? ⟨b, off + j * 4 + 2, none⟩ = some (.int .i64 (L.getD j (0, 0, 0, 0)).2.2.1) ∧ w.cell? ⟨b, off + j * 4 + 3, none⟩ = some (.int .i64 (L.getD j (0, 0, 0, 0)).2.2.2))

theorem take_insWord (L : List Ins) (k : Nat) (h : k < L.length) : (L.take (k + 1)).map insWord = (L.take k).map insWord ++ [insWord (L.getD k (0, 0, 0, 0))] := by
  have e : L.getD k (0, 0, 0, 0) = L[k] := by simp [List.getD, h]
  rw [List.take_succ_eq_append_getElem h, List.map_append, List.map_cons, List.map_nil, e]

set_option maxHeartbeats 2000000 in
theorem kwords_any (v : Value) (L : List Ins) (w : World) (h : InsAt w v L) :
    Calls Try.prog 33 #[v] w fun e w' => ∃ v', e = .returned v' ∧ OwnI w' w.heap.size v' (L.map insWord) ∧ Below w.heap.size w w' := by
  obtain ⟨A, c, rfl, hl, hc⟩ := h
  obtain ⟨i0, hi, hz0, hz1, hz2⟩ := info_parts infoInt
  have HC : Hid (_) := hc
  clear hc
  go_enter Try.func33, Try.ntmps33
  go_wp2
  go_loopw [3, 10] (fun o i wr => ∃ k : Nat, k ≤ L.length ∧ i = .int .i64 k ∧ Hid (OwnI wr w.heap.size o ((L.take k).map insWord)) ∧ Below w.heap.size w wr) (fun _ i _ => L.length - (intOf i).toNat)
  case atStart => exact ⟨0, Nat.zero_le _, rfl, World.ownsRow_nil _ _ _ _, Below.refl _ _⟩
  case round =>
    obtain ⟨k, hk, rfl, hown, hnx⟩ := hrel
    by_cases hlt : k < L.length
    · obtain ⟨b, off, rfl, hbs, hcell⟩ := HC.out (by omega)
      obtain ⟨c0, c1, c2, c3⟩ := hcell k hlt
      have t0 := (hnx.cell (p := ⟨b, off + k * 4, none⟩) hbs).trans c0
      have t1 := (hnx.cell (p := ⟨b, off + k * 4 + 1, none⟩) hbs).trans c1
      have t2 := (hnx.cell (p := ⟨b, off + k * 4 + 2, none⟩) hbs).trans c2
      have t3 := (hnx.cell (p := ⟨b, off + k * 4 + 3, none⟩) hbs).trans c3
      have hsz := hnx.size
      have HT : Hid ((L.take (k + 1)).map insWord = (L.take k).map insWord ++ [insWord (L.getD k (0, 0, 0, 0))]) := take_insWord L k hlt
      have hlk : Hid (((L.take k).map insWord).length = k) := by show _ = _; simp; omega
      have HNX : Hid (Below w.heap.size w wr) := hnx
      clear hcell c0 c1 c2 c3 hnx
      obtain ⟨x, hx⟩ : ∃ x, x = L.getD k (0, 0, 0, 0) := ⟨_, rfl⟩
      rw [← hx] at t0 t1 t2 t3 HT
      clear hx
      obtain ⟨y, hy⟩ : ∃ y, y = insWord x := ⟨_, rfl⟩
      rw [← hy] at HT
      obtain ⟨op, a, bb, n⟩ := x
      have HE : Hid (∃ z, ∀ W, Calls Try.prog 14 #[.agg #[.int .i64 op, .int .i64 a, .int .i64 bb, .int .i64 n]] W fun e w' => e = .returned (.tuple #[.int .i64 y, .int .i64 z]) ∧ Below W.heap.size W w') := ⟨instrNo op a bb n, fun W => by rw [hy]; exact CpuEncode_any op a bb n W⟩
      clear hy
      revert hown HT hlk
      generalize (L.take k).map insWord = lk
      intro hown hlk HT
      obtain ⟨z, he⟩ := HE.out
      have HE : Hid (_) := he
      clear he
      simp only at t0 t1 t2 t3
      go_wp2_with fail
      refine (HE.out _).mono ?_
      rintro e w2 ⟨rfl, hb2⟩
      have hB2 : Below wr.heap.size wr w2 := (below_alloc _ _).trans (hb2.mono (by simp))
      have how := hown.out.below hB2
      have HOW : Hid (OwnI _ _ _ _) := how
      clear how
      have HB2 : Hid (Below w.heap.size w w2) := HNX.out.trans (hB2.mono HNX.out.size)
      have hsz2 : w.heap.size ≤ w2.heap.size := HB2.out.size
      clear hb2 hB2 hown HE t0 t1 t2 t3
      go_wp2_with (first
        | (at_builtin; refine wpList_append_own _ rfl _ _ 22 rfl w.heap.size 3 i0 (.int .i64 0) 1 8 Try.underlying22 hi hz0 hz1 hz2 rfl (by decide) _ _ _ rfl (HOW.out.alloc _) ⟨w2.heap.size, 0, none⟩ 1 1 [.int .i64 y] rfl rfl ?c1 ?c2 ?c3 ?c4 ?c5 ?_))
      case c1 => exact cell_one_new _ _ _
      case c2 => intro u hu; simp at hu; subst hu; rfl
      case c3 => have := hlk.out; unfold maxLen; omega
      case c4 => have := hlk.out; omega
      case c5 => simp; omega
      intro v' w3 hown' hgrow _
      have R1 : Hid (OwnI w3 w.heap.size v' ((L.take (k + 1)).map insWord)) := OwnI.snoc hown' HT.out
      have R2 : Below w.heap.size w w3 := grown_below HB2.out HOW.out (Nat.le_refl _) hsz2 hgrow
      clear hown' hgrow HOW HNX HB2
      go_wp2
      refine ⟨⟨k + 1, by omega, by go_num, R1, R2⟩, ?_⟩
      simp [intOf]; omega
    · clear HC
      go_wp2
      go_ret
      exact ⟨_, rfl, by have := hown.out; rwa [List.take_of_length_le (by omega)] at this, hnx⟩

end Go.Proofs.Ytlcdefpdahjjead

/- New memory of zeros. -/

namespace Go.Proofs.Ytlcdefpdahjjead
open Go.RowKit

theorem OwnI.madeZ {w : World} {lo g n : Nat} (hlo : lo ≤ g) (hn : n ≤ maxLen) (h : w.heap[g]? = some (.cells (madeCells #[.int .i64 0] n) 3 (0, 0))) : OwnI w lo (.slice (some ⟨g, 0, none⟩) n n) (List.replicate n 0) := by
  refine ⟨by simp, Or.inr ⟨g, n, _, by simp, hlo, h, by simp, hn, by simp [size_madeCells], ?_⟩⟩
  rw [toList_madeCells_one]; simp

end Go.Proofs.Ytlcdefpdahjjead

/- Contract of cpu.New. -/

namespace Go.Proofs.Ytlcdefpdahjjead
open Go.RowKit

/-- A new guest. -/
def newM (l : List Int) : Mach := ⟨List.replicate 8 0, 0, 0, false, false, -1, 0, 0, l ++ List.replicate (256 - l.length) 0, [], 0, -1⟩
/-- What is wrong with an image. -/
def newNo (l : List Int) : Int := if 256 < l.length then 1 else if !allB l then 2 else 0

set_option maxHeartbeats 2000000 in
theorem New_no (v : Value) (l : List Int) (w : World) (h : IntsAt w v l) (hn : newNo l ≠ 0) :
    Calls Try.prog 32 #[v] w fun e w' => e = .returned (.tuple #[.agg zeroM, .int .i64 (newNo l)]) ∧ Below w.heap.size w w' := by
  have H : Hid (IntsAt w v l) := h
  obtain ⟨A, c, rfl, hl, hc⟩ := h
  clear hc
  by_cases h1 : 256 < l.length
  · rw [show newNo l = 1 by simp [newNo, h1]]
    have d0 : decide (256 < (l.length : Int)) = true := by simp; omega
    obtain ⟨⟨y0, y1, y2, y3, y4, y5, y6, y7, y8, y9, y10, y11⟩, yf, yl⟩ := twelve_cells (Go.Deep.blk_alloc_new w (.cells zeroM 24))
    clear hn h1
    go_enter Try.func32, Try.ntmps32
    go_wp2_with fail
    refine bodyPost_ret (v := .tuple #[.agg zeroM, .int .i64 1]) (by simp [results, Try.results32, go_sem, y0, y1, y2, y3, y4, y5, y6, y7, y8, y9, y10, y11]) rfl ?_
    exact ⟨rfl, below_alloc _ _⟩
  · have h2 : allB l = false := by
      cases e : allB l with
      | false => rfl
      | true => exact absurd (by simp [newNo, h1, e]) hn
    rw [show newNo l = 2 by simp [newNo, h1, h2]]
    have d0 : decide (256 < (l.length : Int)) = false := by simp; omega
    clear hn h1
    go_enter Try.func32, Try.ntmps32
    go_wp2_with fail
    refine (haveNoWord_any _ l _ (H.out.below (below_alloc _ _))).mono ?_
    rw [h2]
    rintro e w1 ⟨rfl, hb1⟩
    obtain ⟨⟨y0, y1, y2, y3, y4, y5, y6, y7, y8, y9, y10, y11⟩, yf, yl⟩ := twelve_cells (box_kept hb1)
    have HB : Hid (Below w.heap.size w w1) := (below_alloc _ _).trans (hb1.mono (by simp))
    clear hb1
    go_wp2_with fail
    refine bodyPost_ret (v := .tuple #[.agg zeroM, .int .i64 2]) (by simp [results, Try.results32, go_sem, y0, y1, y2, y3, y4, y5, y6, y7, y8, y9, y10, y11]) rfl ?_
    exact ⟨rfl, below_set12 HB.out (Nat.le_refl _) _ _ _ _ _ _ _ _ _ _ _ _⟩

/-- Three new blocks. -/
theorem new_three (w : World) (o1 o2 o3 : Obj) : (((w.alloc o1).alloc o2).alloc o3).drew.heap[w.heap.size]? = some o1 ∧ (((w.alloc o1).alloc o2).alloc o3).drew.heap[w.heap.size + 1]? = some o2 ∧ (((w.alloc o1).alloc o2).alloc o3).drew.heap[w.heap.size + 1 + 1]? = some o3 ∧ Below w.heap.size w (((w.alloc o1).alloc o2).alloc o3).drew := by
  refine ⟨?_, ?_, ?_, (((below_alloc _ _).alloc (by simp) _).alloc (by simp; omega) _).drew⟩
  · show (((w.alloc o1).alloc o2).alloc o3).heap[w.heap.size]? = some o1
    rw [Go.Deep.blk_alloc_lt _ _ _ (by simp; omega), Go.Deep.blk_alloc_lt _ _ _ (by simp), Go.Deep.blk_alloc_new]
  · show (((w.alloc o1).alloc o2).alloc o3).heap[w.heap.size + 1]? = some o2
    rw [Go.Deep.blk_alloc_lt _ _ _ (by simp)]
    have := Go.Deep.blk_alloc_new (w.alloc o1) o2
    rwa [show (w.alloc o1).heap.size = w.heap.size + 1 by simp] at this
  · show (((w.alloc o1).alloc o2).alloc o3).heap[w.heap.size + 1 + 1]? = some o3
    have := Go.Deep.blk_alloc_new ((w.alloc o1).alloc o2) o3
    rwa [show ((w.alloc o1).alloc o2).heap.size = w.heap.size + 1 + 1 by simp] at this

/-- A guest with nothing in it. -/
def zeroG : Mach := ⟨List.replicate 8 0, 0, 0, false, false, -1, 0, 0, List.replicate 256 0, [], 0, -1⟩
/-- What New lays out. -/
structure NewInv (w wx : World) (b g1 g2 : Nat) : Prop where
  box : wx.heap[b]? = some (.cells (zeroG.cells (.slice (some ⟨g1, 0, none⟩) 8 8) (.slice (some ⟨g2, 0, none⟩) 256 256) (.slice none 0 0)) 24 (0, 0))
  r1 : wx.heap[g1]? = some (.cells (madeCells #[.int .i64 0] 8) 3 (0, 0))
  r2 : wx.heap[g2]? = some (.cells (madeCells #[.int .i64 0] 256) 3 (0, 0))
  lb : w.heap.size ≤ b
  l1 : w.heap.size ≤ g1
  l2 : w.heap.size ≤ g2
  ne : g1 ≠ g2
  old : Below w.heap.size w wx
theorem NewInv.at {w wx : World} {b g1 g2 : Nat} (h : NewInv w wx b g1 g2) : AtP wx w.heap.size b (.slice (some ⟨g1, 0, none⟩) 8 8) (.slice (some ⟨g2, 0, none⟩) 256 256) (.slice none 0 0) zeroG :=
  ⟨h.box, ⟨OwnI.madeZ h.l1 (by unfold maxLen; omega) h.r1, OwnI.madeZ h.l2 (by unfold maxLen; omega) h.r2, World.ownsRow_nil _ _ _ _, fun g e e2 => by simp [Value.ownBlock] at e e2; exact h.ne (e.trans e2.symm), fun g e e2 => by simp [Value.ownBlock] at e2, fun g e e2 => by simp [Value.ownBlock] at e2⟩, h.lb⟩

/-- The image is copied. -/
theorem AtP.image {w : World} {lo b g1 g2 : Nat} {l : List Int} (h : AtP w lo b (.slice (some ⟨g1, 0, none⟩) 8 8) (.slice (some ⟨g2, 0, none⟩) 256 256) (.slice none 0 0) zeroG) (hr : w.heap[g2]? = some (.cells (madeCells #[.int .i64 0] 256) 3 (0, 0))) (hl : l.length ≤ 256) :
    ∀ w', w' = w.setRow g2 ((madeCells #[.int .i64 0] 256).toList.take 0 ++ (l.map (Value.int .i64) ++ (madeCells #[.int .i64 0] 256).toList.drop (0 + (l.map (Value.int .i64)).length))).toArray → AtP w' lo b (.slice (some ⟨g1, 0, none⟩) 8 8) (.slice (some ⟨g2, 0, none⟩) 256 256) (.slice none 0 0) (newM l) ∧ Below lo w w' := fun w' e => by
  have hr' := AtP.putRun (off := 0) (blk := l) h hr (by show 0 + l.length ≤ (List.replicate 256 (0 : Int)).length; rw [List.length_replicate]; omega)
  subst e
  rw [← List.append_assoc]
  have e1 : zeroG.mem.take 0 ++ l ++ zeroG.mem.drop (0 + l.length) = l ++ List.replicate (256 - l.length) 0 := by
    show List.take 0 (List.replicate 256 (0 : Int)) ++ l ++ List.drop (0 + l.length) (List.replicate 256 0) = _
    rw [List.take_zero, List.nil_append, Nat.zero_add, List.drop_replicate]
  have he : ({ zeroG with mem := zeroG.mem.take 0 ++ l ++ zeroG.mem.drop (0 + l.length) } : Mach) = newM l := by rw [e1]; rfl
  rw [he] at hr'
  exact hr'
theorem newM_nil (l : List Int) (h : l.length = 0) : newM l = zeroG := by
  obtain rfl : l = [] := List.eq_nil_of_length_eq_zero h
  rfl

/-- A copy into a row: the world behind it, written out. -/
theorem wpList_copy_exact {P : Program} {w : World} {ops : Array Oper} {rest : List Oper} {o : Oper} {a : Act} {Q : Exit → Act → World → Prop} (hgd : o.guard = none) (d s : Operand) (dT sT : TypeId)
    (ho : o.op = .call { callee := .builtin .copy, args := #[d, s], argTypes := #[dT, sT] }) (elem : TypeId) (hu : P.underlying dT = some (.slice elem)) (hsz : (P.info? elem).map (·.size) = some 1)
    (g off dLen dCap : Nat) (ad : Addr) (sLen sCap : Nat) (hd : a.eval d = .slice (some ⟨g, off, none⟩) dLen dCap) (hs : a.eval s = .slice (some ad) sLen sCap)
    (cur : Array Value) (t : TypeId) (hg : w.heap[g]? = some (.cells cur t (0, 0))) (cs : List Value) (hn : cs.length = Nat.min sLen dLen)
    (hsrc : ∀ j v, cs[j]? = some v → w.cell? (ad.add j) = some v) (hfit : off + cs.length ≤ cur.size) (h1 : ∀ v ∈ cs, v.oneCell' = true)
    (h : ∀ w', w' = w.setRow g (cur.toList.take off ++ (cs ++ cur.toList.drop (off + cs.length))).toArray → wpList P ops Q rest (a.put o.dst (goInt cs.length)) w') : wpList P ops Q (o :: rest) a w :=
  wpList_copy_own hgd d s dT sT ho elem hu hsz g off dLen dCap ad sLen sCap hd hs cur t hg cs hn hsrc hfit h1 (h _ rfl)

set_option maxHeartbeats 2000000 in
theorem New_ok (v : Value) (l : List Int) (w : World) (h : IntsAt w v l) (hn : newNo l = 0) :
    Calls Try.prog 32 #[v] w fun e w' => ∃ rv' mv' ov', e = .returned (.tuple #[.agg ((newM l).cells rv' mv' ov'), .int .i64 0]) ∧ OwnM w' w.heap.size rv' mv' ov' (newM l) ∧ Below w.heap.size w w' := by
  have H : Hid (IntsAt w v l) := h
  have h1 : ¬ 256 < l.length := fun e => by simp [newNo, e] at hn
  have h2 : allB l = true := by
    cases e : allB l with
    | true => rfl
    | false => simp [newNo, h1, e] at hn
  obtain ⟨A, c, rfl, hl, hc⟩ := h
  have d0 : decide (256 < (l.length : Int)) = false := by simp; omega
  have hm8 : ∀ W : World, (Instr.makeSlice 22 (.int .i64 8) (.int .i64 8)).run Try.prog W = .ok (.slice (some ⟨W.heap.size, 0, none⟩) 8 8) (W.alloc (.cells (madeCells #[.int .i64 0] 8) 3)) := fun W => run_make_row' (P := Try.prog) 22 3 (.int .i64 0) 8 Try.underlying22 infoInt rfl .i64 .i64 8 (by omega) (by omega) W
  have hm256 : ∀ W : World, (Instr.makeSlice 22 (.int .i64 256) (.int .i64 256)).run Try.prog W = .ok (.slice (some ⟨W.heap.size, 0, none⟩) 256 256) (W.alloc (.cells (madeCells #[.int .i64 0] 256) 3)) := fun W => run_make_row' (P := Try.prog) 22 3 (.int .i64 0) 8 Try.underlying22 infoInt rfl .i64 .i64 256 (by omega) (by omega) W
  clear hn h1 hc
  go_enter Try.func32, Try.ntmps32
  go_wp2_with fail
  refine (haveNoWord_any _ l _ (H.out.below (below_alloc _ _))).mono ?_
  rw [h2]
  rintro e w1 ⟨rfl, hb1⟩
  have HX : Hid (w1.heap[w.heap.size]? = some (.cells zeroM 24 (0, 0)) ∧ Below w.heap.size w w1) := ⟨box_kept hb1, (below_alloc _ _).trans (hb1.mono (by simp))⟩
  clear hb1
  go_upto_region 5 with fail
  go_cut [4, 12, 13] (fun p s1 s2 wx => ∃ b g1 g2, p = .pointer (some ⟨b, 0, none⟩) ∧ s1 = .slice (some ⟨g1, 0, none⟩) 8 8 ∧ s2 = .slice (some ⟨g2, 0, none⟩) 256 256 ∧ NewInv w1 wx b g1 g2)
  case first =>
    go_region
    all_goals
      go_wp2_with fail
      go_meet
      refine ⟨_, _, _, rfl, rfl, rfl, ?_⟩
      refine ⟨?_, ?_, ?_, by omega, by omega, by omega, by omega, (new_three _ _ _ _).2.2.2⟩
      all_goals first
        | exact (new_three _ _ _ _).1
        | exact (new_three _ _ _ _).2.1
        | exact (new_three _ _ _ _).2.2.1
  case rest =>
    obtain ⟨b, g1, g2, rfl, rfl, rfl, hN⟩ := hcut
    have HN : Hid (NewInv w1 wc b g1 g2) := hN
    obtain ⟨⟨z0, z1, z2, z3, z4, z5, z6, z7, z8, z9, z10, z11⟩, zf, zl⟩ := twelve_cells hN.box
    have hsi : (Try.prog.info? 3).map (·.size) = some 1 := by kernel_rfl
    obtain ⟨A', c', hA, -, hcell⟩ := H.out
    simp only [Value.slice.injEq] at hA
    obtain ⟨rfl, -, rfl⟩ := hA
    have hbw : Below w.heap.size w wc := HX.out.2.trans (hN.old.mono HX.out.2.size)
    by_cases hl0 : l.length = 0
    · have hy : wc.heap[w.heap.size]? = some (.cells zeroM 24 (0, 0)) := by rw [hN.old.block _ (lt_of_block HX.out.1)]; exact HX.out.1
      obtain ⟨⟨y0, y1, y2, y3, y4, y5, y6, y7, y8, y9, y10, y11⟩, yf, yl⟩ := twelve_cells hy
      have H4 : Hid (OwnM wc w.heap.size (.slice (some ⟨g1, 0, none⟩) 8 8) (.slice (some ⟨g2, 0, none⟩) 256 256) (.slice none 0 0) (newM l) ∧ IsBox wc w.heap.size ∧ Below w.heap.size w wc) := ⟨by rw [newM_nil l hl0]; exact hN.at.own.mono HX.out.2.size, ⟨_, hy⟩, hbw⟩
      simp only [zeroG] at z0 z1 z2 z3 z4 z5 z6 z7 z8 z9 z10 z11
      clear hN hy hbw hcell HN HX d0 h2
      go_wp2_with (refine wpList_copy_nothing rfl (.tmp 16) (.tmp 17) 22 22 rfl 3 Try.underlying22 hsi (some ⟨g2, 0, none⟩) A 256 256 l.length c rfl rfl (by rw [hl0]; rfl) ?_)
      refine bodyPost_ret (v := .tuple #[.agg #[.slice (some ⟨g1, 0, none⟩) 8 8, .int .i64 0, .int .i64 0, .bool false, .bool false, .int .i64 (-1), .int .i64 0, .int .i64 0, .slice (some ⟨g2, 0, none⟩) 256 256, .slice none 0 0, .int .i64 0, .int .i64 (-1)], .int .i64 0]) (by simp [results, Try.results32, go_sem, y0, y1, y2, y3, y4, y5, y6, y7, y8, y9, y10, y11]) rfl ?_
      exact ⟨.slice (some ⟨g1, 0, none⟩) 8 8, .slice (some ⟨g2, 0, none⟩) 256 256, .slice none 0 0, rfl, H4.out.1.set12 H4.out.2.1 _ _ _ _ _ _ _ _ _ _ _ _, below_set12 H4.out.2.2 (Nat.le_refl _) _ _ _ _ _ _ _ _ _ _ _ _⟩
    · obtain ⟨bb, off, rfl, hbb, hbc⟩ := hcell (by omega)
      have hcopy : ∀ j v, (l.map (Value.int .i64))[j]? = some v → wc.cell? ((⟨bb, off, none⟩ : Addr).add j) = some v := fun j v hv => by
        have hjl : j < l.length := by
          by_cases hh : j < l.length
          · exact hh
          · simp [List.getElem?_eq_none (show l.length ≤ j by omega)] at hv
        rw [Go.WideShapes.add_plain]
        have := (hbw.cell (p := ⟨bb, off + j, none⟩) hbb).trans (hbc j hjl)
        simp [hjl] at hv
        simpa [List.getD, hjl, hv] using this
      have hl256 : l.length ≤ 256 := by simp at d0; omega
      have HC : Hid ((∀ j v, (l.map (Value.int .i64))[j]? = some v → wc.cell? ((⟨bb, off, none⟩ : Addr).add j) = some v) ∧ (l.map (Value.int .i64)).length = Nat.min l.length 256 ∧ 0 + (l.map (Value.int .i64)).length ≤ (madeCells #[Value.int .i64 0] 256).size) :=
        ⟨hcopy, by simp only [List.length_map]; exact (Nat.min_eq_left hl256).symm, by simp only [List.length_map, size_madeCells]; simp; omega⟩
      have HI : Hid (∀ w', w' = wc.setRow g2 ((madeCells #[.int .i64 0] 256).toList.take 0 ++ (l.map (Value.int .i64) ++ (madeCells #[.int .i64 0] 256).toList.drop (0 + (l.map (Value.int .i64)).length))).toArray → w'.heap[b]? = some (.cells ((newM l).cells (.slice (some ⟨g1, 0, none⟩) 8 8) (.slice (some ⟨g2, 0, none⟩) 256 256) (.slice none 0 0)) 24 (0, 0)) ∧ w'.heap[w.heap.size]? = some (.cells zeroM 24 (0, 0)) ∧ OwnM w' w.heap.size (.slice (some ⟨g1, 0, none⟩) 8 8) (.slice (some ⟨g2, 0, none⟩) 256 256) (.slice none 0 0) (newM l) ∧ Below w.heap.size w w') := fun w' e => by
        obtain ⟨a1, a2⟩ := hN.at.image hN.r2 hl256 w' e
        have hB : Below w1.heap.size w1 w' := hN.old.trans a2
        exact ⟨a1.box, by rw [hB.block _ (lt_of_block HX.out.1)]; exact HX.out.1, a1.own.mono HX.out.2.size, HX.out.2.trans (hB.mono HX.out.2.size)⟩
      simp only [zeroG] at z0 z1 z2 z3 z4 z5 z6 z7 z8 z9 z10 z11
      clear hN hbw hcell HX d0 h2 hbc hcopy
      go_wp2_with (refine wpList_copy_exact rfl (.tmp 16) (.tmp 17) 22 22 rfl 3 Try.underlying22 hsi g2 0 256 256 ⟨bb, off, none⟩ l.length c rfl rfl (madeCells #[.int .i64 0] 256) 3 HN.out.r2 (l.map (Value.int .i64)) HC.out.2.1 HC.out.1 HC.out.2.2 (ints_oneCell _ _) ?_; intro w4 hw4; obtain ⟨h4, hy, ho4, hb4⟩ := HI.out w4 hw4; have H4 : Hid (OwnM w4 w.heap.size (.slice (some ⟨g1, 0, none⟩) 8 8) (.slice (some ⟨g2, 0, none⟩) 256 256) (.slice none 0 0) (newM l) ∧ IsBox w4 w.heap.size ∧ Below w.heap.size w w4) := ⟨ho4, ⟨_, hy⟩, hb4⟩; obtain ⟨⟨y0, y1, y2, y3, y4, y5, y6, y7, y8, y9, y10, y11⟩, yf, yl⟩ := twelve_cells hy; obtain ⟨⟨x0, x1, x2, x3, x4, x5, x6, x7, x8, x9, x10, x11⟩, xf, xl⟩ := twelve_cells h4; simp only [newM] at x0 x1 x2 x3 x4 x5 x6 x7 x8 x9 x10 x11; clear h4 hy ho4 hb4 hw4 z0 z1 z2 z3 z4 z5 z6 z7 z8 z9 z10 z11 zf zl)
      refine bodyPost_ret (v := .tuple #[.agg #[.slice (some ⟨g1, 0, none⟩) 8 8, .int .i64 0, .int .i64 0, .bool false, .bool false, .int .i64 (-1), .int .i64 0, .int .i64 0, .slice (some ⟨g2, 0, none⟩) 256 256, .slice none 0 0, .int .i64 0, .int .i64 (-1)], .int .i64 0]) (by simp [results, Try.results32, go_sem, y0, y1, y2, y3, y4, y5, y6, y7, y8, y9, y10, y11]) rfl ?_
      exact ⟨.slice (some ⟨g1, 0, none⟩) 8 8, .slice (some ⟨g2, 0, none⟩) 256 256, .slice none 0 0, rfl, H4.out.1.set12 H4.out.2.1 _ _ _ _ _ _ _ _ _ _ _ _, below_set12 H4.out.2.2 (Nat.le_refl _) _ _ _ _ _ _ _ _ _ _ _ _⟩

end Go.Proofs.Ytlcdefpdahjjead

/- Contracts of hourglasskeep.cpuTells and guest: a guest of instructions, with registers. -/

namespace Go.Proofs.Ytlcdefpdahjjead
open Go.RowKit

/-- What a register is set to. -/
def regF (x : Int) : Int := foldF (x.tmod 2199023255552)
/-- The first k registers are set. -/
def setRegs (l : List Int) (rs : List Int) : Nat → List Int
  | 0 => l
  | k + 1 => (setRegs l rs k).set k (regF (rs.getD k 0))
theorem setRegs_len (l rs : List Int) (k : Nat) : (setRegs l rs k).length = l.length := by
  induction k with
  | zero => rfl
  | succ k ih => simp [setRegs, ih]
/-- A guest of words, with registers. -/
def guestM (rs ws : List Int) (k : Nat) : Mach := { newM ws with regs := setRegs (List.replicate 8 0) rs k }

theorem newNo_len {l : List Int} (h : newNo l = 0) : l.length ≤ 256 := by
  by_cases e : 256 < l.length
  · simp [newNo, e] at h
  · omega
theorem newM_mem (l : List Int) (h : l.length ≤ 256) : (newM l).mem.length = 256 := by
  simp only [newM, List.length_append, List.length_replicate]; omega
theorem newM_regs (l : List Int) : (newM l).regs.length = 8 := by simp only [newM, List.length_replicate]

set_option maxHeartbeats 1000000 in
theorem cpuTells_any (w : World) : Calls Try.prog 17 #[] w fun e w' => e = .returned (.bool true) ∧ Below w.heap.size w w' := by
  have HN : Hid (∀ W, Calls Try.prog 32 #[.slice none 0 0] W fun e w' => ∃ rv' mv' ov', e = .returned (.tuple #[.agg ((newM []).cells rv' mv' ov'), .int .i64 0]) ∧ OwnM w' W.heap.size rv' mv' ov' (newM []) ∧ Below W.heap.size W w') := fun W => New_ok (.slice none 0 0) [] W ⟨none, 0, rfl, by simp, fun h => absurd h (by simp)⟩ (by decide)
  go_enter Try.func17, Try.ntmps17
  go_wp2_with fail
  refine (HN.out _).mono ?_
  rintro e w1 ⟨rv, mv, ov, rfl, ho, hb⟩
  obtain ⟨A, c, B, c', C, c'', rfl, rfl, rfl⟩ := ho.shape
  have hl : (newM []).mem.length = 256 := newM_mem [] (by simp)
  have HB : Hid (Below w.heap.size w w1) := hb
  rw [hl]
  clear ho hb hl HN
  simp only [Mach.cells]
  go_wp2_with fail
  go_ret
  exact ⟨rfl, HB.out.alloc HB.out.size _⟩

set_option maxHeartbeats 2000000 in
theorem guest_any (rv iv : Value) (rs : List Int) (L : List Ins) (w : World) (hr : IntsAt w rv rs) (hi : InsAt w iv L) (hrl : rs.length ≤ 8) (hwf : ∀ i, i < rs.length → -9223372036854775808 ≤ rs.getD i 0 ∧ rs.getD i 0 ≤ 9223372036854775807) (hno : newNo (L.map insWord) = 0) :
    Calls Try.prog 18 #[rv, iv] w fun e w' => ∃ rv' mv' ov', e = .returned (.tuple #[.agg ((guestM rs (L.map insWord) rs.length).cells rv' mv' ov'), .bool true]) ∧ OwnM w' w.heap.size rv' mv' ov' (guestM rs (L.map insWord) rs.length) ∧ Below w.heap.size w w' := by
  have HW : Hid (∀ W, Below w.heap.size w W → Calls Try.prog 33 #[iv] W fun e w' => ∃ v', e = .returned v' ∧ OwnI w' W.heap.size v' (L.map insWord) ∧ Below W.heap.size W w') := fun W hb => by
    refine kwords_any iv L W ?_
    obtain ⟨A, c, rfl, h1, h2⟩ := hi
    refine ⟨A, c, rfl, h1, fun h0 => ?_⟩
    obtain ⟨b, off, rfl, hb', hc⟩ := h2 h0
    refine ⟨b, off, rfl, Nat.lt_of_lt_of_le hb' hb.size, fun j hj => ?_⟩
    obtain ⟨c0, c1, c2, c3⟩ := hc j hj
    exact ⟨(hb.cell (p := ⟨b, off + j * 4, none⟩) hb').trans c0, (hb.cell (p := ⟨b, off + j * 4 + 1, none⟩) hb').trans c1, (hb.cell (p := ⟨b, off + j * 4 + 2, none⟩) hb').trans c2, (hb.cell (p := ⟨b, off + j * 4 + 3, none⟩) hb').trans c3⟩
  have hl : (L.map insWord).length ≤ 256 := newNo_len hno
  obtain ⟨ws, ew⟩ : ∃ ws, ws = L.map insWord := ⟨_, rfl⟩
  rw [← ew] at HW hno hl ⊢
  have HR : Hid (IntsAt w rv rs) := hr
  have HNO : Hid (newNo ws = 0 ∧ ws.length ≤ 256) := ⟨hno, hl⟩
  have HWF : Hid (∀ i, i < rs.length → -9223372036854775808 ≤ rs.getD i 0 ∧ rs.getD i 0 ≤ 9223372036854775807) := hwf
  obtain ⟨RA, rc, rfl, hr8, hrc⟩ := hr
  clear hi ew hno hl hrc hwf
  go_enter Try.func18, Try.ntmps18
  go_wp2_with fail
  refine (HW.out _ (below_alloc _ _)).mono ?_
  rintro e w1 ⟨v', rfl, ho1, hb1⟩
  have HX : Hid (w1.heap[w.heap.size]? = some (.cells zeroM 24 (0, 0)) ∧ Below w.heap.size w w1) := ⟨box_kept hb1, (below_alloc _ _).trans (hb1.mono (by simp))⟩
  have HI : Hid (IntsAt w1 v' ws) := ho1.at (by have := HNO.out.2; omega)
  obtain ⟨VA, vc, rfl⟩ := ho1.shape
  clear ho1 hb1 HW
  go_wp2_with fail
  refine (New_ok _ ws _ HI.out HNO.out.1).mono ?_
  rintro e w2 ⟨rv2, mv2, ov2, rfl, ho2, hb2⟩
  obtain ⟨g, c, rfl, -, -, -, -⟩ := ho2.regs.opened (by rw [newM_regs]; decide)
  obtain ⟨B, c', rfl⟩ := ho2.mem.shape
  obtain ⟨C, c'', rfl⟩ := ho2.out.shape
  rw [newM_regs, newM_mem ws HNO.out.2, show (newM ws).out.length = 0 from rfl] at *
  have HX2 : Hid (w2.heap[w.heap.size]? = some (.cells zeroM 24 (0, 0)) ∧ Below w.heap.size w w2 ∧ w.heap.size < w1.heap.size ∧ w1.heap.size ≤ w2.heap.size ∧ w.heap.size ≤ w1.heap.size) := ⟨by rw [hb2.block _ (lt_of_block HX.out.1)]; exact HX.out.1, HX.out.2.trans (hb2.mono HX.out.2.size), lt_of_block HX.out.1, hb2.size, HX.out.2.size⟩
  have hP : AtP (w2.alloc (.cells ((newM ws).cells (.slice (some ⟨g, 0, none⟩) 8 c) (.slice B 256 c') (.slice C 0 c'')) 24)) w1.heap.size w2.heap.size (.slice (some ⟨g, 0, none⟩) 8 c) (.slice B 256 c') (.slice C 0 c'') (guestM rs ws 0) := ⟨Go.Deep.blk_alloc_new _ _, ho2.below (below_alloc _ _), hb2.size⟩
  have hB : Below w1.heap.size w1 (w2.alloc (.cells ((newM ws).cells (.slice (some ⟨g, 0, none⟩) 8 c) (.slice B 256 c') (.slice C 0 c'')) 24)) := hb2.alloc hb2.size _
  have HP : Hid (_ ∧ _) := ⟨hP, hB⟩
  clear hb2 ho2 HI hP hB
  simp only [newM, Mach.cells]
  go_wp2_with fail
  go_loopw [18] (fun i wr => ∃ k : Nat, k ≤ rs.length ∧ i = .int .i64 k ∧ Hid (AtP wr w1.heap.size w2.heap.size (.slice (some ⟨g, 0, none⟩) 8 c) (.slice B 256 c') (.slice C 0 c'') (guestM rs ws k)) ∧ Hid (Below w1.heap.size w1 wr)) (fun i _ => rs.length - (intOf i).toNat)
  case atStart => exact ⟨0, Nat.zero_le _, rfl, HP.out.1, HP.out.2⟩
  case round =>
    clear HP
    obtain ⟨k, hk, rfl, hA, hB⟩ := hrel
    obtain ⟨⟨z0, z1, z2, z3, z4, z5, z6, z7, z8, z9, z10, z11⟩, zf, zl⟩ := twelve_cells hA.out.box
    have hBw : Below w.heap.size w wr := HX.out.2.trans (hB.out.mono HX.out.2.size)
    have hreg8 : (guestM rs ws k).regs.length = 8 := by show (setRegs _ _ _).length = 8; rw [setRegs_len]; simp
    by_cases hlt : k < rs.length
    · obtain ⟨RA', rc', hRA, -, hcell⟩ := HR.out
      simp only [Value.slice.injEq] at hRA
      obtain ⟨rfl, -, rfl⟩ := hRA
      obtain ⟨rb, ro, rfl, hrb, hcc⟩ := hcell (by omega)
      have s0 := (hBw.cell (p := ⟨rb, ro + k, none⟩) hrb).trans (hcc k hlt)
      obtain ⟨q3, q4, q5⟩ := hA.out.reg_cell hreg8 (k := (k : Int)) (by omega) (by omega)
      rw [Int.toNat_natCast] at q3
      obtain ⟨x1, x2⟩ := HWF.out k hlt
      have HG : Hid (guestM rs ws (k + 1) = { guestM rs ws k with regs := (guestM rs ws k).regs.set k (regF (rs.getD k 0)) }) := rfl
      have hk8 : (k : Int) < 8 := by omega
      clear hcell hcc hBw hreg8 z1 z2 z3 z4 z5 z6 z7 z8 z9 z10 z11
      unfold regF at HG
      revert s0 HG x1 x2
      generalize rs.getD k 0 = x
      intro s0 x1 x2 HG
      have HM := tmod_sign x 2199023255552
      have b1 : -2199023255552 ≤ x.tmod 2199023255552 := by omega
      have b2 : x.tmod 2199023255552 ≤ 2199023255552 := by omega
      clear HM
      go_wp2_with fail
      go_still_tail 7, (by kernel_rfl)
      still_call (Fold_same _ _ (by omega) (by omega))
      repeat still_step
      refine wpStill_nil ?_
      go_wp2_with fail
      have r1 := hA.out.drew.putReg k (foldF (x.tmod 2199023255552))
      rw [← HG.out] at r1
      refine ⟨⟨k + 1, by omega, by go_num, r1.1, (hB.out.drew).trans r1.2⟩, ?_⟩
      simp [intOf]; omega
    · obtain rfl : k = rs.length := by omega
      have hy : wr.heap[w.heap.size]? = some (.cells zeroM 24 (0, 0)) := by rw [hB.out.block _ (lt_of_block HX.out.1)]; exact HX.out.1
      obtain ⟨⟨y0, y1, y2, y3, y4, y5, y6, y7, y8, y9, y10, y11⟩, yf, yl⟩ := twelve_cells hy
      have H4 : Hid (OwnM wr w.heap.size (.slice (some ⟨g, 0, none⟩) 8 c) (.slice B 256 c') (.slice C 0 c'') (guestM rs ws rs.length) ∧ IsBox wr w.heap.size ∧ Below w.heap.size w wr) := ⟨hA.out.own.mono HX.out.2.size, ⟨_, hy⟩, hBw⟩
      clear hA hB hBw hreg8 hy HX HX2
      go_wp2_with fail
      refine bodyPost_ret (v := .tuple #[.agg ((guestM rs ws rs.length).cells (.slice (some ⟨g, 0, none⟩) 8 c) (.slice B 256 c') (.slice C 0 c'')), .bool true]) (by simp [results, Try.results18, go_sem, Mach.cells, y0, y1, y2, y3, y4, y5, y6, y7, y8, y9, y10, y11]) rfl ?_
      exact ⟨_, _, _, rfl, H4.out.1.set12 H4.out.2.1 _ _ _ _ _ _ _ _ _ _ _ _, below_set12 H4.out.2.2 (Nat.le_refl _) _ _ _ _ _ _ _ _ _ _ _ _⟩

end Go.Proofs.Ytlcdefpdahjjead

/- What the laws over single steps lean on: a step as plain things; instructions in new memory; a guest in a variable. -/

namespace Go.Proofs.Ytlcdefpdahjjead
open Go.RowKit

/-- A guest in block b. -/
structure BoxM (wr : World) (b : Nat) (rv mv ov : Value) (m : Mach) : Prop where
  box : wr.heap[b]? = some (.cells (m.cells rv mv ov) 24 (0, 0))
  dat : MachAt wr rv mv ov m
theorem BoxM.below {w w' : World} {b : Nat} {rv mv ov : Value} {m : Mach} (h : BoxM w b rv mv ov m) (hb : Below w.heap.size w w') : BoxM w' b rv mv ov m := ⟨by rw [hb.block _ (lt_of_block h.box)]; exact h.box, h.dat.below hb⟩
theorem MayP.fits {m : Mach} (h : MayP m) : MachFits m := ⟨by rw [h.regs]; decide, by rw [h.mem]; decide, by have := h.out; omega⟩
/-- A guest that a call has answered is put into a new variable. -/
theorem BoxM.new {w : World} {lo : Nat} {rv mv ov : Value} {m : Mach} (h : OwnM w lo rv mv ov m) (hm : MayP m) : BoxM (w.alloc (.cells (m.cells rv mv ov) 24)) w.heap.size rv mv ov m :=
  ⟨Go.Deep.blk_alloc_new _ _, (h.at hm.fits).below (below_alloc _ _)⟩

/-- What lies in a struct of guests' type, its fields stored one by one. -/
theorem box_set12 {w : World} {b : Nat} {c : Array Value} (h : w.heap[b]? = some (.cells c 24 (0, 0))) (hc : c.size = 12) (x0 x1 x2 x3 x4 x5 x6 x7 x8 x9 x10 x11 : Value) :
    ((((((((((((w.setCell ⟨b, 0, none⟩ x0).setCell ⟨b, 1, none⟩ x1).setCell ⟨b, 2, none⟩ x2).setCell ⟨b, 3, none⟩ x3).setCell ⟨b, 4, none⟩ x4).setCell ⟨b, 5, none⟩ x5).setCell ⟨b, 6, none⟩ x6).setCell ⟨b, 7, none⟩ x7).setCell ⟨b, 8, none⟩ x8).setCell ⟨b, 9, none⟩ x9).setCell ⟨b, 10, none⟩ x10).setCell ⟨b, 11, none⟩ x11).heap[b]? = some (.cells #[x0, x1, x2, x3, x4, x5, x6, x7, x8, x9, x10, x11] 24 (0, 0)) := by
  have e := box_set (i := 11) (box_set (i := 10) (box_set (i := 9) (box_set (i := 8) (box_set (i := 7) (box_set (i := 6) (box_set (i := 5) (box_set (i := 4) (box_set (i := 3) (box_set (i := 2) (box_set (i := 1) (box_set (i := 0) h x0) x1) x2) x3) x4) x5) x6) x7) x8) x9) x10) x11
  rw [e]
  obtain ⟨l⟩ := c
  rcases l with _ | ⟨a0, _ | ⟨a1, _ | ⟨a2, _ | ⟨a3, _ | ⟨a4, _ | ⟨a5, _ | ⟨a6, _ | ⟨a7, _ | ⟨a8, _ | ⟨a9, _ | ⟨a10, _ | ⟨a11, _ | ⟨a12, l⟩⟩⟩⟩⟩⟩⟩⟩⟩⟩⟩⟩⟩ <;> simp at hc ⊢

/-- A step, as plain things. -/
theorem StepQ (m m2 : Mach) (irq : Bool) (value k : Int) (rv mv ov : Value) (w : World) (ha : MachAt w rv mv ov m) (hm : MayP m) (hv : wordB value = true) (hct : m.count < 1099511627776) (hs : m.step irq [] value = (m2, k)) :
    Calls Try.prog 10 #[.agg (m.cells rv mv ov), .bool irq, .slice none 0 0, .int .i64 value] w fun e w' => ∃ A c B c' C c'', e = .returned (.tuple #[.agg (m2.cells (.slice A m2.regs.length c) (.slice B m2.mem.length c') (.slice C m2.out.length c'')), .int .i64 k, .int .i64 0]) ∧ OwnM w' w.heap.size (.slice A m2.regs.length c) (.slice B m2.mem.length c') (.slice C m2.out.length c'') m2 ∧ Below w.heap.size w w' := by
  have hno : stepNo m [] value = 0 := by
    have h1 : (m.count == 1099511627776) = false := by simp; omega
    simp [stepNo, mayP_iff.2 hm, allB, hv, h1]
  have := Step_ok m rv mv ov irq none 0 [] value w ha ⟨none, 0, rfl, by simp, fun h => absurd h (by simp)⟩ hm rfl (Or.inl rfl) hct hno
  rw [hs] at this
  refine this.mono ?_
  rintro e w' ⟨rv', mv', ov', rfl, ho, hb⟩
  obtain ⟨A, c, B, c', C, c'', rfl, rfl, rfl⟩ := ho.shape
  exact ⟨A, c, B, c', C, c'', rfl, ho, hb⟩

/-- Instructions, as they lie in memory. -/
def insCells : List Ins → List Value
  | [] => []
  | i :: L => .int .i64 i.1 :: .int .i64 i.2.1 :: .int .i64 i.2.2.1 :: .int .i64 i.2.2.2 :: insCells L
theorem insCells_at (L : List Ins) (j : Nat) (h : j < L.length) : (insCells L)[j * 4]? = some (.int .i64 (L.getD j (0, 0, 0, 0)).1) ∧ (insCells L)[j * 4 + 1]? = some (.int .i64 (L.getD j (0, 0, 0, 0)).2.1) ∧ (insCells L)[j * 4 + 2]? = some (.int .i64 (L.getD j (0, 0, 0, 0)).2.2.1) ∧ (insCells L)[j * 4 + 3]? = some (.int .i64 (L.getD j (0, 0, 0, 0)).2.2.2) := by
  induction L generalizing j with
  | nil => simp at h
  | cons i L ih =>
    cases j with
    | zero => exact ⟨rfl, rfl, rfl, rfl⟩
    | succ j =>
      have := ih j (by simpa using h)
      rw [show (j + 1) * 4 = j * 4 + 1 + 1 + 1 + 1 by omega]
      simpa [insCells, Nat.add_assoc] using this
theorem InsAt.of {w : World} {b c : Nat} {t : TypeId} (L : List Ins) (h : w.heap[b]? = some (.cells (insCells L).toArray t (0, 0))) (hl : L.length ≤ 1000) : InsAt w (.slice (some ⟨b, 0, none⟩) L.length c) L := by
  refine ⟨_, c, rfl, hl, fun _ => ⟨b, 0, rfl, lt_of_block h, fun j hj => ?_⟩⟩
  obtain ⟨c0, c1, c2, c3⟩ := insCells_at L j hj
  simp only [World.cell?, h, Nat.zero_add]
  refine ⟨?_, ?_, ?_, ?_⟩ <;> simpa using ‹_›
theorem IntsAt.of {w : World} {b c : Nat} (l : List Int) (h : w.heap[b]? = some (.cells (l.map (Value.int .i64)).toArray 3 (0, 0))) (hl : l.length ≤ 1000) : IntsAt w (.slice (some ⟨b, 0, none⟩) l.length c) l := by
  refine ⟨_, c, rfl, by omega, fun _ => ⟨b, 0, rfl, lt_of_block h, fun j hj => ?_⟩⟩
  simp only [World.cell?, h, Nat.zero_add]
  simp [hj, List.getD]

theorem step_quiet {m : Mach} (hf : m.fin = 0) (hw : m.wait = false) (v : Int) : m.step false [] v = m.counted.run1 v := by
  obtain ⟨r, p, k, i, t, a, n, f, mm, o, y, q⟩ := m
  simp only at hf hw
  subst hf hw
  simp [Mach.step, Mach.told, Mach.enter]
theorem run_at {m : Mach} (p x v : Int) (ht : m.table = -1) (hp : m.pc = p) (h0 : 0 ≤ p) (h1 : p ≤ 255) (hx : m.mem.getD p.toNat 0 = x) (hd : decNo x = 0) : m.run1 v = m.exec (x % 16) (x / 16 % 8) (x / 128 % 8) (x / 1024) v := by
  subst hp
  have e1 : m.meantE m.pc false = 0 := by simp [Mach.meantE, inB_yes h0 h1, ht]
  have e2 : m.meantK m.pc false = m.pc := by simp [Mach.meantK, e1, ht]
  have e3 : m.nextX = x := by unfold Mach.nextX; rw [e2]; exact hx
  simp [Mach.run1, Mach.nextE, e1, e3, hd]
theorem regF_word (x : Int) : wordB (regF x) = true := foldF_word _

/-- A guest with these words and registers may be. -/
theorem setRegs_all (rs : List Int) (k : Nat) : allB (setRegs (List.replicate 8 0) rs k) = true := by
  induction k with
  | zero => show allB (List.replicate 8 0) = true; decide
  | succ k ih => exact allB_set ih (regF_word _)
theorem allB_append {l l' : List Int} (h : allB l = true) (h' : allB l' = true) : allB (l ++ l') = true := by unfold allB at *; simp [List.all_append, h, h']
theorem allB_zeros (n : Nat) : allB (List.replicate n 0) = true := by unfold allB; rw [List.all_eq_true]; intro x hx; obtain ⟨-, rfl⟩ := List.mem_replicate.1 hx; decide
theorem guestM_may (rs ws : List Int) (k : Nat) (h : newNo ws = 0) : MayP (guestM rs ws k) := by
  have hl := newNo_len h
  have ha : allB ws = true := by
    cases e : allB ws with
    | true => rfl
    | false => exact absurd h (by simp [newNo, show ¬ 256 < ws.length by omega, e])
  exact ⟨by show (setRegs _ _ _).length = 8; rw [setRegs_len]; simp, newM_mem ws hl, by show [].length ≤ 200; simp, setRegs_all rs k, allB_append ha (allB_zeros _), rfl, show wordB 0 = true by decide, show wordB 0 = true by decide, show (-1 : Int) ≤ -1 ∧ (-1 : Int) ≤ 15 by decide, show (0 : Int) ≤ 0 ∧ (0 : Int) ≤ 1099511627776 by decide, show (0 : Int) ≤ 0 ∧ (0 : Int) ≤ 4 by decide, show (0 : Int) ≤ 0 ∧ (0 : Int) ≤ 1 by decide, show (-1 : Int) ≤ -1 ∧ (-1 : Int) ≤ 15 by decide⟩

/-- What an instruction leaves of a guest that may be. -/
theorem MayP.exec {m : Mach} (h : MayP m) (op : Int) {a k n v : Int} (ha : 0 ≤ a ∧ a ≤ 7) (hn : -1048576 ≤ n ∧ n ≤ 1048575) (hv : wordB v = true) : MayP (m.exec op a k n v).1 := by
  have hnw : wordB n = true := wordB_iff.2 ⟨by omega, by omega⟩
  have hrw : wordB m.ready = true := wordB_iff.2 ⟨by have := h.ready; omega, by have := h.ready; omega⟩
  have haw : wordB (m.reg a) = true := reg_word h ha
  have hmem : ∀ {x : Int} {wr : Bool}, m.meantE x wr = 0 → wordB (m.mem.getD (m.meantK x wr).toNat 0) = true := fun {x wr} e => allB_iff.1 h.amem _ (by have := meant_bd e; have := h.mem; omega)
  have hst : ∀ {K : Nat}, MayP { m with mem := m.mem.set K (m.reg a) } := fun {K} => ⟨h.regs, by simp [h.mem], h.out, h.aregs, allB_set h.amem haw, h.aout, h.pc, h.back, h.table, h.count, h.fin, h.ready, h.want⟩
  have hin : ∀ {x : Bool}, MayP { m with ints := x } := fun {x} => ⟨h.regs, h.mem, h.out, h.aregs, h.amem, h.aout, h.pc, h.back, h.table, h.count, h.fin, h.ready, h.want⟩
  have hout : m.out.length < 200 → MayP { m with out := m.out ++ [m.reg a] } := fun hl => ⟨h.regs, h.mem, by simp; omega, h.aregs, h.amem, allB_append h.aout (by simp [allB, haw]), h.pc, h.back, h.table, h.count, h.fin, h.ready, h.want⟩
  have hask : 0 ≤ m.reg a ∧ m.reg a ≤ 15 → MayP { m with want := m.reg a, ready := 0 } := fun hl => ⟨h.regs, h.mem, h.out, h.aregs, h.amem, h.aout, h.pc, h.back, h.table, h.count, h.fin, ⟨by simp, by simp⟩, ⟨by show -1 ≤ m.reg a; omega, by show m.reg a ≤ 15; omega⟩⟩
  have htab : -1 ≤ m.reg a ∧ m.reg a ≤ 15 → MayP { m with table := m.reg a } := fun hl => ⟨h.regs, h.mem, h.out, h.aregs, h.amem, h.aout, h.pc, h.back, hl, h.count, h.fin, h.ready, h.want⟩
  unfold Mach.exec
  by_cases o0 : op = 0
  · rw [if_pos o0]
    exact h.ends (by decide)
  rw [if_neg o0]
  by_cases o1 : op = 1
  · rw [if_pos o1]
    exact (h.setReg _ hnw).go _
  rw [if_neg o1]
  by_cases o2 : op = 2
  · rw [if_pos o2]
    exact (h.setReg _ (foldF_word _)).go _
  rw [if_neg o2]
  by_cases o3 : op = 3
  · rw [if_pos o3]
    exact (h.setReg _ (foldF_word _)).go _
  rw [if_neg o3]
  by_cases o4 : op = 4
  · rw [if_pos o4]
    exact (h.setReg _ (foldF_word _)).go _
  rw [if_neg o4]
  by_cases o5 : op = 5
  · rw [if_pos o5]
    by_cases e : m.meantE (m.reg k + n) false = 0
    · rw [if_pos e]; exact (h.setReg _ (hmem e)).go _
    · rw [if_neg e]; exact h.ends (meantE_bd _ _ _)
  rw [if_neg o5]
  by_cases o6 : op = 6
  · rw [if_pos o6]
    by_cases e : m.meantE (m.reg k + n) true = 0
    · rw [if_pos e]; exact hst.go _
    · rw [if_neg e]; exact h.ends (meantE_bd _ _ _)
  rw [if_neg o6]
  by_cases o7 : op = 7
  · rw [if_pos o7]
    exact h.go _
  rw [if_neg o7]
  by_cases o8 : op = 8
  · rw [if_pos o8]
    exact h.go _
  rw [if_neg o8]
  by_cases o9 : op = 9
  · rw [if_pos o9]
    exact h.go _
  rw [if_neg o9]
  by_cases o10 : op = 10
  · rw [if_pos o10]
    by_cases e : n = 0 ∨ n = 1
    · rw [if_pos e]; exact (h.setReg _ hv).go _
    · rw [if_neg e]
      by_cases e2 : n = 2
      · rw [if_pos e2]; exact (h.setReg _ hrw).go _
      · rw [if_neg e2]; exact h.ends (by decide)
  rw [if_neg o10]
  by_cases o11 : op = 11
  · rw [if_pos o11]
    by_cases e : n = 3
    · rw [if_pos e]
      by_cases e2 : m.out.length < 200
      · rw [if_pos e2]; exact (hout e2).go _
      · rw [if_neg e2]; exact h.go _
    · rw [if_neg e]
      by_cases e2 : n = 4 ∧ 0 ≤ m.reg a ∧ m.reg a ≤ 15
      · rw [if_pos e2]
        by_cases e3 : m.want = -1
        · rw [if_pos e3]; exact (hask e2.2).go _
        · rw [if_neg e3]; exact h.go _
      · rw [if_neg e2]; exact h.ends (by decide)
  rw [if_neg o11]
  by_cases o12 : op = 12
  · rw [if_pos o12]
    exact hin.go _
  rw [if_neg o12]
  by_cases o13 : op = 13
  · rw [if_pos o13]
    exact hin.go _
  rw [if_neg o13]
  by_cases o14 : op = 14
  · rw [if_pos o14]
    by_cases e : -1 ≤ m.reg a ∧ m.reg a ≤ 15
    · rw [if_pos e]; exact (htab e).go _
    · rw [if_neg e]; exact h.ends (by decide)
  rw [if_neg o14]
  exact h.go _
theorem MayP.run1 {m : Mach} (h : MayP m) {v : Int} (hv : wordB v = true) : MayP (m.run1 v).1 := by
  unfold Mach.run1
  split
  · next e =>
    have hd : decNo m.nextX = 0 := by
      unfold Mach.nextE at e
      split at e
      · split at e
        · next hd => exact hd
        · exact absurd e (by decide)
      · next h1 => exact absurd e h1
    obtain ⟨-, b1, -, b3⟩ := instrNo_bd hd
    exact h.exec _ b1 b3 hv
  · exact h.ends (nextE_bd m)
theorem MayP.step {m : Mach} (h : MayP m) (irq : Bool) {blk : List Int} (hb : allB blk = true) (hl : blk.length = 0 ∨ blk.length = 16) {v : Int} (hv : wordB v = true) (hc : m.count < 1099511627776) : MayP (m.step irq blk v).1 := by
  unfold Mach.step
  split
  · have e : ((m.told irq blk).enter).count = m.count := by rw [(enter_count _).1, (told_count _ _ _).1]
    exact MayP.run1 (((h.told irq hb hl).enter).counted (by omega)) hv
  · exact h

/-- A guest that a step has answered is put in the place of the one ahead. -/
theorem BoxM.put {w : World} {lo b : Nat} {rv mv ov rv' mv' ov' : Value} {m m' : Mach} (h : BoxM w b rv mv ov m) (ho : OwnM w lo rv' mv' ov' m') (hm : MayP m') (o : Obj) :
    BoxM (((((((((((((w.setCell ⟨b, 0, none⟩ rv').setCell ⟨b, 1, none⟩ (.int .i64 m'.pc)).setCell ⟨b, 2, none⟩ (.int .i64 m'.back)).setCell ⟨b, 3, none⟩ (.bool m'.ints)).setCell ⟨b, 4, none⟩ (.bool m'.wait)).setCell ⟨b, 5, none⟩ (.int .i64 m'.table)).setCell ⟨b, 6, none⟩ (.int .i64 m'.count)).setCell ⟨b, 7, none⟩ (.int .i64 m'.fin)).setCell ⟨b, 8, none⟩ mv').setCell ⟨b, 9, none⟩ ov').setCell ⟨b, 10, none⟩ (.int .i64 m'.ready)).setCell ⟨b, 11, none⟩ (.int .i64 m'.want)).alloc o) b rv' mv' ov' m' := by
  refine BoxM.below ⟨box_set12 h.box rfl _ _ _ _ _ _ _ _ _ _ _ _, ?_⟩ (below_alloc _ _)
  exact (ho.set12 ⟨_, h.box⟩ _ _ _ _ _ _ _ _ _ _ _ _).at hm.fits

end Go.Proofs.Ytlcdefpdahjjead
