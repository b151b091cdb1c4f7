/- Contract of hourglassref.EventsOf, in one. -/
import Derived.Test.YtbjlfhpiebokkaaDoorTpEPart
import Derived.Test.YtbjlfhpiebokkaaDoorInfoPart
import Derived.Test.YtbjlfhpiebokkaaDoorToldCPart
import Derived.Test.YtbjlfhpiebokkaaDoorPtrPart
import Derived.Test.YtbjlfhpiebokkaaDoorTpPart
import Derived.Maps.AppendAt
namespace Go.Proofs.YtbjlfhpiebokkaaDoor
open Go.RowKit
set_option maxRecDepth 100000

theorem EventsOf_any (v : Value) (l : List Int) (w : World) (h : BytesAt w v l) (hc : ∃ A c, v = .slice A l.length c ∧ l.length ≤ c) :
    Calls Tryd.prog 75 #[v] w fun e w' => ∃ u, e = .returned (.tuple #[u, .int .i64 (decD l).1]) ∧ DecQ w w' u (decD l) := by
  obtain ⟨A, c, rfl, hcap⟩ := hc
  have h' := h
  obtain ⟨A', c', e, hl, hy, hcell⟩ := h'
  simp only [Value.slice.injEq] at e
  obtain ⟨rfl, -, rfl⟩ := e
  have fin : ∀ (en : Int), en ≠ 0 → decD l = (en, []) → (Calls Tryd.prog 75 #[.slice A l.length c] w fun e w' => e = .returned (.tuple #[.slice none 0 0, .int .i64 en]) ∧ Below w.heap.size w w') → Calls Tryd.prog 75 #[.slice A l.length c] w fun e w' => ∃ u, e = .returned (.tuple #[u, .int .i64 (decD l).1]) ∧ DecQ w w' u (decD l) := fun en h0 E H => H.mono fun e w' ⟨he, hb⟩ => ⟨_, by rw [E]; exact he, hb, fun e0 => by rw [E] at e0; exact absurd e0 h0, fun _ => rfl⟩
  by_cases h1 : 60000 < l.length
  · refine fin 1 (by simp) (by unfold decD; rw [if_pos h1]) ?_
    exact (EventsOf_size A l.length c w h1 hl).mono fun e w' ⟨he, hw⟩ => ⟨he, by rw [hw]; exact Below.refl _ _⟩
  by_cases h2 : l.length ≤ 4
  · refine fin 5 (by simp) (by unfold decD; rw [if_neg h1, if_pos h2]) ?_
    exact (EventsOf_short A l.length c w h2).mono fun e w' ⟨he, hw⟩ => ⟨he, by rw [hw]; exact Below.refl _ _⟩
  obtain ⟨b, off, rfl, hlt, hj⟩ := hcell (by omega)
  by_cases h3 : l.drop (l.length - 4) = sumB (l.take (l.length - 4))
  · refine EventsOf_body b off c l w h hcap (by omega) (by omega) h3 (decD l) ?_
    unfold decD
    rw [if_neg h1, if_neg h2, if_neg (by simp [h3])]
  · exact fin 10 (by simp) (by unfold decD; rw [if_neg h1, if_neg h2, if_pos h3]) (EventsOf_sum b off c l w h hcap (by omega) (by omega) h3)

end Go.Proofs.YtbjlfhpiebokkaaDoor

/- Contract of hourglassref.words: new memory that holds the same numbers. -/

namespace Go.Proofs.YtbjlfhpiebokkaaDoor
open Go.RowKit

set_option maxHeartbeats 1000000 in
theorem words_some (v : Value) (l : List Int) (w : World) (h : IntsAt w v l) :
    Calls Tryd.prog 33 #[v] w fun e w' => ∃ v', e = .returned v' ∧ OwnI w' w.heap.size v' l ∧ Below w.heap.size w w' := by
  obtain ⟨A, c, rfl, hl, hc⟩ := h
  obtain ⟨i0, hi, hz0, hz1, hz2⟩ := info_parts infoInt
  go_enter Tryd.func33, Tryd.ntmps33
  go_wp2
  go_loopw [3, 4] (fun o i wr => ∃ k : Nat, k ≤ l.length ∧ i = .int .i64 k ∧ Hid (OwnI wr w.heap.size o (l.take k)) ∧ Below w.heap.size w wr) (fun _ i _ => l.length - (intOf i).toNat)
  case atStart => exact ⟨0, Nat.zero_le _, rfl, World.ownsRow_nil _ _ _ _, Below.refl _ _⟩
  case round =>
    obtain ⟨k, hk, rfl, hown, hnx⟩ := hrel
    by_cases hlt : k < l.length
    · obtain ⟨b, off, rfl, hbs, hcell⟩ := hc (by omega)
      have h1 : wr.cell? ⟨b, off + k, none⟩ = some (.int .i64 (l.getD k 0)) := (hnx.cell (p := ⟨b, off + k, none⟩) hbs).trans (hcell k hlt)
      have hsz := hnx.size
      have HT := take_snoc l k hlt
      have HT' : Hid (l.take (k + 1) = l.take k ++ [l.getD k 0]) := HT
      have hlk : Hid ((l.take k).length = k) := by show _ = _; simp; omega
      clear HT hcell hc
      revert h1 HT'
      generalize l.getD k 0 = x
      intro h1 HT'
      revert hown HT' hlk
      generalize l.take k = lk
      intro hown hlk HT'
      go_wp2_with (first
        | (at_builtin; refine wpList_append_own _ rfl _ _ 22 rfl w.heap.size 3 i0 (.int .i64 0) 1 8 Tryd.underlying22 hi hz0 hz1 hz2 rfl (by decide) _ _ _ rfl (hown.out.alloc _) ⟨wr.heap.size, 0, none⟩ 1 1 [.int .i64 x] rfl rfl ?c1 ?c2 ?c3 ?c4 ?c5 ?_))
      case c1 => exact cell_one_new _ _ _
      case c2 => intro u hu; simp at hu; subst hu; rfl
      case c3 => have := hlk.out; unfold maxLen; omega
      case c4 => have := hlk.out; omega
      case c5 => simp; omega
      intro v' w1 hown' hgrow _
      have R1 : Hid (OwnI w1 w.heap.size v' (l.take (k + 1))) := OwnI.snoc hown' HT'.out
      have R2 : Below w.heap.size w w1 := grown_below hnx hown.out (Nat.le_refl _) hsz hgrow
      clear hown' hgrow hown h1 hnx
      go_wp2
      refine ⟨⟨k + 1, by omega, by go_num, R1, R2⟩, ?_⟩
      simp [intOf]; omega
    · clear hc
      go_wp2
      go_ret
      exact ⟨_, rfl, by have := hown.out; rwa [List.take_of_length_le (by omega)] at this, hnx⟩

theorem words_any (v : Value) (l : List Int) (w : World) (h : IntsAt w v l) :
    Calls Tryd.prog 33 #[v] w fun e w' => ∃ A c, e = .returned (.slice A l.length c) ∧ OwnI w' w.heap.size (.slice A l.length c) l ∧ Below w.heap.size w w' :=
  (words_some v l w h).mono fun e w' ⟨v', he, ho, hb⟩ => by
    obtain ⟨A, c, rfl⟩ := ho.shape
    exact ⟨A, c, he, ho, hb⟩

end Go.Proofs.YtbjlfhpiebokkaaDoor

/- Contract of hourglassref.GuestNew, where it refuses. -/

namespace Go.Proofs.YtbjlfhpiebokkaaDoor
open Go.RowKit

set_option maxHeartbeats 2000000 in
theorem GuestNew_no (v : Value) (l : List Int) (w : World) (h : IntsAt w v l) (hn : newNo l ≠ 0) :
    Calls Tryd.prog 30 #[v] w fun e w' => e = .returned (.tuple #[.agg zeroM, .int .i64 (newNo l)]) ∧ Below w.heap.size w w' := by
  have H : Hid (IntsAt w v l) := h
  obtain ⟨A, c, rfl, hl, hc⟩ := h
  clear hc
  obtain ⟨⟨y0, y1, y2, y3, y4, y5, y6, y7, y8, y9, y10, y11⟩, yf, yl⟩ := twelve_cells (Go.Deep.blk_alloc_new w (.cells zeroM 30))
  by_cases h1 : 256 < l.length
  · rw [show newNo l = 1 by simp [newNo, h1]]
    have d0 : decide (256 < (l.length : Int)) = true := by simp; omega
    clear hn h1
    go_enter Tryd.func30, Tryd.ntmps30
    go_wp2_with fail
    refine bodyPost_ret (v := .tuple #[.agg zeroM, .int .i64 1]) (by simp [results, Tryd.results30, go_sem, y0, y1, y2, y3, y4, y5, y6, y7, y8, y9, y10, y11]) rfl ?_
    exact ⟨rfl, below_alloc _ _⟩
  · have h2 : allB l = false := by
      cases e : allB l with
      | false => rfl
      | true => exact absurd (by simp [newNo, h1, e]) hn
    rw [show newNo l = 2 by simp [newNo, h1, h2]]
    have d0 : decide (256 < (l.length : Int)) = false := by simp; omega
    clear hn h1
    go_enter Tryd.func30, Tryd.ntmps30
    go_wp2_with fail
    refine (wordsMay_any _ l _ (H.out.below (below_alloc _ _))).mono ?_
    rw [h2]
    rintro e w1 ⟨rfl, rfl⟩
    go_wp2_with fail
    refine bodyPost_ret (v := .tuple #[.agg zeroM, .int .i64 2]) (by simp [results, Tryd.results30, go_sem, y0, y1, y2, y3, y4, y5, y6, y7, y8, y9, y10, y11]) rfl ?_
    exact ⟨rfl, below_alloc _ _⟩

end Go.Proofs.YtbjlfhpiebokkaaDoor

/- Contract of hourglassref.GuestNew, where it answers. -/

namespace Go.Proofs.YtbjlfhpiebokkaaDoor
open Go.RowKit

def imgM (l : List Int) : Mach := ⟨List.replicate 8 0, 0, 0, false, false, -1, 0, 0, l, [], 0, -1⟩

theorem blk_first (w : World) (o o' : Obj) : ((w.alloc o).alloc o').heap[w.heap.size]? = some o := by
  rw [Go.Deep.blk_alloc_lt _ _ _ (by simp)]; exact Go.Deep.blk_alloc_new _ _
theorem blk_second (w : World) (o o' : Obj) : ((w.alloc o).alloc o').heap[w.heap.size + 1]? = some o' := by
  have := Go.Deep.blk_alloc_new (w.alloc o) o'
  rwa [show (w.alloc o).heap.size = w.heap.size + 1 by simp] at this
theorem other12 {w : World} {b c : Nat} {o : Obj} (h : w.heap[c]? = some o) (hne : c ≠ b) (x0 x1 x2 x3 x4 x5 x6 x7 x8 x9 x10 x11 : Value) : ((((((((((((w.setCell ⟨b, 0, none⟩ x0).setCell ⟨b, 1, none⟩ x1).setCell ⟨b, 2, none⟩ x2).setCell ⟨b, 3, none⟩ x3).setCell ⟨b, 4, none⟩ x4).setCell ⟨b, 5, none⟩ x5).setCell ⟨b, 6, none⟩ x6).setCell ⟨b, 7, none⟩ x7).setCell ⟨b, 8, none⟩ x8).setCell ⟨b, 9, none⟩ x9).setCell ⟨b, 10, none⟩ x10).setCell ⟨b, 11, none⟩ x11).heap[c]? = some o :=
  (box_other (box_other (box_other (box_other (box_other (box_other (box_other (box_other (box_other (box_other (box_other (box_other h hne x0) hne x1) hne x2) hne x3) hne x4) hne x5) hne x6) hne x7) hne x8) hne x9) hne x10) hne x11)
theorem own12 {w : World} {lo b : Nat} {v : Value} {l : List Int} (h : OwnI w lo v l) (hb : IsBox w b) (x0 x1 x2 x3 x4 x5 x6 x7 x8 x9 x10 x11 : Value) : OwnI ((((((((((((w.setCell ⟨b, 0, none⟩ x0).setCell ⟨b, 1, none⟩ x1).setCell ⟨b, 2, none⟩ x2).setCell ⟨b, 3, none⟩ x3).setCell ⟨b, 4, none⟩ x4).setCell ⟨b, 5, none⟩ x5).setCell ⟨b, 6, none⟩ x6).setCell ⟨b, 7, none⟩ x7).setCell ⟨b, 8, none⟩ x8).setCell ⟨b, 9, none⟩ x9).setCell ⟨b, 10, none⟩ x10).setCell ⟨b, 11, none⟩ x11) lo v l := by
  have hk : ∀ (W : World) (i : Nat) (x : Value), IsBox W b → OwnI W lo v l → IsBox (W.setCell ⟨b, i, none⟩ x) b ∧ OwnI (W.setCell ⟨b, i, none⟩ x) lo v l := fun W i x ⟨c, hc⟩ ho => ⟨IsBox.set ⟨c, hc⟩ i x, ho.otherType (a := ⟨b, i, none⟩) hc (by decide) x⟩
  have k0 := hk w 0 x0 hb h
  have k1 := hk _ 1 x1 k0.1 k0.2
  have k2 := hk _ 2 x2 k1.1 k1.2
  have k3 := hk _ 3 x3 k2.1 k2.2
  have k4 := hk _ 4 x4 k3.1 k3.2
  have k5 := hk _ 5 x5 k4.1 k4.2
  have k6 := hk _ 6 x6 k5.1 k5.2
  have k7 := hk _ 7 x7 k6.1 k6.2
  have k8 := hk _ 8 x8 k7.1 k7.2
  have k9 := hk _ 9 x9 k8.1 k8.2
  have k10 := hk _ 10 x10 k9.1 k9.2
  have k11 := hk _ 11 x11 k10.1 k10.2
  exact k11.2
theorem box12' {w : World} {b : Nat} {c : Array Value} (h : w.heap[b]? = some (.cells c 30 (0, 0))) (hc : c.size = 12) (x0 x1 x2 x3 x4 x5 x6 x7 x8 x9 x10 x11 : Value) : ((((((((((((w.setCell ⟨b, 0, none⟩ x0).setCell ⟨b, 1, none⟩ x1).setCell ⟨b, 2, none⟩ x2).setCell ⟨b, 3, none⟩ x3).setCell ⟨b, 4, none⟩ x4).setCell ⟨b, 5, none⟩ x5).setCell ⟨b, 6, none⟩ x6).setCell ⟨b, 7, none⟩ x7).setCell ⟨b, 8, none⟩ x8).setCell ⟨b, 9, none⟩ x9).setCell ⟨b, 10, none⟩ x10).setCell ⟨b, 11, none⟩ x11).heap[b]? = some (.cells #[x0, x1, x2, x3, x4, x5, x6, x7, x8, x9, x10, x11] 30 (0, 0)) := by
  have e := box_set (i := 11) (box_set (i := 10) (box_set (i := 9) (box_set (i := 8) (box_set (i := 7) (box_set (i := 6) (box_set (i := 5) (box_set (i := 4) (box_set (i := 3) (box_set (i := 2) (box_set (i := 1) (box_set (i := 0) (h) x0) x1) x2) x3) x4) x5) x6) x7) x8) x9) x10) x11
  rw [e]
  obtain ⟨l⟩ := c
  rcases l with _ | ⟨a0, _ | ⟨a1, _ | ⟨a2, _ | ⟨a3, _ | ⟨a4, _ | ⟨a5, _ | ⟨a6, _ | ⟨a7, _ | ⟨a8, _ | ⟨a9, _ | ⟨a10, _ | ⟨a11, _ | ⟨a12, l⟩⟩⟩⟩⟩⟩⟩⟩⟩⟩⟩⟩⟩ <;> simp at hc ⊢
theorem guest_leaf {w1 wx : World} {b g1 : Nat} {mv : Value} {l : List Int} (box : wx.heap[b]? = some (.cells #[.slice (some ⟨g1, 0, none⟩) 8 8, .int .i64 0, .int .i64 0, .bool false, .bool false, .int .i64 (-1), .int .i64 0, .int .i64 0, mv, .slice none 0 0, .int .i64 0, .int .i64 (-1)] 30 (0, 0))) (r1 : wx.heap[g1]? = some (.cells (madeCells #[.int .i64 0] 8) 3 (0, 0))) (o : OwnI wx w1.heap.size mv l) (lb : w1.heap.size ≤ b) (l1 : w1.heap.size ≤ g1) (ap : mv.ownBlock ≠ some g1) (old : Below w1.heap.size w1 wx) :
    AtP wx w1.heap.size b (.slice (some ⟨g1, 0, none⟩) 8 8) mv (.slice none 0 0) (imgM l) ∧ Below w1.heap.size w1 wx :=
  ⟨⟨box, ⟨OwnI.madeZ l1 (by unfold maxLen; omega) r1, o, World.ownsRow_nil _ _ _ _, fun g e e2 => by simp [Value.ownBlock] at e; subst e; exact ap e2, fun g e e2 => by simp [Value.ownBlock] at e2, fun g e e2 => by simp [Value.ownBlock] at e2⟩, lb⟩, old⟩
theorem leaf1 {w1 w2 : World} {mv : Value} {l : List Int} (ho : OwnI w2 (w1.alloc (.cells (madeCells #[.int .i64 0] 8) 3)).drew.heap.size mv l) (hb : Below (w1.alloc (.cells (madeCells #[.int .i64 0] 8) 3)).drew.heap.size (w1.alloc (.cells (madeCells #[.int .i64 0] 8) 3)).drew w2) :
    AtP (w2.alloc (.cells #[.slice (some ⟨w1.heap.size, 0, none⟩) 8 8, .int .i64 0, .int .i64 0, .bool false, .bool false, .int .i64 (-1), .int .i64 0, .int .i64 0, mv, .slice none 0 0, .int .i64 0, .int .i64 (-1)] 30)) w1.heap.size w2.heap.size (.slice (some ⟨w1.heap.size, 0, none⟩) 8 8) mv (.slice none 0 0) (imgM l) ∧ Below w1.heap.size w1 (w2.alloc (.cells #[.slice (some ⟨w1.heap.size, 0, none⟩) 8 8, .int .i64 0, .int .i64 0, .bool false, .bool false, .int .i64 (-1), .int .i64 0, .int .i64 0, mv, .slice none 0 0, .int .i64 0, .int .i64 (-1)] 30)) := by
  have hs := hb.size
  simp at hs
  have r : w2.heap[w1.heap.size]? = some (.cells (madeCells #[.int .i64 0] 8) 3 (0, 0)) := by rw [hb.block _ (by simp)]; exact Go.Deep.blk_alloc_new _ _
  refine guest_leaf (Go.Deep.blk_alloc_new _ _) (by rw [Go.Deep.blk_alloc_lt _ _ _ (by omega)]; exact r) (ownsRow_mono (ho.below (below_alloc _ _)) (by simp)) (by omega) (Nat.le_refl _) (fun e => ?_) ?_
  · have := (World.ownsRow.lt ho _ e).1; simp at this; omega
  · exact (((below_alloc w1 _).drew).trans (hb.mono (by simp))).alloc (by omega) _
theorem leaf2 {w1 w2 : World} {mv : Value} {l : List Int} (ho : OwnI w2 w1.drew.heap.size mv l) (hb : Below w1.drew.heap.size w1.drew w2) :
    AtP ((w2.alloc (.cells (madeCells #[.int .i64 0] 8) 3)).alloc (.cells #[.slice (some ⟨w2.heap.size, 0, none⟩) 8 8, .int .i64 0, .int .i64 0, .bool false, .bool false, .int .i64 (-1), .int .i64 0, .int .i64 0, mv, .slice none 0 0, .int .i64 0, .int .i64 (-1)] 30)) w1.heap.size (w2.heap.size + 1) (.slice (some ⟨w2.heap.size, 0, none⟩) 8 8) mv (.slice none 0 0) (imgM l) ∧ Below w1.heap.size w1 ((w2.alloc (.cells (madeCells #[.int .i64 0] 8) 3)).alloc (.cells #[.slice (some ⟨w2.heap.size, 0, none⟩) 8 8, .int .i64 0, .int .i64 0, .bool false, .bool false, .int .i64 (-1), .int .i64 0, .int .i64 0, mv, .slice none 0 0, .int .i64 0, .int .i64 (-1)] 30)) := by
  have hs := hb.size
  simp at hs
  refine guest_leaf (blk_second _ _ _) (blk_first _ _ _) ((OwnI.below ho (below_alloc _ _)).below (below_alloc _ _)) (by omega) (by omega) (fun e => ?_) ?_
  · have := (World.ownsRow.lt ho _ e).2; omega
  · exact ((((Below.refl _ w1).drew).trans (hb.mono (by simp))).alloc (by omega) _).alloc (by simp; omega) _
theorem leaf3 {w1 w2 : World} {mv : Value} {l : List Int} (ho : OwnI w2 w1.drew.heap.size mv l) (hb : Below w1.drew.heap.size w1.drew w2) :
    AtP ((w2.alloc (.cells #[.slice (some ⟨(w2.heap.size + 1), 0, none⟩) 8 8, .int .i64 0, .int .i64 0, .bool false, .bool false, .int .i64 (-1), .int .i64 0, .int .i64 0, mv, .slice none 0 0, .int .i64 0, .int .i64 (-1)] 30)).alloc (.cells (madeCells #[.int .i64 0] 8) 3)) w1.heap.size w2.heap.size (.slice (some ⟨(w2.heap.size + 1), 0, none⟩) 8 8) mv (.slice none 0 0) (imgM l) ∧ Below w1.heap.size w1 ((w2.alloc (.cells #[.slice (some ⟨(w2.heap.size + 1), 0, none⟩) 8 8, .int .i64 0, .int .i64 0, .bool false, .bool false, .int .i64 (-1), .int .i64 0, .int .i64 0, mv, .slice none 0 0, .int .i64 0, .int .i64 (-1)] 30)).alloc (.cells (madeCells #[.int .i64 0] 8) 3)) := by
  have hs := hb.size
  simp at hs
  refine guest_leaf (blk_first _ _ _) (blk_second _ _ _) ((OwnI.below ho (below_alloc _ _)).below (below_alloc _ _)) (by omega) (by omega) (fun e => ?_) ?_
  · have := (World.ownsRow.lt ho _ e).2; omega
  · exact ((((Below.refl _ w1).drew).trans (hb.mono (by simp))).alloc (by omega) _).alloc (by simp; omega) _
theorem leaf4 {w1 w2 : World} {mv : Value} {l : List Int} (ho : OwnI w2 ((w1.alloc (.cells (madeCells #[.int .i64 0] 8) 3)).alloc (.cells zeroM 30)).drew.heap.size mv l) (hb : Below ((w1.alloc (.cells (madeCells #[.int .i64 0] 8) 3)).alloc (.cells zeroM 30)).drew.heap.size ((w1.alloc (.cells (madeCells #[.int .i64 0] 8) 3)).alloc (.cells zeroM 30)).drew w2) :
    AtP ((((((((((((w2.setCell ⟨w1.heap.size + 1, 0, none⟩ (.slice (some ⟨w1.heap.size, 0, none⟩) 8 8)).setCell ⟨w1.heap.size + 1, 1, none⟩ (.int .i64 0)).setCell ⟨w1.heap.size + 1, 2, none⟩ (.int .i64 0)).setCell ⟨w1.heap.size + 1, 3, none⟩ (.bool false)).setCell ⟨w1.heap.size + 1, 4, none⟩ (.bool false)).setCell ⟨w1.heap.size + 1, 5, none⟩ (.int .i64 (-1))).setCell ⟨w1.heap.size + 1, 6, none⟩ (.int .i64 0)).setCell ⟨w1.heap.size + 1, 7, none⟩ (.int .i64 0)).setCell ⟨w1.heap.size + 1, 8, none⟩ mv).setCell ⟨w1.heap.size + 1, 9, none⟩ (.slice none 0 0)).setCell ⟨w1.heap.size + 1, 10, none⟩ (.int .i64 0)).setCell ⟨w1.heap.size + 1, 11, none⟩ (.int .i64 (-1))) w1.heap.size (w1.heap.size + 1) (.slice (some ⟨w1.heap.size, 0, none⟩) 8 8) mv (.slice none 0 0) (imgM l) ∧ Below w1.heap.size w1 ((((((((((((w2.setCell ⟨w1.heap.size + 1, 0, none⟩ (.slice (some ⟨w1.heap.size, 0, none⟩) 8 8)).setCell ⟨w1.heap.size + 1, 1, none⟩ (.int .i64 0)).setCell ⟨w1.heap.size + 1, 2, none⟩ (.int .i64 0)).setCell ⟨w1.heap.size + 1, 3, none⟩ (.bool false)).setCell ⟨w1.heap.size + 1, 4, none⟩ (.bool false)).setCell ⟨w1.heap.size + 1, 5, none⟩ (.int .i64 (-1))).setCell ⟨w1.heap.size + 1, 6, none⟩ (.int .i64 0)).setCell ⟨w1.heap.size + 1, 7, none⟩ (.int .i64 0)).setCell ⟨w1.heap.size + 1, 8, none⟩ mv).setCell ⟨w1.heap.size + 1, 9, none⟩ (.slice none 0 0)).setCell ⟨w1.heap.size + 1, 10, none⟩ (.int .i64 0)).setCell ⟨w1.heap.size + 1, 11, none⟩ (.int .i64 (-1))) := by
  have hs := hb.size
  simp at hs
  have z : w2.heap[w1.heap.size + 1]? = some (.cells zeroM 30 (0, 0)) := by rw [hb.block _ (by simp)]; exact blk_second _ _ _
  have r : w2.heap[w1.heap.size]? = some (.cells (madeCells #[.int .i64 0] 8) 3 (0, 0)) := by rw [hb.block _ (by simp; omega)]; exact blk_first _ _ _
  refine guest_leaf (box12' z rfl _ _ _ _ _ _ _ _ _ _ _ _) (other12 r (by omega) _ _ _ _ _ _ _ _ _ _ _ _) (ownsRow_mono (own12 ho ⟨_, z⟩ _ _ _ _ _ _ _ _ _ _ _ _) (by simp; omega)) (by omega) (Nat.le_refl _) (fun e => ?_) ?_
  · have := (World.ownsRow.lt ho _ e).1; simp at this; omega
  · exact below_set12 ((((below_alloc w1 _).alloc (by simp) _).drew).trans (hb.mono (by simp; omega))) (by omega) _ _ _ _ _ _ _ _ _ _ _ _
theorem leaf5 {w1 w2 : World} {mv : Value} {l : List Int} (ho : OwnI w2 ((w1.alloc (.cells zeroM 30)).alloc (.cells (madeCells #[.int .i64 0] 8) 3)).drew.heap.size mv l) (hb : Below ((w1.alloc (.cells zeroM 30)).alloc (.cells (madeCells #[.int .i64 0] 8) 3)).drew.heap.size ((w1.alloc (.cells zeroM 30)).alloc (.cells (madeCells #[.int .i64 0] 8) 3)).drew w2) :
    AtP ((((((((((((w2.setCell ⟨w1.heap.size, 0, none⟩ (.slice (some ⟨(w1.heap.size + 1), 0, none⟩) 8 8)).setCell ⟨w1.heap.size, 1, none⟩ (.int .i64 0)).setCell ⟨w1.heap.size, 2, none⟩ (.int .i64 0)).setCell ⟨w1.heap.size, 3, none⟩ (.bool false)).setCell ⟨w1.heap.size, 4, none⟩ (.bool false)).setCell ⟨w1.heap.size, 5, none⟩ (.int .i64 (-1))).setCell ⟨w1.heap.size, 6, none⟩ (.int .i64 0)).setCell ⟨w1.heap.size, 7, none⟩ (.int .i64 0)).setCell ⟨w1.heap.size, 8, none⟩ mv).setCell ⟨w1.heap.size, 9, none⟩ (.slice none 0 0)).setCell ⟨w1.heap.size, 10, none⟩ (.int .i64 0)).setCell ⟨w1.heap.size, 11, none⟩ (.int .i64 (-1))) w1.heap.size w1.heap.size (.slice (some ⟨(w1.heap.size + 1), 0, none⟩) 8 8) mv (.slice none 0 0) (imgM l) ∧ Below w1.heap.size w1 ((((((((((((w2.setCell ⟨w1.heap.size, 0, none⟩ (.slice (some ⟨(w1.heap.size + 1), 0, none⟩) 8 8)).setCell ⟨w1.heap.size, 1, none⟩ (.int .i64 0)).setCell ⟨w1.heap.size, 2, none⟩ (.int .i64 0)).setCell ⟨w1.heap.size, 3, none⟩ (.bool false)).setCell ⟨w1.heap.size, 4, none⟩ (.bool false)).setCell ⟨w1.heap.size, 5, none⟩ (.int .i64 (-1))).setCell ⟨w1.heap.size, 6, none⟩ (.int .i64 0)).setCell ⟨w1.heap.size, 7, none⟩ (.int .i64 0)).setCell ⟨w1.heap.size, 8, none⟩ mv).setCell ⟨w1.heap.size, 9, none⟩ (.slice none 0 0)).setCell ⟨w1.heap.size, 10, none⟩ (.int .i64 0)).setCell ⟨w1.heap.size, 11, none⟩ (.int .i64 (-1))) := by
  have hs := hb.size
  simp at hs
  have z : w2.heap[w1.heap.size]? = some (.cells zeroM 30 (0, 0)) := by rw [hb.block _ (by simp; omega)]; exact blk_first _ _ _
  have r : w2.heap[w1.heap.size + 1]? = some (.cells (madeCells #[.int .i64 0] 8) 3 (0, 0)) := by rw [hb.block _ (by simp)]; exact blk_second _ _ _
  refine guest_leaf (box12' z rfl _ _ _ _ _ _ _ _ _ _ _ _) (other12 r (by omega) _ _ _ _ _ _ _ _ _ _ _ _) (ownsRow_mono (own12 ho ⟨_, z⟩ _ _ _ _ _ _ _ _ _ _ _ _) (by simp; omega)) (by omega) (by omega) (fun e => ?_) ?_
  · have := (World.ownsRow.lt ho _ e).1; simp at this; omega
  · exact below_set12 ((((below_alloc w1 _).alloc (by simp) _).drew).trans (hb.mono (by simp; omega))) (by omega) _ _ _ _ _ _ _ _ _ _ _ _
theorem leaf6 {w1 w2 : World} {mv : Value} {l : List Int} (ho : OwnI w2 (w1.alloc (.cells zeroM 30)).drew.heap.size mv l) (hb : Below (w1.alloc (.cells zeroM 30)).drew.heap.size (w1.alloc (.cells zeroM 30)).drew w2) :
    AtP (((((((((((((w2.setCell ⟨w1.heap.size, 0, none⟩ (.slice (some ⟨w2.heap.size, 0, none⟩) 8 8)).setCell ⟨w1.heap.size, 1, none⟩ (.int .i64 0)).setCell ⟨w1.heap.size, 2, none⟩ (.int .i64 0)).setCell ⟨w1.heap.size, 3, none⟩ (.bool false)).setCell ⟨w1.heap.size, 4, none⟩ (.bool false)).setCell ⟨w1.heap.size, 5, none⟩ (.int .i64 (-1))).setCell ⟨w1.heap.size, 6, none⟩ (.int .i64 0)).setCell ⟨w1.heap.size, 7, none⟩ (.int .i64 0)).setCell ⟨w1.heap.size, 8, none⟩ mv).setCell ⟨w1.heap.size, 9, none⟩ (.slice none 0 0)).setCell ⟨w1.heap.size, 10, none⟩ (.int .i64 0)).setCell ⟨w1.heap.size, 11, none⟩ (.int .i64 (-1))).alloc (.cells (madeCells #[.int .i64 0] 8) 3)) w1.heap.size w1.heap.size (.slice (some ⟨w2.heap.size, 0, none⟩) 8 8) mv (.slice none 0 0) (imgM l) ∧ Below w1.heap.size w1 (((((((((((((w2.setCell ⟨w1.heap.size, 0, none⟩ (.slice (some ⟨w2.heap.size, 0, none⟩) 8 8)).setCell ⟨w1.heap.size, 1, none⟩ (.int .i64 0)).setCell ⟨w1.heap.size, 2, none⟩ (.int .i64 0)).setCell ⟨w1.heap.size, 3, none⟩ (.bool false)).setCell ⟨w1.heap.size, 4, none⟩ (.bool false)).setCell ⟨w1.heap.size, 5, none⟩ (.int .i64 (-1))).setCell ⟨w1.heap.size, 6, none⟩ (.int .i64 0)).setCell ⟨w1.heap.size, 7, none⟩ (.int .i64 0)).setCell ⟨w1.heap.size, 8, none⟩ mv).setCell ⟨w1.heap.size, 9, none⟩ (.slice none 0 0)).setCell ⟨w1.heap.size, 10, none⟩ (.int .i64 0)).setCell ⟨w1.heap.size, 11, none⟩ (.int .i64 (-1))).alloc (.cells (madeCells #[.int .i64 0] 8) 3)) := by
  have hs := hb.size
  simp at hs
  have z : w2.heap[w1.heap.size]? = some (.cells zeroM 30 (0, 0)) := by rw [hb.block _ (by simp)]; exact Go.Deep.blk_alloc_new _ _
  have hz : ((((((((((((w2.setCell ⟨w1.heap.size, 0, none⟩ (.slice (some ⟨w2.heap.size, 0, none⟩) 8 8)).setCell ⟨w1.heap.size, 1, none⟩ (.int .i64 0)).setCell ⟨w1.heap.size, 2, none⟩ (.int .i64 0)).setCell ⟨w1.heap.size, 3, none⟩ (.bool false)).setCell ⟨w1.heap.size, 4, none⟩ (.bool false)).setCell ⟨w1.heap.size, 5, none⟩ (.int .i64 (-1))).setCell ⟨w1.heap.size, 6, none⟩ (.int .i64 0)).setCell ⟨w1.heap.size, 7, none⟩ (.int .i64 0)).setCell ⟨w1.heap.size, 8, none⟩ mv).setCell ⟨w1.heap.size, 9, none⟩ (.slice none 0 0)).setCell ⟨w1.heap.size, 10, none⟩ (.int .i64 0)).setCell ⟨w1.heap.size, 11, none⟩ (.int .i64 (-1))).heap.size = w2.heap.size := by simp
  refine guest_leaf (by rw [Go.Deep.blk_alloc_lt _ _ _ (by rw [hz]; omega)]; exact box12' z rfl _ _ _ _ _ _ _ _ _ _ _ _) (by have := Go.Deep.blk_alloc_new ((((((((((((w2.setCell ⟨w1.heap.size, 0, none⟩ (.slice (some ⟨w2.heap.size, 0, none⟩) 8 8)).setCell ⟨w1.heap.size, 1, none⟩ (.int .i64 0)).setCell ⟨w1.heap.size, 2, none⟩ (.int .i64 0)).setCell ⟨w1.heap.size, 3, none⟩ (.bool false)).setCell ⟨w1.heap.size, 4, none⟩ (.bool false)).setCell ⟨w1.heap.size, 5, none⟩ (.int .i64 (-1))).setCell ⟨w1.heap.size, 6, none⟩ (.int .i64 0)).setCell ⟨w1.heap.size, 7, none⟩ (.int .i64 0)).setCell ⟨w1.heap.size, 8, none⟩ mv).setCell ⟨w1.heap.size, 9, none⟩ (.slice none 0 0)).setCell ⟨w1.heap.size, 10, none⟩ (.int .i64 0)).setCell ⟨w1.heap.size, 11, none⟩ (.int .i64 (-1))) (.cells (madeCells #[.int .i64 0] 8) 3); rwa [hz] at this) (ownsRow_mono (OwnI.below (own12 ho ⟨_, z⟩ _ _ _ _ _ _ _ _ _ _ _ _) (below_alloc _ _)) (by simp)) (by omega) (by omega) (fun e => ?_) ?_
  · have := (World.ownsRow.lt ho _ e).2; omega
  · exact (below_set12 (((below_alloc w1 _).drew).trans (hb.mono (by simp))) (by omega) _ _ _ _ _ _ _ _ _ _ _ _).alloc (by rw [hz]; omega) _

def lenAt (w : World) (b : Nat) : Nat := match w.cell? ⟨b, 8, none⟩ with | some (.slice _ n _) => n | _ => 0

theorem AtP.appendedM {w w1 : World} {lo b : Nat} {rv mv ov mv' : Value} {m : Mach} {x : Int} {o : Obj} (h : AtP w lo b rv mv ov m) (hlo : lo ≤ w.heap.size) (hg : (w.alloc o).grownBy w1 mv.ownBlock) (ho : OwnI w1 lo mv' (m.mem ++ [x]))
    (hat : mv.ownBlock = mv'.ownBlock ∨ ∀ g, mv'.ownBlock = some g → w.heap.size ≤ g) :
    w1.heap[b]? = some (.cells (m.cells rv mv ov) 30 (0, 0)) ∧ AtP (w1.setCell ⟨b, 8, none⟩ mv') lo b rv mv' ov { m with mem := m.mem ++ [x] } ∧ Below lo w (w1.setCell ⟨b, 8, none⟩ mv') := by
  have hA : Below w.heap.size w (w.alloc o) := below_alloc w o
  have hP := h.below hA
  have hne : mv.ownBlock ≠ some b := own_ne hP.own.mem hP.box (by decide)
  have hb1 : w1.heap[b]? = some (.cells (m.cells rv mv ov) 30 (0, 0)) := by rw [hg.block b hP.lt (fun e => hne e.symm)]; exact hP.box
  have hB : Below lo w w1 := (hA.mono hlo).grown hg (by have := hA.size; omega) (fun k hk => (World.ownsRow.lt hP.own.mem k hk).1)
  have ap : ∀ {v : Value} {l : List Int}, OwnI w lo v l → Apart v mv → Apart v mv' := fun {v l} hv ha g hg' e => by
    rcases hat with hat | hat
    · exact ha g hg' (by rw [hat]; exact e)
    · have := (World.ownsRow.lt hv g hg').2
      have := hat g e
      omega
  have sy : ∀ {u v : Value}, Apart u v → Apart v u := fun {u v} ha g e e2 => ha g e2 e
  have kept : ∀ {v : Value} {l : List Int}, OwnI (w.alloc o) lo v l → Apart v mv → OwnI w1 lo v l := fun {v l} hv ha => World.ownsRow.kept hv hg (by
    cases e : v.ownBlock with
    | none => exact Or.inl rfl
    | some g => exact Or.inr (fun e2 => ha g e e2.symm))
  refine ⟨hb1, ⟨⟨by rw [box_set hb1]; rfl, ?_, h.le⟩, hB.setCell (by simpa using h.le) _⟩⟩
  have hM : OwnM w1 lo rv mv' ov { m with mem := m.mem ++ [x] } := ⟨kept hP.own.regs h.own.rm, ho, kept hP.own.out (sy h.own.mo), ap h.own.regs h.own.rm, h.own.ro, sy (ap h.own.out (sy h.own.mo))⟩
  exact hM.box ⟨_, hb1⟩ 8 mv'

set_option maxRecDepth 20000 in
set_option maxHeartbeats 2000000 in
theorem GuestNew_ok (v : Value) (l : List Int) (w : World) (h : IntsAt w v l) (hn : newNo l = 0) :
    Calls Tryd.prog 30 #[v] w fun e w' => ∃ rv' mv' ov', e = .returned (.tuple #[.agg ((newM l).cells rv' mv' ov'), .int .i64 0]) ∧ OwnM w' w.heap.size rv' mv' ov' (newM l) ∧ Below w.heap.size w w' := by
  have H : Hid (IntsAt w v l) := h
  have h1 : ¬ 256 < l.length := fun e => by simp [newNo, e] at hn
  have h2 : allB l = true := by
    cases e : allB l with
    | true => rfl
    | false => simp [newNo, h1, e] at hn
  obtain ⟨A, c, rfl, hl, hc⟩ := h
  have d0 : decide (256 < (l.length : Int)) = false := by simp; omega
  have hm8 : ∀ W : World, (Instr.makeSlice 22 (.int .i64 8) (.int .i64 8)).run Tryd.prog W = .ok (.slice (some ⟨W.heap.size, 0, none⟩) 8 8) (W.alloc (.cells (madeCells #[.int .i64 0] 8) 3)) := fun W => run_make_row' (P := Tryd.prog) 22 3 (.int .i64 0) 8 Tryd.underlying22 infoInt rfl .i64 .i64 8 (by omega) (by omega) W
  have HL : Hid (l.length ≤ 256) := by show l.length ≤ 256; omega
  clear hn h1 hc
  go_enter Tryd.func30, Tryd.ntmps30
  go_wp2_with fail
  refine (wordsMay_any _ l _ (H.out.below (below_alloc _ _))).mono ?_
  rw [h2]
  rintro e w1 ⟨rfl, rfl⟩
  obtain ⟨w1, hw1⟩ : ∃ w1, w1 = w.alloc (.cells zeroM 30) := ⟨_, rfl⟩
  have HX : Hid (w1.heap[w.heap.size]? = some (.cells zeroM 30 (0, 0)) ∧ Below w.heap.size w w1) := by rw [hw1]; exact ⟨Go.Deep.blk_alloc_new _ _, below_alloc _ _⟩
  rw [← hw1]
  clear hw1
  have HW : Hid (∀ W, Below w1.heap.size w1 W → Calls Tryd.prog 33 #[.slice A l.length c] W fun e w' => ∃ A' c', e = .returned (.slice A' l.length c') ∧ OwnI w' W.heap.size (.slice A' l.length c') l ∧ Below W.heap.size W w') := fun W hb => words_any _ l W (H.out.below (HX.out.2.trans (hb.mono HX.out.2.size)))
  clear H d0 h2
  go_upto_region 5 with fail
  go_cut [4] (fun p wx => ∃ b g1 mv, p = .pointer (some ⟨b, 0, none⟩) ∧ AtP wx w1.heap.size b (.slice (some ⟨g1, 0, none⟩) 8 8) mv (.slice none 0 0) (imgM l) ∧ Below w1.heap.size w1 wx)
  case first =>
    go_region_law ((go_simp; go_at_call 33; refine (HW.out _ (by first | exact Below.refl _ _ | exact below_alloc _ _ | exact (below_alloc _ _).alloc (by simp) _ | exact (Below.refl _ _).drew | exact (below_alloc _ _).drew | exact ((below_alloc _ _).alloc (by simp) _).drew)).mono ?_; rintro e w2 ⟨A', c', rfl, ho, hb⟩; obtain ⟨hc1, hf1⟩ := bcell hb; (try have zl : w1.heap.size < w2.heap.size := (by have := hb.size; simp at this; omega)); (try have zn : ¬ w1.heap.size = w2.heap.size := (by omega)); (try have zl2 : w1.heap.size + 1 < w2.heap.size := (by have := hb.size; simp at this; omega)); have HO : Hid (OwnI _ _ _ _ ∧ Below _ _ _) := ⟨ho, hb⟩; clear ho hb))
    · go_wp2_with fail
      go_meet
      exact ⟨_, _, _, rfl, leaf1 HO.out.1 HO.out.2⟩
    · go_wp2_with fail
      go_meet
      exact ⟨_, _, _, rfl, leaf4 HO.out.1 HO.out.2⟩
    · go_wp2_with fail
      go_meet
      exact ⟨_, _, _, rfl, leaf2 HO.out.1 HO.out.2⟩
    · go_wp2_with fail
      go_meet
      exact ⟨_, _, _, rfl, leaf3 HO.out.1 HO.out.2⟩
    · go_wp2_with fail
      go_meet
      exact ⟨_, _, _, rfl, leaf5 HO.out.1 HO.out.2⟩
    · go_wp2_with fail
      go_meet
      exact ⟨_, _, _, rfl, leaf6 HO.out.1 HO.out.2⟩
  case rest =>
    obtain ⟨b, g1, mv, rfl, hP, hB⟩ := hcut
    have HP : Hid (AtP wc w1.heap.size b (.slice (some ⟨g1, 0, none⟩) 8 8) mv (.slice none 0 0) (imgM l) ∧ Below w1.heap.size w1 wc) := ⟨hP, hB⟩
    clear hP hB HW
    obtain ⟨i0, hi, hz0, hz1, hz2⟩ := info_parts infoInt
    go_wp2_with fail
    go_loopw [] (fun wr => ∃ (k : Nat) (mv : Value), l.length + k ≤ 256 ∧ Hid (AtP wr w1.heap.size b (.slice (some ⟨g1, 0, none⟩) 8 8) mv (.slice none 0 0) (imgM (l ++ List.replicate k 0)) ∧ Below w1.heap.size w1 wr)) (fun wr => 256 - lenAt wr b)
    case atStart => exact ⟨0, mv, by have := HL.out; omega, by have := HP.out; rw [show List.replicate 0 (0 : Int) = [] from rfl, List.append_nil]; exact this⟩
    case round =>
      obtain ⟨k, mv, hk, hI⟩ := hrel
      obtain ⟨C, cc, rfl⟩ := hI.out.1.own.mem.shape
      have hlen : (imgM (l ++ List.replicate k 0)).mem.length = l.length + k := by simp [imgM]
      rw [hlen] at hI
      clear hlen hm8
      obtain ⟨⟨z0, z1, z2, z3, z4, z5, z6, z7, z8, z9, z10, z11⟩, zf, zl⟩ := twelve_cells hI.out.1.box
      simp only [imgM] at z0 z1 z2 z3 z4 z5 z6 z7 z8 z9 z10 z11
      have hsz := hI.out.2.size
      by_cases hlt : l.length + k < 256
      · have zn : ¬ b = wr.heap.size := by omega
        have HLK : Hid ((l ++ List.replicate k (0 : Int)).length = l.length + k) := by show _ = _; simp
        have HO : Hid (wr.ownsRow w1.heap.size 3 1 (.slice C (l.length + k) cc) (l.length + k) ((l ++ List.replicate k 0).map (Value.int .i64))) := by
          have h : wr.ownsRow w1.heap.size 3 1 (.slice C (l.length + k) cc) (l ++ List.replicate k (0 : Int)).length ((l ++ List.replicate k 0).map (Value.int .i64)) := hI.out.1.own.mem
          rw [HLK.out] at h
          exact h
        have HL0 : Hid (lenAt wr b = l.length + k) := by show _ = _; simp [lenAt, z8]
        go_wp2_with (first
          | (at_builtin; refine wpList_append_own_at _ rfl _ _ 22 rfl w1.heap.size 3 i0 (.int .i64 0) 1 8 Tryd.underlying22 hi hz0 hz1 hz2 rfl (by decide) (.slice C (l.length + k) cc) (l.length + k) ((l ++ List.replicate k 0).map (Value.int .i64)) rfl (World.ownsRow.alloc HO.out _) ⟨wr.heap.size, 0, none⟩ 1 1 [.int .i64 0] rfl rfl ?c1 ?c2 ?c3 ?c4 ?c5 ?_))
        case c1 => exact cell_one_new _ _ _
        case c2 => intro u hu; simp at hu; subst hu; rfl
        case c3 => unfold maxLen; omega
        case c4 => omega
        case c5 => simp; omega
        intro mv' w2 hown' hgrow _ hat
        have hO2 : OwnI w2 w1.heap.size mv' (l ++ List.replicate k 0 ++ [0]) := by
          show w2.ownsRow w1.heap.size 3 1 mv' (l ++ List.replicate k 0 ++ [0]).length ((l ++ List.replicate k 0 ++ [0]).map (Value.int .i64))
          simpa [Nat.add_assoc] using hown'
        obtain ⟨hb2, hA2, hB2⟩ := hI.out.1.appendedM hsz hgrow (x := 0) hO2 (by rcases hat with hat | hat; exact Or.inl hat.symm; exact Or.inr (fun g e => by rw [hat] at e; simp at e; omega))
        have HB2 : Hid (Below w1.heap.size w1 (w2.setCell ⟨b, 8, none⟩ mv')) := hI.out.2.trans (hB2)
        obtain ⟨C', cc', rfl⟩ : ∃ C' cc', mv' = .slice C' (l.length + k + 1) cc' := by
          have hsh := hO2.shape
          simpa [Nat.add_assoc] using hsh
        have HA2 : Hid (AtP (w2.setCell ⟨b, 8, none⟩ (.slice C' (l.length + k + 1) cc')) w1.heap.size b (.slice (some ⟨g1, 0, none⟩) 8 8) (.slice C' (l.length + k + 1) cc') (.slice none 0 0) (imgM (l ++ List.replicate (k + 1) 0))) := by
          have e : ({ imgM (l ++ List.replicate k 0) with mem := (imgM (l ++ List.replicate k 0)).mem ++ [0] } : Mach) = imgM (l ++ List.replicate (k + 1) 0) := by simp [imgM, List.replicate_succ', List.append_assoc]
          rw [e] at hA2
          exact hA2
        obtain ⟨⟨y0, y1, y2, y3, y4, y5, y6, y7, y8, y9, y10, y11⟩, yf, yl⟩ := twelve_cells hb2
        have HM : Hid (lenAt (w2.setCell ⟨b, 8, none⟩ (.slice C' (l.length + k + 1) cc')) b = l.length + k + 1) := by
          show _ = _
          obtain ⟨⟨_, _, _, _, _, _, _, _, q8, _, _, _⟩, _, _⟩ := twelve_cells HA2.out.box
          simp [lenAt, q8]
        clear hown' hgrow hat hb2 hA2 hB2 hO2
        go_wp2_with fail
        refine ⟨⟨k + 1, _, by omega, ⟨HA2.out, HB2.out⟩⟩, ?_⟩
        rw [HM.out, HL0.out]
        omega
      · obtain rfl : k = 256 - l.length := by omega
        have e256 : l.length + (256 - l.length) = 256 := by omega
        rw [e256] at hI z8
        have hy : wr.heap[w.heap.size]? = some (.cells zeroM 30 (0, 0)) := by rw [hI.out.2.block _ (lt_of_block HX.out.1)]; exact HX.out.1
        obtain ⟨⟨y0, y1, y2, y3, y4, y5, y6, y7, y8, y9, y10, y11⟩, yf, yl⟩ := twelve_cells hy
        have H4 : Hid (OwnM wr w.heap.size (.slice (some ⟨g1, 0, none⟩) 8 8) (.slice C 256 cc) (.slice none 0 0) (newM l) ∧ IsBox wr w.heap.size ∧ Below w.heap.size w wr) := ⟨hI.out.1.own.mono HX.out.2.size, ⟨_, hy⟩, HX.out.2.trans (hI.out.2.mono HX.out.2.size)⟩
        clear hI hy HX hlt e256 hk
        go_wp2_with fail
        refine bodyPost_ret (v := .tuple #[.agg #[.slice (some ⟨g1, 0, none⟩) 8 8, .int .i64 0, .int .i64 0, .bool false, .bool false, .int .i64 (-1), .int .i64 0, .int .i64 0, .slice C 256 cc, .slice none 0 0, .int .i64 0, .int .i64 (-1)], .int .i64 0]) (by simp [results, Tryd.results30, go_sem, y0, y1, y2, y3, y4, y5, y6, y7, y8, y9, y10, y11]) rfl ?_
        exact ⟨.slice (some ⟨g1, 0, none⟩) 8 8, .slice C 256 cc, .slice none 0 0, rfl, H4.out.1.set12 H4.out.2.1 _ _ _ _ _ _ _ _ _ _ _ _, below_set12 H4.out.2.2 (Nat.le_refl _) _ _ _ _ _ _ _ _ _ _ _ _⟩

end Go.Proofs.YtbjlfhpiebokkaaDoor
