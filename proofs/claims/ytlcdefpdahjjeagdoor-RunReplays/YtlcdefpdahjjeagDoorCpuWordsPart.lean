/- Contract of cpu.copyWords: new memory that holds the same numbers. -/
import Derived.Test.YtlcdefpdahjjeagDoorGuestPart
namespace Go.Proofs.YtlcdefpdahjjeagDoor
open Go.RowKit

set_option maxHeartbeats 1000000 in
theorem cpuWords_some (v : Value) (l : List Int) (w : World) (h : IntsAt w v l) :
    Calls Tryd.prog 85 #[v] w fun e w' => ∃ v', e = .returned v' ∧ OwnI w' w.heap.size v' l ∧ Below w.heap.size w w' := by
  obtain ⟨A, c, rfl, hl, hc⟩ := h
  have hmk := run_make_row' (P := Tryd.prog) 22 3 (.int .i64 0) 8 Tryd.underlying22 infoInt rfl .i64 .i64 l.length (by omega) (by omega)
  have hsi : (Tryd.prog.info? 3).map (·.size) = some 1 := by kernel_rfl
  have H1 := made_at w l.length
  have H3 := copy_src (g := w.heap.size) (.cells (madeCells #[Value.int .i64 0] l.length) 3) hc
  have H6 := below_alloc w (.cells (madeCells #[Value.int .i64 0] l.length) 3)
  have HC : Hid (_ ∧ _ ∧ _) := ⟨H1, H3, H6⟩
  clear H1 H3 H6 hc
  go_enter Tryd.func85, Tryd.ntmps85
  go_wp2_with (refine wpList_copy_splice rfl (.tmp 7) (.tmp 8) 22 22 rfl 3 Tryd.underlying22 hsi (some ⟨w.heap.size, 0, none⟩) A l.length l.length l.length c rfl rfl w.heap.size 0 (madeCells #[Value.int .i64 0] l.length).toList 3 HC.out.1 (l.map (Value.int .i64)) (by simp) HC.out.2.1 (by simp [size_madeCells]) (ints_oneCell _ _) w.heap.size w HC.out.2.2 (Nat.le_refl _) ?_)
  intro w2 hg2 hb2
  go_wp2
  go_ret
  refine ⟨_, rfl, OwnI.made (Nat.le_refl _) hl ?_, hb2⟩
  rw [hg2.out, splice_all l _ rfl]

theorem cpuWords_any (v : Value) (l : List Int) (w : World) (h : IntsAt w v l) :
    Calls Tryd.prog 85 #[v] w fun e w' => ∃ A c, e = .returned (.slice A l.length c) ∧ OwnI w' w.heap.size (.slice A l.length c) l ∧ Below w.heap.size w w' :=
  (cpuWords_some v l w h).mono fun e w' ⟨v', he, ho, hb⟩ => by
    obtain ⟨A, c, rfl⟩ := ho.shape
    exact ⟨A, c, he, ho, hb⟩

end Go.Proofs.YtlcdefpdahjjeagDoor

/- Contract of cpu.Copy: the same guest in new memory. -/

namespace Go.Proofs.YtlcdefpdahjjeagDoor
open Go.RowKit
set_option maxRecDepth 100000

set_option maxHeartbeats 4000000 in
theorem CpuCopy_own (m : Mach) (rv mv ov : Value) (w : World) (ha : MachAt w rv mv ov m) :
    Calls Tryd.prog 52 #[.agg (m.cells rv mv ov)] w fun e w' => ∃ rv' mv' ov', e = .returned (.agg (m.cells rv' mv' ov')) ∧ OwnM w' w.heap.size rv' mv' ov' m ∧ Below w.heap.size w w' := by
  obtain ⟨r, p, k, i, t, a, n, f, m, o, y, q⟩ := m
  have H1 : Hid (IntsAt w rv r) := ha.regs
  have H2 : Hid (IntsAt w mv m) := ha.mem
  have H3 : Hid (IntsAt w ov o) := ha.out
  clear ha
  simp only [Mach.cells]
  obtain ⟨b0, b1, b2⟩ := two_boxes (Below.refl (((w.alloc (.cells #[rv, .int .i64 p, .int .i64 k, .bool i, .bool t, .int .i64 a, .int .i64 n, .int .i64 f, mv, ov, .int .i64 y, .int .i64 q] 30)).alloc (.cells zeroM 30)).heap.size) ((w.alloc (.cells #[rv, .int .i64 p, .int .i64 k, .bool i, .bool t, .int .i64 a, .int .i64 n, .int .i64 f, mv, ov, .int .i64 y, .int .i64 q] 30)).alloc (.cells zeroM 30)))
  obtain ⟨W0, hW0⟩ : ∃ W0, W0 = ((w.alloc (.cells #[rv, .int .i64 p, .int .i64 k, .bool i, .bool t, .int .i64 a, .int .i64 n, .int .i64 f, mv, ov, .int .i64 y, .int .i64 q] 30)).alloc (.cells zeroM 30)) := ⟨_, rfl⟩
  have HW0 : Hid (W0 = ((w.alloc (.cells #[rv, .int .i64 p, .int .i64 k, .bool i, .bool t, .int .i64 a, .int .i64 n, .int .i64 f, mv, ov, .int .i64 y, .int .i64 q] 30)).alloc (.cells zeroM 30))) := hW0
  rw [← hW0] at b0 b1 b2
  clear hW0
  have B0 : Hid (W0.heap[w.heap.size]? = _ ∧ W0.heap[w.heap.size + 1]? = _ ∧ Below w.heap.size w W0) := ⟨b0, b1, b2⟩
  clear b0 b1 b2
  go_enter Tryd.func52, Tryd.ntmps52
  go_wp2_with fail
  rw [← HW0.out]
  refine (cpuWords_any rv r _ (H1.out.below B0.out.2.2)).mono ?_
  rintro e w1 ⟨A1, d1, rfl, ho1, hb1⟩
  clear H1 HW0
  have O1 : Hid (W0.heap.size ≤ w1.heap.size) := hb1.size
  obtain ⟨c0, c1, c2, c3, c4⟩ := copy_one (i := 0) B0.out.2.2 B0.out.1 B0.out.2.1 hb1 ho1
  obtain ⟨⟨z0, z1, z2, z3, z4, z5, z6, z7, z8, z9, z10, z11⟩, zf, zl⟩ := twelve_cells c0
  have C1 : Hid (_ ∧ _ ∧ _ ∧ _) := ⟨c1, c2, c3, c4⟩
  clear c0 c1 c2 c3 c4 ho1 hb1
  go_wp2_with fail
  clear z0 z1 z2 z3 z4 z5 z6 z7 z8 z9 z10 z11 zf zl
  refine (cpuWords_any mv m _ (H2.out.below C1.out.2.2.1)).mono ?_
  rintro e w2 ⟨A2, d2, rfl, ho2, hb2⟩
  clear H2
  have O2 : Hid (OwnI w2 W0.heap.size (.slice A1 r.length d1) r ∧ Apart (.slice A1 r.length d1) (.slice A2 m.length d2)) := ⟨C1.out.2.2.2.below hb2, apart_new C1.out.2.2.2 ho2 (Nat.le_refl _)⟩
  obtain ⟨c0, c1, c2, c3, c4⟩ := copy_one (i := 8) C1.out.2.2.1 C1.out.1 C1.out.2.1 hb2 ho2
  obtain ⟨⟨z0, z1, z2, z3, z4, z5, z6, z7, z8, z9, z10, z11⟩, zf, zl⟩ := twelve_cells c0
  have C2 : Hid (_ ∧ _ ∧ _ ∧ _) := ⟨c1, c2, c3, c4⟩
  have D2 : Hid (OwnI _ _ _ _) := O2.out.1.otherType (a := ⟨w.heap.size, 8, none⟩) c0 (by decide) (.slice A2 m.length d2)
  clear c0 c1 c2 c3 c4 ho2 hb2
  go_wp2_with fail
  clear z0 z1 z2 z3 z4 z5 z6 z7 z8 z9 z10 z11 zf zl
  refine (cpuWords_any ov o _ (H3.out.below C2.out.2.2.1)).mono ?_
  rintro e w3 ⟨A3, d3, rfl, ho3, hb3⟩
  clear H3
  have O3 : Hid (OwnI w3 w.heap.size (.slice A1 r.length d1) r ∧ OwnI w3 w.heap.size (.slice A2 m.length d2) m ∧ Apart (.slice A1 r.length d1) (.slice A3 o.length d3) ∧ Apart (.slice A2 m.length d2) (.slice A3 o.length d3)) :=
    ⟨ownsRow_mono (D2.out.below hb3) B0.out.2.2.size, ownsRow_mono (C2.out.2.2.2.below hb3) C1.out.2.2.1.size, apart_new D2.out ho3 (Nat.le_refl _), apart_new C2.out.2.2.2 ho3 (Nat.le_refl _)⟩
  obtain ⟨c0, c1, c2, c3, c4⟩ := copy_one (i := 9) C2.out.2.2.1 C2.out.1 C2.out.2.1 hb3 ho3
  obtain ⟨⟨z0, z1, z2, z3, z4, z5, z6, z7, z8, z9, z10, z11⟩, zf, zl⟩ := twelve_cells c0
  have cy : w3.heap[w.heap.size + 1]? = some (.cells zeroM 30 (0, 0)) := by rw [hb3.block _ (lt_of_block C2.out.2.1)]; exact C2.out.2.1
  obtain ⟨⟨y0, y1, y2, y3, y4, y5, y6, y7, y8, y9, y10, y11⟩, yf, yl⟩ := twelve_cells cy
  have HM : Hid (OwnM w3 w.heap.size (.slice A1 r.length d1) (.slice A2 m.length d2) (.slice A3 o.length d3) ⟨r, p, k, i, t, a, n, f, m, o, y, q⟩) :=
    ⟨O3.out.1, O3.out.2.1, ownsRow_mono ho3 C2.out.2.2.1.size, O2.out.2, O3.out.2.2.1, O3.out.2.2.2⟩
  have HB : Hid (IsBox w3 w.heap.size ∧ IsBox (w3.setCell ⟨w.heap.size, 9, none⟩ (.slice A3 o.length d3)) (w.heap.size + 1) ∧ Below w.heap.size w (w3.setCell ⟨w.heap.size, 9, none⟩ (.slice A3 o.length d3))) := ⟨⟨_, c0⟩, ⟨_, c2⟩, c3⟩
  clear c0 c1 c2 c3 c4 cy ho3 hb3 O3 O2 D2 C2 C1 O1 B0
  go_wp2_with fail
  refine bodyPost_ret (v := .agg #[.slice A1 r.length d1, .int .i64 p, .int .i64 k, .bool i, .bool t, .int .i64 a, .int .i64 n, .int .i64 f, .slice A2 m.length d2, .slice A3 o.length d3, .int .i64 y, .int .i64 q]) (by simp [results, Tryd.results52, go_sem, y0, y1, y2, y3, y4, y5, y6, y7, y8, y9, y10, y11]) rfl ?_
  exact ⟨_, _, _, rfl, (HM.out.box HB.out.1 9 _).set12 HB.out.2.1 _ _ _ _ _ _ _ _ _ _ _ _, below_set12 HB.out.2.2 (by omega) _ _ _ _ _ _ _ _ _ _ _ _⟩

theorem CpuCopy_any (m : Mach) (rv mv ov : Value) (w : World) (ha : MachAt w rv mv ov m) :
    Calls Tryd.prog 52 #[.agg (m.cells rv mv ov)] w fun e w' => ∃ A c B c' C c'', e = .returned (.agg (m.cells (.slice A m.regs.length c) (.slice B m.mem.length c') (.slice C m.out.length c''))) ∧ OwnM w' w.heap.size (.slice A m.regs.length c) (.slice B m.mem.length c') (.slice C m.out.length c'') m ∧ Below w.heap.size w w' :=
  (CpuCopy_own m rv mv ov w ha).mono fun e w' ⟨rv', mv', ov', he, ho, hb⟩ => by
    obtain ⟨A, c, B, c', C, c'', rfl, rfl, rfl⟩ := ho.shape
    exact ⟨A, c, B, c', C, c'', he, ho, hb⟩

end Go.Proofs.YtlcdefpdahjjeagDoor
