/- RunWorlds, walked. -/
import Derived.Test.YtlcdefpdahjjeafWorldF
namespace Go.Proofs.Ytlcdefpdahjjeaf
open Go.RowKit

theorem RunWorlds_any (a b c d : Value) (x : Wd) (w : World) (h : WdAt w a b c d x) :
    Calls Try.prog 5 #[.agg #[a, b, c, d]] w fun e w' => e = .returned (.bool true) ∧ Below w.heap.size w w' := by
  have hx : (w.alloc (.cells #[a, b, c, d] 40)).heap[w.heap.size]? = some (.cells #[a, b, c, d] 40 (0, 0)) := Go.Deep.blk_alloc_new _ _
  have hb0 := below_alloc w (.cells #[a, b, c, d] 40)
  obtain ⟨A0, k0, rfl, -, -⟩ := h.irqs
  obtain ⟨A1, k1, rfl, -, -⟩ := h.values
  obtain ⟨A2, k2, rfl, -, -⟩ := h.blocks
  obtain ⟨A3, k3, rfl, -, -⟩ := h.delays
  have HH : Hid (WdAt (w.alloc (.cells #[.slice A0 x.irqs.length k0, .slice A1 x.values.length k1, .slice A2 x.blocks.length k2, .slice A3 x.delays.length k3] 40)) (.slice A0 x.irqs.length k0) (.slice A1 x.values.length k1) (.slice A2 x.blocks.length k2) (.slice A3 x.delays.length k3) x ∧ Below w.heap.size w (w.alloc (.cells #[.slice A0 x.irqs.length k0, .slice A1 x.values.length k1, .slice A2 x.blocks.length k2, .slice A3 x.delays.length k3] 40)) ∧ (w.alloc (.cells #[.slice A0 x.irqs.length k0, .slice A1 x.values.length k1, .slice A2 x.blocks.length k2, .slice A3 x.delays.length k3] 40)).heap[w.heap.size]? = some (.cells #[.slice A0 x.irqs.length k0, .slice A1 x.values.length k1, .slice A2 x.blocks.length k2, .slice A3 x.delays.length k3] 40 (0, 0))) := ⟨h.below hb0, hb0, hx⟩
  clear h hx hb0
  go_enter Try.func5, Try.ntmps5
  go_wp2_with fail
  refine (CheckWorld_any _ _ _ _ x _ HH.out.1).mono ?_
  rintro e w1 ⟨rfl, hb1⟩
  have hx1 := (hb1.block _ (lt_of_block HH.out.2.2)).trans HH.out.2.2
  obtain ⟨z0, z1, z2, z3⟩ := wd_cells hx1
  have H1 : Hid (WdAt w1 (.slice A0 x.irqs.length k0) (.slice A1 x.values.length k1) (.slice A2 x.blocks.length k2) (.slice A3 x.delays.length k3) x ∧ Below w.heap.size w w1) := ⟨HH.out.1.below hb1, HH.out.2.1.trans (hb1.mono HH.out.2.1.size)⟩
  clear hb1 HH hx1
  go_wp2_with fail
  refine (WorldFault_any _ _ _ _ x _ H1.out.1).mono ?_
  rintro e w2 ⟨rfl, hb2⟩
  have H2 : Hid (Below w.heap.size w w2) := H1.out.2.trans (hb2.mono H1.out.2.size)
  clear hb2
  go_wp2_with fail
  go_ret
  exact ⟨by simp, H2.out⟩

end Go.Proofs.Ytlcdefpdahjjeaf
