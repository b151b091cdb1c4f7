/- RunChecks, walked. -/
import Derived.Test.YtlcdefpdahjjeagDoorTapePart
import Derived.Test.YtlcdefpdahjjeagDoorSameEv
namespace Go.Proofs.YtlcdefpdahjjeagDoor
open Go.RowKit
set_option maxRecDepth 100000

theorem DecQ.evsT {w w' : World} {u : Value} {g : Int × List Ev} (h : DecQ w w' u g) (h2 : g.1 ≠ 0 → g.2 = []) : EvsAt w' u g.2 := by
  by_cases h0 : g.1 = 0
  · obtain ⟨R, hR, ho, hR1, hR2⟩ := h.ok h0
    have := (ho.evs hR1 hR2).at_
    rwa [hR] at this
  · rw [h2 h0, h.no h0]
    exact ⟨none, 0, rfl, by simp, fun h => by simp at h⟩

set_option maxHeartbeats 1000000 in
theorem RunChecks_any (iv ev : Value) (im bs : List Int) (cnt : Int) (w : World) (h : TapeAt w iv ev im bs) (_ : (Lit.int .i64 cnt).wf = true) (hL : Laid w) :
    Calls Tryd.prog 4 #[.agg #[iv, ev, .int .i64 cnt]] w fun e w' => e = .returned (.bool true) ∧ Below w.heap.size w w' := by
  have h' := h
  obtain ⟨Ai, ci, rfl, -, -⟩ := h'.ims
  obtain ⟨Ae, ce, rfl, hfit⟩ := h'.fit
  obtain ⟨W, hW⟩ : ∃ W, W = w.alloc (.cells #[.slice Ai im.length ci, .slice Ae bs.length ce, .int .i64 cnt] 28) := ⟨_, rfl⟩
  have hx : W.heap[w.heap.size]? = some (.cells #[.slice Ai im.length ci, .slice Ae bs.length ce, .int .i64 cnt] 28 (0, 0)) := by rw [hW]; exact Go.Deep.blk_alloc_new _ _
  have hb0 : Below w.heap.size w W := by rw [hW]; exact below_alloc _ _
  have HW : Hid (W = w.alloc (.cells #[.slice Ai im.length ci, .slice Ae bs.length ce, .int .i64 cnt] 28)) := hW
  have HX : Hid (W.heap[w.heap.size]? = some (.cells #[.slice Ai im.length ci, .slice Ae bs.length ce, .int .i64 cnt] 28 (0, 0)) ∧ Below w.heap.size w W) := ⟨hx, hb0⟩
  have HC : Hid (Calls Tryd.prog 13 #[.agg #[.slice Ai im.length ci, .slice Ae bs.length ce, .int .i64 cnt]] W fun e w' => ∃ u, e = .returned (.tuple #[u, .int .i64 (tapeG im bs cnt).1]) ∧ DecQ W w' u (tapeG im bs cnt)) := RunCheck_any _ _ im bs cnt W (h.below hb0) (hL.below hb0)
  have HD : Hid (∀ X, Below w.heap.size w X → Calls Tryd.prog 14 #[.agg #[.slice Ai im.length ci, .slice Ae bs.length ce, .int .i64 cnt]] X fun e w' => ∃ u, e = .returned (.tuple #[u, .int .i64 (tapeG im bs cnt).1]) ∧ DecQ X w' u (tapeG im bs cnt)) := fun X hX => TapeFault_any _ _ im bs cnt X (h.below hX)
  have HN : Hid ((tapeG im bs cnt).1 ≠ 0 → (tapeG im bs cnt).2 = []) := tapeG_no
  obtain ⟨⟨gn, GL⟩, hG⟩ : ∃ G, G = tapeG im bs cnt := ⟨_, rfl⟩
  rw [← hG] at HC HD HN
  obtain ⟨x0, x1, x2, xf, xl⟩ := three_cells hx
  clear h h' hL hW hb0 hG hx
  go_enter Tryd.func4, Tryd.ntmps4
  go_wp2_with fail
  rw [← HW.out]
  refine HC.out.mono ?_
  rintro e w1 ⟨u1, rfl, hq1⟩
  have hb1 : Below w.heap.size w w1 := HX.out.2.trans (hq1.old.mono HX.out.2.size)
  have H1 : Hid (EvsAt w1 u1 GL ∧ Below w.heap.size w w1) := ⟨hq1.evsT HN.out, hb1⟩
  obtain ⟨z0, z1, z2, zf, zl⟩ := three_cells (show w1.heap[w.heap.size]? = _ from (hq1.old.block _ (lt_of_block HX.out.1)).trans HX.out.1)
  clear hq1 hb1 HC x0 x1 x2 xf xl
  dsimp only
  go_wp2_with fail
  refine (HD.out _ H1.out.2).mono ?_
  rintro e w2 ⟨u2, rfl, hq2⟩
  have H2 : Hid (EvsAt w2 u1 GL ∧ EvsAt w2 u2 GL ∧ Below w.heap.size w w2) := ⟨H1.out.1.below hq2.old, hq2.evsT HN.out, H1.out.2.trans (hq2.old.mono H1.out.2.size)⟩
  clear hq2 HD H1
  dsimp only
  go_wp2_with fail
  refine (sameEvents_same _ _ GL _ H2.out.1 H2.out.2.1).mono ?_
  rintro e w3 ⟨rfl, hb3⟩
  have HB3 : Hid (Below w.heap.size w w3) := H2.out.2.2.trans (hb3.mono H2.out.2.2.size)
  clear hb3
  go_wp2_with fail
  go_ret
  exact ⟨rfl, HB3.out⟩

end Go.Proofs.YtlcdefpdahjjeagDoor
