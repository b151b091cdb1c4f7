/- RunReplays, walked. -/
import Derived.Test.YtlcdefpdahjjeagDoorTapeFPart
import Derived.Test.YtlcdefpdahjjeagDoorWalkBPart
import Derived.Test.YtlcdefpdahjjeagDoorEvPart
import Derived.Test.YtlcdefpdahjjeagDoorBySumPart
namespace Go.Proofs.YtlcdefpdahjjeagDoor
open Go.RowKit
set_option maxRecDepth 100000

set_option maxHeartbeats 4000000 in
theorem RunReplays_any (iv ev : Value) (im bs : List Int) (cnt n : Int) (w : World) (h : TapeAt w iv ev im bs) (_ : (Lit.int .i64 cnt).wf = true) (_ : (Lit.int .i64 n).wf = true) (hL : Laid w) :
    Calls Tryd.prog 5 #[.agg #[iv, ev, .int .i64 cnt], .int .i64 n] w fun e w' => e = .returned (.bool true) ∧ Below w.heap.size w w' := by
  have h' := h
  obtain ⟨Ai, ci, rfl, -, -⟩ := h'.ims
  obtain ⟨Ae, ce, rfl, hfit⟩ := h'.fit
  obtain ⟨W, hW⟩ : ∃ W, W = w.alloc (.cells #[.slice Ai im.length ci, .slice Ae bs.length ce, .int .i64 cnt] 28) := ⟨_, rfl⟩
  have hx : W.heap[w.heap.size]? = some (.cells #[.slice Ai im.length ci, .slice Ae bs.length ce, .int .i64 cnt] 28 (0, 0)) := by rw [hW]; exact Go.Deep.blk_alloc_new _ _
  have hb0 : Below w.heap.size w W := by rw [hW]; exact below_alloc _ _
  have HW : Hid (W = w.alloc (.cells #[.slice Ai im.length ci, .slice Ae bs.length ce, .int .i64 cnt] 28)) := hW
  have HX : Hid (W.heap[w.heap.size]? = some (.cells #[.slice Ai im.length ci, .slice Ae bs.length ce, .int .i64 cnt] 28 (0, 0)) ∧ Below w.heap.size w W) := ⟨hx, hb0⟩
  have HC : Hid (Calls Tryd.prog 16 #[.agg #[.slice Ai im.length ci, .slice Ae bs.length ce, .int .i64 cnt], .int .i64 n] W fun e w' => RepQ W (replayG im bs cnt n) e w') := Replay_any _ _ im bs cnt n W (h.below hb0) (hL.below hb0)
  have HD : Hid (∀ X, Below w.heap.size w X → Calls Tryd.prog 17 #[.agg #[.slice Ai im.length ci, .slice Ae bs.length ce, .int .i64 cnt], .int .i64 n] X fun e w' => RepQ X (replayG im bs cnt n) e w') := fun X hX => ReplayedOf_any _ _ im bs cnt n X (h.below hX)
  obtain ⟨⟨M, no⟩, hG⟩ : ∃ G, G = replayG im bs cnt n := ⟨_, rfl⟩
  rw [← hG] at HC HD
  obtain ⟨x0, x1, x2, xf, xl⟩ := three_cells hx
  clear h h' hL hW hb0 hG hx
  go_enter Tryd.func5, Tryd.ntmps5
  go_wp2_with fail
  rw [← HW.out]
  refine HC.out.mono ?_
  rintro e w1 ⟨A1, d1, A2, d2, A3, d3, rfl, hm1, hb1⟩
  obtain ⟨z0, z1, z2, zf, zl⟩ := three_cells (show w1.heap[w.heap.size]? = _ from (hb1.block _ (lt_of_block HX.out.1)).trans HX.out.1)
  have H1 : Hid (MachAt w1 (.slice A1 M.regs.length d1) (.slice A2 M.mem.length d2) (.slice A3 M.out.length d3) M ∧ Below w.heap.size w w1) := ⟨hm1, HX.out.2.trans (hb1.mono HX.out.2.size)⟩
  clear hm1 hb1 HC x0 x1 x2 xf xl
  have zn : ¬ w.heap.size = w1.heap.size := by omega
  simp only [Mach.cells]
  go_wp2_with fail
  refine (HD.out _ (H1.out.2.alloc H1.out.2.size _)).mono ?_
  rintro e w2 ⟨D1, f1, D2, f2, D3, f3, rfl, hm2, hb2⟩
  obtain ⟨⟨y0, y1, y2, y3, y4, y5, y6, y7, y8, y9, y10, y11⟩, yf, yl⟩ := twelve_cells (box_kept hb2)
  have H2 : Hid (MachAt w2 (.slice A1 M.regs.length d1) (.slice A2 M.mem.length d2) (.slice A3 M.out.length d3) M ∧ MachAt w2 (.slice D1 M.regs.length f1) (.slice D2 M.mem.length f2) (.slice D3 M.out.length f3) M ∧ Below w.heap.size w w2) := ⟨(H1.out.1.below (below_alloc _ _)).below hb2, hm2, (H1.out.2.alloc H1.out.2.size _).trans (hb2.mono (by simp; have := H1.out.2.size; omega))⟩
  have yn : ¬ w1.heap.size = w2.heap.size := by omega
  have HS : Hid (∀ X, Below w2.heap.size w2 X → Calls Tryd.prog 12 #[.agg (M.cells (.slice A1 M.regs.length d1) (.slice A2 M.mem.length d2) (.slice A3 M.out.length d3)), .agg (M.cells (.slice D1 M.regs.length f1) (.slice D2 M.mem.length f2) (.slice D3 M.out.length f3))] X fun e w' => e = .returned (.bool true) ∧ Below X.heap.size X w') := fun X hX => sameMachine_same M _ _ _ _ _ _ X (H2.out.1.below hX) (H2.out.2.1.below hX)
  simp only [Mach.cells] at HS
  clear hm2 hb2 z0 z1 z2 zf zl HD
  simp only [Mach.cells]
  go_wp2_with fail
  refine (HS.out _ (below_alloc _ _)).mono ?_
  rintro e w3 ⟨rfl, hb3⟩
  have HB3 : Hid (Below w.heap.size w w3) := (H2.out.2.2.alloc H2.out.2.2.size _).trans (hb3.mono (by simp; have := H2.out.2.2.size; omega))
  clear hb3
  go_wp2_with fail
  go_ret
  exact ⟨rfl, HB3.out⟩

end Go.Proofs.YtlcdefpdahjjeagDoor

/- A slice of bytes that is handed in, opened. -/

namespace Go.Proofs.YtlcdefpdahjjeagDoor
open Go.ChangeShapes Go.WideShapes Go.ChangeAt Go.RowKit Go.Deep Go.Joins
set_option maxRecDepth 100000

/-- A slice over these bytes, with room. -/
def BytesIn (w : World) (v : Value) (l : List Int) : Prop := BytesAt w v l ∧ ∃ A c, v = .slice A l.length c ∧ l.length ≤ c
theorem BytesIn.below {w w' : World} {v : Value} {l : List Int} (h : BytesIn w v l) (hb : Below w.heap.size w w') : BytesIn w' v l := ⟨h.1.below hb, h.2⟩

theorem cellsByte : Tryd.prog.cellsOf 5 = 1 := by kernel_rfl
theorem bytesByte : Tryd.prog.bytesOf 5 = 1 := by kernel_rfl

theorem bytesIn_of {H : Type} {enc : TypeId × Value → H} {W : World} {fuel : Nat} {v : Value} {x : DataW H × List MemPlace}
    (h : DataW.trod enc Tryd.prog W 0 (fun _ => true) true fuel 26 [v] = some x) (hs : ∀ n ∈ x.1.weights Tryd.prog 26, n ≤ reachBytes) :
    ∃ l, BytesIn W v l := by
  rcases open_ints Tryd.underlying26 Tryd.underlying5 cellsByte h with ⟨hcs, _⟩ | ⟨a, len, cap, zs, hcs, _, hl, hm, hz, hx, hcell, hwz⟩
  · simp at hcs
    exact ⟨[], ⟨none, 0, by simpa using hcs, by simp, by simp, fun h => by simp at h⟩, none, 0, by simpa using hcs, by simp⟩
  · simp at hcs
    subst hcs
    simp only [if_true] at hz
    have hlen : (zs.take len).length = len := by simp; omega
    refine ⟨zs.take len, ⟨some a, cap, by rw [hlen], ?_, fun n hn => ?_, fun h0 => ?_⟩, some a, cap, by rw [hlen], by rw [hlen]; exact hl⟩
    · have := hs ((zs.take len).length * 1 + (zs.drop len).length * 1) (by
        rw [hx]
        simp only [DataW.weights, Tryd.underlying26, bytesByte, List.mem_cons]
        left
        simp [lits])
      rw [reach_is] at this
      omega
    · have := hwz n (List.mem_of_mem_take hn)
      simpa [Lit.wf, IntKind.min, IntKind.max, IntKind.signed, IntKind.bits] using this
    · rw [hlen] at h0 ⊢
      obtain ⟨b, off, rfl, hc⟩ := ints_at hcell (by omega)
      refine ⟨b, off, rfl, World.block_lt_of_cell? _ _ (hc 0 (by omega)), fun j hj => ?_⟩
      rw [hc j (by omega)]
      simp [List.getD, hj]

/-- The slice is nil, or it has an address. -/
theorem bytesNil_of {H : Type} {enc : TypeId × Value → H} {W : World} {fuel : Nat} {v : Value} {x : DataW H × List MemPlace}
    (h : DataW.trod enc Tryd.prog W 0 (fun _ => true) true fuel 26 [v] = some x) : v = .slice none 0 0 ∨ ∃ a n c, v = .slice (some a) n c := by
  rcases open_ints Tryd.underlying26 Tryd.underlying5 cellsByte h with ⟨hcs, _⟩ | ⟨a, len, cap, zs, hcs, _, hl, hm, hz, hx, hcell, hwz⟩
  · simp at hcs
    exact Or.inl hcs
  · simp at hcs
    exact Or.inr ⟨a, len, cap, hcs⟩
theorem bytesInN_of {H : Type} {enc : TypeId × Value → H} {W : World} {fuel : Nat} {v : Value} {x : DataW H × List MemPlace}
    (h : DataW.trod enc Tryd.prog W 0 (fun _ => true) true fuel 26 [v] = some x) (hs : ∀ n ∈ x.1.weights Tryd.prog 26, n ≤ reachBytes) :
    ∃ l, BytesIn W v l ∧ (v = .slice none 0 0 ∨ ∃ a n c, v = .slice (some a) n c) := by
  obtain ⟨l, hl⟩ := bytesIn_of h hs
  exact ⟨l, hl, bytesNil_of h⟩

end Go.Proofs.YtlcdefpdahjjeagDoor
