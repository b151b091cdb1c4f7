/- Contract of sameInts: it tells whether two lists of numbers are the same. -/
import Derived.Test.YtbjlfhpiebokkaaDoorToldCPart
import Derived.Test.YtbjlfhpiebokkaaDoorCloPart
import Derived.Test.YtbjlfhpiebokkaaDoorTapeFPart
import Derived.Test.YtbjlfhpiebokkaaDoorOpenIPart
import Derived.Test.YtbjlfhpiebokkaaDoorBySumPart
import Derived.Test.YtbjlfhpiebokkaaDoorTapePart
namespace Go.Proofs.YtbjlfhpiebokkaaDoor
open Go.RowKit
set_option maxRecDepth 100000

theorem take_eq_step {la lb : List Int} {k : Nat} (ha : k < la.length) (hb : k < lb.length) (h : la.take k = lb.take k) (e : la.getD k 0 = lb.getD k 0) : la.take (k + 1) = lb.take (k + 1) := by
  rw [List.take_succ_eq_append_getElem ha, List.take_succ_eq_append_getElem hb, h]
  simp [List.getD, ha, hb] at e
  rw [e]

theorem eq_of_take {la lb : List Int} {k : Nat} (hl : la.length = lb.length) (hk : ¬ k < la.length) (h : la.take k = lb.take k) : la = lb := by
  rw [List.take_of_length_le (by omega), List.take_of_length_le (by omega)] at h
  exact h

set_option maxHeartbeats 400000 in
theorem sameInts_any (va vb : Value) (la lb : List Int) (w : World) (ha : IntsAt w va la) (hb : IntsAt w vb lb) :
    Calls Tryd.prog 37 #[va, vb] w fun e w' => e = .returned (.bool (decide (la = lb))) ∧ ∃ n, w' = w.drewN n := by
  obtain ⟨A, ca, rfl, hla, hca⟩ := ha
  obtain ⟨B, cb, rfl, hlb, hcb⟩ := hb
  by_cases hlen : la.length = lb.length
  · have hl1 : (((la.length : Int)) != (lb.length : Int)) = false := by simp [hlen]
    have HL : Hid (la.length = lb.length) := hlen
    have hle1 : la.length ≤ lb.length := by omega
    have hle2 : lb.length ≤ la.length := by omega
    clear hlen
    go_enter Tryd.func37, Tryd.ntmps37
    go_wp2
    go_loopw [5] (fun i wr => ∃ k : Nat, k ≤ la.length ∧ i = .int .i64 k ∧ Hid (la.take k = lb.take k) ∧ ∃ n, wr = w.drewN n) (fun i _ => la.length - (intOf i).toNat)
    case atStart => exact ⟨0, Nat.zero_le _, rfl, by simp [Hid], 0, rfl⟩
    case round =>
      obtain ⟨k, hk, rfl, ht, n, rfl⟩ := hrel
      by_cases hlt : k < la.length
      · obtain ⟨b, off, rfl, hbs, hcell⟩ := hca (by omega)
        obtain ⟨b', off', rfl, hbs', hcell'⟩ := hcb (by omega)
        have h1 := hcell k hlt
        have h2 := hcell' k (by omega)
        clear hcell hcell' hca hcb
        have hx : Hid (la.getD k 0 = la.getD k 0) := rfl
        have hy : Hid (lb.getD k 0 = lb.getD k 0) := rfl
        revert h1 h2 hx hy
        generalize hgx : la.getD k 0 = x
        generalize hgy : lb.getD k 0 = y
        intro h1 h2 _ _
        have HX : Hid (la.getD k 0 = x) := hgx
        have HY : Hid (lb.getD k 0 = y) := hgy
        clear hgx hgy
        by_cases he : x = y
        · subst he
          go_wp2
          go_quiet (fail)
          go_wp2
          refine ⟨⟨k + 1, by omega, by go_num, take_eq_step (by omega) (by omega) ht.out (HX.out.trans HY.out.symm), _, rfl⟩, ?_⟩
          simp [intOf]; omega
        · have hne : (x != y) = true := by simp [he]
          have HE : Hid (x ≠ y) := he
          clear he
          go_wp2
          go_quiet (fail)
          go_wp2
          go_ret
          refine ⟨?_, drewN_two _ _ _⟩
          have : la ≠ lb := fun h => HE.out (by rw [← HX.out, ← HY.out, h])
          simp [this]
      · clear hca hcb
        go_wp2
        go_ret
        refine ⟨?_, _, rfl⟩
        simp [eq_of_take HL.out hlt ht.out]
  · have hl1 : (((la.length : Int)) != (lb.length : Int)) = true := by simp; omega
    have HL : Hid (la ≠ lb) := fun h => hlen (by rw [h])
    clear hlen
    go_enter Tryd.func37, Tryd.ntmps37
    go_wp2
    go_ret
    refine ⟨?_, 0, rfl⟩
    have := HL.out
    simp [this]

end Go.Proofs.YtbjlfhpiebokkaaDoor

/- Contract of sameMachine: two guests that are the same. -/

namespace Go.Proofs.YtbjlfhpiebokkaaDoor
open Go.RowKit

theorem sameInts_same (va vb : Value) (l : List Int) (w : World) (ha : IntsAt w va l) (hb : IntsAt w vb l) :
    Calls Tryd.prog 37 #[va, vb] w fun e w' => e = .returned (.bool true) ∧ ∃ n, w' = w.drewN n := by
  have := sameInts_any va vb l l w ha hb
  simpa using this

set_option maxHeartbeats 4000000 in
theorem sameMachine_same (m : Mach) (rv mv ov rv' mv' ov' : Value) (w : World) (ha : MachAt w rv mv ov m) (hb : MachAt w rv' mv' ov' m) :
    Calls Tryd.prog 11 #[.agg (m.cells rv mv ov), .agg (m.cells rv' mv' ov')] w fun e w' => e = .returned (.bool true) ∧ Below w.heap.size w w' := by
  obtain ⟨r, p, k, i, t, a, n, f, m, o, y, q⟩ := m
  have H1 : Hid (IntsAt w rv r) := ha.regs
  have H2 : Hid (IntsAt w mv m) := ha.mem
  have H3 : Hid (IntsAt w ov o) := ha.out
  have K1 : Hid (IntsAt w rv' r) := hb.regs
  have K2 : Hid (IntsAt w mv' m) := hb.mem
  have K3 : Hid (IntsAt w ov' o) := hb.out
  clear ha hb
  simp only [Mach.cells]
  go_enter Tryd.func11, Tryd.ntmps11
  go_wp2_with fail
  refine (sameInts_same rv rv' r _ (H1.out.below (below_alloc2 _ _ _)) (K1.out.below (below_alloc2 _ _ _))).mono ?_
  rintro e w' ⟨rfl, j1, rfl⟩
  clear H1 K1
  go_wp2_with fail
  refine (sameInts_same mv mv' m _ ((H2.out.below (below_alloc2 _ _ _)).drewN _) ((K2.out.below (below_alloc2 _ _ _)).drewN _)).mono ?_
  rintro e w' ⟨rfl, j2, rfl⟩
  clear H2 K2
  go_wp2_with fail
  refine (sameInts_same ov ov' o _ ((H3.out.below (below_alloc2 _ _ _)).drewN _) ((K3.out.below (below_alloc2 _ _ _)).drewN _)).mono ?_
  rintro e w' ⟨rfl, j3, rfl⟩
  clear H3 K3
  go_wp2_with fail
  go_ret
  exact ⟨rfl, below_drewN (below_alloc2 _ _ _) _⟩

end Go.Proofs.YtbjlfhpiebokkaaDoor

/- RunReplays, walked. -/

namespace Go.Proofs.YtbjlfhpiebokkaaDoor
open Go.RowKit
set_option maxRecDepth 100000

set_option maxHeartbeats 4000000 in
theorem RunReplays_any (iv ev : Value) (im bs : List Int) (cnt n : Int) (w : World) (h : TapeAt w iv ev im bs) (_ : (Lit.int .i64 cnt).wf = true) (_ : (Lit.int .i64 n).wf = true) (hL : Laid w) :
    Calls Tryd.prog 4 #[.agg #[iv, ev, .int .i64 cnt], .int .i64 n] w fun e w' => e = .returned (.bool true) ∧ Below w.heap.size w w' := by
  have h' := h
  obtain ⟨Ai, ci, rfl, -, -⟩ := h'.ims
  obtain ⟨Ae, ce, rfl, hfit⟩ := h'.fit
  obtain ⟨W, hW⟩ : ∃ W, W = w.alloc (.cells #[.slice Ai im.length ci, .slice Ae bs.length ce, .int .i64 cnt] 28) := ⟨_, rfl⟩
  have hx : W.heap[w.heap.size]? = some (.cells #[.slice Ai im.length ci, .slice Ae bs.length ce, .int .i64 cnt] 28 (0, 0)) := by rw [hW]; exact Go.Deep.blk_alloc_new _ _
  have hb0 : Below w.heap.size w W := by rw [hW]; exact below_alloc _ _
  have HW : Hid (W = w.alloc (.cells #[.slice Ai im.length ci, .slice Ae bs.length ce, .int .i64 cnt] 28)) := hW
  have HX : Hid (W.heap[w.heap.size]? = some (.cells #[.slice Ai im.length ci, .slice Ae bs.length ce, .int .i64 cnt] 28 (0, 0)) ∧ Below w.heap.size w W) := ⟨hx, hb0⟩
  have HC : Hid (Calls Tryd.prog 12 #[.agg #[.slice Ai im.length ci, .slice Ae bs.length ce, .int .i64 cnt], .int .i64 n] W fun e w' => RepQ W (replayG im bs cnt n) e w') := Replay_any _ _ im bs cnt n W (h.below hb0) (hL.below hb0)
  have HD : Hid (∀ X, Below w.heap.size w X → Calls Tryd.prog 13 #[.agg #[.slice Ai im.length ci, .slice Ae bs.length ce, .int .i64 cnt], .int .i64 n] X fun e w' => RepQ X (replayG im bs cnt n) e w') := fun X hX => ReplayedOf_any _ _ im bs cnt n X (h.below hX)
  obtain ⟨⟨M, no⟩, hG⟩ : ∃ G, G = replayG im bs cnt n := ⟨_, rfl⟩
  rw [← hG] at HC HD
  obtain ⟨x0, x1, x2, xf, xl⟩ := three_cells hx
  clear h h' hL hW hb0 hG hx
  go_enter Tryd.func4, Tryd.ntmps4
  go_wp2_with fail
  rw [← HW.out]
  refine HC.out.mono ?_
  rintro e w1 ⟨A1, d1, A2, d2, A3, d3, rfl, hm1, hb1⟩
  obtain ⟨z0, z1, z2, zf, zl⟩ := three_cells (show w1.heap[w.heap.size]? = _ from (hb1.block _ (lt_of_block HX.out.1)).trans HX.out.1)
  have H1 : Hid (MachAt w1 (.slice A1 M.regs.length d1) (.slice A2 M.mem.length d2) (.slice A3 M.out.length d3) M ∧ Below w.heap.size w w1) := ⟨hm1, HX.out.2.trans (hb1.mono HX.out.2.size)⟩
  clear hm1 hb1 HC x0 x1 x2 xf xl
  have zn : ¬ w.heap.size = w1.heap.size := by omega
  simp only [Mach.cells]
  go_wp2_with fail
  refine (HD.out _ (H1.out.2.alloc H1.out.2.size _)).mono ?_
  rintro e w2 ⟨D1, f1, D2, f2, D3, f3, rfl, hm2, hb2⟩
  obtain ⟨⟨y0, y1, y2, y3, y4, y5, y6, y7, y8, y9, y10, y11⟩, yf, yl⟩ := twelve_cells (box_kept hb2)
  have H2 : Hid (MachAt w2 (.slice A1 M.regs.length d1) (.slice A2 M.mem.length d2) (.slice A3 M.out.length d3) M ∧ MachAt w2 (.slice D1 M.regs.length f1) (.slice D2 M.mem.length f2) (.slice D3 M.out.length f3) M ∧ Below w.heap.size w w2) := ⟨(H1.out.1.below (below_alloc _ _)).below hb2, hm2, (H1.out.2.alloc H1.out.2.size _).trans (hb2.mono (by simp; have := H1.out.2.size; omega))⟩
  have yn : ¬ w1.heap.size = w2.heap.size := by omega
  have HS : Hid (∀ X, Below w2.heap.size w2 X → Calls Tryd.prog 11 #[.agg (M.cells (.slice A1 M.regs.length d1) (.slice A2 M.mem.length d2) (.slice A3 M.out.length d3)), .agg (M.cells (.slice D1 M.regs.length f1) (.slice D2 M.mem.length f2) (.slice D3 M.out.length f3))] X fun e w' => e = .returned (.bool true) ∧ Below X.heap.size X w') := fun X hX => sameMachine_same M _ _ _ _ _ _ X (H2.out.1.below hX) (H2.out.2.1.below hX)
  simp only [Mach.cells] at HS
  clear hm2 hb2 z0 z1 z2 zf zl HD
  simp only [Mach.cells]
  go_wp2_with fail
  refine (HS.out _ (below_alloc _ _)).mono ?_
  rintro e w3 ⟨rfl, hb3⟩
  have HB3 : Hid (Below w.heap.size w w3) := (H2.out.2.2.alloc H2.out.2.2.size _).trans (hb3.mono (by simp; have := H2.out.2.2.size; omega))
  clear hb3
  go_wp2_with fail
  go_ret
  exact ⟨rfl, HB3.out⟩

end Go.Proofs.YtbjlfhpiebokkaaDoor

/- A slice of bytes that is handed in, opened. -/

namespace Go.Proofs.YtbjlfhpiebokkaaDoor
open Go.ChangeShapes Go.WideShapes Go.ChangeAt Go.RowKit Go.Deep Go.Joins
set_option maxRecDepth 100000

def BytesIn (w : World) (v : Value) (l : List Int) : Prop := BytesAt w v l ∧ ∃ A c, v = .slice A l.length c ∧ l.length ≤ c
theorem BytesIn.below {w w' : World} {v : Value} {l : List Int} (h : BytesIn w v l) (hb : Below w.heap.size w w') : BytesIn w' v l := ⟨h.1.below hb, h.2⟩

theorem cellsByte : Tryd.prog.cellsOf 5 = 1 := by kernel_rfl
theorem bytesByte : Tryd.prog.bytesOf 5 = 1 := by kernel_rfl

theorem bytesIn_of {H : Type} {enc : TypeId × Value → H} {W : World} {fuel : Nat} {v : Value} {x : DataW H × List MemPlace}
    (h : DataW.trod enc Tryd.prog W 0 (fun _ => true) true fuel 26 [v] = some x) (hs : ∀ n ∈ x.1.weights Tryd.prog 26, n ≤ reachBytes) :
    ∃ l, BytesIn W v l := by
  rcases open_ints Tryd.underlying26 Tryd.underlying5 cellsByte h with ⟨hcs, _⟩ | ⟨a, len, cap, zs, hcs, _, hl, hm, hz, hx, hcell, hwz⟩
  · simp at hcs
    exact ⟨[], ⟨none, 0, by simpa using hcs, by simp, by simp, fun h => by simp at h⟩, none, 0, by simpa using hcs, by simp⟩
  · simp at hcs
    subst hcs
    simp only [if_true] at hz
    have hlen : (zs.take len).length = len := by simp; omega
    refine ⟨zs.take len, ⟨some a, cap, by rw [hlen], ?_, fun n hn => ?_, fun h0 => ?_⟩, some a, cap, by rw [hlen], by rw [hlen]; exact hl⟩
    · have := hs ((zs.take len).length * 1 + (zs.drop len).length * 1) (by
        rw [hx]
        simp only [DataW.weights, Tryd.underlying26, bytesByte, List.mem_cons]
        left
        simp [lits])
      rw [reach_is] at this
      omega
    · have := hwz n (List.mem_of_mem_take hn)
      simpa [Lit.wf, IntKind.min, IntKind.max, IntKind.signed, IntKind.bits] using this
    · rw [hlen] at h0 ⊢
      obtain ⟨b, off, rfl, hc⟩ := ints_at hcell (by omega)
      refine ⟨b, off, rfl, World.block_lt_of_cell? _ _ (hc 0 (by omega)), fun j hj => ?_⟩
      rw [hc j (by omega)]
      simp [List.getD, hj]

theorem bytesNil_of {H : Type} {enc : TypeId × Value → H} {W : World} {fuel : Nat} {v : Value} {x : DataW H × List MemPlace}
    (h : DataW.trod enc Tryd.prog W 0 (fun _ => true) true fuel 26 [v] = some x) : v = .slice none 0 0 ∨ ∃ a n c, v = .slice (some a) n c := by
  rcases open_ints Tryd.underlying26 Tryd.underlying5 cellsByte h with ⟨hcs, _⟩ | ⟨a, len, cap, zs, hcs, _, hl, hm, hz, hx, hcell, hwz⟩
  · simp at hcs
    exact Or.inl hcs
  · simp at hcs
    exact Or.inr ⟨a, len, cap, hcs⟩
theorem bytesInN_of {H : Type} {enc : TypeId × Value → H} {W : World} {fuel : Nat} {v : Value} {x : DataW H × List MemPlace}
    (h : DataW.trod enc Tryd.prog W 0 (fun _ => true) true fuel 26 [v] = some x) (hs : ∀ n ∈ x.1.weights Tryd.prog 26, n ≤ reachBytes) :
    ∃ l, BytesIn W v l ∧ (v = .slice none 0 0 ∨ ∃ a n c, v = .slice (some a) n c) := by
  obtain ⟨l, hl⟩ := bytesIn_of h hs
  exact ⟨l, hl, bytesNil_of h⟩

end Go.Proofs.YtbjlfhpiebokkaaDoor

/- A tape that is handed in, opened. -/

namespace Go.Proofs.YtbjlfhpiebokkaaDoor
open Go.ChangeShapes Go.WideShapes Go.ChangeAt Go.RowKit Go.Deep Go.Joins
set_option maxRecDepth 100000

theorem cellsTape : Tryd.prog.cellsOf 28 = 3 := by kernel_rfl

theorem tapeAt_of {H : Type} {enc : TypeId × Value → H} {W : World} {base : Nat} {v : Value} {d : DataW H} {p : List MemPlace}
    (hv : Value.okWide Tryd.prog W .any base 28 v) (h : DataW.Trod enc Tryd.prog W 0 (fun _ => true) true 28 v d p) (hs : ∀ n ∈ d.weights Tryd.prog 28, n ≤ reachBytes) :
    ∃ iv ev im bs cnt, v = .agg #[iv, ev, .int .i64 cnt] ∧ TapeAt W iv ev im bs ∧ (Lit.int .i64 cnt).wf = true := by
  obtain ⟨v0, v1, v2, y0, y1, y2, m, rfl, rfl, rfl, hy0, hy1, hy2⟩ := open_agg3 Tryd.underlying28 (by kernel_rfl) cellsTape hv h
  have hw : ∀ (j : Nat) t d, [22, 26, 3][j]? = some t → [y0.1, y1.1, y2.1][j]? = some d → ∀ n ∈ d.weights Tryd.prog t, n ≤ reachBytes := fun j t d ht hd n hn => hs n (by
    simp only [DataW.weights, Tryd.underlying28]
    exact DataW.weights_mem_each (j := j) (by simpa using ht) (by simpa using hd) n hn)
  obtain ⟨l0, h0, -⟩ := intsAt_of hy0 (hw 0 _ _ rfl rfl)
  obtain ⟨l1, h1⟩ := bytesIn_of hy1 (hw 1 _ _ rfl rfl)
  obtain ⟨x, e, _, hx⟩ := DataW.trod_int Tryd.underlying3 hy2
  simp at e
  subst e
  exact ⟨v0, v1, l0, l1, x, rfl, ⟨h0, h1.1, h1.2⟩, hx⟩

end Go.Proofs.YtbjlfhpiebokkaaDoor
