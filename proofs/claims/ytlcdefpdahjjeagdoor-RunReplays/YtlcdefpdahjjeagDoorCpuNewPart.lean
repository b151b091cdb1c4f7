/- Contract of cpu.New. -/
import Derived.Test.YtlcdefpdahjjeagDoorCloPart
import Derived.Test.YtlcdefpdahjjeagDoorGuestPart
import Derived.Test.YtlcdefpdahjjeagDoorCpuMPart
import Derived.Test.YtlcdefpdahjjeagDoorRunPart
import Derived.Test.YtlcdefpdahjjeagDoorKEvPart
namespace Go.Proofs.YtlcdefpdahjjeagDoor
open Go.RowKit

/-- A new guest. -/
def newM (l : List Int) : Mach := ⟨List.replicate 8 0, 0, 0, false, false, -1, 0, 0, l ++ List.replicate (256 - l.length) 0, [], 0, -1⟩
/-- What is wrong with an image. -/
def newNo (l : List Int) : Int := if 256 < l.length then 1 else if !allB l then 2 else 0

set_option maxHeartbeats 2000000 in
theorem New_no (v : Value) (l : List Int) (w : World) (h : IntsAt w v l) (hn : newNo l ≠ 0) :
    Calls Tryd.prog 26 #[v] w fun e w' => e = .returned (.tuple #[.agg zeroM, .int .i64 (newNo l)]) ∧ Below w.heap.size w w' := by
  have H : Hid (IntsAt w v l) := h
  obtain ⟨A, c, rfl, hl, hc⟩ := h
  clear hc
  by_cases h1 : 256 < l.length
  · rw [show newNo l = 1 by simp [newNo, h1]]
    have d0 : decide (256 < (l.length : Int)) = true := by simp; omega
    obtain ⟨⟨y0, y1, y2, y3, y4, y5, y6, y7, y8, y9, y10, y11⟩, yf, yl⟩ := twelve_cells (Go.Deep.blk_alloc_new w (.cells zeroM 30))
    clear hn h1
    go_enter Tryd.func26, Tryd.ntmps26
    go_wp2_with fail
    refine bodyPost_ret (v := .tuple #[.agg zeroM, .int .i64 1]) (by simp [results, Tryd.results26, go_sem, y0, y1, y2, y3, y4, y5, y6, y7, y8, y9, y10, y11]) rfl ?_
    exact ⟨rfl, below_alloc _ _⟩
  · have h2 : allB l = false := by
      cases e : allB l with
      | false => rfl
      | true => exact absurd (by simp [newNo, h1, e]) hn
    rw [show newNo l = 2 by simp [newNo, h1, h2]]
    have d0 : decide (256 < (l.length : Int)) = false := by simp; omega
    clear hn h1
    go_enter Tryd.func26, Tryd.ntmps26
    go_wp2_with fail
    refine (haveNoWord_any _ l _ (H.out.below (below_alloc _ _))).mono ?_
    rw [h2]
    rintro e w1 ⟨rfl, hb1⟩
    obtain ⟨⟨y0, y1, y2, y3, y4, y5, y6, y7, y8, y9, y10, y11⟩, yf, yl⟩ := twelve_cells (box_kept hb1)
    have HB : Hid (Below w.heap.size w w1) := (below_alloc _ _).trans (hb1.mono (by simp))
    clear hb1
    go_wp2_with fail
    refine bodyPost_ret (v := .tuple #[.agg zeroM, .int .i64 2]) (by simp [results, Tryd.results26, go_sem, y0, y1, y2, y3, y4, y5, y6, y7, y8, y9, y10, y11]) rfl ?_
    exact ⟨rfl, below_set12 HB.out (Nat.le_refl _) _ _ _ _ _ _ _ _ _ _ _ _⟩

/-- Three new blocks. -/
theorem new_three (w : World) (o1 o2 o3 : Obj) : (((w.alloc o1).alloc o2).alloc o3).drew.heap[w.heap.size]? = some o1 ∧ (((w.alloc o1).alloc o2).alloc o3).drew.heap[w.heap.size + 1]? = some o2 ∧ (((w.alloc o1).alloc o2).alloc o3).drew.heap[w.heap.size + 1 + 1]? = some o3 ∧ Below w.heap.size w (((w.alloc o1).alloc o2).alloc o3).drew := by
  refine ⟨?_, ?_, ?_, (((below_alloc _ _).alloc (by simp) _).alloc (by simp; omega) _).drew⟩
  · show (((w.alloc o1).alloc o2).alloc o3).heap[w.heap.size]? = some o1
    rw [Go.Deep.blk_alloc_lt _ _ _ (by simp; omega), Go.Deep.blk_alloc_lt _ _ _ (by simp), Go.Deep.blk_alloc_new]
  · show (((w.alloc o1).alloc o2).alloc o3).heap[w.heap.size + 1]? = some o2
    rw [Go.Deep.blk_alloc_lt _ _ _ (by simp)]
    have := Go.Deep.blk_alloc_new (w.alloc o1) o2
    rwa [show (w.alloc o1).heap.size = w.heap.size + 1 by simp] at this
  · show (((w.alloc o1).alloc o2).alloc o3).heap[w.heap.size + 1 + 1]? = some o3
    have := Go.Deep.blk_alloc_new ((w.alloc o1).alloc o2) o3
    rwa [show ((w.alloc o1).alloc o2).heap.size = w.heap.size + 1 + 1 by simp] at this

/-- A guest with nothing in it. -/
def zeroG : Mach := ⟨List.replicate 8 0, 0, 0, false, false, -1, 0, 0, List.replicate 256 0, [], 0, -1⟩
/-- What New lays out. -/
structure NewInv (w wx : World) (b g1 g2 : Nat) : Prop where
  box : wx.heap[b]? = some (.cells (zeroG.cells (.slice (some ⟨g1, 0, none⟩) 8 8) (.slice (some ⟨g2, 0, none⟩) 256 256) (.slice none 0 0)) 30 (0, 0))
  r1 : wx.heap[g1]? = some (.cells (madeCells #[.int .i64 0] 8) 3 (0, 0))
  r2 : wx.heap[g2]? = some (.cells (madeCells #[.int .i64 0] 256) 3 (0, 0))
  lb : w.heap.size ≤ b
  l1 : w.heap.size ≤ g1
  l2 : w.heap.size ≤ g2
  ne : g1 ≠ g2
  old : Below w.heap.size w wx
theorem NewInv.at {w wx : World} {b g1 g2 : Nat} (h : NewInv w wx b g1 g2) : AtP wx w.heap.size b (.slice (some ⟨g1, 0, none⟩) 8 8) (.slice (some ⟨g2, 0, none⟩) 256 256) (.slice none 0 0) zeroG :=
  ⟨h.box, ⟨OwnI.madeZ h.l1 (by unfold maxLen; omega) h.r1, OwnI.madeZ h.l2 (by unfold maxLen; omega) h.r2, World.ownsRow_nil _ _ _ _, fun g e e2 => by simp [Value.ownBlock] at e e2; exact h.ne (e.trans e2.symm), fun g e e2 => by simp [Value.ownBlock] at e2, fun g e e2 => by simp [Value.ownBlock] at e2⟩, h.lb⟩

/-- The image is copied. -/
theorem AtP.image {w : World} {lo b g1 g2 : Nat} {l : List Int} (h : AtP w lo b (.slice (some ⟨g1, 0, none⟩) 8 8) (.slice (some ⟨g2, 0, none⟩) 256 256) (.slice none 0 0) zeroG) (hr : w.heap[g2]? = some (.cells (madeCells #[.int .i64 0] 256) 3 (0, 0))) (hl : l.length ≤ 256) :
    ∀ w', w' = w.setRow g2 ((madeCells #[.int .i64 0] 256).toList.take 0 ++ (l.map (Value.int .i64) ++ (madeCells #[.int .i64 0] 256).toList.drop (0 + (l.map (Value.int .i64)).length))).toArray → AtP w' lo b (.slice (some ⟨g1, 0, none⟩) 8 8) (.slice (some ⟨g2, 0, none⟩) 256 256) (.slice none 0 0) (newM l) ∧ Below lo w w' := fun w' e => by
  have hr' := AtP.putRun (off := 0) (blk := l) h hr (by show 0 + l.length ≤ (List.replicate 256 (0 : Int)).length; rw [List.length_replicate]; omega)
  subst e
  rw [← List.append_assoc]
  have e1 : zeroG.mem.take 0 ++ l ++ zeroG.mem.drop (0 + l.length) = l ++ List.replicate (256 - l.length) 0 := by
    show List.take 0 (List.replicate 256 (0 : Int)) ++ l ++ List.drop (0 + l.length) (List.replicate 256 0) = _
    rw [List.take_zero, List.nil_append, Nat.zero_add, List.drop_replicate]
  have he : ({ zeroG with mem := zeroG.mem.take 0 ++ l ++ zeroG.mem.drop (0 + l.length) } : Mach) = newM l := by rw [e1]; rfl
  rw [he] at hr'
  exact hr'
theorem newM_nil (l : List Int) (h : l.length = 0) : newM l = zeroG := by
  obtain rfl : l = [] := List.eq_nil_of_length_eq_zero h
  rfl

/-- A copy into a row: the world behind it, written out. -/
theorem wpList_copy_exact {P : Program} {w : World} {ops : Array Oper} {rest : List Oper} {o : Oper} {a : Act} {Q : Exit → Act → World → Prop} (hgd : o.guard = none) (d s : Operand) (dT sT : TypeId)
    (ho : o.op = .call { callee := .builtin .copy, args := #[d, s], argTypes := #[dT, sT] }) (elem : TypeId) (hu : P.underlying dT = some (.slice elem)) (hsz : (P.info? elem).map (·.size) = some 1)
    (g off dLen dCap : Nat) (ad : Addr) (sLen sCap : Nat) (hd : a.eval d = .slice (some ⟨g, off, none⟩) dLen dCap) (hs : a.eval s = .slice (some ad) sLen sCap)
    (cur : Array Value) (t : TypeId) (hg : w.heap[g]? = some (.cells cur t (0, 0))) (cs : List Value) (hn : cs.length = Nat.min sLen dLen)
    (hsrc : ∀ j v, cs[j]? = some v → w.cell? (ad.add j) = some v) (hfit : off + cs.length ≤ cur.size) (h1 : ∀ v ∈ cs, v.oneCell' = true)
    (h : ∀ w', w' = w.setRow g (cur.toList.take off ++ (cs ++ cur.toList.drop (off + cs.length))).toArray → wpList P ops Q rest (a.put o.dst (goInt cs.length)) w') : wpList P ops Q (o :: rest) a w :=
  wpList_copy_own hgd d s dT sT ho elem hu hsz g off dLen dCap ad sLen sCap hd hs cur t hg cs hn hsrc hfit h1 (h _ rfl)

set_option maxHeartbeats 2000000 in
theorem New_ok (v : Value) (l : List Int) (w : World) (h : IntsAt w v l) (hn : newNo l = 0) :
    Calls Tryd.prog 26 #[v] w fun e w' => ∃ rv' mv' ov', e = .returned (.tuple #[.agg ((newM l).cells rv' mv' ov'), .int .i64 0]) ∧ OwnM w' w.heap.size rv' mv' ov' (newM l) ∧ Below w.heap.size w w' := by
  have H : Hid (IntsAt w v l) := h
  have h1 : ¬ 256 < l.length := fun e => by simp [newNo, e] at hn
  have h2 : allB l = true := by
    cases e : allB l with
    | true => rfl
    | false => simp [newNo, h1, e] at hn
  obtain ⟨A, c, rfl, hl, hc⟩ := h
  have d0 : decide (256 < (l.length : Int)) = false := by simp; omega
  have hm8 : ∀ W : World, (Instr.makeSlice 22 (.int .i64 8) (.int .i64 8)).run Tryd.prog W = .ok (.slice (some ⟨W.heap.size, 0, none⟩) 8 8) (W.alloc (.cells (madeCells #[.int .i64 0] 8) 3)) := fun W => run_make_row' (P := Tryd.prog) 22 3 (.int .i64 0) 8 Tryd.underlying22 infoInt rfl .i64 .i64 8 (by omega) (by omega) W
  have hm256 : ∀ W : World, (Instr.makeSlice 22 (.int .i64 256) (.int .i64 256)).run Tryd.prog W = .ok (.slice (some ⟨W.heap.size, 0, none⟩) 256 256) (W.alloc (.cells (madeCells #[.int .i64 0] 256) 3)) := fun W => run_make_row' (P := Tryd.prog) 22 3 (.int .i64 0) 8 Tryd.underlying22 infoInt rfl .i64 .i64 256 (by omega) (by omega) W
  clear hn h1 hc
  go_enter Tryd.func26, Tryd.ntmps26
  go_wp2_with fail
  refine (haveNoWord_any _ l _ (H.out.below (below_alloc _ _))).mono ?_
  rw [h2]
  rintro e w1 ⟨rfl, hb1⟩
  have HX : Hid (w1.heap[w.heap.size]? = some (.cells zeroM 30 (0, 0)) ∧ Below w.heap.size w w1) := ⟨box_kept hb1, (below_alloc _ _).trans (hb1.mono (by simp))⟩
  clear hb1
  go_upto_region 5 with fail
  go_cut [4, 12, 13] (fun p s1 s2 wx => ∃ b g1 g2, p = .pointer (some ⟨b, 0, none⟩) ∧ s1 = .slice (some ⟨g1, 0, none⟩) 8 8 ∧ s2 = .slice (some ⟨g2, 0, none⟩) 256 256 ∧ NewInv w1 wx b g1 g2)
  case first =>
    go_region
    all_goals
      go_wp2_with fail
      go_meet
      refine ⟨_, _, _, rfl, rfl, rfl, ?_⟩
      refine ⟨?_, ?_, ?_, by omega, by omega, by omega, by omega, (new_three _ _ _ _).2.2.2⟩
      all_goals first
        | exact (new_three _ _ _ _).1
        | exact (new_three _ _ _ _).2.1
        | exact (new_three _ _ _ _).2.2.1
  case rest =>
    obtain ⟨b, g1, g2, rfl, rfl, rfl, hN⟩ := hcut
    have HN : Hid (NewInv w1 wc b g1 g2) := hN
    obtain ⟨⟨z0, z1, z2, z3, z4, z5, z6, z7, z8, z9, z10, z11⟩, zf, zl⟩ := twelve_cells hN.box
    have hsi : (Tryd.prog.info? 3).map (·.size) = some 1 := by kernel_rfl
    obtain ⟨A', c', hA, -, hcell⟩ := H.out
    simp only [Value.slice.injEq] at hA
    obtain ⟨rfl, -, rfl⟩ := hA
    have hbw : Below w.heap.size w wc := HX.out.2.trans (hN.old.mono HX.out.2.size)
    by_cases hl0 : l.length = 0
    · have hy : wc.heap[w.heap.size]? = some (.cells zeroM 30 (0, 0)) := by rw [hN.old.block _ (lt_of_block HX.out.1)]; exact HX.out.1
      obtain ⟨⟨y0, y1, y2, y3, y4, y5, y6, y7, y8, y9, y10, y11⟩, yf, yl⟩ := twelve_cells hy
      have H4 : Hid (OwnM wc w.heap.size (.slice (some ⟨g1, 0, none⟩) 8 8) (.slice (some ⟨g2, 0, none⟩) 256 256) (.slice none 0 0) (newM l) ∧ IsBox wc w.heap.size ∧ Below w.heap.size w wc) := ⟨by rw [newM_nil l hl0]; exact hN.at.own.mono HX.out.2.size, ⟨_, hy⟩, hbw⟩
      simp only [zeroG] at z0 z1 z2 z3 z4 z5 z6 z7 z8 z9 z10 z11
      clear hN hy hbw hcell HN HX d0 h2
      go_wp2_with (refine wpList_copy_nothing rfl (.tmp 16) (.tmp 17) 22 22 rfl 3 Tryd.underlying22 hsi (some ⟨g2, 0, none⟩) A 256 256 l.length c rfl rfl (by rw [hl0]; rfl) ?_)
      refine bodyPost_ret (v := .tuple #[.agg #[.slice (some ⟨g1, 0, none⟩) 8 8, .int .i64 0, .int .i64 0, .bool false, .bool false, .int .i64 (-1), .int .i64 0, .int .i64 0, .slice (some ⟨g2, 0, none⟩) 256 256, .slice none 0 0, .int .i64 0, .int .i64 (-1)], .int .i64 0]) (by simp [results, Tryd.results26, go_sem, y0, y1, y2, y3, y4, y5, y6, y7, y8, y9, y10, y11]) rfl ?_
      exact ⟨.slice (some ⟨g1, 0, none⟩) 8 8, .slice (some ⟨g2, 0, none⟩) 256 256, .slice none 0 0, rfl, H4.out.1.set12 H4.out.2.1 _ _ _ _ _ _ _ _ _ _ _ _, below_set12 H4.out.2.2 (Nat.le_refl _) _ _ _ _ _ _ _ _ _ _ _ _⟩
    · obtain ⟨bb, off, rfl, hbb, hbc⟩ := hcell (by omega)
      have hcopy : ∀ j v, (l.map (Value.int .i64))[j]? = some v → wc.cell? ((⟨bb, off, none⟩ : Addr).add j) = some v := fun j v hv => by
        have hjl : j < l.length := by
          by_cases hh : j < l.length
          · exact hh
          · simp [List.getElem?_eq_none (show l.length ≤ j by omega)] at hv
        rw [Go.WideShapes.add_plain]
        have := (hbw.cell (p := ⟨bb, off + j, none⟩) hbb).trans (hbc j hjl)
        simp [hjl] at hv
        simpa [List.getD, hjl, hv] using this
      have hl256 : l.length ≤ 256 := by simp at d0; omega
      have HC : Hid ((∀ j v, (l.map (Value.int .i64))[j]? = some v → wc.cell? ((⟨bb, off, none⟩ : Addr).add j) = some v) ∧ (l.map (Value.int .i64)).length = Nat.min l.length 256 ∧ 0 + (l.map (Value.int .i64)).length ≤ (madeCells #[Value.int .i64 0] 256).size) :=
        ⟨hcopy, by simp only [List.length_map]; exact (Nat.min_eq_left hl256).symm, by simp only [List.length_map, size_madeCells]; simp; omega⟩
      have HI : Hid (∀ w', w' = wc.setRow g2 ((madeCells #[.int .i64 0] 256).toList.take 0 ++ (l.map (Value.int .i64) ++ (madeCells #[.int .i64 0] 256).toList.drop (0 + (l.map (Value.int .i64)).length))).toArray → w'.heap[b]? = some (.cells ((newM l).cells (.slice (some ⟨g1, 0, none⟩) 8 8) (.slice (some ⟨g2, 0, none⟩) 256 256) (.slice none 0 0)) 30 (0, 0)) ∧ w'.heap[w.heap.size]? = some (.cells zeroM 30 (0, 0)) ∧ OwnM w' w.heap.size (.slice (some ⟨g1, 0, none⟩) 8 8) (.slice (some ⟨g2, 0, none⟩) 256 256) (.slice none 0 0) (newM l) ∧ Below w.heap.size w w') := fun w' e => by
        obtain ⟨a1, a2⟩ := hN.at.image hN.r2 hl256 w' e
        have hB : Below w1.heap.size w1 w' := hN.old.trans a2
        exact ⟨a1.box, by rw [hB.block _ (lt_of_block HX.out.1)]; exact HX.out.1, a1.own.mono HX.out.2.size, HX.out.2.trans (hB.mono HX.out.2.size)⟩
      simp only [zeroG] at z0 z1 z2 z3 z4 z5 z6 z7 z8 z9 z10 z11
      clear hN hbw hcell HX d0 h2 hbc hcopy
      go_wp2_with (refine wpList_copy_exact rfl (.tmp 16) (.tmp 17) 22 22 rfl 3 Tryd.underlying22 hsi g2 0 256 256 ⟨bb, off, none⟩ l.length c rfl rfl (madeCells #[.int .i64 0] 256) 3 HN.out.r2 (l.map (Value.int .i64)) HC.out.2.1 HC.out.1 HC.out.2.2 (ints_oneCell _ _) ?_; intro w4 hw4; obtain ⟨h4, hy, ho4, hb4⟩ := HI.out w4 hw4; have H4 : Hid (OwnM w4 w.heap.size (.slice (some ⟨g1, 0, none⟩) 8 8) (.slice (some ⟨g2, 0, none⟩) 256 256) (.slice none 0 0) (newM l) ∧ IsBox w4 w.heap.size ∧ Below w.heap.size w w4) := ⟨ho4, ⟨_, hy⟩, hb4⟩; obtain ⟨⟨y0, y1, y2, y3, y4, y5, y6, y7, y8, y9, y10, y11⟩, yf, yl⟩ := twelve_cells hy; obtain ⟨⟨x0, x1, x2, x3, x4, x5, x6, x7, x8, x9, x10, x11⟩, xf, xl⟩ := twelve_cells h4; simp only [newM] at x0 x1 x2 x3 x4 x5 x6 x7 x8 x9 x10 x11; clear h4 hy ho4 hb4 hw4 z0 z1 z2 z3 z4 z5 z6 z7 z8 z9 z10 z11 zf zl)
      refine bodyPost_ret (v := .tuple #[.agg #[.slice (some ⟨g1, 0, none⟩) 8 8, .int .i64 0, .int .i64 0, .bool false, .bool false, .int .i64 (-1), .int .i64 0, .int .i64 0, .slice (some ⟨g2, 0, none⟩) 256 256, .slice none 0 0, .int .i64 0, .int .i64 (-1)], .int .i64 0]) (by simp [results, Tryd.results26, go_sem, y0, y1, y2, y3, y4, y5, y6, y7, y8, y9, y10, y11]) rfl ?_
      exact ⟨.slice (some ⟨g1, 0, none⟩) 8 8, .slice (some ⟨g2, 0, none⟩) 256 256, .slice none 0 0, rfl, H4.out.1.set12 H4.out.2.1 _ _ _ _ _ _ _ _ _ _ _ _, below_set12 H4.out.2.2 (Nat.le_refl _) _ _ _ _ _ _ _ _ _ _ _ _⟩

end Go.Proofs.YtlcdefpdahjjeagDoor

/- A tape, plainly: may it be, and which events does it have? -/

namespace Go.Proofs.YtlcdefpdahjjeagDoor
open Go.RowKit
set_option maxRecDepth 100000

/-- Is an event not below a count? -/
def lateB (cnt : Int) (L : List Ev) : Bool := L.any fun x => decide (cnt ≤ x.at_)
/-- What a tape tells: what is wrong, and its events. -/
def tapeG (im bs : List Int) (cnt : Int) : Int × List Ev :=
  if newNo im ≠ 0 then (newNo im, []) else if inB cnt 0 3000 = false then (2, []) else if (decD bs).1 ≠ 0 then ((decD bs).1, []) else if lateB cnt (decD bs).2 = true then (9, []) else (0, (decD bs).2)
theorem tapeG_no {im bs : List Int} {cnt : Int} (h : (tapeG im bs cnt).1 ≠ 0) : (tapeG im bs cnt).2 = [] := by
  unfold tapeG at h ⊢
  split
  · rfl
  · split
    · rfl
    · split
      · rfl
      · split
        · rfl
        · simp_all

theorem lateB_iff {cnt : Int} {L : List Ev} : lateB cnt L = true ↔ ∃ j, j < L.length ∧ cnt ≤ (L.getD j noEv).at_ := by
  unfold lateB
  rw [List.any_eq_true]
  constructor
  · rintro ⟨x, hx, hd⟩
    obtain ⟨i, hi, rfl⟩ := List.mem_iff_getElem.1 hx
    exact ⟨i, hi, by simpa [List.getD, hi] using hd⟩
  · rintro ⟨j, hj, hd⟩
    exact ⟨L[j], List.getElem_mem hj, by simpa [List.getD, hj] using hd⟩
theorem chk_verdict {L : List Ev} (h : chkNo L = 0) : ∀ k, k < L.length → verdict L k = 0 := by
  have h0 : chk L 0 = 0 := by
    unfold chkNo at h
    split at h
    · cases h
    · exact h
  have : ∀ k, k ≤ L.length → chk L k = 0 := by
    intro k
    induction k with
    | zero => exact fun _ => h0
    | succ k ih =>
      intro hk
      have h1 := ih (by omega)
      by_cases hv : verdict L k = 0
      · rw [chk_ok (by omega) hv] at h1; exact h1
      · rw [chk_no (by omega) hv] at h1; exact absurd h1 hv
  intro k hk
  have h1 := this k (by omega)
  by_cases hv : verdict L k = 0
  · exact hv
  · rw [chk_no hk hv] at h1; exact absurd h1 hv
/-- They stand in the order of their counts. -/
theorem chk_step {L : List Ev} (h : chkNo L = 0) {k : Nat} (hk : k + 1 < L.length) : (L.getD k noEv).at_ ≤ (L.getD (k + 1) noEv).at_ := by
  have h1 := chk_verdict h (k + 1) hk
  have h2 := chk_verdict h k (by omega)
  have e1 := (evNo_bd (verdict_ev h1)).1
  have e2 := (evNo_bd (verdict_ev h2)).1
  unfold verdict at h1
  rw [if_pos (verdict_ev (chk_verdict h (k + 1) hk)), if_neg (by omega)] at h1
  split at h1
  · rename_i hb
    simp only [behind, decide_eq_true_eq, Nat.add_sub_cancel] at hb
    omega
  · cases h1
theorem chk_mono {L : List Ev} (h : chkNo L = 0) : ∀ (d k : Nat), k + d < L.length → (L.getD k noEv).at_ ≤ (L.getD (k + d) noEv).at_
  | 0, _, _ => Int.le_refl _
  | d + 1, k, hk => Int.le_trans (chk_mono h d k (by omega)) (by have := chk_step h (k := k + d) (by omega); exact this)
theorem late_last {L : List Ev} (h : chkNo L = 0) {m : Nat} (hm : L.length = m + 1) (cnt : Int) : lateB cnt L = decide (cnt ≤ (L.getD m noEv).at_) := by
  by_cases hc : cnt ≤ (L.getD m noEv).at_
  · rw [decide_eq_true hc]
    exact lateB_iff.2 ⟨m, by omega, hc⟩
  · rw [decide_eq_false hc]
    cases e : lateB cnt L with
    | false => rfl
    | true =>
      obtain ⟨j, hj, hd⟩ := lateB_iff.1 e
      have := chk_mono h (m - j) j (by omega)
      rw [show j + (m - j) = m by omega] at this
      omega
theorem late_nil (cnt : Int) : lateB cnt [] = false := rfl
theorem late_all {cnt : Int} {L : List Ev} (h : ∀ j, j < L.length → ¬ cnt ≤ (L.getD j noEv).at_) : lateB cnt L = false := by
  cases e : lateB cnt L with
  | false => rfl
  | true =>
    obtain ⟨j, hj, hd⟩ := lateB_iff.1 e
    exact absurd hd (h j hj)

/-- A new guest, or what is wrong: in twelve cells. -/
def Twelve (e : Ending) (no : Int) : Prop :=
  ∃ A1 n1 c1 p b i wt tb ct fn A2 n2 c2 A3 n3 c3 rd wn, e = .returned (.tuple #[.agg #[.slice A1 n1 c1, .int .i64 p, .int .i64 b, .bool i, .bool wt, .int .i64 tb, .int .i64 ct, .int .i64 fn, .slice A2 n2 c2, .slice A3 n3 c3, .int .i64 rd, .int .i64 wn], .int .i64 no])
theorem twelve_of {w' : World} {lo : Nat} {rv mv ov : Value} {m : Mach} {no : Int} (h : OwnM w' lo rv mv ov m) : Twelve (.returned (.tuple #[.agg (m.cells rv mv ov), .int .i64 no])) no := by
  obtain ⟨A, c, B, c', C, c'', rfl, rfl, rfl⟩ := h.shape
  exact ⟨_, _, _, _, _, _, _, _, _, _, _, _, _, _, _, _, _, _, rfl⟩
theorem New_12 (v : Value) (l : List Int) (w : World) (h : IntsAt w v l) : Calls Tryd.prog 26 #[v] w fun e w' => Twelve e (newNo l) ∧ Below w.heap.size w w' := by
  by_cases hn : newNo l = 0
  · rw [hn]
    exact (New_ok v l w h hn).mono fun e w' ⟨rv, mv, ov, he, ho, hb⟩ => ⟨he ▸ twelve_of ho, hb⟩
  · exact (New_no v l w h hn).mono fun e w' ⟨he, hb⟩ => ⟨⟨_, _, _, _, _, _, _, _, _, _, _, _, _, _, _, _, _, _, he⟩, hb⟩

end Go.Proofs.YtlcdefpdahjjeagDoor
