/- New memory of zeros. -/
import Derived.Test.YtbjlfhpiebokkaaDoorInfoPart
import Derived.Deep.OwnRows
import Derived.Test.YtbjlfhpiebokkaaDoorDoNextPart
import Derived.Test.YtbjlfhpiebokkaaDoorGuestPart
import Derived.Test.YtbjlfhpiebokkaaDoorStepDPart
import Derived.Test.YtbjlfhpiebokkaaDoorBasePart
import Derived.Test.YtbjlfhpiebokkaaDoorOpenIPart
namespace Go.Proofs.YtbjlfhpiebokkaaDoor
open Go.RowKit

theorem OwnI.madeZ {w : World} {lo g n : Nat} (hlo : lo ≤ g) (hn : n ≤ maxLen) (h : w.heap[g]? = some (.cells (madeCells #[.int .i64 0] n) 3 (0, 0))) : OwnI w lo (.slice (some ⟨g, 0, none⟩) n n) (List.replicate n 0) := by
  refine ⟨by simp, Or.inr ⟨g, n, _, by simp, hlo, h, by simp, hn, by simp [size_madeCells], ?_⟩⟩
  rw [toList_madeCells_one]; simp

end Go.Proofs.YtbjlfhpiebokkaaDoor

/- Contract of cpu.New. -/

namespace Go.Proofs.YtbjlfhpiebokkaaDoor
open Go.RowKit

def newM (l : List Int) : Mach := ⟨List.replicate 8 0, 0, 0, false, false, -1, 0, 0, l ++ List.replicate (256 - l.length) 0, [], 0, -1⟩
def newNo (l : List Int) : Int := if 256 < l.length then 1 else if !allB l then 2 else 0

set_option maxHeartbeats 2000000 in
theorem New_no (v : Value) (l : List Int) (w : World) (h : IntsAt w v l) (hn : newNo l ≠ 0) :
    Calls Tryd.prog 23 #[v] w fun e w' => e = .returned (.tuple #[.agg zeroM, .int .i64 (newNo l)]) ∧ Below w.heap.size w w' := by
  have H : Hid (IntsAt w v l) := h
  obtain ⟨A, c, rfl, hl, hc⟩ := h
  clear hc
  by_cases h1 : 256 < l.length
  · rw [show newNo l = 1 by simp [newNo, h1]]
    have d0 : decide (256 < (l.length : Int)) = true := by simp; omega
    obtain ⟨⟨y0, y1, y2, y3, y4, y5, y6, y7, y8, y9, y10, y11⟩, yf, yl⟩ := twelve_cells (Go.Deep.blk_alloc_new w (.cells zeroM 30))
    clear hn h1
    go_enter Tryd.func23, Tryd.ntmps23
    go_wp2_with fail
    refine bodyPost_ret (v := .tuple #[.agg zeroM, .int .i64 1]) (by simp [results, Tryd.results23, go_sem, y0, y1, y2, y3, y4, y5, y6, y7, y8, y9, y10, y11]) rfl ?_
    exact ⟨rfl, below_alloc _ _⟩
  · have h2 : allB l = false := by
      cases e : allB l with
      | false => rfl
      | true => exact absurd (by simp [newNo, h1, e]) hn
    rw [show newNo l = 2 by simp [newNo, h1, h2]]
    have d0 : decide (256 < (l.length : Int)) = false := by simp; omega
    clear hn h1
    go_enter Tryd.func23, Tryd.ntmps23
    go_wp2_with fail
    refine (haveNoWord_any _ l _ (H.out.below (below_alloc _ _))).mono ?_
    rw [h2]
    rintro e w1 ⟨rfl, hb1⟩
    obtain ⟨⟨y0, y1, y2, y3, y4, y5, y6, y7, y8, y9, y10, y11⟩, yf, yl⟩ := twelve_cells (box_kept hb1)
    have HB : Hid (Below w.heap.size w w1) := (below_alloc _ _).trans (hb1.mono (by simp))
    clear hb1
    go_wp2_with fail
    refine bodyPost_ret (v := .tuple #[.agg zeroM, .int .i64 2]) (by simp [results, Tryd.results23, go_sem, y0, y1, y2, y3, y4, y5, y6, y7, y8, y9, y10, y11]) rfl ?_
    exact ⟨rfl, below_set12 HB.out (Nat.le_refl _) _ _ _ _ _ _ _ _ _ _ _ _⟩

theorem new_three (w : World) (o1 o2 o3 : Obj) : (((w.alloc o1).alloc o2).alloc o3).drew.heap[w.heap.size]? = some o1 ∧ (((w.alloc o1).alloc o2).alloc o3).drew.heap[w.heap.size + 1]? = some o2 ∧ (((w.alloc o1).alloc o2).alloc o3).drew.heap[w.heap.size + 1 + 1]? = some o3 ∧ Below w.heap.size w (((w.alloc o1).alloc o2).alloc o3).drew := by
  refine ⟨?_, ?_, ?_, (((below_alloc _ _).alloc (by simp) _).alloc (by simp; omega) _).drew⟩
  · show (((w.alloc o1).alloc o2).alloc o3).heap[w.heap.size]? = some o1
    rw [Go.Deep.blk_alloc_lt _ _ _ (by simp; omega), Go.Deep.blk_alloc_lt _ _ _ (by simp), Go.Deep.blk_alloc_new]
  · show (((w.alloc o1).alloc o2).alloc o3).heap[w.heap.size + 1]? = some o2
    rw [Go.Deep.blk_alloc_lt _ _ _ (by simp)]
    have := Go.Deep.blk_alloc_new (w.alloc o1) o2
    rwa [show (w.alloc o1).heap.size = w.heap.size + 1 by simp] at this
  · show (((w.alloc o1).alloc o2).alloc o3).heap[w.heap.size + 1 + 1]? = some o3
    have := Go.Deep.blk_alloc_new ((w.alloc o1).alloc o2) o3
    rwa [show ((w.alloc o1).alloc o2).heap.size = w.heap.size + 1 + 1 by simp] at this

def zeroG : Mach := ⟨List.replicate 8 0, 0, 0, false, false, -1, 0, 0, List.replicate 256 0, [], 0, -1⟩
structure NewInv (w wx : World) (b g1 g2 : Nat) : Prop where
  box : wx.heap[b]? = some (.cells (zeroG.cells (.slice (some ⟨g1, 0, none⟩) 8 8) (.slice (some ⟨g2, 0, none⟩) 256 256) (.slice none 0 0)) 30 (0, 0))
  r1 : wx.heap[g1]? = some (.cells (madeCells #[.int .i64 0] 8) 3 (0, 0))
  r2 : wx.heap[g2]? = some (.cells (madeCells #[.int .i64 0] 256) 3 (0, 0))
  lb : w.heap.size ≤ b
  l1 : w.heap.size ≤ g1
  l2 : w.heap.size ≤ g2
  ne : g1 ≠ g2
  old : Below w.heap.size w wx
theorem NewInv.at {w wx : World} {b g1 g2 : Nat} (h : NewInv w wx b g1 g2) : AtP wx w.heap.size b (.slice (some ⟨g1, 0, none⟩) 8 8) (.slice (some ⟨g2, 0, none⟩) 256 256) (.slice none 0 0) zeroG :=
  ⟨h.box, ⟨OwnI.madeZ h.l1 (by unfold maxLen; omega) h.r1, OwnI.madeZ h.l2 (by unfold maxLen; omega) h.r2, World.ownsRow_nil _ _ _ _, fun g e e2 => by simp [Value.ownBlock] at e e2; exact h.ne (e.trans e2.symm), fun g e e2 => by simp [Value.ownBlock] at e2, fun g e e2 => by simp [Value.ownBlock] at e2⟩, h.lb⟩

theorem AtP.image {w : World} {lo b g1 g2 : Nat} {l : List Int} (h : AtP w lo b (.slice (some ⟨g1, 0, none⟩) 8 8) (.slice (some ⟨g2, 0, none⟩) 256 256) (.slice none 0 0) zeroG) (hr : w.heap[g2]? = some (.cells (madeCells #[.int .i64 0] 256) 3 (0, 0))) (hl : l.length ≤ 256) :
    ∀ w', w' = w.setRow g2 ((madeCells #[.int .i64 0] 256).toList.take 0 ++ (l.map (Value.int .i64) ++ (madeCells #[.int .i64 0] 256).toList.drop (0 + (l.map (Value.int .i64)).length))).toArray → AtP w' lo b (.slice (some ⟨g1, 0, none⟩) 8 8) (.slice (some ⟨g2, 0, none⟩) 256 256) (.slice none 0 0) (newM l) ∧ Below lo w w' := fun w' e => by
  have hr' := AtP.putRun (off := 0) (blk := l) h hr (by show 0 + l.length ≤ (List.replicate 256 (0 : Int)).length; rw [List.length_replicate]; omega)
  subst e
  rw [← List.append_assoc]
  have e1 : zeroG.mem.take 0 ++ l ++ zeroG.mem.drop (0 + l.length) = l ++ List.replicate (256 - l.length) 0 := by
    show List.take 0 (List.replicate 256 (0 : Int)) ++ l ++ List.drop (0 + l.length) (List.replicate 256 0) = _
    rw [List.take_zero, List.nil_append, Nat.zero_add, List.drop_replicate]
  have he : ({ zeroG with mem := zeroG.mem.take 0 ++ l ++ zeroG.mem.drop (0 + l.length) } : Mach) = newM l := by rw [e1]; rfl
  rw [he] at hr'
  exact hr'
theorem newM_nil (l : List Int) (h : l.length = 0) : newM l = zeroG := by
  obtain rfl : l = [] := List.eq_nil_of_length_eq_zero h
  rfl

theorem wpList_copy_exact {P : Program} {w : World} {ops : Array Oper} {rest : List Oper} {o : Oper} {a : Act} {Q : Exit → Act → World → Prop} (hgd : o.guard = none) (d s : Operand) (dT sT : TypeId)
    (ho : o.op = .call { callee := .builtin .copy, args := #[d, s], argTypes := #[dT, sT] }) (elem : TypeId) (hu : P.underlying dT = some (.slice elem)) (hsz : (P.info? elem).map (·.size) = some 1)
    (g off dLen dCap : Nat) (ad : Addr) (sLen sCap : Nat) (hd : a.eval d = .slice (some ⟨g, off, none⟩) dLen dCap) (hs : a.eval s = .slice (some ad) sLen sCap)
    (cur : Array Value) (t : TypeId) (hg : w.heap[g]? = some (.cells cur t (0, 0))) (cs : List Value) (hn : cs.length = Nat.min sLen dLen)
    (hsrc : ∀ j v, cs[j]? = some v → w.cell? (ad.add j) = some v) (hfit : off + cs.length ≤ cur.size) (h1 : ∀ v ∈ cs, v.oneCell' = true)
    (h : ∀ w', w' = w.setRow g (cur.toList.take off ++ (cs ++ cur.toList.drop (off + cs.length))).toArray → wpList P ops Q rest (a.put o.dst (goInt cs.length)) w') : wpList P ops Q (o :: rest) a w :=
  wpList_copy_own hgd d s dT sT ho elem hu hsz g off dLen dCap ad sLen sCap hd hs cur t hg cs hn hsrc hfit h1 (h _ rfl)

set_option maxHeartbeats 2000000 in
theorem New_ok (v : Value) (l : List Int) (w : World) (h : IntsAt w v l) (hn : newNo l = 0) :
    Calls Tryd.prog 23 #[v] w fun e w' => ∃ rv' mv' ov', e = .returned (.tuple #[.agg ((newM l).cells rv' mv' ov'), .int .i64 0]) ∧ OwnM w' w.heap.size rv' mv' ov' (newM l) ∧ Below w.heap.size w w' := by
  have H : Hid (IntsAt w v l) := h
  have h1 : ¬ 256 < l.length := fun e => by simp [newNo, e] at hn
  have h2 : allB l = true := by
    cases e : allB l with
    | true => rfl
    | false => simp [newNo, h1, e] at hn
  obtain ⟨A, c, rfl, hl, hc⟩ := h
  have d0 : decide (256 < (l.length : Int)) = false := by simp; omega
  have hm8 : ∀ W : World, (Instr.makeSlice 22 (.int .i64 8) (.int .i64 8)).run Tryd.prog W = .ok (.slice (some ⟨W.heap.size, 0, none⟩) 8 8) (W.alloc (.cells (madeCells #[.int .i64 0] 8) 3)) := fun W => run_make_row' (P := Tryd.prog) 22 3 (.int .i64 0) 8 Tryd.underlying22 infoInt rfl .i64 .i64 8 (by omega) (by omega) W
  have hm256 : ∀ W : World, (Instr.makeSlice 22 (.int .i64 256) (.int .i64 256)).run Tryd.prog W = .ok (.slice (some ⟨W.heap.size, 0, none⟩) 256 256) (W.alloc (.cells (madeCells #[.int .i64 0] 256) 3)) := fun W => run_make_row' (P := Tryd.prog) 22 3 (.int .i64 0) 8 Tryd.underlying22 infoInt rfl .i64 .i64 256 (by omega) (by omega) W
  clear hn h1 hc
  go_enter Tryd.func23, Tryd.ntmps23
  go_wp2_with fail
  refine (haveNoWord_any _ l _ (H.out.below (below_alloc _ _))).mono ?_
  rw [h2]
  rintro e w1 ⟨rfl, hb1⟩
  have HX : Hid (w1.heap[w.heap.size]? = some (.cells zeroM 30 (0, 0)) ∧ Below w.heap.size w w1) := ⟨box_kept hb1, (below_alloc _ _).trans (hb1.mono (by simp))⟩
  clear hb1
  go_upto_region 5 with fail
  go_cut [4, 12, 13] (fun p s1 s2 wx => ∃ b g1 g2, p = .pointer (some ⟨b, 0, none⟩) ∧ s1 = .slice (some ⟨g1, 0, none⟩) 8 8 ∧ s2 = .slice (some ⟨g2, 0, none⟩) 256 256 ∧ NewInv w1 wx b g1 g2)
  case first =>
    go_region
    all_goals
      go_wp2_with fail
      go_meet
      refine ⟨_, _, _, rfl, rfl, rfl, ?_⟩
      refine ⟨?_, ?_, ?_, by omega, by omega, by omega, by omega, (new_three _ _ _ _).2.2.2⟩
      all_goals first
        | exact (new_three _ _ _ _).1
        | exact (new_three _ _ _ _).2.1
        | exact (new_three _ _ _ _).2.2.1
  case rest =>
    obtain ⟨b, g1, g2, rfl, rfl, rfl, hN⟩ := hcut
    have HN : Hid (NewInv w1 wc b g1 g2) := hN
    obtain ⟨⟨z0, z1, z2, z3, z4, z5, z6, z7, z8, z9, z10, z11⟩, zf, zl⟩ := twelve_cells hN.box
    have hsi : (Tryd.prog.info? 3).map (·.size) = some 1 := by kernel_rfl
    obtain ⟨A', c', hA, -, hcell⟩ := H.out
    simp only [Value.slice.injEq] at hA
    obtain ⟨rfl, -, rfl⟩ := hA
    have hbw : Below w.heap.size w wc := HX.out.2.trans (hN.old.mono HX.out.2.size)
    by_cases hl0 : l.length = 0
    · have hy : wc.heap[w.heap.size]? = some (.cells zeroM 30 (0, 0)) := by rw [hN.old.block _ (lt_of_block HX.out.1)]; exact HX.out.1
      obtain ⟨⟨y0, y1, y2, y3, y4, y5, y6, y7, y8, y9, y10, y11⟩, yf, yl⟩ := twelve_cells hy
      have H4 : Hid (OwnM wc w.heap.size (.slice (some ⟨g1, 0, none⟩) 8 8) (.slice (some ⟨g2, 0, none⟩) 256 256) (.slice none 0 0) (newM l) ∧ IsBox wc w.heap.size ∧ Below w.heap.size w wc) := ⟨by rw [newM_nil l hl0]; exact hN.at.own.mono HX.out.2.size, ⟨_, hy⟩, hbw⟩
      simp only [zeroG] at z0 z1 z2 z3 z4 z5 z6 z7 z8 z9 z10 z11
      clear hN hy hbw hcell HN HX d0 h2
      go_wp2_with (refine wpList_copy_nothing rfl (.tmp 16) (.tmp 17) 22 22 rfl 3 Tryd.underlying22 hsi (some ⟨g2, 0, none⟩) A 256 256 l.length c rfl rfl (by rw [hl0]; rfl) ?_)
      refine bodyPost_ret (v := .tuple #[.agg #[.slice (some ⟨g1, 0, none⟩) 8 8, .int .i64 0, .int .i64 0, .bool false, .bool false, .int .i64 (-1), .int .i64 0, .int .i64 0, .slice (some ⟨g2, 0, none⟩) 256 256, .slice none 0 0, .int .i64 0, .int .i64 (-1)], .int .i64 0]) (by simp [results, Tryd.results23, go_sem, y0, y1, y2, y3, y4, y5, y6, y7, y8, y9, y10, y11]) rfl ?_
      exact ⟨.slice (some ⟨g1, 0, none⟩) 8 8, .slice (some ⟨g2, 0, none⟩) 256 256, .slice none 0 0, rfl, H4.out.1.set12 H4.out.2.1 _ _ _ _ _ _ _ _ _ _ _ _, below_set12 H4.out.2.2 (Nat.le_refl _) _ _ _ _ _ _ _ _ _ _ _ _⟩
    · obtain ⟨bb, off, rfl, hbb, hbc⟩ := hcell (by omega)
      have hcopy : ∀ j v, (l.map (Value.int .i64))[j]? = some v → wc.cell? ((⟨bb, off, none⟩ : Addr).add j) = some v := fun j v hv => by
        have hjl : j < l.length := by
          by_cases hh : j < l.length
          · exact hh
          · simp [List.getElem?_eq_none (show l.length ≤ j by omega)] at hv
        rw [Go.WideShapes.add_plain]
        have := (hbw.cell (p := ⟨bb, off + j, none⟩) hbb).trans (hbc j hjl)
        simp [hjl] at hv
        simpa [List.getD, hjl, hv] using this
      have hl256 : l.length ≤ 256 := by simp at d0; omega
      have HC : Hid ((∀ j v, (l.map (Value.int .i64))[j]? = some v → wc.cell? ((⟨bb, off, none⟩ : Addr).add j) = some v) ∧ (l.map (Value.int .i64)).length = Nat.min l.length 256 ∧ 0 + (l.map (Value.int .i64)).length ≤ (madeCells #[Value.int .i64 0] 256).size) :=
        ⟨hcopy, by simp only [List.length_map]; exact (Nat.min_eq_left hl256).symm, by simp only [List.length_map, size_madeCells]; simp; omega⟩
      have HI : Hid (∀ w', w' = wc.setRow g2 ((madeCells #[.int .i64 0] 256).toList.take 0 ++ (l.map (Value.int .i64) ++ (madeCells #[.int .i64 0] 256).toList.drop (0 + (l.map (Value.int .i64)).length))).toArray → w'.heap[b]? = some (.cells ((newM l).cells (.slice (some ⟨g1, 0, none⟩) 8 8) (.slice (some ⟨g2, 0, none⟩) 256 256) (.slice none 0 0)) 30 (0, 0)) ∧ w'.heap[w.heap.size]? = some (.cells zeroM 30 (0, 0)) ∧ OwnM w' w.heap.size (.slice (some ⟨g1, 0, none⟩) 8 8) (.slice (some ⟨g2, 0, none⟩) 256 256) (.slice none 0 0) (newM l) ∧ Below w.heap.size w w') := fun w' e => by
        obtain ⟨a1, a2⟩ := hN.at.image hN.r2 hl256 w' e
        have hB : Below w1.heap.size w1 w' := hN.old.trans a2
        exact ⟨a1.box, by rw [hB.block _ (lt_of_block HX.out.1)]; exact HX.out.1, a1.own.mono HX.out.2.size, HX.out.2.trans (hB.mono HX.out.2.size)⟩
      simp only [zeroG] at z0 z1 z2 z3 z4 z5 z6 z7 z8 z9 z10 z11
      clear hN hbw hcell HX d0 h2 hbc hcopy
      go_wp2_with (refine wpList_copy_exact rfl (.tmp 16) (.tmp 17) 22 22 rfl 3 Tryd.underlying22 hsi g2 0 256 256 ⟨bb, off, none⟩ l.length c rfl rfl (madeCells #[.int .i64 0] 256) 3 HN.out.r2 (l.map (Value.int .i64)) HC.out.2.1 HC.out.1 HC.out.2.2 (ints_oneCell _ _) ?_; intro w4 hw4; obtain ⟨h4, hy, ho4, hb4⟩ := HI.out w4 hw4; have H4 : Hid (OwnM w4 w.heap.size (.slice (some ⟨g1, 0, none⟩) 8 8) (.slice (some ⟨g2, 0, none⟩) 256 256) (.slice none 0 0) (newM l) ∧ IsBox w4 w.heap.size ∧ Below w.heap.size w w4) := ⟨ho4, ⟨_, hy⟩, hb4⟩; obtain ⟨⟨y0, y1, y2, y3, y4, y5, y6, y7, y8, y9, y10, y11⟩, yf, yl⟩ := twelve_cells hy; obtain ⟨⟨x0, x1, x2, x3, x4, x5, x6, x7, x8, x9, x10, x11⟩, xf, xl⟩ := twelve_cells h4; simp only [newM] at x0 x1 x2 x3 x4 x5 x6 x7 x8 x9 x10 x11; clear h4 hy ho4 hb4 hw4 z0 z1 z2 z3 z4 z5 z6 z7 z8 z9 z10 z11 zf zl)
      refine bodyPost_ret (v := .tuple #[.agg #[.slice (some ⟨g1, 0, none⟩) 8 8, .int .i64 0, .int .i64 0, .bool false, .bool false, .int .i64 (-1), .int .i64 0, .int .i64 0, .slice (some ⟨g2, 0, none⟩) 256 256, .slice none 0 0, .int .i64 0, .int .i64 (-1)], .int .i64 0]) (by simp [results, Tryd.results23, go_sem, y0, y1, y2, y3, y4, y5, y6, y7, y8, y9, y10, y11]) rfl ?_
      exact ⟨.slice (some ⟨g1, 0, none⟩) 8 8, .slice (some ⟨g2, 0, none⟩) 256 256, .slice none 0 0, rfl, H4.out.1.set12 H4.out.2.1 _ _ _ _ _ _ _ _ _ _ _ _, below_set12 H4.out.2.2 (Nat.le_refl _) _ _ _ _ _ _ _ _ _ _ _ _⟩

end Go.Proofs.YtbjlfhpiebokkaaDoor

/- What a step counts; a new guest may be. -/

namespace Go.Proofs.YtbjlfhpiebokkaaDoor
open Go.RowKit
set_option maxRecDepth 100000

theorem count_if (c : Prop) [Decidable c] (A B : Mach × Int) (k : Int) (h1 : A.1.count = k) (h2 : B.1.count = k) : (if c then A else B).1.count = k := by
  split
  · exact h1
  · exact h2
theorem run1_count (m : Mach) (v : Int) : (m.run1 v).1.count = m.count := by
  unfold Mach.run1
  split
  · unfold Mach.exec
    repeat' (first | refine count_if _ _ _ _ ?_ ?_ | rfl)
  · rfl
theorem step_count (m : Mach) (irq : Bool) (blk : List Int) (v : Int) : (m.step irq blk v).1.count ≤ m.count + 1 := by
  unfold Mach.step
  split
  · rw [run1_count]
    show (m.told irq blk).enter.count + 1 ≤ m.count + 1
    rw [(enter_count _).1, (told_count _ _ _).1]
    exact Int.le_refl _
  · show m.count ≤ m.count + 1
    omega
theorem newM_may {l : List Int} (h : newNo l = 0) : MayP (newM l) := by
  unfold newNo at h
  split at h
  · cases h
  · rename_i hl
    split at h
    · cases h
    · rename_i ha
      have ha' : allB l = true := by simpa using ha
      refine ⟨by simp [newM], by simp [newM]; omega, by simp [newM], (by decide : allB (List.replicate 8 0) = true), ?_, rfl, (by decide : wordB 0 = true), (by decide : wordB 0 = true), by simp [newM], by simp [newM], by simp [newM], by simp [newM], by simp [newM]⟩
      show allB (l ++ List.replicate (256 - l.length) 0) = true
      unfold allB at ha' ⊢
      rw [List.all_append, ha', Bool.true_and, List.all_eq_true]
      intro x hx
      rw [(List.mem_replicate.1 hx).2]
      decide

end Go.Proofs.YtbjlfhpiebokkaaDoor

/- A recording, plainly. -/

namespace Go.Proofs.YtbjlfhpiebokkaaDoor
open Go.RowKit
set_option maxRecDepth 100000

def hasI (l : List Int) (k : Int) : Bool := l.any fun y => decide (y = k)
theorem hasI_iff {l : List Int} {k : Int} : hasI l k = true ↔ ∃ i, i < l.length ∧ l.getD i 0 = k := by
  unfold hasI
  rw [List.any_eq_true]
  constructor
  · rintro ⟨y, hy, he⟩
    obtain ⟨i, hi, rfl⟩ := List.mem_iff_getElem.1 hy
    exact ⟨i, hi, by simpa [List.getD, hi] using he⟩
  · rintro ⟨i, hi, he⟩
    exact ⟨l[i], List.getElem_mem hi, by simpa [List.getD, hi] using he⟩
theorem hasI_no {l : List Int} {k : Int} (h : ∀ i, i < l.length → l.getD i 0 ≠ k) : hasI l k = false := by
  cases e : hasI l k with
  | false => rfl
  | true =>
    obtain ⟨i, hi, he⟩ := hasI_iff.1 e
    exact absurd he (h i hi)
theorem hasI_take (l : List Int) (k : Int) (j : Nat) (hj : j < l.length) : hasI (l.take (j + 1)) k = (hasI (l.take j) k || decide (l.getD j 0 = k)) := by
  unfold hasI
  rw [List.take_succ_eq_append_getElem hj, List.any_append]
  simp [List.getD, hj]

def Mach.ahead (m : Mach) (irq : Bool) (blk : List Int) : Mach := (m.told irq blk).enter
def Mach.asks (m : Mach) (irq : Bool) (blk : List Int) : Bool :=
  decide (m.fin = 0 ∧ (m.ahead irq blk).nextE = 0 ∧ (m.ahead irq blk).nextX % 16 = 10 ∧ ((m.ahead irq blk).nextX / 1024 = 0 ∨ (m.ahead irq blk).nextX / 1024 = 1))

def zero16 : List Int := List.replicate 16 0
structure RecS where
  m : Mach
  evs : List Ev
  va : Nat
  bl : Nat
  due : Int
def RecS.irq (_ : RecS) (x : Wd) (k : Int) : Bool := hasI x.irqs k
def RecS.blk (s : RecS) (x : Wd) (k : Int) : List Int := if s.due = k then x.blocks.getD (s.bl - 1) zero16 else []
def RecS.ask (s : RecS) (x : Wd) (k : Int) : Bool := s.m.asks (s.irq x k) (s.blk x k)
def RecS.val (s : RecS) (x : Wd) (k : Int) : Int := if s.ask x k = true then x.values.getD s.va 0 else 0
def RecS.then_ (s : RecS) (x : Wd) (k : Int) : Mach := (s.m.step (s.irq x k) (s.blk x k) (s.val x k)).1
def RecS.new (s : RecS) (x : Wd) (k : Int) : Bool := decide ((s.due = k ∨ s.m.want = -1) ∧ 0 ≤ (s.then_ x k).want)
def RecS.evI (s : RecS) (x : Wd) (k : Int) : List Ev := if s.irq x k = true then [⟨k, 1, []⟩] else []
def RecS.evB (s : RecS) (x : Wd) (k : Int) : List Ev := if s.due = k then [⟨k, 2, s.blk x k⟩] else []
def RecS.evV (s : RecS) (x : Wd) (k : Int) : List Ev := if s.ask x k = true then [⟨k, 3, [s.val x k]⟩] else []
def RecS.next (s : RecS) (x : Wd) (k : Int) : RecS :=
  { m := s.then_ x k
    evs := s.evs ++ s.evI x k ++ s.evB x k ++ s.evV x k
    va := if s.ask x k = true then s.va + 1 else s.va
    bl := if s.new x k = true then s.bl + 1 else s.bl
    due := if s.new x k = true then k + 1 + x.delays.getD s.bl 0 else if s.due = k then -1 else s.due }
def recN (x : Wd) (im : List Int) : Nat → RecS
  | 0 => ⟨newM im, [], 0, 0, -1⟩
  | k + 1 => if (recN x im k).m.fin = 0 then (recN x im k).next x k else recN x im k

def DueOk (k : Int) (s : RecS) : Prop := (s.due = -1 ∧ s.m.want = -1) ∨ (k ≤ s.due ∧ 0 ≤ s.m.want ∧ 1 ≤ s.bl)

theorem want_if (c : Prop) [Decidable c] (A B : Mach × Int) (k : Int) (h1 : A.1.want = k) (h2 : B.1.want = k) : (if c then A else B).1.want = k := by
  split
  · exact h1
  · exact h2
theorem run1_want (m : Mach) (v : Int) (h : m.want ≠ -1) : (m.run1 v).1.want = m.want := by
  unfold Mach.run1
  split
  · unfold Mach.exec
    simp only [if_neg h]
    repeat' (first | refine want_if _ _ _ _ ?_ ?_ | rfl)
  · rfl
theorem enter_want (m : Mach) : m.enter.want = m.want := by unfold Mach.enter; split <;> rfl
theorem step_want {m : Mach} (irq : Bool) (v : Int) (hf : m.fin = 0) (h : m.want ≠ -1) : (m.step irq [] v).1.want = m.want := by
  have e : ((m.told irq []).enter.counted).want = m.want := by
    show (m.told irq []).enter.want = m.want
    rw [enter_want]
    unfold Mach.told
    rw [if_neg (by simp)]
  unfold Mach.step
  rw [if_pos hf, run1_want _ _ (by rw [e]; exact h), e]
theorem step_going {m : Mach} (irq : Bool) (blk : List Int) (v : Int) (hf : m.fin = 0) : (m.step irq blk v).1.count = m.count + 1 := by
  unfold Mach.step
  rw [if_pos hf, run1_count]
  show (m.told irq blk).enter.count + 1 = m.count + 1
  rw [(enter_count _).1, (told_count _ _ _).1]

structure WdMay (x : Wd) : Prop where
  irqs : allIn 0 3000 x.irqs = true
  delays : allIn 0 3000 x.delays = true
  values : allB x.values = true
  blocks : ∀ i, i < x.blocks.length → (x.blocks.getD i []).length = 16 ∧ allB (x.blocks.getD i []) = true
  fits : x.fits = true
theorem blocksNo_all : ∀ {D : List (List Int)}, blocksNo D = 0 → ∀ i, i < D.length → (D.getD i []).length = 16 ∧ allB (D.getD i []) = true
  | [], _, i, hi => by simp at hi
  | b :: r, h, i, hi => by
    unfold blocksNo at h
    split at h
    · rename_i h1
      split at h
      · rename_i h2
        cases i with
        | zero => exact ⟨h1, h2⟩
        | succ i => simpa [List.getD] using blocksNo_all (D := r) h i (by simpa using hi)
      · cases h
    · cases h
theorem worldNo_may {x : Wd} (h : worldNo x = 0) : WdMay x := by
  unfold worldNo at h
  split at h
  · rename_i hf
    split at h
    · rename_i h3
      exact ⟨h3.1, h3.2.1, h3.2.2, blocksNo_all h, hf⟩
    · cases h
  · cases h
theorem zero16_len : zero16.length = 16 := by simp [zero16]
theorem zero16_all : allB zero16 = true := allB_zeros 16
theorem WdMay.blk {x : Wd} (h : WdMay x) (i : Nat) : (x.blocks.getD i zero16).length = 16 ∧ allB (x.blocks.getD i zero16) = true := by
  by_cases hi : i < x.blocks.length
  · have e : x.blocks.getD i zero16 = x.blocks.getD i [] := by simp [List.getD, hi]
    rw [e]
    exact h.blocks i hi
  · have e : x.blocks.getD i zero16 = zero16 := by simp [List.getD, hi]
    rw [e]
    exact ⟨zero16_len, zero16_all⟩
theorem WdMay.value {x : Wd} (h : WdMay x) (i : Nat) : wordB (x.values.getD i 0) = true := by
  by_cases hi : i < x.values.length
  · exact allB_iff.1 h.values i hi
  · have e : x.values.getD i 0 = 0 := by simp [List.getD, hi]
    rw [e]
    decide
theorem WdMay.delay {x : Wd} (h : WdMay x) (i : Nat) : 0 ≤ x.delays.getD i 0 ∧ x.delays.getD i 0 ≤ 3000 := by
  by_cases hi : i < x.delays.length
  · exact inB_iff.1 (allIn_iff.1 h.delays i hi)
  · have e : x.delays.getD i 0 = 0 := by simp [List.getD, hi]
    rw [e]
    decide

theorem RecS.blk_may {x : Wd} (hx : WdMay x) (s : RecS) (k : Int) : ((s.blk x k).length = 0 ∨ (s.blk x k).length = 16) ∧ allB (s.blk x k) = true := by
  unfold RecS.blk
  split
  · exact ⟨Or.inr (hx.blk _).1, (hx.blk _).2⟩
  · exact ⟨Or.inl rfl, rfl⟩
theorem RecS.blk_at {x : Wd} (hx : WdMay x) {s : RecS} {k : Int} (h : s.due = k) : (s.blk x k).length = 16 := by
  unfold RecS.blk
  rw [if_pos h]
  exact (hx.blk _).1
theorem RecS.val_may {x : Wd} (hx : WdMay x) (s : RecS) (k : Int) : wordB (s.val x k) = true := by
  unfold RecS.val
  split
  · exact hx.value _
  · decide

structure RecOk (k : Nat) (s : RecS) : Prop where
  may : MayP s.m
  cnt : s.m.fin = 0 → s.m.count = (k : Int)
  cle : s.m.count ≤ (k : Int)
  due : s.m.fin = 0 → DueOk k s
theorem RecOk.next {x : Wd} (hx : WdMay x) {k : Nat} {s : RecS} (h : RecOk k s) (hf : s.m.fin = 0) (hk : k < 3000) : RecOk (k + 1) (s.next x k) := by
  have hb := RecS.blk_may hx s (k : Int)
  have hv := RecS.val_may hx s (k : Int)
  have hc := h.cnt hf
  have hm : MayP (s.then_ x k) := h.may.step (s.irq x k) hb.2 hb.1 hv (by omega)
  have hcount : (s.then_ x k).count = ((k + 1 : Nat) : Int) := by
    unfold RecS.then_
    rw [step_going _ _ _ hf, hc]
    omega
  refine ⟨hm, fun _ => hcount, Int.le_of_eq hcount, fun _ => ?_⟩
  by_cases hn : s.new x k = true
  · refine Or.inr ⟨?_, ?_, ?_⟩
    · show ((k + 1 : Nat) : Int) ≤ (if s.new x k = true then _ else _)
      rw [if_pos hn]
      have := (hx.delay s.bl).1
      omega
    · unfold RecS.new at hn
      exact (of_decide_eq_true hn).2
    · show 1 ≤ (if s.new x k = true then _ else _)
      rw [if_pos hn]
      omega
  · have hn' : ¬ ((s.due = (k : Int) ∨ s.m.want = -1) ∧ 0 ≤ (s.then_ x k).want) := fun e => hn (by unfold RecS.new; exact decide_eq_true e)
    have hw1 := hm.want.1
    have hnb : (if s.new x k = true then s.bl + 1 else s.bl) = s.bl := if_neg hn
    have hnd : (if s.new x k = true then (k : Int) + 1 + x.delays.getD s.bl 0 else if s.due = (k : Int) then -1 else s.due) = if s.due = (k : Int) then -1 else s.due := if_neg hn
    rcases h.due hf with ⟨h1, h2⟩ | ⟨h1, h2, h3⟩
    · refine Or.inl ⟨?_, ?_⟩
      · show (if s.new x k = true then _ else _) = _
        rw [hnd, if_neg (by omega)]
        exact h1
      · show (s.then_ x k).want = -1
        omega
    · by_cases hd : s.due = (k : Int)
      · refine Or.inl ⟨?_, ?_⟩
        · show (if s.new x k = true then _ else _) = _
          rw [hnd, if_pos hd]
        · show (s.then_ x k).want = -1
          omega
      · refine Or.inr ⟨?_, ?_, ?_⟩
        · show ((k + 1 : Nat) : Int) ≤ (if s.new x k = true then _ else _)
          rw [hnd, if_neg hd]
          omega
        · show 0 ≤ (s.then_ x k).want
          unfold RecS.then_
          rw [show s.blk x k = [] by unfold RecS.blk; rw [if_neg hd], step_want _ _ hf (by omega)]
          exact h2
        · show 1 ≤ (if s.new x k = true then _ else _)
          rw [hnb]
          exact h3
theorem rec_ok {x : Wd} (hx : WdMay x) {im : List Int} (hi : newNo im = 0) : ∀ k, k ≤ 3000 → RecOk k (recN x im k)
  | 0, _ => ⟨newM_may hi, fun _ => rfl, Int.le_refl _, fun _ => Or.inl ⟨rfl, rfl⟩⟩
  | k + 1, hk => by
    have h := rec_ok hx hi k (by omega)
    unfold recN
    split
    · rename_i hf
      exact h.next hx hf (by omega)
    · rename_i hf
      exact ⟨h.may, fun e => absurd e hf, by have := h.cle; omega, fun e => absurd e hf⟩
theorem rec_stays {x : Wd} {im : List Int} {k : Nat} (hf : (recN x im k).m.fin ≠ 0) : ∀ d, recN x im (k + d) = recN x im k
  | 0 => rfl
  | d + 1 => by
    have ih := rec_stays hf d
    show (if (recN x im (k + d)).m.fin = 0 then _ else recN x im (k + d)) = _
    rw [ih, if_neg hf]
theorem rec_step {x : Wd} {im : List Int} {k : Nat} (hf : (recN x im k).m.fin = 0) : recN x im (k + 1) = (recN x im k).next x k := by
  rw [recN, if_pos hf]
theorem rec_grows {x : Wd} {im : List Int} (k : Nat) : (recN x im k).evs.length ≤ (recN x im (k + 1)).evs.length := by
  rw [recN]
  split
  · simp [RecS.next]
  · exact Nat.le_refl _
theorem rec_more {x : Wd} {im : List Int} (k : Nat) : ∀ d, (recN x im k).evs.length ≤ (recN x im (k + d)).evs.length
  | 0 => Nat.le_refl _
  | d + 1 => Nat.le_trans (rec_more k d) (rec_grows (k + d))

end Go.Proofs.YtbjlfhpiebokkaaDoor
