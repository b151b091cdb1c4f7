/- What a step leaves of a guest that may be; guests in boxes. -/
import Derived.Test.YtecpblabaelopaaDoorCpuWordsPart
import Derived.Test.YtecpblabaelopaaDoorInfoPart
import Derived.Deep.OwnRows
import Derived.Test.YtecpblabaelopaaDoorDoEPart
import Derived.Test.YtecpblabaelopaaDoorRunPPart
namespace Go.Proofs.YtecpblabaelopaaDoor
open Go.RowKit
set_option maxRecDepth 100000

/-- A guest in block b. -/
structure BoxM (wr : World) (b : Nat) (rv mv ov : Value) (m : Mach) : Prop where
  box : wr.heap[b]? = some (.cells (m.cells rv mv ov) 28 (0, 0))
  dat : MachAt wr rv mv ov m
theorem BoxM.below {w w' : World} {b : Nat} {rv mv ov : Value} {m : Mach} (h : BoxM w b rv mv ov m) (hb : Below w.heap.size w w') : BoxM w' b rv mv ov m := ⟨by rw [hb.block _ (lt_of_block h.box)]; exact h.box, h.dat.below hb⟩
theorem MayP.fits {m : Mach} (h : MayP m) : MachFits m := ⟨by rw [h.regs]; decide, by rw [h.mem]; decide, by have := h.out; omega⟩
/-- A guest that a call has answered is put into a new variable. -/
theorem BoxM.new {w : World} {lo : Nat} {rv mv ov : Value} {m : Mach} (h : OwnM w lo rv mv ov m) (hm : MayP m) : BoxM (w.alloc (.cells (m.cells rv mv ov) 28)) w.heap.size rv mv ov m :=
  ⟨Go.Deep.blk_alloc_new _ _, (h.at hm.fits).below (below_alloc _ _)⟩

/-- What lies in a struct of guests' type, its fields stored one by one. -/
theorem box_set12 {w : World} {b : Nat} {c : Array Value} (h : w.heap[b]? = some (.cells c 28 (0, 0))) (hc : c.size = 12) (x0 x1 x2 x3 x4 x5 x6 x7 x8 x9 x10 x11 : Value) :
    ((((((((((((w.setCell ⟨b, 0, none⟩ x0).setCell ⟨b, 1, none⟩ x1).setCell ⟨b, 2, none⟩ x2).setCell ⟨b, 3, none⟩ x3).setCell ⟨b, 4, none⟩ x4).setCell ⟨b, 5, none⟩ x5).setCell ⟨b, 6, none⟩ x6).setCell ⟨b, 7, none⟩ x7).setCell ⟨b, 8, none⟩ x8).setCell ⟨b, 9, none⟩ x9).setCell ⟨b, 10, none⟩ x10).setCell ⟨b, 11, none⟩ x11).heap[b]? = some (.cells #[x0, x1, x2, x3, x4, x5, x6, x7, x8, x9, x10, x11] 28 (0, 0)) := by
  have e := box_set (i := 11) (box_set (i := 10) (box_set (i := 9) (box_set (i := 8) (box_set (i := 7) (box_set (i := 6) (box_set (i := 5) (box_set (i := 4) (box_set (i := 3) (box_set (i := 2) (box_set (i := 1) (box_set (i := 0) h x0) x1) x2) x3) x4) x5) x6) x7) x8) x9) x10) x11
  rw [e]
  obtain ⟨l⟩ := c
  rcases l with _ | ⟨a0, _ | ⟨a1, _ | ⟨a2, _ | ⟨a3, _ | ⟨a4, _ | ⟨a5, _ | ⟨a6, _ | ⟨a7, _ | ⟨a8, _ | ⟨a9, _ | ⟨a10, _ | ⟨a11, _ | ⟨a12, l⟩⟩⟩⟩⟩⟩⟩⟩⟩⟩⟩⟩⟩ <;> simp at hc ⊢

theorem allB_append {l l' : List Int} (h : allB l = true) (h' : allB l' = true) : allB (l ++ l') = true := by unfold allB at *; simp [List.all_append, h, h']
theorem allB_zeros (n : Nat) : allB (List.replicate n 0) = true := by unfold allB; rw [List.all_eq_true]; intro x hx; obtain ⟨-, rfl⟩ := List.mem_replicate.1 hx; decide
/-- What an instruction leaves of a guest that may be. -/
theorem MayP.exec {m : Mach} (h : MayP m) (op : Int) {a k n v : Int} (ha : 0 ≤ a ∧ a ≤ 7) (hn : -1048576 ≤ n ∧ n ≤ 1048575) (hv : wordB v = true) : MayP (m.exec op a k n v).1 := by
  have hnw : wordB n = true := wordB_iff.2 ⟨by omega, by omega⟩
  have hrw : wordB m.ready = true := wordB_iff.2 ⟨by have := h.ready; omega, by have := h.ready; omega⟩
  have haw : wordB (m.reg a) = true := reg_word h ha
  have hmem : ∀ {x : Int} {wr : Bool}, m.meantE x wr = 0 → wordB (m.mem.getD (m.meantK x wr).toNat 0) = true := fun {x wr} e => allB_iff.1 h.amem _ (by have := meant_bd e; have := h.mem; omega)
  have hst : ∀ {K : Nat}, MayP { m with mem := m.mem.set K (m.reg a) } := fun {K} => ⟨h.regs, by simp [h.mem], h.out, h.aregs, allB_set h.amem haw, h.aout, h.pc, h.back, h.table, h.count, h.fin, h.ready, h.want⟩
  have hin : ∀ {x : Bool}, MayP { m with ints := x } := fun {x} => ⟨h.regs, h.mem, h.out, h.aregs, h.amem, h.aout, h.pc, h.back, h.table, h.count, h.fin, h.ready, h.want⟩
  have hout : m.out.length < 200 → MayP { m with out := m.out ++ [m.reg a] } := fun hl => ⟨h.regs, h.mem, by simp; omega, h.aregs, h.amem, allB_append h.aout (by simp [allB, haw]), h.pc, h.back, h.table, h.count, h.fin, h.ready, h.want⟩
  have hask : 0 ≤ m.reg a ∧ m.reg a ≤ 15 → MayP { m with want := m.reg a, ready := 0 } := fun hl => ⟨h.regs, h.mem, h.out, h.aregs, h.amem, h.aout, h.pc, h.back, h.table, h.count, h.fin, ⟨by simp, by simp⟩, ⟨by show -1 ≤ m.reg a; omega, by show m.reg a ≤ 15; omega⟩⟩
  have htab : -1 ≤ m.reg a ∧ m.reg a ≤ 15 → MayP { m with table := m.reg a } := fun hl => ⟨h.regs, h.mem, h.out, h.aregs, h.amem, h.aout, h.pc, h.back, hl, h.count, h.fin, h.ready, h.want⟩
  unfold Mach.exec
  by_cases o0 : op = 0
  · rw [if_pos o0]
    exact h.ends (by decide)
  rw [if_neg o0]
  by_cases o1 : op = 1
  · rw [if_pos o1]
    exact (h.setReg _ hnw).go _
  rw [if_neg o1]
  by_cases o2 : op = 2
  · rw [if_pos o2]
    exact (h.setReg _ (foldF_word _)).go _
  rw [if_neg o2]
  by_cases o3 : op = 3
  · rw [if_pos o3]
    exact (h.setReg _ (foldF_word _)).go _
  rw [if_neg o3]
  by_cases o4 : op = 4
  · rw [if_pos o4]
    exact (h.setReg _ (foldF_word _)).go _
  rw [if_neg o4]
  by_cases o5 : op = 5
  · rw [if_pos o5]
    by_cases e : m.meantE (m.reg k + n) false = 0
    · rw [if_pos e]; exact (h.setReg _ (hmem e)).go _
    · rw [if_neg e]; exact h.ends (meantE_bd _ _ _)
  rw [if_neg o5]
  by_cases o6 : op = 6
  · rw [if_pos o6]
    by_cases e : m.meantE (m.reg k + n) true = 0
    · rw [if_pos e]; exact hst.go _
    · rw [if_neg e]; exact h.ends (meantE_bd _ _ _)
  rw [if_neg o6]
  by_cases o7 : op = 7
  · rw [if_pos o7]
    exact h.go _
  rw [if_neg o7]
  by_cases o8 : op = 8
  · rw [if_pos o8]
    exact h.go _
  rw [if_neg o8]
  by_cases o9 : op = 9
  · rw [if_pos o9]
    exact h.go _
  rw [if_neg o9]
  by_cases o10 : op = 10
  · rw [if_pos o10]
    by_cases e : n = 0 ∨ n = 1
    · rw [if_pos e]; exact (h.setReg _ hv).go _
    · rw [if_neg e]
      by_cases e2 : n = 2
      · rw [if_pos e2]; exact (h.setReg _ hrw).go _
      · rw [if_neg e2]; exact h.ends (by decide)
  rw [if_neg o10]
  by_cases o11 : op = 11
  · rw [if_pos o11]
    by_cases e : n = 3
    · rw [if_pos e]
      by_cases e2 : m.out.length < 200
      · rw [if_pos e2]; exact (hout e2).go _
      · rw [if_neg e2]; exact h.go _
    · rw [if_neg e]
      by_cases e2 : n = 4 ∧ 0 ≤ m.reg a ∧ m.reg a ≤ 15
      · rw [if_pos e2]
        by_cases e3 : m.want = -1
        · rw [if_pos e3]; exact (hask e2.2).go _
        · rw [if_neg e3]; exact h.go _
      · rw [if_neg e2]; exact h.ends (by decide)
  rw [if_neg o11]
  by_cases o12 : op = 12
  · rw [if_pos o12]
    exact hin.go _
  rw [if_neg o12]
  by_cases o13 : op = 13
  · rw [if_pos o13]
    exact hin.go _
  rw [if_neg o13]
  by_cases o14 : op = 14
  · rw [if_pos o14]
    by_cases e : -1 ≤ m.reg a ∧ m.reg a ≤ 15
    · rw [if_pos e]; exact (htab e).go _
    · rw [if_neg e]; exact h.ends (by decide)
  rw [if_neg o14]
  exact h.go _
theorem MayP.run1 {m : Mach} (h : MayP m) {v : Int} (hv : wordB v = true) : MayP (m.run1 v).1 := by
  unfold Mach.run1
  split
  · next e =>
    have hd : decNo m.nextX = 0 := by
      unfold Mach.nextE at e
      split at e
      · split at e
        · next hd => exact hd
        · exact absurd e (by decide)
      · next h1 => exact absurd e h1
    obtain ⟨-, b1, -, b3⟩ := instrNo_bd hd
    exact h.exec _ b1 b3 hv
  · exact h.ends (nextE_bd m)
theorem MayP.step {m : Mach} (h : MayP m) (irq : Bool) {blk : List Int} (hb : allB blk = true) (hl : blk.length = 0 ∨ blk.length = 16) {v : Int} (hv : wordB v = true) (hc : m.count < 1099511627776) : MayP (m.step irq blk v).1 := by
  unfold Mach.step
  split
  · have e : ((m.told irq blk).enter).count = m.count := by rw [(enter_count _).1, (told_count _ _ _).1]
    exact MayP.run1 (((h.told irq hb hl).enter).counted (by omega)) hv
  · exact h

/-- A guest that a step has answered is put in the place of the one ahead. -/
theorem BoxM.put {w : World} {lo b : Nat} {rv mv ov rv' mv' ov' : Value} {m m' : Mach} (h : BoxM w b rv mv ov m) (ho : OwnM w lo rv' mv' ov' m') (hm : MayP m') (o : Obj) :
    BoxM (((((((((((((w.setCell ⟨b, 0, none⟩ rv').setCell ⟨b, 1, none⟩ (.int .i64 m'.pc)).setCell ⟨b, 2, none⟩ (.int .i64 m'.back)).setCell ⟨b, 3, none⟩ (.bool m'.ints)).setCell ⟨b, 4, none⟩ (.bool m'.wait)).setCell ⟨b, 5, none⟩ (.int .i64 m'.table)).setCell ⟨b, 6, none⟩ (.int .i64 m'.count)).setCell ⟨b, 7, none⟩ (.int .i64 m'.fin)).setCell ⟨b, 8, none⟩ mv').setCell ⟨b, 9, none⟩ ov').setCell ⟨b, 10, none⟩ (.int .i64 m'.ready)).setCell ⟨b, 11, none⟩ (.int .i64 m'.want)).alloc o) b rv' mv' ov' m' := by
  refine BoxM.below ⟨box_set12 h.box rfl _ _ _ _ _ _ _ _ _ _ _ _, ?_⟩ (below_alloc _ _)
  exact (ho.set12 ⟨_, h.box⟩ _ _ _ _ _ _ _ _ _ _ _ _).at hm.fits


end Go.Proofs.YtecpblabaelopaaDoor

/- New memory of zeros. -/

namespace Go.Proofs.YtecpblabaelopaaDoor
open Go.RowKit

theorem OwnI.madeZ {w : World} {lo g n : Nat} (hlo : lo ≤ g) (hn : n ≤ maxLen) (h : w.heap[g]? = some (.cells (madeCells #[.int .i64 0] n) 3 (0, 0))) : OwnI w lo (.slice (some ⟨g, 0, none⟩) n n) (List.replicate n 0) := by
  refine ⟨by simp, Or.inr ⟨g, n, _, by simp, hlo, h, by simp, hn, by simp [size_madeCells], ?_⟩⟩
  rw [toList_madeCells_one]; simp

end Go.Proofs.YtecpblabaelopaaDoor

/- Contract of cpu.New. -/

namespace Go.Proofs.YtecpblabaelopaaDoor
open Go.RowKit

/-- A new guest. -/
def newM (l : List Int) : Mach := ⟨List.replicate 8 0, 0, 0, false, false, -1, 0, 0, l ++ List.replicate (256 - l.length) 0, [], 0, -1⟩
/-- What is wrong with an image. -/
def newNo (l : List Int) : Int := if 256 < l.length then 1 else if !allB l then 2 else 0

set_option maxHeartbeats 2000000 in
theorem New_no (v : Value) (l : List Int) (w : World) (h : IntsAt w v l) (hn : newNo l ≠ 0) :
    Calls Tryd.prog 18 #[v] w fun e w' => e = .returned (.tuple #[.agg zeroM, .int .i64 (newNo l)]) ∧ Below w.heap.size w w' := by
  have H : Hid (IntsAt w v l) := h
  obtain ⟨A, c, rfl, hl, hc⟩ := h
  clear hc
  by_cases h1 : 256 < l.length
  · rw [show newNo l = 1 by simp [newNo, h1]]
    have d0 : decide (256 < (l.length : Int)) = true := by simp; omega
    obtain ⟨⟨y0, y1, y2, y3, y4, y5, y6, y7, y8, y9, y10, y11⟩, yf, yl⟩ := twelve_cells (Go.Deep.blk_alloc_new w (.cells zeroM 28))
    clear hn h1
    go_enter Tryd.func18, Tryd.ntmps18
    go_wp2_with fail
    refine bodyPost_ret (v := .tuple #[.agg zeroM, .int .i64 1]) (by simp [results, Tryd.results18, go_sem, y0, y1, y2, y3, y4, y5, y6, y7, y8, y9, y10, y11]) rfl ?_
    exact ⟨rfl, below_alloc _ _⟩
  · have h2 : allB l = false := by
      cases e : allB l with
      | false => rfl
      | true => exact absurd (by simp [newNo, h1, e]) hn
    rw [show newNo l = 2 by simp [newNo, h1, h2]]
    have d0 : decide (256 < (l.length : Int)) = false := by simp; omega
    clear hn h1
    go_enter Tryd.func18, Tryd.ntmps18
    go_wp2_with fail
    refine (haveNoWord_any _ l _ (H.out.below (below_alloc _ _))).mono ?_
    rw [h2]
    rintro e w1 ⟨rfl, hb1⟩
    obtain ⟨⟨y0, y1, y2, y3, y4, y5, y6, y7, y8, y9, y10, y11⟩, yf, yl⟩ := twelve_cells (box_kept hb1)
    have HB : Hid (Below w.heap.size w w1) := (below_alloc _ _).trans (hb1.mono (by simp))
    clear hb1
    go_wp2_with fail
    refine bodyPost_ret (v := .tuple #[.agg zeroM, .int .i64 2]) (by simp [results, Tryd.results18, go_sem, y0, y1, y2, y3, y4, y5, y6, y7, y8, y9, y10, y11]) rfl ?_
    exact ⟨rfl, below_set12 HB.out (Nat.le_refl _) _ _ _ _ _ _ _ _ _ _ _ _⟩

/-- Three new blocks. -/
theorem new_three (w : World) (o1 o2 o3 : Obj) : (((w.alloc o1).alloc o2).alloc o3).drew.heap[w.heap.size]? = some o1 ∧ (((w.alloc o1).alloc o2).alloc o3).drew.heap[w.heap.size + 1]? = some o2 ∧ (((w.alloc o1).alloc o2).alloc o3).drew.heap[w.heap.size + 1 + 1]? = some o3 ∧ Below w.heap.size w (((w.alloc o1).alloc o2).alloc o3).drew := by
  refine ⟨?_, ?_, ?_, (((below_alloc _ _).alloc (by simp) _).alloc (by simp; omega) _).drew⟩
  · show (((w.alloc o1).alloc o2).alloc o3).heap[w.heap.size]? = some o1
    rw [Go.Deep.blk_alloc_lt _ _ _ (by simp; omega), Go.Deep.blk_alloc_lt _ _ _ (by simp), Go.Deep.blk_alloc_new]
  · show (((w.alloc o1).alloc o2).alloc o3).heap[w.heap.size + 1]? = some o2
    rw [Go.Deep.blk_alloc_lt _ _ _ (by simp)]
    have := Go.Deep.blk_alloc_new (w.alloc o1) o2
    rwa [show (w.alloc o1).heap.size = w.heap.size + 1 by simp] at this
  · show (((w.alloc o1).alloc o2).alloc o3).heap[w.heap.size + 1 + 1]? = some o3
    have := Go.Deep.blk_alloc_new ((w.alloc o1).alloc o2) o3
    rwa [show ((w.alloc o1).alloc o2).heap.size = w.heap.size + 1 + 1 by simp] at this

/-- A guest with nothing in it. -/
def zeroG : Mach := ⟨List.replicate 8 0, 0, 0, false, false, -1, 0, 0, List.replicate 256 0, [], 0, -1⟩
/-- What New lays out. -/
structure NewInv (w wx : World) (b g1 g2 : Nat) : Prop where
  box : wx.heap[b]? = some (.cells (zeroG.cells (.slice (some ⟨g1, 0, none⟩) 8 8) (.slice (some ⟨g2, 0, none⟩) 256 256) (.slice none 0 0)) 28 (0, 0))
  r1 : wx.heap[g1]? = some (.cells (madeCells #[.int .i64 0] 8) 3 (0, 0))
  r2 : wx.heap[g2]? = some (.cells (madeCells #[.int .i64 0] 256) 3 (0, 0))
  lb : w.heap.size ≤ b
  l1 : w.heap.size ≤ g1
  l2 : w.heap.size ≤ g2
  ne : g1 ≠ g2
  old : Below w.heap.size w wx
theorem NewInv.at {w wx : World} {b g1 g2 : Nat} (h : NewInv w wx b g1 g2) : AtP wx w.heap.size b (.slice (some ⟨g1, 0, none⟩) 8 8) (.slice (some ⟨g2, 0, none⟩) 256 256) (.slice none 0 0) zeroG :=
  ⟨h.box, ⟨OwnI.madeZ h.l1 (by unfold maxLen; omega) h.r1, OwnI.madeZ h.l2 (by unfold maxLen; omega) h.r2, World.ownsRow_nil _ _ _ _, fun g e e2 => by simp [Value.ownBlock] at e e2; exact h.ne (e.trans e2.symm), fun g e e2 => by simp [Value.ownBlock] at e2, fun g e e2 => by simp [Value.ownBlock] at e2⟩, h.lb⟩

/-- The image is copied. -/
theorem AtP.image {w : World} {lo b g1 g2 : Nat} {l : List Int} (h : AtP w lo b (.slice (some ⟨g1, 0, none⟩) 8 8) (.slice (some ⟨g2, 0, none⟩) 256 256) (.slice none 0 0) zeroG) (hr : w.heap[g2]? = some (.cells (madeCells #[.int .i64 0] 256) 3 (0, 0))) (hl : l.length ≤ 256) :
    ∀ w', w' = w.setRow g2 ((madeCells #[.int .i64 0] 256).toList.take 0 ++ (l.map (Value.int .i64) ++ (madeCells #[.int .i64 0] 256).toList.drop (0 + (l.map (Value.int .i64)).length))).toArray → AtP w' lo b (.slice (some ⟨g1, 0, none⟩) 8 8) (.slice (some ⟨g2, 0, none⟩) 256 256) (.slice none 0 0) (newM l) ∧ Below lo w w' := fun w' e => by
  have hr' := AtP.putRun (off := 0) (blk := l) h hr (by show 0 + l.length ≤ (List.replicate 256 (0 : Int)).length; rw [List.length_replicate]; omega)
  subst e
  rw [← List.append_assoc]
  have e1 : zeroG.mem.take 0 ++ l ++ zeroG.mem.drop (0 + l.length) = l ++ List.replicate (256 - l.length) 0 := by
    show List.take 0 (List.replicate 256 (0 : Int)) ++ l ++ List.drop (0 + l.length) (List.replicate 256 0) = _
    rw [List.take_zero, List.nil_append, Nat.zero_add, List.drop_replicate]
  have he : ({ zeroG with mem := zeroG.mem.take 0 ++ l ++ zeroG.mem.drop (0 + l.length) } : Mach) = newM l := by rw [e1]; rfl
  rw [he] at hr'
  exact hr'
theorem newM_nil (l : List Int) (h : l.length = 0) : newM l = zeroG := by
  obtain rfl : l = [] := List.eq_nil_of_length_eq_zero h
  rfl

/-- A copy into a row: the world behind it, written out. -/
theorem wpList_copy_exact {P : Program} {w : World} {ops : Array Oper} {rest : List Oper} {o : Oper} {a : Act} {Q : Exit → Act → World → Prop} (hgd : o.guard = none) (d s : Operand) (dT sT : TypeId)
    (ho : o.op = .call { callee := .builtin .copy, args := #[d, s], argTypes := #[dT, sT] }) (elem : TypeId) (hu : P.underlying dT = some (.slice elem)) (hsz : (P.info? elem).map (·.size) = some 1)
    (g off dLen dCap : Nat) (ad : Addr) (sLen sCap : Nat) (hd : a.eval d = .slice (some ⟨g, off, none⟩) dLen dCap) (hs : a.eval s = .slice (some ad) sLen sCap)
    (cur : Array Value) (t : TypeId) (hg : w.heap[g]? = some (.cells cur t (0, 0))) (cs : List Value) (hn : cs.length = Nat.min sLen dLen)
    (hsrc : ∀ j v, cs[j]? = some v → w.cell? (ad.add j) = some v) (hfit : off + cs.length ≤ cur.size) (h1 : ∀ v ∈ cs, v.oneCell' = true)
    (h : ∀ w', w' = w.setRow g (cur.toList.take off ++ (cs ++ cur.toList.drop (off + cs.length))).toArray → wpList P ops Q rest (a.put o.dst (goInt cs.length)) w') : wpList P ops Q (o :: rest) a w :=
  wpList_copy_own hgd d s dT sT ho elem hu hsz g off dLen dCap ad sLen sCap hd hs cur t hg cs hn hsrc hfit h1 (h _ rfl)

set_option maxHeartbeats 2000000 in
theorem New_ok (v : Value) (l : List Int) (w : World) (h : IntsAt w v l) (hn : newNo l = 0) :
    Calls Tryd.prog 18 #[v] w fun e w' => ∃ rv' mv' ov', e = .returned (.tuple #[.agg ((newM l).cells rv' mv' ov'), .int .i64 0]) ∧ OwnM w' w.heap.size rv' mv' ov' (newM l) ∧ Below w.heap.size w w' := by
  have H : Hid (IntsAt w v l) := h
  have h1 : ¬ 256 < l.length := fun e => by simp [newNo, e] at hn
  have h2 : allB l = true := by
    cases e : allB l with
    | true => rfl
    | false => simp [newNo, h1, e] at hn
  obtain ⟨A, c, rfl, hl, hc⟩ := h
  have d0 : decide (256 < (l.length : Int)) = false := by simp; omega
  have hm8 : ∀ W : World, (Instr.makeSlice 23 (.int .i64 8) (.int .i64 8)).run Tryd.prog W = .ok (.slice (some ⟨W.heap.size, 0, none⟩) 8 8) (W.alloc (.cells (madeCells #[.int .i64 0] 8) 3)) := fun W => run_make_row' (P := Tryd.prog) 23 3 (.int .i64 0) 8 Tryd.underlying23 infoInt rfl .i64 .i64 8 (by omega) (by omega) W
  have hm256 : ∀ W : World, (Instr.makeSlice 23 (.int .i64 256) (.int .i64 256)).run Tryd.prog W = .ok (.slice (some ⟨W.heap.size, 0, none⟩) 256 256) (W.alloc (.cells (madeCells #[.int .i64 0] 256) 3)) := fun W => run_make_row' (P := Tryd.prog) 23 3 (.int .i64 0) 8 Tryd.underlying23 infoInt rfl .i64 .i64 256 (by omega) (by omega) W
  clear hn h1 hc
  go_enter Tryd.func18, Tryd.ntmps18
  go_wp2_with fail
  refine (haveNoWord_any _ l _ (H.out.below (below_alloc _ _))).mono ?_
  rw [h2]
  rintro e w1 ⟨rfl, hb1⟩
  have HX : Hid (w1.heap[w.heap.size]? = some (.cells zeroM 28 (0, 0)) ∧ Below w.heap.size w w1) := ⟨box_kept hb1, (below_alloc _ _).trans (hb1.mono (by simp))⟩
  clear hb1
  go_upto_region 5 with fail
  go_cut [4, 12, 13] (fun p s1 s2 wx => ∃ b g1 g2, p = .pointer (some ⟨b, 0, none⟩) ∧ s1 = .slice (some ⟨g1, 0, none⟩) 8 8 ∧ s2 = .slice (some ⟨g2, 0, none⟩) 256 256 ∧ NewInv w1 wx b g1 g2)
  case first =>
    go_region
    all_goals
      go_wp2_with fail
      go_meet
      refine ⟨_, _, _, rfl, rfl, rfl, ?_⟩
      refine ⟨?_, ?_, ?_, by omega, by omega, by omega, by omega, (new_three _ _ _ _).2.2.2⟩
      all_goals first
        | exact (new_three _ _ _ _).1
        | exact (new_three _ _ _ _).2.1
        | exact (new_three _ _ _ _).2.2.1
  case rest =>
    obtain ⟨b, g1, g2, rfl, rfl, rfl, hN⟩ := hcut
    have HN : Hid (NewInv w1 wc b g1 g2) := hN
    obtain ⟨⟨z0, z1, z2, z3, z4, z5, z6, z7, z8, z9, z10, z11⟩, zf, zl⟩ := twelve_cells hN.box
    have hsi : (Tryd.prog.info? 3).map (·.size) = some 1 := by kernel_rfl
    obtain ⟨A', c', hA, -, hcell⟩ := H.out
    simp only [Value.slice.injEq] at hA
    obtain ⟨rfl, -, rfl⟩ := hA
    have hbw : Below w.heap.size w wc := HX.out.2.trans (hN.old.mono HX.out.2.size)
    by_cases hl0 : l.length = 0
    · have hy : wc.heap[w.heap.size]? = some (.cells zeroM 28 (0, 0)) := by rw [hN.old.block _ (lt_of_block HX.out.1)]; exact HX.out.1
      obtain ⟨⟨y0, y1, y2, y3, y4, y5, y6, y7, y8, y9, y10, y11⟩, yf, yl⟩ := twelve_cells hy
      have H4 : Hid (OwnM wc w.heap.size (.slice (some ⟨g1, 0, none⟩) 8 8) (.slice (some ⟨g2, 0, none⟩) 256 256) (.slice none 0 0) (newM l) ∧ IsBox wc w.heap.size ∧ Below w.heap.size w wc) := ⟨by rw [newM_nil l hl0]; exact hN.at.own.mono HX.out.2.size, ⟨_, hy⟩, hbw⟩
      simp only [zeroG] at z0 z1 z2 z3 z4 z5 z6 z7 z8 z9 z10 z11
      clear hN hy hbw hcell HN HX d0 h2
      go_wp2_with (refine wpList_copy_nothing rfl (.tmp 16) (.tmp 17) 23 23 rfl 3 Tryd.underlying23 hsi (some ⟨g2, 0, none⟩) A 256 256 l.length c rfl rfl (by rw [hl0]; rfl) ?_)
      refine bodyPost_ret (v := .tuple #[.agg #[.slice (some ⟨g1, 0, none⟩) 8 8, .int .i64 0, .int .i64 0, .bool false, .bool false, .int .i64 (-1), .int .i64 0, .int .i64 0, .slice (some ⟨g2, 0, none⟩) 256 256, .slice none 0 0, .int .i64 0, .int .i64 (-1)], .int .i64 0]) (by simp [results, Tryd.results18, go_sem, y0, y1, y2, y3, y4, y5, y6, y7, y8, y9, y10, y11]) rfl ?_
      exact ⟨.slice (some ⟨g1, 0, none⟩) 8 8, .slice (some ⟨g2, 0, none⟩) 256 256, .slice none 0 0, rfl, H4.out.1.set12 H4.out.2.1 _ _ _ _ _ _ _ _ _ _ _ _, below_set12 H4.out.2.2 (Nat.le_refl _) _ _ _ _ _ _ _ _ _ _ _ _⟩
    · obtain ⟨bb, off, rfl, hbb, hbc⟩ := hcell (by omega)
      have hcopy : ∀ j v, (l.map (Value.int .i64))[j]? = some v → wc.cell? ((⟨bb, off, none⟩ : Addr).add j) = some v := fun j v hv => by
        have hjl : j < l.length := by
          by_cases hh : j < l.length
          · exact hh
          · simp [List.getElem?_eq_none (show l.length ≤ j by omega)] at hv
        rw [Go.WideShapes.add_plain]
        have := (hbw.cell (p := ⟨bb, off + j, none⟩) hbb).trans (hbc j hjl)
        simp [hjl] at hv
        simpa [List.getD, hjl, hv] using this
      have hl256 : l.length ≤ 256 := by simp at d0; omega
      have HC : Hid ((∀ j v, (l.map (Value.int .i64))[j]? = some v → wc.cell? ((⟨bb, off, none⟩ : Addr).add j) = some v) ∧ (l.map (Value.int .i64)).length = Nat.min l.length 256 ∧ 0 + (l.map (Value.int .i64)).length ≤ (madeCells #[Value.int .i64 0] 256).size) :=
        ⟨hcopy, by simp only [List.length_map]; exact (Nat.min_eq_left hl256).symm, by simp only [List.length_map, size_madeCells]; simp; omega⟩
      have HI : Hid (∀ w', w' = wc.setRow g2 ((madeCells #[.int .i64 0] 256).toList.take 0 ++ (l.map (Value.int .i64) ++ (madeCells #[.int .i64 0] 256).toList.drop (0 + (l.map (Value.int .i64)).length))).toArray → w'.heap[b]? = some (.cells ((newM l).cells (.slice (some ⟨g1, 0, none⟩) 8 8) (.slice (some ⟨g2, 0, none⟩) 256 256) (.slice none 0 0)) 28 (0, 0)) ∧ w'.heap[w.heap.size]? = some (.cells zeroM 28 (0, 0)) ∧ OwnM w' w.heap.size (.slice (some ⟨g1, 0, none⟩) 8 8) (.slice (some ⟨g2, 0, none⟩) 256 256) (.slice none 0 0) (newM l) ∧ Below w.heap.size w w') := fun w' e => by
        obtain ⟨a1, a2⟩ := hN.at.image hN.r2 hl256 w' e
        have hB : Below w1.heap.size w1 w' := hN.old.trans a2
        exact ⟨a1.box, by rw [hB.block _ (lt_of_block HX.out.1)]; exact HX.out.1, a1.own.mono HX.out.2.size, HX.out.2.trans (hB.mono HX.out.2.size)⟩
      simp only [zeroG] at z0 z1 z2 z3 z4 z5 z6 z7 z8 z9 z10 z11
      clear hN hbw hcell HX d0 h2 hbc hcopy
      go_wp2_with (refine wpList_copy_exact rfl (.tmp 16) (.tmp 17) 23 23 rfl 3 Tryd.underlying23 hsi g2 0 256 256 ⟨bb, off, none⟩ l.length c rfl rfl (madeCells #[.int .i64 0] 256) 3 HN.out.r2 (l.map (Value.int .i64)) HC.out.2.1 HC.out.1 HC.out.2.2 (ints_oneCell _ _) ?_; intro w4 hw4; obtain ⟨h4, hy, ho4, hb4⟩ := HI.out w4 hw4; have H4 : Hid (OwnM w4 w.heap.size (.slice (some ⟨g1, 0, none⟩) 8 8) (.slice (some ⟨g2, 0, none⟩) 256 256) (.slice none 0 0) (newM l) ∧ IsBox w4 w.heap.size ∧ Below w.heap.size w w4) := ⟨ho4, ⟨_, hy⟩, hb4⟩; obtain ⟨⟨y0, y1, y2, y3, y4, y5, y6, y7, y8, y9, y10, y11⟩, yf, yl⟩ := twelve_cells hy; obtain ⟨⟨x0, x1, x2, x3, x4, x5, x6, x7, x8, x9, x10, x11⟩, xf, xl⟩ := twelve_cells h4; simp only [newM] at x0 x1 x2 x3 x4 x5 x6 x7 x8 x9 x10 x11; clear h4 hy ho4 hb4 hw4 z0 z1 z2 z3 z4 z5 z6 z7 z8 z9 z10 z11 zf zl)
      refine bodyPost_ret (v := .tuple #[.agg #[.slice (some ⟨g1, 0, none⟩) 8 8, .int .i64 0, .int .i64 0, .bool false, .bool false, .int .i64 (-1), .int .i64 0, .int .i64 0, .slice (some ⟨g2, 0, none⟩) 256 256, .slice none 0 0, .int .i64 0, .int .i64 (-1)], .int .i64 0]) (by simp [results, Tryd.results18, go_sem, y0, y1, y2, y3, y4, y5, y6, y7, y8, y9, y10, y11]) rfl ?_
      exact ⟨.slice (some ⟨g1, 0, none⟩) 8 8, .slice (some ⟨g2, 0, none⟩) 256 256, .slice none 0 0, rfl, H4.out.1.set12 H4.out.2.1 _ _ _ _ _ _ _ _ _ _ _ _, below_set12 H4.out.2.2 (Nat.le_refl _) _ _ _ _ _ _ _ _ _ _ _ _⟩

end Go.Proofs.YtecpblabaelopaaDoor
