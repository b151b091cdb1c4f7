/- What a step leaves of a guest that may be; guests in boxes. -/
import Derived.Test.YtecpblabaelopaaGreatDoorDoEPart
import Derived.Test.YtecpblabaelopaaGreatDoorCpuMPart
import Derived.Test.YtecpblabaelopaaGreatDoorBasePart
import Derived.Test.YtecpblabaelopaaGreatDoorTapePart
import Derived.Test.YtecpblabaelopaaGreatDoorECloPart
import Derived.Lib.SliceRun
namespace Go.Proofs.YtecpblabaelopaaGreatDoor
open Go.RowKit
set_option maxRecDepth 100000

structure BoxM (wr : World) (b : Nat) (rv mv ov : Value) (m : Mach) : Prop where
  box : wr.heap[b]? = some (.cells (m.cells rv mv ov) 37 (0, 0))
  dat : MachAt wr rv mv ov m
theorem BoxM.below {w w' : World} {b : Nat} {rv mv ov : Value} {m : Mach} (h : BoxM w b rv mv ov m) (hb : Below w.heap.size w w') : BoxM w' b rv mv ov m := ⟨by rw [hb.block _ (lt_of_block h.box)]; exact h.box, h.dat.below hb⟩
theorem MayP.fits {m : Mach} (h : MayP m) : MachFits m := ⟨by rw [h.regs]; decide, by rw [h.mem]; decide, by have := h.out; omega⟩
theorem BoxM.new {w : World} {lo : Nat} {rv mv ov : Value} {m : Mach} (h : OwnM w lo rv mv ov m) (hm : MayP m) : BoxM (w.alloc (.cells (m.cells rv mv ov) 37)) w.heap.size rv mv ov m :=
  ⟨Go.Deep.blk_alloc_new _ _, (h.at hm.fits).below (below_alloc _ _)⟩

theorem box_set12 {w : World} {b : Nat} {c : Array Value} (h : w.heap[b]? = some (.cells c 37 (0, 0))) (hc : c.size = 12) (x0 x1 x2 x3 x4 x5 x6 x7 x8 x9 x10 x11 : Value) :
    ((((((((((((w.setCell ⟨b, 0, none⟩ x0).setCell ⟨b, 1, none⟩ x1).setCell ⟨b, 2, none⟩ x2).setCell ⟨b, 3, none⟩ x3).setCell ⟨b, 4, none⟩ x4).setCell ⟨b, 5, none⟩ x5).setCell ⟨b, 6, none⟩ x6).setCell ⟨b, 7, none⟩ x7).setCell ⟨b, 8, none⟩ x8).setCell ⟨b, 9, none⟩ x9).setCell ⟨b, 10, none⟩ x10).setCell ⟨b, 11, none⟩ x11).heap[b]? = some (.cells #[x0, x1, x2, x3, x4, x5, x6, x7, x8, x9, x10, x11] 37 (0, 0)) := by
  have e := box_set (i := 11) (box_set (i := 10) (box_set (i := 9) (box_set (i := 8) (box_set (i := 7) (box_set (i := 6) (box_set (i := 5) (box_set (i := 4) (box_set (i := 3) (box_set (i := 2) (box_set (i := 1) (box_set (i := 0) h x0) x1) x2) x3) x4) x5) x6) x7) x8) x9) x10) x11
  rw [e]
  obtain ⟨l⟩ := c
  rcases l with _ | ⟨a0, _ | ⟨a1, _ | ⟨a2, _ | ⟨a3, _ | ⟨a4, _ | ⟨a5, _ | ⟨a6, _ | ⟨a7, _ | ⟨a8, _ | ⟨a9, _ | ⟨a10, _ | ⟨a11, _ | ⟨a12, l⟩⟩⟩⟩⟩⟩⟩⟩⟩⟩⟩⟩⟩ <;> simp at hc ⊢

theorem allB_append {l l' : List Int} (h : allB l = true) (h' : allB l' = true) : allB (l ++ l') = true := by unfold allB at *; simp [List.all_append, h, h']
theorem allB_zeros (n : Nat) : allB (List.replicate n 0) = true := by unfold allB; rw [List.all_eq_true]; intro x hx; obtain ⟨-, rfl⟩ := List.mem_replicate.1 hx; decide
theorem MayP.exec {m : Mach} (h : MayP m) (op : Int) {a k n v : Int} (ha : 0 ≤ a ∧ a ≤ 7) (hn : -1048576 ≤ n ∧ n ≤ 1048575) (hv : wordB v = true) : MayP (m.exec op a k n v).1 := by
  have hnw : wordB n = true := wordB_iff.2 ⟨by omega, by omega⟩
  have hrw : wordB m.ready = true := wordB_iff.2 ⟨by have := h.ready; omega, by have := h.ready; omega⟩
  have haw : wordB (m.reg a) = true := reg_word h ha
  have hmem : ∀ {x : Int} {wr : Bool}, m.meantE x wr = 0 → wordB (m.mem.getD (m.meantK x wr).toNat 0) = true := fun {x wr} e => allB_iff.1 h.amem _ (by have := meant_bd e; have := h.mem; omega)
  have hst : ∀ {K : Nat}, MayP { m with mem := m.mem.set K (m.reg a) } := fun {K} => ⟨h.regs, by simp [h.mem], h.out, h.aregs, allB_set h.amem haw, h.aout, h.pc, h.back, h.table, h.count, h.fin, h.ready, h.want⟩
  have hin : ∀ {x : Bool}, MayP { m with ints := x } := fun {x} => ⟨h.regs, h.mem, h.out, h.aregs, h.amem, h.aout, h.pc, h.back, h.table, h.count, h.fin, h.ready, h.want⟩
  have hout : m.out.length < 200 → MayP { m with out := m.out ++ [m.reg a] } := fun hl => ⟨h.regs, h.mem, by simp; omega, h.aregs, h.amem, allB_append h.aout (by simp [allB, haw]), h.pc, h.back, h.table, h.count, h.fin, h.ready, h.want⟩
  have hask : 0 ≤ m.reg a ∧ m.reg a ≤ 15 → MayP { m with want := m.reg a, ready := 0 } := fun hl => ⟨h.regs, h.mem, h.out, h.aregs, h.amem, h.aout, h.pc, h.back, h.table, h.count, h.fin, ⟨by simp, by simp⟩, ⟨by show -1 ≤ m.reg a; omega, by show m.reg a ≤ 15; omega⟩⟩
  have htab : -1 ≤ m.reg a ∧ m.reg a ≤ 15 → MayP { m with table := m.reg a } := fun hl => ⟨h.regs, h.mem, h.out, h.aregs, h.amem, h.aout, h.pc, h.back, hl, h.count, h.fin, h.ready, h.want⟩
  unfold Mach.exec
  by_cases o0 : op = 0
  · rw [if_pos o0]
    exact h.ends (by decide)
  rw [if_neg o0]
  by_cases o1 : op = 1
  · rw [if_pos o1]
    exact (h.setReg _ hnw).go _
  rw [if_neg o1]
  by_cases o2 : op = 2
  · rw [if_pos o2]
    exact (h.setReg _ (foldF_word _)).go _
  rw [if_neg o2]
  by_cases o3 : op = 3
  · rw [if_pos o3]
    exact (h.setReg _ (foldF_word _)).go _
  rw [if_neg o3]
  by_cases o4 : op = 4
  · rw [if_pos o4]
    exact (h.setReg _ (foldF_word _)).go _
  rw [if_neg o4]
  by_cases o5 : op = 5
  · rw [if_pos o5]
    by_cases e : m.meantE (m.reg k + n) false = 0
    · rw [if_pos e]; exact (h.setReg _ (hmem e)).go _
    · rw [if_neg e]; exact h.ends (meantE_bd _ _ _)
  rw [if_neg o5]
  by_cases o6 : op = 6
  · rw [if_pos o6]
    by_cases e : m.meantE (m.reg k + n) true = 0
    · rw [if_pos e]; exact hst.go _
    · rw [if_neg e]; exact h.ends (meantE_bd _ _ _)
  rw [if_neg o6]
  by_cases o7 : op = 7
  · rw [if_pos o7]
    exact h.go _
  rw [if_neg o7]
  by_cases o8 : op = 8
  · rw [if_pos o8]
    exact h.go _
  rw [if_neg o8]
  by_cases o9 : op = 9
  · rw [if_pos o9]
    exact h.go _
  rw [if_neg o9]
  by_cases o10 : op = 10
  · rw [if_pos o10]
    by_cases e : n = 0 ∨ n = 1
    · rw [if_pos e]; exact (h.setReg _ hv).go _
    · rw [if_neg e]
      by_cases e2 : n = 2
      · rw [if_pos e2]; exact (h.setReg _ hrw).go _
      · rw [if_neg e2]; exact h.ends (by decide)
  rw [if_neg o10]
  by_cases o11 : op = 11
  · rw [if_pos o11]
    by_cases e : n = 3
    · rw [if_pos e]
      by_cases e2 : m.out.length < 200
      · rw [if_pos e2]; exact (hout e2).go _
      · rw [if_neg e2]; exact h.go _
    · rw [if_neg e]
      by_cases e2 : n = 4 ∧ 0 ≤ m.reg a ∧ m.reg a ≤ 15
      · rw [if_pos e2]
        by_cases e3 : m.want = -1
        · rw [if_pos e3]; exact (hask e2.2).go _
        · rw [if_neg e3]; exact h.go _
      · rw [if_neg e2]; exact h.ends (by decide)
  rw [if_neg o11]
  by_cases o12 : op = 12
  · rw [if_pos o12]
    exact hin.go _
  rw [if_neg o12]
  by_cases o13 : op = 13
  · rw [if_pos o13]
    exact hin.go _
  rw [if_neg o13]
  by_cases o14 : op = 14
  · rw [if_pos o14]
    by_cases e : -1 ≤ m.reg a ∧ m.reg a ≤ 15
    · rw [if_pos e]; exact (htab e).go _
    · rw [if_neg e]; exact h.ends (by decide)
  rw [if_neg o14]
  exact h.go _
theorem MayP.run1 {m : Mach} (h : MayP m) {v : Int} (hv : wordB v = true) : MayP (m.run1 v).1 := by
  unfold Mach.run1
  split
  · next e =>
    have hd : decNo m.nextX = 0 := by
      unfold Mach.nextE at e
      split at e
      · split at e
        · next hd => exact hd
        · exact absurd e (by decide)
      · next h1 => exact absurd e h1
    obtain ⟨-, b1, -, b3⟩ := instrNo_bd hd
    exact h.exec _ b1 b3 hv
  · exact h.ends (nextE_bd m)
theorem MayP.step {m : Mach} (h : MayP m) (irq : Bool) {blk : List Int} (hb : allB blk = true) (hl : blk.length = 0 ∨ blk.length = 16) {v : Int} (hv : wordB v = true) (hc : m.count < 1099511627776) : MayP (m.step irq blk v).1 := by
  unfold Mach.step
  split
  · have e : ((m.told irq blk).enter).count = m.count := by rw [(enter_count _).1, (told_count _ _ _).1]
    exact MayP.run1 (((h.told irq hb hl).enter).counted (by omega)) hv
  · exact h

theorem BoxM.put {w : World} {lo b : Nat} {rv mv ov rv' mv' ov' : Value} {m m' : Mach} (h : BoxM w b rv mv ov m) (ho : OwnM w lo rv' mv' ov' m') (hm : MayP m') (o : Obj) :
    BoxM (((((((((((((w.setCell ⟨b, 0, none⟩ rv').setCell ⟨b, 1, none⟩ (.int .i64 m'.pc)).setCell ⟨b, 2, none⟩ (.int .i64 m'.back)).setCell ⟨b, 3, none⟩ (.bool m'.ints)).setCell ⟨b, 4, none⟩ (.bool m'.wait)).setCell ⟨b, 5, none⟩ (.int .i64 m'.table)).setCell ⟨b, 6, none⟩ (.int .i64 m'.count)).setCell ⟨b, 7, none⟩ (.int .i64 m'.fin)).setCell ⟨b, 8, none⟩ mv').setCell ⟨b, 9, none⟩ ov').setCell ⟨b, 10, none⟩ (.int .i64 m'.ready)).setCell ⟨b, 11, none⟩ (.int .i64 m'.want)).alloc o) b rv' mv' ov' m' := by
  refine BoxM.below ⟨box_set12 h.box rfl _ _ _ _ _ _ _ _ _ _ _ _, ?_⟩ (below_alloc _ _)
  exact (ho.set12 ⟨_, h.box⟩ _ _ _ _ _ _ _ _ _ _ _ _).at hm.fits


end Go.Proofs.YtecpblabaelopaaGreatDoor

/- What a step counts; a new guest may be. -/

namespace Go.Proofs.YtecpblabaelopaaGreatDoor
open Go.RowKit
set_option maxRecDepth 100000

theorem count_if (c : Prop) [Decidable c] (A B : Mach × Int) (k : Int) (h1 : A.1.count = k) (h2 : B.1.count = k) : (if c then A else B).1.count = k := by
  split
  · exact h1
  · exact h2
theorem run1_count (m : Mach) (v : Int) : (m.run1 v).1.count = m.count := by
  unfold Mach.run1
  split
  · unfold Mach.exec
    repeat' (first | refine count_if _ _ _ _ ?_ ?_ | rfl)
  · rfl
theorem step_count (m : Mach) (irq : Bool) (blk : List Int) (v : Int) : (m.step irq blk v).1.count ≤ m.count + 1 := by
  unfold Mach.step
  split
  · rw [run1_count]
    show (m.told irq blk).enter.count + 1 ≤ m.count + 1
    rw [(enter_count _).1, (told_count _ _ _).1]
    exact Int.le_refl _
  · show m.count ≤ m.count + 1
    omega
theorem newM_may {l : List Int} (h : newNo l = 0) : MayP (newM l) := by
  unfold newNo at h
  split at h
  · cases h
  · rename_i hl
    split at h
    · cases h
    · rename_i ha
      have ha' : allB l = true := by simpa using ha
      refine ⟨by simp [newM], by simp [newM]; omega, by simp [newM], (by decide : allB (List.replicate 8 0) = true), ?_, rfl, (by decide : wordB 0 = true), (by decide : wordB 0 = true), by simp [newM], by simp [newM], by simp [newM], by simp [newM], by simp [newM]⟩
      show allB (l ++ List.replicate (256 - l.length) 0) = true
      unfold allB at ha' ⊢
      rw [List.all_append, ha', Bool.true_and, List.all_eq_true]
      intro x hx
      rw [(List.mem_replicate.1 hx).2]
      decide

end Go.Proofs.YtecpblabaelopaaGreatDoor

/- A recording, plainly. -/

namespace Go.Proofs.YtecpblabaelopaaGreatDoor
open Go.RowKit
set_option maxRecDepth 100000

def hasI (l : List Int) (k : Int) : Bool := l.any fun y => decide (y = k)
theorem hasI_iff {l : List Int} {k : Int} : hasI l k = true ↔ ∃ i, i < l.length ∧ l.getD i 0 = k := by
  unfold hasI
  rw [List.any_eq_true]
  constructor
  · rintro ⟨y, hy, he⟩
    obtain ⟨i, hi, rfl⟩ := List.mem_iff_getElem.1 hy
    exact ⟨i, hi, by simpa [List.getD, hi] using he⟩
  · rintro ⟨i, hi, he⟩
    exact ⟨l[i], List.getElem_mem hi, by simpa [List.getD, hi] using he⟩
theorem hasI_no {l : List Int} {k : Int} (h : ∀ i, i < l.length → l.getD i 0 ≠ k) : hasI l k = false := by
  cases e : hasI l k with
  | false => rfl
  | true =>
    obtain ⟨i, hi, he⟩ := hasI_iff.1 e
    exact absurd he (h i hi)
def Mach.ahead (m : Mach) (irq : Bool) (blk : List Int) : Mach := (m.told irq blk).enter
def Mach.asks (m : Mach) (irq : Bool) (blk : List Int) : Bool :=
  decide (m.fin = 0 ∧ (m.ahead irq blk).nextE = 0 ∧ (m.ahead irq blk).nextX % 16 = 10 ∧ ((m.ahead irq blk).nextX / 1024 = 0 ∨ (m.ahead irq blk).nextX / 1024 = 1))

def zero16 : List Int := List.replicate 16 0
structure RecS where
  m : Mach
  evs : List Ev
  va : Nat
  bl : Nat
  due : Int
def RecS.irq (_ : RecS) (x : Wd) (k : Int) : Bool := hasI x.irqs k
def RecS.blk (s : RecS) (x : Wd) (k : Int) : List Int := if s.due = k then x.blocks.getD (s.bl - 1) zero16 else []
def RecS.ask (s : RecS) (x : Wd) (k : Int) : Bool := s.m.asks (s.irq x k) (s.blk x k)
def RecS.val (s : RecS) (x : Wd) (k : Int) : Int := if s.ask x k = true then x.values.getD s.va 0 else 0
def RecS.then_ (s : RecS) (x : Wd) (k : Int) : Mach := (s.m.step (s.irq x k) (s.blk x k) (s.val x k)).1
def RecS.new (s : RecS) (x : Wd) (k : Int) : Bool := decide ((s.due = k ∨ s.m.want = -1) ∧ 0 ≤ (s.then_ x k).want)
def RecS.evI (s : RecS) (x : Wd) (k : Int) : List Ev := if s.irq x k = true then [⟨k, 1, []⟩] else []
def RecS.evB (s : RecS) (x : Wd) (k : Int) : List Ev := if s.due = k then [⟨k, 2, s.blk x k⟩] else []
def RecS.evV (s : RecS) (x : Wd) (k : Int) : List Ev := if s.ask x k = true then [⟨k, 3, [s.val x k]⟩] else []
def RecS.next (s : RecS) (x : Wd) (k : Int) : RecS :=
  { m := s.then_ x k
    evs := s.evs ++ s.evI x k ++ s.evB x k ++ s.evV x k
    va := if s.ask x k = true then s.va + 1 else s.va
    bl := if s.new x k = true then s.bl + 1 else s.bl
    due := if s.new x k = true then k + 1 + x.delays.getD s.bl 0 else if s.due = k then -1 else s.due }
def recN (x : Wd) (im : List Int) : Nat → RecS
  | 0 => ⟨newM im, [], 0, 0, -1⟩
  | k + 1 => if (recN x im k).m.fin = 0 then (recN x im k).next x k else recN x im k

def DueOk (k : Int) (s : RecS) : Prop := (s.due = -1 ∧ s.m.want = -1) ∨ (k ≤ s.due ∧ 0 ≤ s.m.want ∧ 1 ≤ s.bl)

theorem want_if (c : Prop) [Decidable c] (A B : Mach × Int) (k : Int) (h1 : A.1.want = k) (h2 : B.1.want = k) : (if c then A else B).1.want = k := by
  split
  · exact h1
  · exact h2
theorem run1_want (m : Mach) (v : Int) (h : m.want ≠ -1) : (m.run1 v).1.want = m.want := by
  unfold Mach.run1
  split
  · unfold Mach.exec
    simp only [if_neg h]
    repeat' (first | refine want_if _ _ _ _ ?_ ?_ | rfl)
  · rfl
theorem enter_want (m : Mach) : m.enter.want = m.want := by unfold Mach.enter; split <;> rfl
theorem step_want {m : Mach} (irq : Bool) (v : Int) (hf : m.fin = 0) (h : m.want ≠ -1) : (m.step irq [] v).1.want = m.want := by
  have e : ((m.told irq []).enter.counted).want = m.want := by
    show (m.told irq []).enter.want = m.want
    rw [enter_want]
    unfold Mach.told
    rw [if_neg (by simp)]
  unfold Mach.step
  rw [if_pos hf, run1_want _ _ (by rw [e]; exact h), e]
theorem step_going {m : Mach} (irq : Bool) (blk : List Int) (v : Int) (hf : m.fin = 0) : (m.step irq blk v).1.count = m.count + 1 := by
  unfold Mach.step
  rw [if_pos hf, run1_count]
  show (m.told irq blk).enter.count + 1 = m.count + 1
  rw [(enter_count _).1, (told_count _ _ _).1]

structure WdMay (x : Wd) : Prop where
  irqs : allIn 0 3000 x.irqs = true
  delays : allIn 0 3000 x.delays = true
  values : allB x.values = true
  blocks : ∀ i, i < x.blocks.length → (x.blocks.getD i []).length = 16 ∧ allB (x.blocks.getD i []) = true
  fits : x.fits = true
theorem blocksNo_all : ∀ {D : List (List Int)}, blocksNo D = 0 → ∀ i, i < D.length → (D.getD i []).length = 16 ∧ allB (D.getD i []) = true
  | [], _, i, hi => by simp at hi
  | b :: r, h, i, hi => by
    unfold blocksNo at h
    split at h
    · rename_i h1
      split at h
      · rename_i h2
        cases i with
        | zero => exact ⟨h1, h2⟩
        | succ i => simpa [List.getD] using blocksNo_all (D := r) h i (by simpa using hi)
      · cases h
    · cases h
theorem worldNo_may {x : Wd} (h : worldNo x = 0) : WdMay x := by
  unfold worldNo at h
  split at h
  · rename_i hf
    split at h
    · rename_i h3
      exact ⟨h3.1, h3.2.1, h3.2.2, blocksNo_all h, hf⟩
    · cases h
  · cases h
theorem zero16_len : zero16.length = 16 := by simp [zero16]
theorem zero16_all : allB zero16 = true := allB_zeros 16
theorem WdMay.blk {x : Wd} (h : WdMay x) (i : Nat) : (x.blocks.getD i zero16).length = 16 ∧ allB (x.blocks.getD i zero16) = true := by
  by_cases hi : i < x.blocks.length
  · have e : x.blocks.getD i zero16 = x.blocks.getD i [] := by simp [List.getD, hi]
    rw [e]
    exact h.blocks i hi
  · have e : x.blocks.getD i zero16 = zero16 := by simp [List.getD, hi]
    rw [e]
    exact ⟨zero16_len, zero16_all⟩
theorem WdMay.value {x : Wd} (h : WdMay x) (i : Nat) : wordB (x.values.getD i 0) = true := by
  by_cases hi : i < x.values.length
  · exact allB_iff.1 h.values i hi
  · have e : x.values.getD i 0 = 0 := by simp [List.getD, hi]
    rw [e]
    decide
theorem WdMay.delay {x : Wd} (h : WdMay x) (i : Nat) : 0 ≤ x.delays.getD i 0 ∧ x.delays.getD i 0 ≤ 3000 := by
  by_cases hi : i < x.delays.length
  · exact inB_iff.1 (allIn_iff.1 h.delays i hi)
  · have e : x.delays.getD i 0 = 0 := by simp [List.getD, hi]
    rw [e]
    decide

theorem RecS.blk_may {x : Wd} (hx : WdMay x) (s : RecS) (k : Int) : ((s.blk x k).length = 0 ∨ (s.blk x k).length = 16) ∧ allB (s.blk x k) = true := by
  unfold RecS.blk
  split
  · exact ⟨Or.inr (hx.blk _).1, (hx.blk _).2⟩
  · exact ⟨Or.inl rfl, rfl⟩
theorem RecS.blk_at {x : Wd} (hx : WdMay x) {s : RecS} {k : Int} (h : s.due = k) : (s.blk x k).length = 16 := by
  unfold RecS.blk
  rw [if_pos h]
  exact (hx.blk _).1
theorem RecS.val_may {x : Wd} (hx : WdMay x) (s : RecS) (k : Int) : wordB (s.val x k) = true := by
  unfold RecS.val
  split
  · exact hx.value _
  · decide

structure RecOk (k : Nat) (s : RecS) : Prop where
  may : MayP s.m
  cnt : s.m.fin = 0 → s.m.count = (k : Int)
  cle : s.m.count ≤ (k : Int)
  due : s.m.fin = 0 → DueOk k s
theorem RecOk.next {x : Wd} (hx : WdMay x) {k : Nat} {s : RecS} (h : RecOk k s) (hf : s.m.fin = 0) (hk : k < 3000) : RecOk (k + 1) (s.next x k) := by
  have hb := RecS.blk_may hx s (k : Int)
  have hv := RecS.val_may hx s (k : Int)
  have hc := h.cnt hf
  have hm : MayP (s.then_ x k) := h.may.step (s.irq x k) hb.2 hb.1 hv (by omega)
  have hcount : (s.then_ x k).count = ((k + 1 : Nat) : Int) := by
    unfold RecS.then_
    rw [step_going _ _ _ hf, hc]
    omega
  refine ⟨hm, fun _ => hcount, Int.le_of_eq hcount, fun _ => ?_⟩
  by_cases hn : s.new x k = true
  · refine Or.inr ⟨?_, ?_, ?_⟩
    · show ((k + 1 : Nat) : Int) ≤ (if s.new x k = true then _ else _)
      rw [if_pos hn]
      have := (hx.delay s.bl).1
      omega
    · unfold RecS.new at hn
      exact (of_decide_eq_true hn).2
    · show 1 ≤ (if s.new x k = true then _ else _)
      rw [if_pos hn]
      omega
  · have hn' : ¬ ((s.due = (k : Int) ∨ s.m.want = -1) ∧ 0 ≤ (s.then_ x k).want) := fun e => hn (by unfold RecS.new; exact decide_eq_true e)
    have hw1 := hm.want.1
    have hnb : (if s.new x k = true then s.bl + 1 else s.bl) = s.bl := if_neg hn
    have hnd : (if s.new x k = true then (k : Int) + 1 + x.delays.getD s.bl 0 else if s.due = (k : Int) then -1 else s.due) = if s.due = (k : Int) then -1 else s.due := if_neg hn
    rcases h.due hf with ⟨h1, h2⟩ | ⟨h1, h2, h3⟩
    · refine Or.inl ⟨?_, ?_⟩
      · show (if s.new x k = true then _ else _) = _
        rw [hnd, if_neg (by omega)]
        exact h1
      · show (s.then_ x k).want = -1
        omega
    · by_cases hd : s.due = (k : Int)
      · refine Or.inl ⟨?_, ?_⟩
        · show (if s.new x k = true then _ else _) = _
          rw [hnd, if_pos hd]
        · show (s.then_ x k).want = -1
          omega
      · refine Or.inr ⟨?_, ?_, ?_⟩
        · show ((k + 1 : Nat) : Int) ≤ (if s.new x k = true then _ else _)
          rw [hnd, if_neg hd]
          omega
        · show 0 ≤ (s.then_ x k).want
          unfold RecS.then_
          rw [show s.blk x k = [] by unfold RecS.blk; rw [if_neg hd], step_want _ _ hf (by omega)]
          exact h2
        · show 1 ≤ (if s.new x k = true then _ else _)
          rw [hnb]
          exact h3
theorem rec_ok {x : Wd} (hx : WdMay x) {im : List Int} (hi : newNo im = 0) : ∀ k, k ≤ 3000 → RecOk k (recN x im k)
  | 0, _ => ⟨newM_may hi, fun _ => rfl, Int.le_refl _, fun _ => Or.inl ⟨rfl, rfl⟩⟩
  | k + 1, hk => by
    have h := rec_ok hx hi k (by omega)
    unfold recN
    split
    · rename_i hf
      exact h.next hx hf (by omega)
    · rename_i hf
      exact ⟨h.may, fun e => absurd e hf, by have := h.cle; omega, fun e => absurd e hf⟩
theorem rec_stays {x : Wd} {im : List Int} {k : Nat} (hf : (recN x im k).m.fin ≠ 0) : ∀ d, recN x im (k + d) = recN x im k
  | 0 => rfl
  | d + 1 => by
    have ih := rec_stays hf d
    show (if (recN x im (k + d)).m.fin = 0 then _ else recN x im (k + d)) = _
    rw [ih, if_neg hf]
theorem rec_step {x : Wd} {im : List Int} {k : Nat} (hf : (recN x im k).m.fin = 0) : recN x im (k + 1) = (recN x im k).next x k := by
  rw [recN, if_pos hf]
end Go.Proofs.YtecpblabaelopaaGreatDoor

/- Contracts of slices.Contains and slices.Clone at numbers. -/

namespace Go.Proofs.YtecpblabaelopaaGreatDoor
open Go.RowKit
set_option maxRecDepth 100000

theorem Index_any (v : Value) (l : List Int) (x : Int) (w : World) (h : IntsAt w v l) :
    Calls Tryz.prog 150 #[v, .int .i64 x] w fun e w' => ∃ r : Int, e = .returned (.int .i64 r) ∧ decide (0 ≤ r) = hasI l x ∧ w' = w := by
  obtain ⟨A, c, rfl, hl, hc⟩ := h
  go_enter Tryz.func150, Tryz.ntmps150
  go_wp2
  go_loopw [8] (fun i wr => ∃ k : Nat, k ≤ l.length ∧ i = .int .i64 k ∧ Hid (∀ i, i < k → l.getD i 0 ≠ x) ∧ wr = w) (fun i _ => l.length - (intOf i).toNat)
  case atStart => exact ⟨0, Nat.zero_le _, rfl, fun i hi => absurd hi (Nat.not_lt_zero _), rfl⟩
  case round =>
    obtain ⟨k, hk, rfl, ht, hw⟩ := hrel
    subst wr
    by_cases hlt : k < l.length
    · obtain ⟨b, off, rfl, hbs, hcell⟩ := hc (by omega)
      have h1 := hcell k hlt
      by_cases he : l.getD k 0 = x
      · have HN : Hid (true = hasI l x) := (hasI_iff.2 ⟨k, hlt, he⟩).symm
        have d0 : (x == l.getD k 0) = true := by rw [he]; exact beq_self_eq_true x
        clear hcell hc he
        revert h1 d0
        generalize l.getD k 0 = y
        intro h1 d0
        go_wp2
        go_ret
        exact ⟨k, rfl, by rw [← HN.out]; simp, rfl⟩
      · have HN : Hid (∀ i, i < k + 1 → l.getD i 0 ≠ x) := fun i hi => by
          by_cases e : i = k
          · rw [e]; exact he
          · exact ht.out i (by omega)
        have d0 : (x == l.getD k 0) = false := beq_false_of_ne (fun e => he e.symm)
        clear hcell hc he
        revert h1 d0
        generalize l.getD k 0 = y
        intro h1 d0
        go_wp2
        refine ⟨⟨k + 1, by omega, by go_num, HN, trivial⟩, ?_⟩
        simp [intOf]; omega
    · have HN : Hid (false = hasI l x) := (hasI_no fun i hi => ht.out i (by omega)).symm
      clear hc
      go_wp2
      go_ret
      exact ⟨-1, rfl, by rw [← HN.out]; rfl, rfl⟩

theorem Contains_any (v : Value) (l : List Int) (x : Int) (w : World) (h : IntsAt w v l) :
    Calls Tryz.prog 124 #[v, .int .i64 x] w fun e w' => e = .returned (.bool (hasI l x)) ∧ w' = w := by
  go_enter Tryz.func124, Tryz.ntmps124
  go_wp2_with (go_at_call 150; refine (Index_any v l x _ h).mono ?_; rintro e w' ⟨r, rfl, hr, rfl⟩)
  go_ret
  exact ⟨rfl, rfl⟩

set_option maxHeartbeats 2000000 in
theorem Clone_any (v : Value) (l : List Int) (w : World) (h : IntsAt w v l) :
    Calls Tryz.prog 30 #[v] w fun e w' => ∃ A c, e = .returned (.slice A l.length c) ∧ OwnI w' w.heap.size (.slice A l.length c) l ∧ Below w.heap.size w w' := by
  obtain ⟨A, c, rfl, hl, hc⟩ := h
  obtain ⟨i0, hi, hz0, hz1, hz2⟩ := info_parts infoInt
  have q22 : ∀ (w : World) (a : Option Addr) (n c n' c' : Nat), (binOp .eql 24 (.slice a n c) (.slice none n' c')).run Tryz.prog w = .ok (.bool a.isNone) w := fun w a n c n' c' => Lib.run_eql_slice_nil w _ _ a n c n' c' Tryz.underlying24
  cases A with
  | none =>
    have h0 : l = [] := by
      cases l with
      | nil => rfl
      | cons x t => obtain ⟨b, off, e, _⟩ := hc (by simp); simp at e
    subst h0
    clear hc
    go_enter Tryz.func30, Tryz.ntmps30
    go_wp2_with fail
    go_ret
    exact ⟨none, 0, rfl, World.ownsRow_nil _ _ _ _, Below.refl _ _⟩
  | some a =>
    have HC : Hid (∀ (o : Obj) j u, (l.map (Value.int .i64))[j]? = some u → (w.alloc o).cell? (a.add j) = some u) := fun o j u hj => by
      have hjl : j < l.length := by
        by_cases hh : j < l.length
        · exact hh
        · simp [List.getElem?_eq_none (show l.length ≤ j by omega)] at hj
      obtain ⟨b, off, e, hb, hcell⟩ := hc (by omega)
      simp only [Option.some.injEq] at e
      subst e
      rw [Go.WideShapes.add_plain]
      refine Lib.cell?_alloc_some _ ?_
      rw [hcell j hjl]
      simp [hjl] at hj
      simp [List.getD, hjl, hj]
    clear hc
    go_enter Tryz.func30, Tryz.ntmps30
    go_wp2_with (at_builtin; refine wpList_append_own _ rfl _ _ 24 rfl w.heap.size 3 i0 (.int .i64 0) 1 8 Tryz.underlying24 hi hz0 hz1 hz2 rfl (by decide) _ _ _ rfl (World.ownsRow_made w #[] 0 (Nat.le_refl _) (Nat.zero_le _) rfl) a l.length c (l.map (Value.int .i64)) rfl (by simp) (HC.out _) (ints_oneCell _ _) ?c4 ?c5 ?c6 ?_)
    case c4 => unfold maxLen; omega
    case c5 => omega
    case c6 => simp
    intro v' w1 hown hgrow hnil
    have HO : Hid (w1.ownsRow w.heap.size 3 1 v' l.length (l.map (Value.int .i64)) ∧ Below w.heap.size w w1) := ⟨by simpa using hown, ((Below.refl _ w).alloc (Nat.le_refl _) _).grown hgrow (by simp) (by intro k hk; simp [Value.ownBlock] at hk; omega)⟩
    obtain ⟨A', c', rfl⟩ : ∃ A' c', v' = .slice A' l.length c' := by
      obtain ⟨_, h2⟩ := HO.out.1
      rcases h2 with ⟨rfl, h0⟩ | ⟨g, cap, cur, rfl, _⟩
      · exact ⟨none, 0, by rw [h0]⟩
      · exact ⟨_, _, rfl⟩
    clear hown hgrow hnil
    go_wp2_with fail
    go_ret
    exact ⟨A', c', rfl, HO.out⟩

end Go.Proofs.YtecpblabaelopaaGreatDoor

/- Contract of run.Told. -/

namespace Go.Proofs.YtecpblabaelopaaGreatDoor
open Go.RowKit
set_option maxRecDepth 100000

def ToldQ (w : World) (t : Tl) (e : Ending) (w' : World) : Prop :=
  ∃ B cb, e = .returned (.tuple #[.bool t.irq, .slice B t.blk.length cb, .int .i64 t.val]) ∧ IntsAt w' (.slice B t.blk.length cb) t.blk ∧ Below w.heap.size w w'

theorem told_stop {L : List Ev} (hs : chkNo L = 0) {k : Int} {j : Nat} (_ : j < L.length) (h1 : k ≤ (L.getD j noEv).at_) (h2 : (L.getD j noEv).at_ ≠ k) : toldL k L = toldL k (L.take j) :=
  told_end k L j fun i hi hl => by
    have := chk_mono hs (i - j) j (by omega)
    rw [show j + (i - j) = i by omega] at this
    omega

set_option maxHeartbeats 4000000 in
theorem told_any (A : Option Addr) (c : Nat) (L : List Ev) (k : Int) (w : World) (h : EvsAt w (.slice A L.length c) L) (hs : chkNo L = 0) (hcap : L.length ≤ c) :
    Calls Tryz.prog 47 #[.slice A L.length c, .int .i64 k] w fun e w' => ToldQ w (toldL k L) e w' := by
  have HEV : Hid (EvsAt w (.slice A L.length c) L ∧ chkNo L = 0) := ⟨h, hs⟩
  have hbd := h.look.1
  clear h hs
  go_enter Tryz.func47, Tryz.ntmps47
  go_wp2_with fail
  refine (Bins_any A c L k w HEV.out.1 HEV.out.2).mono ?_
  rintro e w1 ⟨f, bb, rfl, hf, hlo, hhi, hb1⟩
  have HF : Hid ((∀ j, j < f → (L.getD j noEv).at_ < k) ∧ (∀ j, f ≤ j → j < L.length → k ≤ (L.getD j noEv).at_) ∧ EvsAt w1 (.slice A L.length c) L ∧ Below w.heap.size w w1) := ⟨hlo, hhi, HEV.out.1.below hb1, hb1⟩
  have hf' : (f : Int) ≤ (L.length : Int) := by omega
  have HT0 : Hid (toldL k (L.take f) = noTl) := told_before k L f fun i hi hl => by have := hlo i hi; omega
  clear hlo hhi hb1
  by_cases hlt : f < L.length
  case neg =>
    have e : L.length = f := by omega
    have HE : Hid (toldL k L = noTl) := by
      show _ = _
      have := HT0.out
      rwa [List.take_of_length_le (by omega)] at this
    have hz : ((L.length : Int) - (f : Int)) = 0 := by omega
    have hz2 : L.length - f = 0 := by omega
    by_cases hcf : c = f
    all_goals
      go_wp2_with fail
      go_loopw [4, 5, 6, 21] (fun q v x i wr => q = .bool false ∧ v = .slice none 0 0 ∧ x = .int .i64 0 ∧ i = .int .i64 0 ∧ wr = w1) (fun _ _ _ _ _ => 0)
      case atStart => exact ⟨rfl, rfl, rfl, rfl, rfl⟩
      case round =>
        obtain ⟨rfl, rfl, rfl, rfl, rfl⟩ := hrel
        go_wp2_with fail
        refine bodyPost_ret (v := .tuple #[.bool false, .slice none 0 0, .int .i64 0]) (by simp [results, Tryz.results47, go_sem]) rfl ?_
        rw [HE.out]
        exact ⟨none, 0, rfl, ⟨none, 0, rfl, by simp [noTl], fun h => by simp [noTl] at h⟩, HF.out.2.2.2⟩
  case pos =>
    have hcf : ¬ c = f := by omega
    obtain ⟨b, off, rfl, hb, hc⟩ := HF.out.2.2.1.look.2 (by omega)
    have HC : Hid (b < w1.heap.size ∧ ∀ j, j < L.length → EvAt w1 b (off + j * 3) (L.getD j noEv)) := ⟨hb, hc⟩
    have HLF : Hid (f < L.length) := hlt
    clear hb hc hlt
    go_wp2_with fail
    go_loopw [4, 5, 6, 21] (fun q v x i wr => ∃ (n : Nat) (B : Option Addr) (cb : Nat), f + n ≤ L.length ∧ q = .bool (toldL k (L.take (f + n))).irq ∧ v = .slice B (toldL k (L.take (f + n))).blk.length cb ∧ x = .int .i64 (toldL k (L.take (f + n))).val ∧ i = .int .i64 (n : Int) ∧ Hid (IntsAt wr (.slice B (toldL k (L.take (f + n))).blk.length cb) (toldL k (L.take (f + n))).blk ∧ Below w1.heap.size w1 wr)) (fun _ _ _ i _ => (L.length - f) - (intOf i).toNat)
    case atStart =>
      refine ⟨0, none, 0, by have := HLF.out; omega, ?_, ?_, ?_, rfl, ?_, Below.refl _ _⟩
      all_goals rw [Nat.add_zero, HT0.out]
      · rfl
      · rfl
      · rfl
      · exact ⟨none, 0, rfl, by simp [noTl], fun h => by simp [noTl] at h⟩
    case round =>
      obtain ⟨n, B, cb, hn, rfl, rfl, rfl, rfl, HI⟩ := hrel
      obtain ⟨T, hT⟩ : ∃ T, T = toldL k (L.take (f + n)) := ⟨_, rfl⟩
      rw [← hT] at HI ⊢
      have HTT : Hid (T = toldL k (L.take (f + n))) := hT
      clear hT
      by_cases hl : f + n < L.length
      · have hl1 : (n : Int) < ((L.length - f : Nat) : Int) := by omega
        have hl2 : (n : Int) < (L.length : Int) - (f : Int) := by omega
        have hw2 : IntKind.i64.wrap ((n : Int) + 1) = (n : Int) + 1 := IntWalk.i64_in _ (by omega)
        obtain ⟨e0, e1, v, e2, hv⟩ := HC.out.2 (f + n) hl
        obtain ⟨X, hX⟩ : ∃ X, X = L.getD (f + n) noEv := ⟨_, rfl⟩
        rw [← hX] at e0 e1 hv
        have HX : Hid (X = L.getD (f + n) noEv ∧ f + n < L.length) := ⟨hX, hl⟩
        have HV : Hid (IntsAt wr v X.data) := hv.below HI.out.2
        have HEO : Hid (evNo X = 0) := by show _ = _; rw [hX]; exact verdict_ev (chk_verdict HEV.out.2 _ hl)
        have g0 := (HI.out.2.cell (p := ⟨b, off + (f + n) * 3, none⟩) HC.out.1).trans e0
        have g1 := (HI.out.2.cell (p := ⟨b, off + (f + n) * 3 + 1, none⟩) HC.out.1).trans e1
        have g2 := (HI.out.2.cell (p := ⟨b, off + (f + n) * 3 + 2, none⟩) HC.out.1).trans e2
        rw [show off + (f + n) * 3 = off + f * 3 + n * 3 by omega] at g0 g1 g2
        obtain ⟨Av, cv, rfl, -, -⟩ := hv
        have gl : b < wr.heap.size := Nat.lt_of_lt_of_le HC.out.1 HI.out.2.size
        obtain ⟨xa, hxa⟩ : ∃ xa, xa = X.at_ := ⟨_, rfl⟩
        obtain ⟨xk, hxk⟩ : ∃ xk, xk = X.kind := ⟨_, rfl⟩
        obtain ⟨xn, hxn⟩ : ∃ xn, xn = X.data.length := ⟨_, rfl⟩
        rw [← hxa] at g0
        rw [← hxk] at g1
        rw [← hxn] at g2 HV
        have HXX : Hid (xa = X.at_ ∧ xk = X.kind ∧ xn = X.data.length) := ⟨hxa, hxk, hxn⟩
        clear e0 e1 e2 hX hxa hxk hxn hl
        by_cases ha : xa = k
        case neg =>
          have d0 : (xa != k) = true := by simpa using ha
          have HE : Hid (toldL k L = T) := by
            show _ = _
            rw [HTT.out]
            refine told_stop HEV.out.2 HX.out.2 (HF.out.2.1 _ (by omega) HX.out.2) ?_
            rw [← HX.out.1, ← HXX.out.1]
            exact ha
          clear ha
          go_wp2_with fail
          refine bodyPost_ret (v := .tuple #[.bool T.irq, .slice B T.blk.length cb, .int .i64 T.val]) (by simp [results, Tryz.results47, go_sem]) rfl ?_
          rw [HE.out]
          exact ⟨B, cb, rfl, HI.out.1.below (below_alloc _ _), (HF.out.2.2.2.trans (HI.out.2.mono HF.out.2.2.2.size)).alloc (by have := HI.out.2.size; have := HF.out.2.2.2.size; omega) _⟩
        case pos =>
          have d0 : (xa != k) = false := by simp [ha]
          have HBW : Hid (∀ o, Below w1.heap.size w1 (wr.alloc o)) := fun o => HI.out.2.alloc HI.out.2.size o
          have HTN : Hid (toldL k (L.take (f + (n + 1))) = tellE k T X) := by show _ = _; rw [← Nat.add_assoc, toldL_take k L (f + n) HX.out.2, ← HX.out.1, ← HTT.out]
          have HAT : Hid (X.at_ = k) := by show _ = _; rw [← HXX.out.1]; exact ha
          clear ha
          by_cases k1 : xk = 1
          · have c1 : (xk == 1) = true := by simp [k1]
            have HTE : Hid (tellE k T X = { T with irq := true }) := by show _ = _; rw [tellE, if_pos HAT.out, if_pos (by rw [← HXX.out.2.1]; exact k1)]
            clear k1
            go_wp2_with fail
            refine ⟨⟨n + 1, B, cb, by have := HX.out.2; omega, ?_, ?_, ?_, by go_num, ?_⟩, ?_⟩
            · rw [HTN.out, HTE.out]
            · rw [HTN.out, HTE.out]
            · rw [HTN.out, HTE.out]
            · rw [HTN.out, HTE.out]; exact ⟨HI.out.1.below (below_alloc _ _), HBW.out _⟩
            · have := HX.out.2; simp [intOf]; omega
          · have c1 : (xk == 1) = false := by simpa using k1
            by_cases k2 : xk = 2
            · have c2 : (xk == 2) = true := by simp [k2]
              have HTE : Hid (tellE k T X = { T with blk := X.data }) := by show _ = _; rw [tellE, if_pos HAT.out, if_neg (by rw [← HXX.out.2.1]; exact k1), if_pos (by rw [← HXX.out.2.1]; exact k2)]
              clear k1 k2
              go_wp2_with fail
              refine (Clone_any _ X.data _ (HV.out.below (below_alloc _ _))).mono ?_
              rintro e w3 ⟨A2, n2, rfl, ho, hb3⟩
              have HO : Hid (IntsAt w3 (.slice A2 X.data.length n2) X.data ∧ Below w1.heap.size w1 w3) := ⟨OwnI.at ho HV.out.bound, (HBW.out _).trans (hb3.mono (HBW.out _).size)⟩
              clear ho hb3
              go_wp2_with fail
              refine ⟨⟨n + 1, A2, n2, by have := HX.out.2; omega, ?_, ?_, ?_, by go_num, ?_⟩, ?_⟩
              · rw [HTN.out, HTE.out]
              · rw [HTN.out, HTE.out]
              · rw [HTN.out, HTE.out]
              · rw [HTN.out, HTE.out]; exact HO.out
              · have := HX.out.2; simp [intOf]; omega
            · have c2 : (xk == 2) = false := by simpa using k2
              have hb3 := (evNo_bd HEO.out)
              have k3 : xk = 3 := by have := hb3.1; rw [← HXX.out.2.1] at this; omega
              have hlen : xn = 1 := by
                have h4 := hb3.2.2.2
                rw [← HXX.out.2.1, ← HXX.out.2.2, k3] at h4
                have h5 : (xn : Int) = 1 := h4
                omega
              have c3 : (xk == 3) = true := by simp [k3]
              subst hlen
              have HTE : Hid (tellE k T X = { T with val := X.data.getD 0 0 }) := by show _ = _; rw [tellE, if_pos HAT.out, if_neg (by rw [← HXX.out.2.1]; exact k1), if_neg (by rw [← HXX.out.2.1]; exact k2)]
              have hd1 : X.data.length = 1 := HXX.out.2.2.symm
              obtain ⟨Aw, cw, ew, -, hcw⟩ := HV.out
              rw [hd1] at ew hcw
              simp only [Value.slice.injEq, true_and] at ew
              obtain ⟨rfl, rfl⟩ := ew
              obtain ⟨bd, od, rfl, hbd2, hcd⟩ := hcw (by omega)
              have g3 := hcd 0 (by omega)
              rw [Nat.add_zero] at g3
              obtain ⟨y, hy⟩ : ∃ y, y = X.data.getD 0 0 := ⟨_, rfl⟩
              rw [← hy] at g3
              have HY : Hid (y = X.data.getD 0 0) := hy
              have nw : ¬ bd = wr.heap.size := by omega
              clear hb3 k1 k2 k3 hcd hcw hy hd1
              go_wp2_with fail
              refine ⟨⟨n + 1, B, cb, by have := HX.out.2; omega, ?_, ?_, ?_, by go_num, ?_⟩, ?_⟩
              · rw [HTN.out, HTE.out]
              · rw [HTN.out, HTE.out]
              · rw [HTN.out, HTE.out, HY.out]
              · rw [HTN.out, HTE.out]; exact ⟨HI.out.1.below (below_alloc _ _), HBW.out _⟩
              · have := HX.out.2; simp [intOf]; omega
      · have hl1 : ¬ (n : Int) < ((L.length - f : Nat) : Int) := by omega
        have hl2 : ¬ (n : Int) < (L.length : Int) - (f : Int) := by omega
        have HE : Hid (toldL k L = T) := by show _ = _; rw [HTT.out, List.take_of_length_le (by omega)]
        clear hl
        go_wp2_with fail
        refine bodyPost_ret (v := .tuple #[.bool T.irq, .slice B T.blk.length cb, .int .i64 T.val]) (by simp [results, Tryz.results47, go_sem]) rfl ?_
        rw [HE.out]
        exact ⟨B, cb, rfl, HI.out.1, HF.out.2.2.2.trans (HI.out.2.mono HF.out.2.2.2.size)⟩

end Go.Proofs.YtecpblabaelopaaGreatDoor
