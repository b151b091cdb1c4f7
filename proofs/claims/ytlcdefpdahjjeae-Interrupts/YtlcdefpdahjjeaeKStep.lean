/- What the laws over single steps lean on: a step as plain things; instructions in new memory; a guest in a variable. -/
import Derived.Test.YtlcdefpdahjjeaeKGuest
import Derived.Test.YtlcdefpdahjjeaeStepD
namespace Go.Proofs.Ytlcdefpdahjjeae
open Go.RowKit

/-- A guest in block b. -/
structure BoxM (wr : World) (b : Nat) (rv mv ov : Value) (m : Mach) : Prop where
  box : wr.heap[b]? = some (.cells (m.cells rv mv ov) 27 (0, 0))
  dat : MachAt wr rv mv ov m
theorem BoxM.below {w w' : World} {b : Nat} {rv mv ov : Value} {m : Mach} (h : BoxM w b rv mv ov m) (hb : Below w.heap.size w w') : BoxM w' b rv mv ov m := ⟨by rw [hb.block _ (lt_of_block h.box)]; exact h.box, h.dat.below hb⟩
theorem MayP.fits {m : Mach} (h : MayP m) : MachFits m := ⟨by rw [h.regs]; decide, by rw [h.mem]; decide, by have := h.out; omega⟩
/-- A guest that a call has answered is put into a new variable. -/
theorem BoxM.new {w : World} {lo : Nat} {rv mv ov : Value} {m : Mach} (h : OwnM w lo rv mv ov m) (hm : MayP m) : BoxM (w.alloc (.cells (m.cells rv mv ov) 27)) w.heap.size rv mv ov m :=
  ⟨Go.Deep.blk_alloc_new _ _, (h.at hm.fits).below (below_alloc _ _)⟩

/-- What lies in a struct of guests' type, its fields stored one by one. -/
theorem box_set12 {w : World} {b : Nat} {c : Array Value} (h : w.heap[b]? = some (.cells c 27 (0, 0))) (hc : c.size = 12) (x0 x1 x2 x3 x4 x5 x6 x7 x8 x9 x10 x11 : Value) :
    ((((((((((((w.setCell ⟨b, 0, none⟩ x0).setCell ⟨b, 1, none⟩ x1).setCell ⟨b, 2, none⟩ x2).setCell ⟨b, 3, none⟩ x3).setCell ⟨b, 4, none⟩ x4).setCell ⟨b, 5, none⟩ x5).setCell ⟨b, 6, none⟩ x6).setCell ⟨b, 7, none⟩ x7).setCell ⟨b, 8, none⟩ x8).setCell ⟨b, 9, none⟩ x9).setCell ⟨b, 10, none⟩ x10).setCell ⟨b, 11, none⟩ x11).heap[b]? = some (.cells #[x0, x1, x2, x3, x4, x5, x6, x7, x8, x9, x10, x11] 27 (0, 0)) := by
  have e := box_set (i := 11) (box_set (i := 10) (box_set (i := 9) (box_set (i := 8) (box_set (i := 7) (box_set (i := 6) (box_set (i := 5) (box_set (i := 4) (box_set (i := 3) (box_set (i := 2) (box_set (i := 1) (box_set (i := 0) h x0) x1) x2) x3) x4) x5) x6) x7) x8) x9) x10) x11
  rw [e]
  obtain ⟨l⟩ := c
  rcases l with _ | ⟨a0, _ | ⟨a1, _ | ⟨a2, _ | ⟨a3, _ | ⟨a4, _ | ⟨a5, _ | ⟨a6, _ | ⟨a7, _ | ⟨a8, _ | ⟨a9, _ | ⟨a10, _ | ⟨a11, _ | ⟨a12, l⟩⟩⟩⟩⟩⟩⟩⟩⟩⟩⟩⟩⟩ <;> simp at hc ⊢

/-- A step, as plain things. -/
theorem StepQ (m m2 : Mach) (irq : Bool) (value k : Int) (rv mv ov : Value) (w : World) (ha : MachAt w rv mv ov m) (hm : MayP m) (hv : wordB value = true) (hct : m.count < 1099511627776) (hs : m.step irq [] value = (m2, k)) :
    Calls Try.prog 8 #[.agg (m.cells rv mv ov), .bool irq, .slice none 0 0, .int .i64 value] w fun e w' => ∃ A c B c' C c'', e = .returned (.tuple #[.agg (m2.cells (.slice A m2.regs.length c) (.slice B m2.mem.length c') (.slice C m2.out.length c'')), .int .i64 k, .int .i64 0]) ∧ OwnM w' w.heap.size (.slice A m2.regs.length c) (.slice B m2.mem.length c') (.slice C m2.out.length c'') m2 ∧ Below w.heap.size w w' := by
  have hno : stepNo m [] value = 0 := by
    have h1 : (m.count == 1099511627776) = false := by simp; omega
    simp [stepNo, mayP_iff.2 hm, allB, hv, h1]
  have := Step_ok m rv mv ov irq none 0 [] value w ha ⟨none, 0, rfl, by simp, fun h => absurd h (by simp)⟩ hm rfl (Or.inl rfl) hct hno
  rw [hs] at this
  refine this.mono ?_
  rintro e w' ⟨rv', mv', ov', rfl, ho, hb⟩
  obtain ⟨A, c, B, c', C, c'', rfl, rfl, rfl⟩ := ho.shape
  exact ⟨A, c, B, c', C, c'', rfl, ho, hb⟩

/-- Instructions, as they lie in memory. -/
def insCells : List Ins → List Value
  | [] => []
  | i :: L => .int .i64 i.1 :: .int .i64 i.2.1 :: .int .i64 i.2.2.1 :: .int .i64 i.2.2.2 :: insCells L
theorem insCells_at (L : List Ins) (j : Nat) (h : j < L.length) : (insCells L)[j * 4]? = some (.int .i64 (L.getD j (0, 0, 0, 0)).1) ∧ (insCells L)[j * 4 + 1]? = some (.int .i64 (L.getD j (0, 0, 0, 0)).2.1) ∧ (insCells L)[j * 4 + 2]? = some (.int .i64 (L.getD j (0, 0, 0, 0)).2.2.1) ∧ (insCells L)[j * 4 + 3]? = some (.int .i64 (L.getD j (0, 0, 0, 0)).2.2.2) := by
  induction L generalizing j with
  | nil => simp at h
  | cons i L ih =>
    cases j with
    | zero => exact ⟨rfl, rfl, rfl, rfl⟩
    | succ j =>
      have := ih j (by simpa using h)
      rw [show (j + 1) * 4 = j * 4 + 1 + 1 + 1 + 1 by omega]
      simpa [insCells, Nat.add_assoc] using this
theorem InsAt.of {w : World} {b c : Nat} {t : TypeId} (L : List Ins) (h : w.heap[b]? = some (.cells (insCells L).toArray t (0, 0))) (hl : L.length ≤ 1000) : InsAt w (.slice (some ⟨b, 0, none⟩) L.length c) L := by
  refine ⟨_, c, rfl, hl, fun _ => ⟨b, 0, rfl, lt_of_block h, fun j hj => ?_⟩⟩
  obtain ⟨c0, c1, c2, c3⟩ := insCells_at L j hj
  simp only [World.cell?, h, Nat.zero_add]
  refine ⟨?_, ?_, ?_, ?_⟩ <;> simpa using ‹_›
theorem IntsAt.of {w : World} {b c : Nat} (l : List Int) (h : w.heap[b]? = some (.cells (l.map (Value.int .i64)).toArray 3 (0, 0))) (hl : l.length ≤ 1000) : IntsAt w (.slice (some ⟨b, 0, none⟩) l.length c) l := by
  refine ⟨_, c, rfl, by omega, fun _ => ⟨b, 0, rfl, lt_of_block h, fun j hj => ?_⟩⟩
  simp only [World.cell?, h, Nat.zero_add]
  simp [hj, List.getD]

theorem step_quiet {m : Mach} (hf : m.fin = 0) (hw : m.wait = false) (v : Int) : m.step false [] v = m.counted.run1 v := by
  obtain ⟨r, p, k, i, t, a, n, f, mm, o, y, q⟩ := m
  simp only at hf hw
  subst hf hw
  simp [Mach.step, Mach.told, Mach.enter]
theorem run_at {m : Mach} (p x v : Int) (ht : m.table = -1) (hp : m.pc = p) (h0 : 0 ≤ p) (h1 : p ≤ 255) (hx : m.mem.getD p.toNat 0 = x) (hd : decNo x = 0) : m.run1 v = m.exec (x % 16) (x / 16 % 8) (x / 128 % 8) (x / 1024) v := by
  subst hp
  have e1 : m.meantE m.pc false = 0 := by simp [Mach.meantE, inB_yes h0 h1, ht]
  have e2 : m.meantK m.pc false = m.pc := by simp [Mach.meantK, e1, ht]
  have e3 : m.nextX = x := by unfold Mach.nextX; rw [e2]; exact hx
  simp [Mach.run1, Mach.nextE, e1, e3, hd]
theorem regF_word (x : Int) : wordB (regF x) = true := foldF_word _

/-- A guest with these words and registers may be. -/
theorem setRegs_all (rs : List Int) (k : Nat) : allB (setRegs (List.replicate 8 0) rs k) = true := by
  induction k with
  | zero => show allB (List.replicate 8 0) = true; decide
  | succ k ih => exact allB_set ih (regF_word _)
theorem allB_append {l l' : List Int} (h : allB l = true) (h' : allB l' = true) : allB (l ++ l') = true := by unfold allB at *; simp [List.all_append, h, h']
theorem allB_zeros (n : Nat) : allB (List.replicate n 0) = true := by unfold allB; rw [List.all_eq_true]; intro x hx; obtain ⟨-, rfl⟩ := List.mem_replicate.1 hx; decide
theorem guestM_may (rs ws : List Int) (k : Nat) (h : newNo ws = 0) : MayP (guestM rs ws k) := by
  have hl := newNo_len h
  have ha : allB ws = true := by
    cases e : allB ws with
    | true => rfl
    | false => exact absurd h (by simp [newNo, show ¬ 256 < ws.length by omega, e])
  exact ⟨by show (setRegs _ _ _).length = 8; rw [setRegs_len]; simp, newM_mem ws hl, by show [].length ≤ 200; simp, setRegs_all rs k, allB_append ha (allB_zeros _), rfl, show wordB 0 = true by decide, show wordB 0 = true by decide, show (-1 : Int) ≤ -1 ∧ (-1 : Int) ≤ 15 by decide, show (0 : Int) ≤ 0 ∧ (0 : Int) ≤ 1099511627776 by decide, show (0 : Int) ≤ 0 ∧ (0 : Int) ≤ 4 by decide, show (0 : Int) ≤ 0 ∧ (0 : Int) ≤ 1 by decide, show (-1 : Int) ≤ -1 ∧ (-1 : Int) ≤ 15 by decide⟩

/-- What an instruction leaves of a guest that may be. -/
theorem MayP.exec {m : Mach} (h : MayP m) (op : Int) {a k n v : Int} (ha : 0 ≤ a ∧ a ≤ 7) (hn : -1048576 ≤ n ∧ n ≤ 1048575) (hv : wordB v = true) : MayP (m.exec op a k n v).1 := by
  have hnw : wordB n = true := wordB_iff.2 ⟨by omega, by omega⟩
  have hrw : wordB m.ready = true := wordB_iff.2 ⟨by have := h.ready; omega, by have := h.ready; omega⟩
  have haw : wordB (m.reg a) = true := reg_word h ha
  have hmem : ∀ {x : Int} {wr : Bool}, m.meantE x wr = 0 → wordB (m.mem.getD (m.meantK x wr).toNat 0) = true := fun {x wr} e => allB_iff.1 h.amem _ (by have := meant_bd e; have := h.mem; omega)
  have hst : ∀ {K : Nat}, MayP { m with mem := m.mem.set K (m.reg a) } := fun {K} => ⟨h.regs, by simp [h.mem], h.out, h.aregs, allB_set h.amem haw, h.aout, h.pc, h.back, h.table, h.count, h.fin, h.ready, h.want⟩
  have hin : ∀ {x : Bool}, MayP { m with ints := x } := fun {x} => ⟨h.regs, h.mem, h.out, h.aregs, h.amem, h.aout, h.pc, h.back, h.table, h.count, h.fin, h.ready, h.want⟩
  have hout : m.out.length < 200 → MayP { m with out := m.out ++ [m.reg a] } := fun hl => ⟨h.regs, h.mem, by simp; omega, h.aregs, h.amem, allB_append h.aout (by simp [allB, haw]), h.pc, h.back, h.table, h.count, h.fin, h.ready, h.want⟩
  have hask : 0 ≤ m.reg a ∧ m.reg a ≤ 15 → MayP { m with want := m.reg a, ready := 0 } := fun hl => ⟨h.regs, h.mem, h.out, h.aregs, h.amem, h.aout, h.pc, h.back, h.table, h.count, h.fin, ⟨by simp, by simp⟩, ⟨by show -1 ≤ m.reg a; omega, by show m.reg a ≤ 15; omega⟩⟩
  have htab : -1 ≤ m.reg a ∧ m.reg a ≤ 15 → MayP { m with table := m.reg a } := fun hl => ⟨h.regs, h.mem, h.out, h.aregs, h.amem, h.aout, h.pc, h.back, hl, h.count, h.fin, h.ready, h.want⟩
  unfold Mach.exec
  by_cases o0 : op = 0
  · rw [if_pos o0]
    exact h.ends (by decide)
  rw [if_neg o0]
  by_cases o1 : op = 1
  · rw [if_pos o1]
    exact (h.setReg _ hnw).go _
  rw [if_neg o1]
  by_cases o2 : op = 2
  · rw [if_pos o2]
    exact (h.setReg _ (foldF_word _)).go _
  rw [if_neg o2]
  by_cases o3 : op = 3
  · rw [if_pos o3]
    exact (h.setReg _ (foldF_word _)).go _
  rw [if_neg o3]
  by_cases o4 : op = 4
  · rw [if_pos o4]
    exact (h.setReg _ (foldF_word _)).go _
  rw [if_neg o4]
  by_cases o5 : op = 5
  · rw [if_pos o5]
    by_cases e : m.meantE (m.reg k + n) false = 0
    · rw [if_pos e]; exact (h.setReg _ (hmem e)).go _
    · rw [if_neg e]; exact h.ends (meantE_bd _ _ _)
  rw [if_neg o5]
  by_cases o6 : op = 6
  · rw [if_pos o6]
    by_cases e : m.meantE (m.reg k + n) true = 0
    · rw [if_pos e]; exact hst.go _
    · rw [if_neg e]; exact h.ends (meantE_bd _ _ _)
  rw [if_neg o6]
  by_cases o7 : op = 7
  · rw [if_pos o7]
    exact h.go _
  rw [if_neg o7]
  by_cases o8 : op = 8
  · rw [if_pos o8]
    exact h.go _
  rw [if_neg o8]
  by_cases o9 : op = 9
  · rw [if_pos o9]
    exact h.go _
  rw [if_neg o9]
  by_cases o10 : op = 10
  · rw [if_pos o10]
    by_cases e : n = 0 ∨ n = 1
    · rw [if_pos e]; exact (h.setReg _ hv).go _
    · rw [if_neg e]
      by_cases e2 : n = 2
      · rw [if_pos e2]; exact (h.setReg _ hrw).go _
      · rw [if_neg e2]; exact h.ends (by decide)
  rw [if_neg o10]
  by_cases o11 : op = 11
  · rw [if_pos o11]
    by_cases e : n = 3
    · rw [if_pos e]
      by_cases e2 : m.out.length < 200
      · rw [if_pos e2]; exact (hout e2).go _
      · rw [if_neg e2]; exact h.go _
    · rw [if_neg e]
      by_cases e2 : n = 4 ∧ 0 ≤ m.reg a ∧ m.reg a ≤ 15
      · rw [if_pos e2]
        by_cases e3 : m.want = -1
        · rw [if_pos e3]; exact (hask e2.2).go _
        · rw [if_neg e3]; exact h.go _
      · rw [if_neg e2]; exact h.ends (by decide)
  rw [if_neg o11]
  by_cases o12 : op = 12
  · rw [if_pos o12]
    exact hin.go _
  rw [if_neg o12]
  by_cases o13 : op = 13
  · rw [if_pos o13]
    exact hin.go _
  rw [if_neg o13]
  by_cases o14 : op = 14
  · rw [if_pos o14]
    by_cases e : -1 ≤ m.reg a ∧ m.reg a ≤ 15
    · rw [if_pos e]; exact (htab e).go _
    · rw [if_neg e]; exact h.ends (by decide)
  rw [if_neg o14]
  exact h.go _
theorem MayP.run1 {m : Mach} (h : MayP m) {v : Int} (hv : wordB v = true) : MayP (m.run1 v).1 := by
  unfold Mach.run1
  split
  · next e =>
    have hd : decNo m.nextX = 0 := by
      unfold Mach.nextE at e
      split at e
      · split at e
        · next hd => exact hd
        · exact absurd e (by decide)
      · next h1 => exact absurd e h1
    obtain ⟨-, b1, -, b3⟩ := instrNo_bd hd
    exact h.exec _ b1 b3 hv
  · exact h.ends (nextE_bd m)
theorem MayP.step {m : Mach} (h : MayP m) (irq : Bool) {blk : List Int} (hb : allB blk = true) (hl : blk.length = 0 ∨ blk.length = 16) {v : Int} (hv : wordB v = true) (hc : m.count < 1099511627776) : MayP (m.step irq blk v).1 := by
  unfold Mach.step
  split
  · have e : ((m.told irq blk).enter).count = m.count := by rw [(enter_count _).1, (told_count _ _ _).1]
    exact MayP.run1 (((h.told irq hb hl).enter).counted (by omega)) hv
  · exact h

/-- A guest that a step has answered is put in the place of the one ahead. -/
theorem BoxM.put {w : World} {lo b : Nat} {rv mv ov rv' mv' ov' : Value} {m m' : Mach} (h : BoxM w b rv mv ov m) (ho : OwnM w lo rv' mv' ov' m') (hm : MayP m') (o : Obj) :
    BoxM (((((((((((((w.setCell ⟨b, 0, none⟩ rv').setCell ⟨b, 1, none⟩ (.int .i64 m'.pc)).setCell ⟨b, 2, none⟩ (.int .i64 m'.back)).setCell ⟨b, 3, none⟩ (.bool m'.ints)).setCell ⟨b, 4, none⟩ (.bool m'.wait)).setCell ⟨b, 5, none⟩ (.int .i64 m'.table)).setCell ⟨b, 6, none⟩ (.int .i64 m'.count)).setCell ⟨b, 7, none⟩ (.int .i64 m'.fin)).setCell ⟨b, 8, none⟩ mv').setCell ⟨b, 9, none⟩ ov').setCell ⟨b, 10, none⟩ (.int .i64 m'.ready)).setCell ⟨b, 11, none⟩ (.int .i64 m'.want)).alloc o) b rv' mv' ov' m' := by
  refine BoxM.below ⟨box_set12 h.box rfl _ _ _ _ _ _ _ _ _ _ _ _, ?_⟩ (below_alloc _ _)
  exact (ho.set12 ⟨_, h.box⟩ _ _ _ _ _ _ _ _ _ _ _ _).at hm.fits

end Go.Proofs.Ytlcdefpdahjjeae
