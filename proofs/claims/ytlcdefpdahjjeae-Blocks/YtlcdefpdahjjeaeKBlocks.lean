/- What the guest of Blocks does, as plain things; a step with a block. -/
import Derived.Test.YtlcdefpdahjjeaeKStep
import Derived.Test.YtlcdefpdahjjeaeWalkPick
import Derived.Test.YtlcdefpdahjjeaeMadeZ
import Derived.Test.YtlcdefpdahjjeaeSlEq
namespace Go.Proofs.Ytlcdefpdahjjeae
open Go.RowKit
set_option linter.unusedVariables false

/-- A step with a block, as plain things. -/
theorem StepB (m m2 : Mach) (irq : Bool) (value k : Int) (rv mv ov : Value) (B : Option Addr) (cb : Nat) (blk : List Int) (w : World) (ha : MachAt w rv mv ov m) (hb : IntsAt w (.slice B blk.length cb) blk) (hab : allB blk = true) (hl : blk.length = 16) (hm : MayP m) (hv : wordB value = true) (hct : m.count < 1099511627776) (hs : m.step irq blk value = (m2, k)) :
    Calls Try.prog 8 #[.agg (m.cells rv mv ov), .bool irq, .slice B blk.length cb, .int .i64 value] w fun e w' => ∃ A c B c' C c'', e = .returned (.tuple #[.agg (m2.cells (.slice A m2.regs.length c) (.slice B m2.mem.length c') (.slice C m2.out.length c'')), .int .i64 k, .int .i64 0]) ∧ OwnM w' w.heap.size (.slice A m2.regs.length c) (.slice B m2.mem.length c') (.slice C m2.out.length c'') m2 ∧ Below w.heap.size w w' := by
  have hno : stepNo m blk value = 0 := by
    have h1 : (m.count == 1099511627776) = false := by simp; omega
    simp [stepNo, mayP_iff.2 hm, hab, hv, h1, hl]
  have := Step_ok m rv mv ov irq B cb blk value w ha hb hm hab (Or.inr hl) hct hno
  rw [hs] at this
  refine this.mono ?_
  rintro e w' ⟨rv', mv', ov', rfl, ho, hb⟩
  obtain ⟨A, c, B, c', C, c'', rfl, rfl, rfl⟩ := ho.shape
  exact ⟨A, c, B, c', C, c'', rfl, ho, hb⟩

abbrev blkL : List Ins := [(11, 0, 0, 4), (10, 1, 0, 2), (10, 2, 0, 2)]
theorem blkL_words : blkL.map insWord = [4107, 2074, 2090] := by decide
def blkMem : List Int := [4107, 2074, 2090] ++ List.replicate 253 0
theorem blkMem_len : blkMem.length = 256 := by simp only [blkMem, List.length_append, List.length_replicate]; rfl
theorem blkMem_zero (j : Nat) (h : 3 ≤ j) : blkMem.getD j 0 = 0 := by
  obtain ⟨i, rfl⟩ : ∃ i, j = i + 3 := ⟨j - 3, by omega⟩
  show (List.replicate 253 (0 : Int)).getD i 0 = 0
  rw [List.getD, List.getElem?_replicate]
  split <;> rfl
def blkM0 (k : Int) : Mach := ⟨[k, 0, 0, 0, 0, 0, 0, 0], 0, 0, false, false, -1, 0, 0, blkMem, [], 0, -1⟩
def blkM1 (k : Int) : Mach := ⟨[k, 0, 0, 0, 0, 0, 0, 0], 1, 0, false, false, -1, 1, 0, blkMem, [], 0, k⟩
def blkM2 (k : Int) : Mach := ⟨[k, 0, 0, 0, 0, 0, 0, 0], 2, 0, false, false, -1, 2, 0, blkMem, [], 0, k⟩
def blkM3 (k : Int) (blk : List Int) : Mach := ⟨[k, 0, 1, 0, 0, 0, 0, 0], 3, 0, false, true, -1, 3, 0, putWords blkMem (16 * k).toNat blk 16, [], 1, -1⟩
theorem blkM_0 (k : Int) (h0 : 0 ≤ k) (h1 : k ≤ 15) : guestM [k] (blkL.map insWord) 1 = blkM0 k := by
  have : guestM [k] (blkL.map insWord) 1 = ⟨[regF k, 0, 0, 0, 0, 0, 0, 0], 0, 0, false, false, -1, 0, 0, blkMem, [], 0, -1⟩ := by rw [blkL_words]; rfl
  rw [this]
  unfold regF
  rw [Int.tmod_eq_of_lt h0 (by omega), foldF_id (by omega) (by omega)]
  rfl
theorem exec_11 (m : Mach) (a k v : Int) (h : 0 ≤ m.reg a ∧ m.reg a ≤ 15) (hw : m.want = -1) : m.exec 11 a k 4 v = (({ m with want := m.reg a, ready := 0 } : Mach).go (m.pc + 1), -1) := by
  have e : m.exec 11 a k 4 v = if (4 : Int) = 4 ∧ 0 ≤ m.reg a ∧ m.reg a ≤ 15 then (if m.want = -1 then (({ m with want := m.reg a, ready := 0 } : Mach).go (m.pc + 1), (-1 : Int)) else (m.go (m.pc + 1), -1)) else (m.ends 3, -1) := rfl
  rw [e, if_pos ⟨rfl, h⟩, if_pos hw]
theorem blk_1 (k : Int) (h0 : 0 ≤ k) (h1 : k ≤ 15) : (blkM0 k).step false [] 0 = (blkM1 k, -1) := by
  rw [step_quiet rfl rfl, run_at 0 4107 0 rfl rfl (by decide) (by decide) rfl (by decide)]
  show (blkM0 k).counted.exec 11 0 0 4 0 = _
  rw [exec_11 (blkM0 k).counted 0 0 0 ⟨h0, h1⟩ rfl]
  rfl
theorem step_unwanted {m : Mach} (hw : m.want = -1) (blk : List Int) (v : Int) : m.step false blk v = m.step false [] v := by
  have e : ∀ b : List Int, m.told false b = { m with wait := m.wait || false } := fun b => by unfold Mach.told; rw [if_neg (by rw [hw]; omega)]
  unfold Mach.step
  rw [e blk, e []]
theorem blk_2 (k : Int) : (blkM1 k).step false [] 0 = (blkM2 k, -1) := by
  rw [step_quiet rfl rfl, run_at 1 2074 0 rfl rfl (by decide) (by decide) rfl (by decide)]
  rfl
theorem blk_3 (k : Int) (h0 : 1 ≤ k) (h1 : k ≤ 15) (blk : List Int) (hl : blk.length = 16) : (blkM2 k).step false blk 0 = (blkM3 k blk, -1) := by
  have ht : (blkM2 k).told false blk = ⟨[k, 0, 0, 0, 0, 0, 0, 0], 2, 0, false, true, -1, 2, 0, putWords blkMem (16 * k).toNat blk 16, [], 1, -1⟩ := by
    unfold Mach.told
    rw [if_pos ⟨by omega, by show 0 ≤ k; omega⟩]; rfl
  have hs : (blkM2 k).step false blk 0 = (((blkM2 k).told false blk).enter.counted).run1 0 := by unfold Mach.step; rw [if_pos (show (blkM2 k).fin = 0 from rfl)]
  have g : (putWords blkMem (16 * k).toNat blk 16).getD 2 0 = 2090 := by
    rw [putWords_run _ _ _ 16 (by omega) (by rw [blkMem_len]; omega)]
    simp only [List.getD, List.append_assoc]
    rw [List.getElem?_append_left (by simp [blkMem_len]; omega), List.getElem?_take_of_lt (by omega)]
    rfl
  rw [hs, ht]
  show (Mach.run1 ⟨[k, 0, 0, 0, 0, 0, 0, 0], 2, 0, false, true, -1, 3, 0, putWords blkMem (16 * k).toNat blk 16, [], 1, -1⟩ 0) = _
  rw [run_at 2 2090 0 rfl rfl (by decide) (by decide) g (by decide)]
  rfl
theorem blkM0_may (k : Int) (h0 : 0 ≤ k) (h1 : k ≤ 15) : MayP (blkM0 k) := by rw [← blkM_0 k h0 h1]; exact guestM_may _ _ _ (by rw [blkL_words]; decide)

/-- The words of the block, the first j of them. -/
def blkW (v : Int) : Nat → List Int
  | 0 => List.replicate 16 0
  | j + 1 => (blkW v j).set j (foldF (v.tmod 1000 + (j : Nat)))
theorem blkW_len (v : Int) (j : Nat) : (blkW v j).length = 16 := by
  induction j with
  | zero => simp [blkW]
  | succ j ih => simp [blkW, ih]
theorem blkW_all (v : Int) (j : Nat) : allB (blkW v j) = true := by
  induction j with
  | zero => exact allB_zeros 16
  | succ j ih => exact allB_set ih (foldF_word _)

/-- A part of a slice. -/
theorem IntsAt.sub {w : World} {b off n c : Nat} {l : List Int} (h : IntsAt w (.slice (some ⟨b, off, none⟩) n c) l) (i m c2 : Nat) (hi : i + m ≤ l.length) (hm : 0 < m) : IntsAt w (.slice (some ⟨b, off + i, none⟩) m c2) ((l.drop i).take m) := by
  obtain ⟨A, c', e, hl, hc⟩ := h
  simp only [Value.slice.injEq] at e
  obtain ⟨rfl, rfl, rfl⟩ := e
  obtain ⟨b', off', e, hb, hcell⟩ := hc (by omega)
  simp only [Option.some.injEq, Addr.mk.injEq] at e
  obtain ⟨rfl, rfl, -⟩ := e
  have hlen : ((l.drop i).take m).length = m := by simp; omega
  refine ⟨some ⟨b, off + i, none⟩, c2, by rw [hlen], by omega, fun _ => ⟨b, off + i, rfl, hb, fun j hj => ?_⟩⟩
  rw [hlen] at hj
  rw [Nat.add_assoc, hcell (i + j) (by omega)]
  simp [List.getD, List.getElem?_take_of_lt hj, List.getElem?_drop]
theorem put_part (l : List Int) (p : Nat) (blk : List Int) (hb : blk.length = 16) (hp : p + 16 ≤ l.length) : ((putWords l p blk 16).drop p).take 16 = blk := by
  rw [putWords_all16 l p blk hb hp, List.append_assoc, List.drop_append_of_le_length (by simp; omega)]
  rw [List.drop_of_length_le (by simp; omega), List.nil_append, List.take_append_of_le_length (by omega), List.take_of_length_le (by omega)]

end Go.Proofs.Ytlcdefpdahjjeae
