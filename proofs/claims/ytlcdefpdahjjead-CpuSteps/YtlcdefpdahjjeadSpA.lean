/- hourglassref.stepped: the guest in its box, from statement to statement. -/
import Derived.Test.YtlcdefpdahjjeadRun
import Derived.Test.YtlcdefpdahjjeadStepB
import Derived.Test.YtlcdefpdahjjeadNext
import Derived.Test.YtlcdefpdahjjeadMeant
import Derived.Test.YtlcdefpdahjjeadFold
import Derived.Deep.DeepCutAuto
import Derived.Deep.CutBlock
import Derived.StillTailTactics
namespace Go.Proofs.Ytlcdefpdahjjead
open Go.RowKit

/-- The guest lies in its box, the answer's box behind it. -/
structure StpI (w wx : World) (lo b : Nat) (m : Mach) : Prop where
  at_ : ∃ rv mv ov, AtP wx lo b rv mv ov m
  res : wx.heap[b + 1]? = some (.cells zeroM 24 (0, 0))
  old : Below lo w wx
theorem StpI.start {w : World} {lo : Nat} {rv mv ov : Value} {m : Mach} (h : OwnM w lo rv mv ov m) (hlo : lo ≤ w.heap.size) : StpI w ((w.alloc (.cells (m.cells rv mv ov) 24)).alloc (.cells zeroM 24)) lo w.heap.size m := by
  obtain ⟨b0, b1, b2⟩ := two_boxes (Below.refl (((w.alloc (.cells (m.cells rv mv ov) 24)).alloc (.cells zeroM 24)).heap.size) ((w.alloc (.cells (m.cells rv mv ov) 24)).alloc (.cells zeroM 24)))
  exact ⟨⟨rv, mv, ov, b0, h.below b2, hlo⟩, b1, b2.mono hlo⟩
/-- A store into the guest's box. -/
theorem StpI.put {w wx : World} {lo b i : Nat} {m m' : Mach} {x : Value} {rv mv ov : Value} (h : StpI w wx lo b m) (ha : AtP (wx.setCell ⟨b, i, none⟩ x) lo b rv mv ov m') : StpI w (wx.setCell ⟨b, i, none⟩ x) lo b m' :=
  ⟨⟨rv, mv, ov, ha⟩, by rw [Below.heap_setCell _ _ _ _ (by simp)]; exact h.res, h.old.setCell (p := ⟨b, i, none⟩) ha.le _⟩
theorem StpI.size {w wx : World} {lo b : Nat} {m : Mach} (h : StpI w wx lo b m) : lo ≤ b ∧ b + 1 < wx.heap.size := by
  obtain ⟨_, _, _, ha⟩ := h.at_
  exact ⟨ha.le, lt_of_block h.res⟩
theorem StpI.below {w wx wy : World} {lo b : Nat} {m : Mach} (h : StpI w wx lo b m) (hB : Below wx.heap.size wx wy) : StpI w wy lo b m := by
  have := h.size
  obtain ⟨rv, mv, ov, ha⟩ := h.at_
  exact ⟨⟨rv, mv, ov, ha.below hB⟩, by rw [hB.block _ (lt_of_block h.res)]; exact h.res, h.old.trans (hB.mono (by omega))⟩
/-- A word, a register is stored. -/
theorem StpI.mem {w wx : World} {lo b g n c : Nat} {rv ov : Value} {m : Mach} (h : StpI w wx lo b m) (ha : AtP wx lo b rv (.slice (some ⟨g, 0, none⟩) n c) ov m) (i : Nat) (x : Int) : StpI w (wx.setCell ⟨g, i, none⟩ (.int .i64 x)) lo b { m with mem := m.mem.set i x } := by
  have hne : b + 1 ≠ g := fun e => own_ne ha.own.mem h.res (by decide) (by rw [e]; rfl)
  exact ⟨⟨_, _, _, (ha.putMem i x).1⟩, by rw [Below.heap_setCell _ _ _ _ hne]; exact h.res, h.old.trans (ha.putMem i x).2⟩
theorem StpI.reg {w wx : World} {lo b g n c : Nat} {mv ov : Value} {m : Mach} (h : StpI w wx lo b m) (ha : AtP wx lo b (.slice (some ⟨g, 0, none⟩) n c) mv ov m) (i : Nat) (x : Int) : StpI w (wx.setCell ⟨g, i, none⟩ (.int .i64 x)) lo b { m with regs := m.regs.set i x } := by
  have hne : b + 1 ≠ g := fun e => own_ne ha.own.regs h.res (by decide) (by rw [e]; rfl)
  exact ⟨⟨_, _, _, (ha.putReg i x).1⟩, by rw [Below.heap_setCell _ _ _ _ hne]; exact h.res, h.old.trans (ha.putReg i x).2⟩
theorem StpI.same {w wx : World} {lo b : Nat} {m m' : Mach} (h : StpI w wx lo b m) (e : m = m') : StpI w wx lo b m' := e ▸ h

end Go.Proofs.Ytlcdefpdahjjead
