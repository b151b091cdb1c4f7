/- Of hourglasskeep.instr: what it has laid out, and what its answer is made of. -/
import Derived.Test.YtlcdefpdahjjeaeCpuCode
import Derived.Test.YtlcdefpdahjjeaeWalkPick
import Derived.Deep.RegionHeld3
import Derived.Deep.RegionLaw
import Derived.Deep.DrawnRows
import Derived.Deep.CutBlock
import Derived.Deep.DeepCutAuto
namespace Go.Proofs.Ytlcdefpdahjjeae
open Go.RowKit
set_option linter.unusedVariables false

/-- What instr has laid out ahead of its switch. -/
structure InsInv (w wx : World) (b : Nat) (K A B C pa pb : Int) : Prop where
  box : wx.heap[b]? = some (.cells #[.int .i64 0, .int .i64 pa, .int .i64 pb, .int .i64 0] 24 (0, 0))
  raw : wx.heap[w.heap.size]? = some (.cells #[.int .i64 K, .int .i64 A, .int .i64 B, .int .i64 C] 53 (0, 0))
  res : wx.heap[w.heap.size + 1]? = some (.cells #[.int .i64 0, .int .i64 0, .int .i64 0, .int .i64 0] 24 (0, 0))
  lt : w.heap.size + 1 < b
  old : Below w.heap.size w wx

theorem insInv_new {w W : World} {K A B C pa pb : Int} (h : W.heap[w.heap.size]? = some (.cells #[.int .i64 K, .int .i64 A, .int .i64 B, .int .i64 C] 53 (0, 0)) ∧ W.heap[w.heap.size + 1]? = some (.cells #[.int .i64 0, .int .i64 0, .int .i64 0, .int .i64 0] 24 (0, 0)) ∧ Below w.heap.size w W ∧ W.heap.size = w.heap.size + 1 + 1) :
    InsInv w (W.alloc (.cells #[.int .i64 0, .int .i64 pa, .int .i64 pb, .int .i64 0] 24)).drew W.heap.size K A B C pa pb := by
  have hb : Below W.heap.size W (W.alloc (.cells #[.int .i64 0, .int .i64 pa, .int .i64 pb, .int .i64 0] 24)).drew := (below_alloc _ _).drew
  exact ⟨Go.Deep.blk_alloc_new W _, by rw [hb.block _ (lt_of_block h.1)]; exact h.1, by rw [hb.block _ (lt_of_block h.2.1)]; exact h.2.1, by omega, h.2.2.1.trans (hb.mono h.2.2.1.size)⟩
theorem instrNo_ok {op a b n : Int} (h0 : 0 ≤ op ∧ op ≤ 15) (ha : 0 ≤ a ∧ a ≤ 7) (hb : 0 ≤ b ∧ b ≤ 7) (hn : -1048576 ≤ n ∧ n ≤ 1048575) (h2 : op = 2 ∨ op = 3 → 0 ≤ n ∧ n ≤ 7) (h12 : op = 12 → 0 ≤ n ∧ n ≤ 1) : instrNo op a b n = 0 := by
  unfold instrNo
  rw [inB_iff.2 h0, inB_iff.2 ha, inB_iff.2 hb, inB_iff.2 hn]
  by_cases e2 : op = 2 ∨ op = 3
  · rw [inB_iff.2 (h2 e2)]
    have : (op == 12) = false := by simp; omega
    rw [this]
    cases (op == 2 || op == 3) <;> rfl
  · have : (op == 2 || op == 3) = false := by simp; omega
    rw [this]
    by_cases e : op = 12
    · rw [inB_iff.2 (h12 e)]; cases (op == 12) <;> rfl
    · have : (op == 12) = false := by simpa using e
      rw [this]; rfl


/-- What the answer is made of. -/
structure InsOut (w wx : World) (b : Nat) (op pa pb n : Int) : Prop where
  box : wx.heap[b]? = some (.cells #[.int .i64 op, .int .i64 pa, .int .i64 pb, .int .i64 n] 24 (0, 0))
  res : wx.heap[w.heap.size + 1]? = some (.cells #[.int .i64 0, .int .i64 0, .int .i64 0, .int .i64 0] 24 (0, 0))
  lt : w.heap.size + 1 < b
  old : Below w.heap.size w wx
theorem InsOut.put0 {w wx : World} {b : Nat} {op pa pb n : Int} (h : InsOut w wx b op pa pb n) (x : Int) : InsOut w (wx.setCell ⟨b, 0, none⟩ (.int .i64 x)) b x pa pb n := by
  have hlt := h.lt
  have hbx := h.box
  refine ⟨by simp [World.setCell, Array.getElem?_modify, hbx], ?_, hlt, h.old.setCell (p := ⟨b, 0, none⟩) (by simp; omega) _⟩
  rw [Below.heap_setCell _ _ _ _ (by simp; omega)]
  exact h.res
theorem InsOut.put2 {w wx : World} {b : Nat} {op pa pb n : Int} (h : InsOut w wx b op pa pb n) (x : Int) : InsOut w (wx.setCell ⟨b, 2, none⟩ (.int .i64 x)) b op pa x n := by
  have hlt := h.lt
  have hbx := h.box
  refine ⟨by simp [World.setCell, Array.getElem?_modify, hbx], ?_, hlt, h.old.setCell (p := ⟨b, 2, none⟩) (by simp; omega) _⟩
  rw [Below.heap_setCell _ _ _ _ (by simp; omega)]
  exact h.res
theorem InsOut.put3 {w wx : World} {b : Nat} {op pa pb n : Int} (h : InsOut w wx b op pa pb n) (x : Int) : InsOut w (wx.setCell ⟨b, 3, none⟩ (.int .i64 x)) b op pa pb x := by
  have hlt := h.lt
  have hbx := h.box
  refine ⟨by simp [World.setCell, Array.getElem?_modify, hbx], ?_, hlt, h.old.setCell (p := ⟨b, 3, none⟩) (by simp; omega) _⟩
  rw [Below.heap_setCell _ _ _ _ (by simp; omega)]
  exact h.res
theorem InsOut.grow {w wx wy : World} {b : Nat} {op pa pb n : Int} (h : InsOut w wx b op pa pb n) (hB : Below wx.heap.size wx wy) : InsOut w wy b op pa pb n :=
  ⟨by rw [hB.block _ (lt_of_block h.box)]; exact h.box, by rw [hB.block _ (lt_of_block h.res)]; exact h.res, h.lt, h.old.trans (hB.mono h.old.size)⟩
theorem InsInv.out {w wx : World} {b : Nat} {K A B C pa pb : Int} (h : InsInv w wx b K A B C pa pb) : InsOut w wx b 0 pa pb 0 := ⟨h.box, h.res, h.lt, h.old⟩

end Go.Proofs.Ytlcdefpdahjjeae
