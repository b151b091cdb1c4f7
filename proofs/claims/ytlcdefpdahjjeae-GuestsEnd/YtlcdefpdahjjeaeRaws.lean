/- A slice of raw things. -/
import Derived.Test.YtlcdefpdahjjeaeBase
namespace Go.Proofs.Ytlcdefpdahjjeae
open Go.RowKit

/-- A slice of so many raw things: four numbers each. -/
def RawsIn (w : World) (v : Value) (n : Nat) : Prop :=
  ∃ (A : Option Addr) (c : Nat), v = .slice A n c ∧ n * 32 ≤ 140737488351232 ∧
    (0 < n → ∃ b off, A = some ⟨b, off, none⟩ ∧ b < w.heap.size ∧ ∀ j, j < n → ∃ x0 x1 x2 x3 : Int, (Lit.int .i64 x0).wf = true ∧ (Lit.int .i64 x1).wf = true ∧ (Lit.int .i64 x2).wf = true ∧ (Lit.int .i64 x3).wf = true ∧
      w.cell? ⟨b, off + j * 4, none⟩ = some (.int .i64 x0) ∧ w.cell? ⟨b, off + j * 4 + 1, none⟩ = some (.int .i64 x1) ∧ w.cell? ⟨b, off + j * 4 + 2, none⟩ = some (.int .i64 x2) ∧ w.cell? ⟨b, off + j * 4 + 3, none⟩ = some (.int .i64 x3))
theorem RawsIn.below {w w' : World} {v : Value} {n : Nat} (h : RawsIn w v n) (hb : Below w.heap.size w w') : RawsIn w' v n := by
  obtain ⟨A, c, rfl, hl, hc⟩ := h
  refine ⟨A, c, rfl, hl, fun h0 => ?_⟩
  obtain ⟨b, off, rfl, hlt, hj⟩ := hc h0
  refine ⟨b, off, rfl, Nat.lt_of_lt_of_le hlt hb.size, fun j hjl => ?_⟩
  obtain ⟨x0, x1, x2, x3, f0, f1, f2, f3, c0, c1, c2, c3⟩ := hj j hjl
  exact ⟨x0, x1, x2, x3, f0, f1, f2, f3, (hb.cell (p := ⟨b, off + j * 4, none⟩) hlt).trans c0, (hb.cell (p := ⟨b, off + j * 4 + 1, none⟩) hlt).trans c1, (hb.cell (p := ⟨b, off + j * 4 + 2, none⟩) hlt).trans c2, (hb.cell (p := ⟨b, off + j * 4 + 3, none⟩) hlt).trans c3⟩

end Go.Proofs.Ytlcdefpdahjjeae
