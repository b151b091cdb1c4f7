/- Frames that a call has copied, and writes to: the steps to its end. -/
import Derived.Test.YtlcdefpdahjjeafMany
import Derived.Test.YtlcdefpdahjjeafWalkL
namespace Go.Proofs.Ytlcdefpdahjjeaf
open Go.RowKit

theorem many_step {w W w4 : World} {q : Nat} {dA rB : Value} {nD nR gd gr c c' k g3 c3 : Nat} {D : List (List Int)} {R row : List Int} {rows : List Value} (h : ManyInv w q dA rB nD nR gd gr c c' D R rows W) (hb : Below W.heap.size W w4) (hk : k < D.length) (hv : OwnI w4 W.drew.heap.size (.slice (some ⟨g3, 0, none⟩) 16 c3) row) :
    ManyInv w q dA rB nD nR gd gr c c' (D.set k row) R (rows.set k (.slice (some ⟨g3, 0, none⟩) 16 c3)) (w4.setCell ⟨gd, k, none⟩ (.slice (some ⟨g3, 0, none⟩) 16 c3)) := by
  have hv' : OwnI w4 W.heap.size (.slice (some ⟨g3, 0, none⟩) 16 c3) row := hv
  have l3 := (World.ownsRow.lt hv' g3 rfl).1
  refine (h.below hb).putRow hk (ownsRow_mono hv' h.old.size) (fun j hj _ g hg e => ?_) (fun g hg e => ?_)
  · simp [Value.ownBlock] at hg
    have := (World.ownsRow.lt (h.own.dat.each j hj) g e).2
    omega
  · simp [Value.ownBlock] at e
    have := (World.ownsRow.lt h.own.ref g hg).2
    omega

theorem many_open {w W5 : World} {q : Nat} {dA rB : Value} {nD nR gd gr c c' k g3 c3 i : Nat} {D : List (List Int)} {R row : List Int} {rows : List Value} (h : ManyInv w q dA rB nD nR gd gr c c' (D.set k row) R (rows.set k (.slice (some ⟨g3, 0, none⟩) 16 c3)) W5) (hk : k < D.length) (hl : row.length = 16) (hi : i < 16) :
    (rows.set k (.slice (some ⟨g3, 0, none⟩) 16 c3)).getD k nilv = .slice (some ⟨g3, 0, none⟩) 16 c3 ∧ W5.cell? ⟨gd, k, none⟩ = some (.slice (some ⟨g3, 0, none⟩) 16 c3) ∧ (∃ y, W5.cell? ⟨g3, i, none⟩ = some (.int .i64 y)) ∧ W5.frozen? ⟨g3, i, none⟩ = false ∧ q ≠ g3 ∧ w.heap.size + 1 ≠ g3 ∧ g3 < W5.heap.size ∧ w.heap.size ≤ g3 := by
  have hlen := h.own.dat.len
  simp at hlen
  have e1 : (rows.set k (.slice (some ⟨g3, 0, none⟩) 16 c3)).getD k nilv = .slice (some ⟨g3, 0, none⟩) 16 c3 := by
    rw [getD_set _ _ _ _ _ (by omega), if_pos rfl]
  have hU := h.own.dat.each k (by simpa using hk)
  rw [e1, getD_set _ _ _ _ _ hk, if_pos rfl] at hU
  obtain ⟨g, cc, e2, l1, l2, hc, hf⟩ := hU.opened (by omega)
  simp only [Value.slice.injEq, Option.some.injEq, Addr.mk.injEq, and_true] at e2
  obtain ⟨rfl, _, _⟩ := e2
  have f1 := h.facts.1 k (by simpa using hk)
  rw [e1] at f1
  exact ⟨e1, f1, ⟨_, hc i (by omega)⟩, hf i, fun e => own_ne hU h.box (by decide) (by rw [e]; rfl), fun e => own_ne hU h.res (by decide) (by rw [e]; rfl), l2, l1⟩

theorem many_end {w W5 : World} {q : Nat} {dA rB dv : Value} {gd gr c c' k j i g3 c3 : Nat} {D : List (List Int)} {R row : List Int} {rows : List Value} {x v : Int} (h : ManyInv w q dA rB D.length R.length gd gr c c' (D.set k row) ((R.set j (x - 1)).set k 1) rows W5) (hk : k < D.length) (he : rows.getD k nilv = .slice (some ⟨g3, 0, none⟩) 16 c3) (hl : row.length = 16) (hrow : row = D.getD j []) (hd : RowsAt w dv D) (hr : R.length * 8 ≤ 140737488351232) (u u' : Value) :
    Res3 w (D.set k ((D.getD j []).set i v)) ((R.set j (x - 1)).set k 1) k 0 (.returned (.tuple #[.agg #[.slice (some ⟨gd, 0, none⟩) D.length c, .slice (some ⟨gr, 0, none⟩) R.length c'], .int .i64 k, .int .i64 0])) (((W5.setCell ⟨g3, i, none⟩ (.int .i64 v)).setCell ⟨w.heap.size + 1, 0, none⟩ u).setCell ⟨w.heap.size + 1, 1, none⟩ u') := by
  have h2 := h.putWord (k := k) (i := i) (by simpa using hk) he v
  rw [getD_set _ _ _ _ _ hk, if_pos rfl, List.set_set, hrow] at h2
  obtain ⟨bb1, bb2⟩ := set_bounds (l := (D.getD j []).set i v) hd.bounds.1 hd.bounds.2 hk (by rw [List.length_set, ← hrow, hl]; decide)
  obtain ⟨r1, r2, r3⟩ := h2.fin u u' ⟨bb1, bb2⟩ (by simpa using hr)
  exact ⟨some ⟨gd, 0, none⟩, c, some ⟨gr, 0, none⟩, c', by simp, by rw [List.length_set]; exact r1, by rw [List.length_set, List.length_set]; exact r2, r3⟩

end Go.Proofs.Ytlcdefpdahjjeaf
