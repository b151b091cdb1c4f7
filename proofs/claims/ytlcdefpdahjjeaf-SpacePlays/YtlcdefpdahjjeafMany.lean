/- Frames that a call has copied, and writes to: the struct handed in, the result, the new struct, what they hold. Plain laws, without the program. -/
import Derived.Test.YtlcdefpdahjjeafOwnG
namespace Go.Proofs.Ytlcdefpdahjjeaf
open Go.RowKit

/-- What holds of a world in which frames have been copied. -/
structure ManyInv (w : World) (q : Nat) (dA rB : Value) (nD nR gd gr c c' : Nat) (D : List (List Int)) (R : List Int) (rows : List Value) (W : World) : Prop where
  old : Below w.heap.size w W
  src : W.heap[w.heap.size]? = some (.cells #[dA, rB] 44 (0, 0))
  res : W.heap[w.heap.size + 1]? = some (.cells #[nilv, nilv] 44 (0, 0))
  box : W.heap[q]? = some (.cells #[.slice (some ⟨gd, 0, none⟩) nD c, .slice (some ⟨gr, 0, none⟩) nR c'] 44 (0, 0))
  own : OwnF W w.heap.size (.slice (some ⟨gd, 0, none⟩) nD c) (.slice (some ⟨gr, 0, none⟩) nR c') rows D R
  lo : w.heap.size ≤ gd ∧ w.heap.size ≤ gr ∧ w.heap.size + 1 < q

theorem ManyInv.below {w W W' : World} {q : Nat} {dA rB : Value} {nD nR gd gr c c' : Nat} {D : List (List Int)} {R : List Int} {rows : List Value} (h : ManyInv w q dA rB nD nR gd gr c c' D R rows W) (hb : Below W.heap.size W W') : ManyInv w q dA rB nD nR gd gr c c' D R rows W' :=
  ⟨h.old.trans (hb.mono h.old.size), by rw [hb.block _ (lt_of_block h.src)]; exact h.src, by rw [hb.block _ (lt_of_block h.res)]; exact h.res, by rw [hb.block _ (lt_of_block h.box)]; exact h.box, h.own.below hb, h.lo⟩

theorem ManyInv.apart {w W : World} {q : Nat} {dA rB : Value} {nD nR gd gr c c' : Nat} {D : List (List Int)} {R : List Int} {rows : List Value} (h : ManyInv w q dA rB nD nR gd gr c c' D R rows W) : gd ≠ w.heap.size ∧ gd ≠ w.heap.size + 1 ∧ gd ≠ q ∧ gr ≠ w.heap.size ∧ gr ≠ w.heap.size + 1 ∧ gr ≠ q ∧ gd ≠ gr := by
  obtain ⟨⟨cd, hd⟩, _⟩ := own_block h.own.dat.top
  obtain ⟨⟨cr, hr⟩, _⟩ := own_block h.own.ref
  refine ⟨fun e => ?_, fun e => ?_, fun e => ?_, fun e => ?_, fun e => ?_, fun e => ?_, fun e => ?_⟩
  · subst e; rw [h.src] at hd; simp at hd
  · subst e; rw [h.res] at hd; simp at hd
  · subst e; rw [h.box] at hd; simp at hd
  · subst e; rw [h.src] at hr; simp at hr
  · subst e; rw [h.res] at hr; simp at hr
  · subst e; rw [h.box] at hr; simp at hr
  · subst e; rw [hd] at hr; simp at hr

/-- How many know a frame is written. -/
theorem ManyInv.putRef {w W : World} {q : Nat} {dA rB : Value} {nD nR gd gr c c' : Nat} {D : List (List Int)} {R : List Int} {rows : List Value} (h : ManyInv w q dA rB nD nR gd gr c c' D R rows W) (i : Nat) (x : Int) : ManyInv w q dA rB nD nR gd gr c c' D (R.set i x) rows (W.setCell ⟨gr, i, none⟩ (.int .i64 x)) := by
  obtain ⟨_, _, _, n1, n2, n3, _⟩ := h.apart
  exact ⟨h.old.setCell h.lo.2.1 _, by rw [Go.Deep.blk_setCell_other _ _ _ _ (Ne.symm n1)]; exact h.src, by rw [Go.Deep.blk_setCell_other _ _ _ _ (Ne.symm n2)]; exact h.res, by rw [Go.Deep.blk_setCell_other _ _ _ _ (Ne.symm n3)]; exact h.box, h.own.putRef x, h.lo⟩

/-- New words are put into their place. -/
theorem ManyInv.putRow {w W : World} {q : Nat} {dA rB u : Value} {nD nR gd gr c c' k : Nat} {D : List (List Int)} {R l : List Int} {rows : List Value} (h : ManyInv w q dA rB nD nR gd gr c c' D R rows W) (hk : k < D.length) (hu : OwnI W w.heap.size u l)
    (hap : ∀ j, j < D.length → j ≠ k → ∀ g, u.ownBlock = some g → (rows.getD j nilv).ownBlock ≠ some g) (hr : ∀ g, (Value.slice (some ⟨gr, 0, none⟩) nR c').ownBlock = some g → u.ownBlock ≠ some g) :
    ManyInv w q dA rB nD nR gd gr c c' (D.set k l) R (rows.set k u) (W.setCell ⟨gd, k, none⟩ u) := by
  obtain ⟨n1, n2, n3, _⟩ := h.apart
  exact ⟨h.old.setCell h.lo.1 _, by rw [Go.Deep.blk_setCell_other _ _ _ _ (Ne.symm n1)]; exact h.src, by rw [Go.Deep.blk_setCell_other _ _ _ _ (Ne.symm n2)]; exact h.res, by rw [Go.Deep.blk_setCell_other _ _ _ _ (Ne.symm n3)]; exact h.box, h.own.putRow hk hu hap hr, h.lo⟩

/-- A word is written. -/
theorem ManyInv.putWord {w W : World} {q : Nat} {dA rB : Value} {nD nR gd gr c c' k i g n cap : Nat} {D : List (List Int)} {R : List Int} {rows : List Value} (h : ManyInv w q dA rB nD nR gd gr c c' D R rows W) (hk : k < D.length) (hr : rows.getD k nilv = .slice (some ⟨g, 0, none⟩) n cap) (x : Int) :
    ManyInv w q dA rB nD nR gd gr c c' (D.set k ((D.getD k []).set i x)) R rows (W.setCell ⟨g, i, none⟩ (.int .i64 x)) := by
  have hU := h.own.dat.each k hk
  rw [hr] at hU
  have lo := (World.ownsRow.lt hU g rfl).1
  have m1 : w.heap.size ≠ g := fun e => own_ne hU h.src (by decide) (by rw [e]; rfl)
  have m2 : w.heap.size + 1 ≠ g := fun e => own_ne hU h.res (by decide) (by rw [e]; rfl)
  have m3 : q ≠ g := fun e => own_ne hU h.box (by decide) (by rw [e]; rfl)
  exact ⟨h.old.setCell lo _, by rw [Go.Deep.blk_setCell_other _ _ _ _ m1]; exact h.src, by rw [Go.Deep.blk_setCell_other _ _ _ _ m2]; exact h.res, by rw [Go.Deep.blk_setCell_other _ _ _ _ m3]; exact h.box, h.own.putWord hk hr x, h.lo⟩

/-- Behind the copy: the new struct is laid. -/
theorem ManyInv.start {w w2 w3 : World} {dA rB : Value} {gd gr c c' : Nat} {D : List (List Int)} {R : List Int} {rows : List Value} (h : OwnF w3 w2.heap.size (.slice (some ⟨gd, 0, none⟩) D.length c) (.slice (some ⟨gr, 0, none⟩) R.length c') rows D R)
    (hb : Below w.heap.size w w3) (hs : w3.heap[w.heap.size]? = some (.cells #[dA, rB] 44 (0, 0))) (hr : w3.heap[w.heap.size + 1]? = some (.cells #[nilv, nilv] 44 (0, 0))) (hlo : w.heap.size ≤ w2.heap.size) :
    ManyInv w w3.heap.size dA rB D.length R.length gd gr c c' D R rows (w3.alloc (.cells #[.slice (some ⟨gd, 0, none⟩) D.length c, .slice (some ⟨gr, 0, none⟩) R.length c'] 44)) := by
  have l1 := (World.ownsRow.lt h.dat.top gd rfl).1
  have l2 := (World.ownsRow.lt h.ref gr rfl).1
  have l3 := lt_of_block hr
  have hsz := hb.size
  refine ⟨hb.alloc hsz _, ?_, ?_, Go.Deep.blk_alloc_new _ _, (h.mono hlo).below (below_alloc _ _), ⟨by omega, by omega, by omega⟩⟩
  · rw [Go.Deep.blk_alloc_lt _ _ _ (by omega)]; exact hs
  · rw [Go.Deep.blk_alloc_lt _ _ _ l3]; exact hr

/-- What a walk asks of such a world. -/
theorem ManyInv.facts {w W : World} {q : Nat} {dA rB : Value} {nD nR gd gr c c' : Nat} {D : List (List Int)} {R : List Int} {rows : List Value} (h : ManyInv w q dA rB nD nR gd gr c c' D R rows W) :
    (∀ k, k < D.length → W.cell? ⟨gd, k, none⟩ = some (rows.getD k nilv)) ∧ (∀ k, W.frozen? ⟨gd, k, none⟩ = false) ∧ (∀ k, k < R.length → W.cell? ⟨gr, k, none⟩ = some (.int .i64 (R.getD k 0))) ∧ (∀ k, W.frozen? ⟨gr, k, none⟩ = false) ∧ gd < W.heap.size ∧ gr < W.heap.size ∧ nD = D.length ∧ nR = R.length := by
  obtain ⟨⟨cd, hd⟩, e1⟩ := own_block h.own.dat.top
  obtain ⟨⟨cr, hr⟩, e2⟩ := own_block h.own.ref
  subst e1
  subst e2
  have hlen := h.own.dat.len
  refine ⟨fun k hk => ?_, fun k => World.ownsRow.frozenAt h.own.dat.top k, fun k hk => ?_, fun k => World.ownsRow.frozenAt h.own.ref k, lt_of_block hd, lt_of_block hr, rfl, rfl⟩
  · rw [World.ownsRow.cellAt h.own.dat.top k (by omega)]
    simp [List.getD, show k < rows.length by omega]
  · rw [World.ownsRow.cellAt h.own.ref k (by omega)]
    simp [List.getD, hk]

/-- The end: the result is stored. -/
theorem ManyInv.fin {w W : World} {q : Nat} {dA rB : Value} {nD nR gd gr c c' : Nat} {D : List (List Int)} {R : List Int} {rows : List Value} (h : ManyInv w q dA rB nD nR gd gr c c' D R rows W) (u u' : Value) (hD : D.length * 24 ≤ 140737488351232 ∧ ∀ i, i < D.length → (D.getD i []).length * 8 ≤ 140737488351232) (hR : R.length * 8 ≤ 140737488351232) :
    RowsLo w.heap.size ((W.setCell ⟨w.heap.size + 1, 0, none⟩ u).setCell ⟨w.heap.size + 1, 1, none⟩ u') (.slice (some ⟨gd, 0, none⟩) nD c) D ∧ IntsLo w.heap.size ((W.setCell ⟨w.heap.size + 1, 0, none⟩ u).setCell ⟨w.heap.size + 1, 1, none⟩ u') (.slice (some ⟨gr, 0, none⟩) nR c') R ∧
      Below w.heap.size w ((W.setCell ⟨w.heap.size + 1, 0, none⟩ u).setCell ⟨w.heap.size + 1, 1, none⟩ u') := by
  have hF := OwnF.store2 h.own h.res (by decide) (by decide) u u'
  exact ⟨hF.dat.rows_lo hD.1 hD.2, hF.ref.low hR, (h.old.setCell (by simp) _).setCell (by simp) _⟩

end Go.Proofs.Ytlcdefpdahjjeaf
