/- Contract of hourglassref.FramesCopy: the same frames in new memory. -/
import Derived.Test.YtlcdefpdahjjeafMake
import Derived.Test.YtlcdefpdahjjeafWalkE
import Derived.Deep.AppendLies
import Derived.Deep.RegionLaw
namespace Go.Proofs.Ytlcdefpdahjjeaf
open Go.RowKit

theorem MakeInv.below {w wr w1 : World} {r b : Nat} {D : List (List Int)} {R : List Int} {dv rv : Value} {rows : List Value} (h : MakeInv w r b D R dv rv rows wr) (hb : Below wr.heap.size wr w1) : MakeInv w r b D R dv rv rows w1 := by
  obtain ⟨x, y, hres⟩ := h.res
  exact ⟨h.old.trans (hb.mono h.old.size), h.lo, ⟨x, y, by rw [hb.block _ (lt_of_block hres)]; exact hres⟩, by rw [hb.block _ (lt_of_block h.box)]; exact h.box, h.own.below hb⟩

theorem copyRef_start {w w1 : World} {dA rB rv : Value} {R : List Int} (hb : Below ((w.alloc (.cells #[dA, rB] 44)).alloc (.cells #[nilv, nilv] 44)).heap.size ((w.alloc (.cells #[dA, rB] 44)).alloc (.cells #[nilv, nilv] 44)) w1)
    (hv : OwnI w1 ((w.alloc (.cells #[dA, rB] 44)).alloc (.cells #[nilv, nilv] 44)).heap.size rv R) :
    MakeInv w (w.heap.size + 1) w1.heap.size [] R nilv rv [] (w1.alloc (.cells #[nilv, rv] 44)) ∧ w1.heap[w.heap.size]? = some (.cells #[dA, rB] 44 (0, 0)) := by
  have hs := hb.size
  simp only [World.size_alloc] at hs
  have hbox : w1.heap[w.heap.size]? = some (.cells #[dA, rB] 44 (0, 0)) := by
    rw [hb.block _ (by simp; omega), Go.Deep.blk_alloc_lt _ _ _ (by simp), Go.Deep.blk_alloc_new]
  have hres : w1.heap[w.heap.size + 1]? = some (.cells #[nilv, nilv] 44 (0, 0)) := by
    rw [hb.block _ (by simp)]
    have := Go.Deep.blk_alloc_new (w.alloc (.cells #[dA, rB] 44)) (.cells #[nilv, nilv] 44)
    simpa using this
  refine ⟨⟨?_, ⟨by omega, by omega, by omega⟩, ⟨nilv, nilv, ?_⟩, Go.Deep.blk_alloc_new _ _, ?_⟩, hbox⟩
  · exact ((((below_alloc _ _).alloc (by simp) _).trans (hb.mono (by simp; omega))).alloc (by omega) _)
  · rw [Go.Deep.blk_alloc_lt _ _ _ (by omega)]; exact hres
  · exact ⟨(OwnF.empty _ _).dat, ownsRow_mono (hv.below (below_alloc _ _)) (by simp; omega), fun i hi => by simp at hi⟩

theorem far_cell {w2 w3 : World} {o : Obj} {dv v : Value} {p : Addr} (hg : (w2.alloc o).grownBy w3 dv.ownBlock) (hne : dv.ownBlock ≠ some p.block) (hc : w2.cell? p = some v) : w3.cell? p = some v :=
  hg.cell ((World.cell?_alloc_lt _ _ _ (World.block_lt_of_cell? _ _ hc)).trans hc) (fun e => hne e.symm)

theorem MakeInv.top {w wr : World} {r b k : Nat} {D : List (List Int)} {R : List Int} {dv rv : Value} {rows : List Value} (h : MakeInv w r b (D.take k) R dv rv rows wr) (hk : k ≤ D.length) : wr.ownsRow w.heap.size 24 1 dv k rows := by
  have := h.own.dat.top
  rwa [List.length_take, Nat.min_eq_left hk] at this

theorem copyRef_step {w wr w2 w3 : World} {r b k s : Nat} {D : List (List Int)} {R row : List Int} {dv rv dv' u x y : Value} {rows : List Value} (h : MakeInv w r b (D.take k) R dv rv rows wr) (hk : k < D.length) (hrow : row = D.getD k []) (hs : wr.heap[s]? = some (.cells #[x, y] 44 (0, 0))) (hsb : s ≠ b) (hb : Below wr.heap.size wr w2) (hu : OwnI w2 wr.drew.heap.size u row)
    {o : Obj} (hg : (w2.alloc o).grownBy w3 dv.ownBlock) (ho : w3.ownsRow w.heap.size 24 1 dv' (k + 1) (rows ++ [u])) :
    w3.heap[b]? = some (.cells #[dv, rv] 44 (0, 0)) ∧ MakeInv w r b (D.take (k + 1)) R dv' rv (rows ++ [u]) (w3.setCell ⟨b, 0, none⟩ dv') ∧ (w3.setCell ⟨b, 0, none⟩ dv').heap[s]? = some (.cells #[x, y] 44 (0, 0)) := by
  have hu' : OwnI w2 wr.heap.size u row := hu
  have hlen : (D.take k).length = k := by simp; omega
  have e : D.take (k + 1) = D.take k ++ [row] := by
    rw [hrow, List.take_succ_eq_append_getElem hk]; simp [List.getD, hk]
  rw [e]
  obtain ⟨h1, h2⟩ := (h.below hb).snocD (ownsRow_mono hu' h.old.size) (fun j hj g hg e => by
    have h1 := (World.ownsRow.lt (h.own.dat.each j hj) g e).2
    have h2 := (World.ownsRow.lt hu' g hg).1
    omega) (fun g hg e => by
    have h1 := (World.ownsRow.lt h.own.ref g hg).2
    have h2 := (World.ownsRow.lt hu' g e).1
    omega) o hg (by rw [hlen]; exact ho)
  refine ⟨h1, h2, ?_⟩
  rw [Go.Deep.blk_setCell_other _ _ _ _ hsb]
  refine block_grown ?_ hg (own_ne h.own.dat.top hs (by decide))
  rw [Go.Deep.blk_alloc_lt _ _ _ (Nat.lt_of_lt_of_le (lt_of_block hs) hb.size), hb.block _ (lt_of_block hs)]
  exact hs


end Go.Proofs.Ytlcdefpdahjjeaf
