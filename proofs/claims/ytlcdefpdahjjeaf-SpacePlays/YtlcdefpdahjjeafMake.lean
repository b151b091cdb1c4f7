/- Frames that a call makes by append, in a struct of its own: what each append keeps. Plain laws, without the program. -/
import Derived.Test.YtlcdefpdahjjeafOwnG
namespace Go.Proofs.Ytlcdefpdahjjeaf
open Go.RowKit

/-- Frames that are being made: the block of the result, the block of the local struct, what it holds. -/
structure MakeInv (w : World) (r b : Nat) (D : List (List Int)) (R : List Int) (dv rv : Value) (rows : List Value) (wr : World) : Prop where
  old : Below w.heap.size w wr
  lo : w.heap.size ≤ r ∧ w.heap.size ≤ b ∧ r ≠ b
  res : ∃ x y, wr.heap[r]? = some (.cells #[x, y] 44 (0, 0))
  box : wr.heap[b]? = some (.cells #[dv, rv] 44 (0, 0))
  own : OwnF wr w.heap.size dv rv rows D R

theorem set0 {w : World} {b : Nat} {x y : Value} {t : TypeId} (h : w.heap[b]? = some (.cells #[x, y] t (0, 0))) (u : Value) : (w.setCell ⟨b, 0, none⟩ u).heap[b]? = some (.cells #[u, y] t (0, 0)) := by
  simp [World.setCell, Array.getElem?_modify, h]
theorem set1 {w : World} {b : Nat} {x y : Value} {t : TypeId} (h : w.heap[b]? = some (.cells #[x, y] t (0, 0))) (u : Value) : (w.setCell ⟨b, 1, none⟩ u).heap[b]? = some (.cells #[x, u] t (0, 0)) := by
  simp [World.setCell, Array.getElem?_modify, h]

/-- A frame's words are appended, and the slice stored. -/
theorem MakeInv.snocD {w wr w1 : World} {r b : Nat} {D : List (List Int)} {R l : List Int} {dv rv dv' u : Value} {rows : List Value} (h : MakeInv w r b D R dv rv rows wr) (hu : OwnI wr w.heap.size u l) (hap : ∀ j, j < D.length → ∀ g, u.ownBlock = some g → (rows.getD j nilv).ownBlock ≠ some g) (hru : ∀ g, rv.ownBlock = some g → u.ownBlock ≠ some g)
    (o : Obj) (hg : (wr.alloc o).grownBy w1 dv.ownBlock) (ho : w1.ownsRow w.heap.size 24 1 dv' (D.length + 1) (rows ++ [u])) :
    w1.heap[b]? = some (.cells #[dv, rv] 44 (0, 0)) ∧ MakeInv w r b (D ++ [l]) R dv' rv (rows ++ [u]) (w1.setCell ⟨b, 0, none⟩ dv') := by
  have hz := h.old.size
  have hA := below_alloc wr o
  have hbA : (wr.alloc o).heap[b]? = some (.cells #[dv, rv] 44 (0, 0)) := by rw [Go.Deep.blk_alloc_lt _ _ _ (lt_of_block h.box)]; exact h.box
  obtain ⟨x, y, hres⟩ := h.res
  have hrA : (wr.alloc o).heap[r]? = some (.cells #[x, y] 44 (0, 0)) := by rw [Go.Deep.blk_alloc_lt _ _ _ (lt_of_block hres)]; exact hres
  have hb1 := block_grown hbA hg (own_ne h.own.dat.top h.box (by decide))
  have hr1 := block_grown hrA hg (own_ne h.own.dat.top hres (by decide))
  have hDA : OwnD (wr.alloc o) w.heap.size dv rows D := h.own.dat.below hA
  have hD1 : OwnD w1 w.heap.size dv' (rows ++ [u]) (D ++ [l]) := hDA.snoc (hu.below hA) hap hg ho
  have hR1 : OwnI w1 w.heap.size rv R := World.ownsRow.kept (h.own.ref.below hA) hg (own_apart (h.own.ref.below hA) hDA.top (by decide))
  refine ⟨hb1, ⟨(grown_below h.old h.own.dat.top (Nat.le_refl _) hz hg).setCell h.lo.2.1 _, h.lo, ⟨x, y, ?_⟩, set0 hb1 _, ?_⟩⟩
  · rw [Go.Deep.blk_setCell_other _ _ _ _ h.lo.2.2]; exact hr1
  · refine OwnF.otherType (a := ⟨b, 0, none⟩) (t := 44) ⟨hD1, hR1, fun i hi g hg' => ?_⟩ hb1 (by decide) (by decide) _
    simp at hi
    rw [getD_snoc, h.own.dat.len]
    by_cases e : i < D.length
    · rw [if_pos e]; exact h.own.off i e g hg'
    · rw [if_neg e, if_pos (by omega)]; exact hru g hg'

/-- How many know a frame is appended, and the slice stored. -/
theorem MakeInv.snocR {w wr w1 : World} {r b : Nat} {D : List (List Int)} {R : List Int} {x : Int} {dv rv rv' : Value} {rows : List Value} (h : MakeInv w r b D R dv rv rows wr)
    (o : Obj) (hg : (wr.alloc o).grownBy w1 rv.ownBlock) (ho : OwnI w1 w.heap.size rv' (R ++ [x])) (hat : rv.ownBlock = rv'.ownBlock ∨ ∀ g, rv'.ownBlock = some g → wr.heap.size ≤ g) :
    w1.heap[b]? = some (.cells #[dv, rv] 44 (0, 0)) ∧ MakeInv w r b D (R ++ [x]) dv rv' rows (w1.setCell ⟨b, 1, none⟩ rv') := by
  have hz := h.old.size
  have hA := below_alloc wr o
  have hbA : (wr.alloc o).heap[b]? = some (.cells #[dv, rv] 44 (0, 0)) := by rw [Go.Deep.blk_alloc_lt _ _ _ (lt_of_block h.box)]; exact h.box
  obtain ⟨x', y', hres⟩ := h.res
  have hrA : (wr.alloc o).heap[r]? = some (.cells #[x', y'] 44 (0, 0)) := by rw [Go.Deep.blk_alloc_lt _ _ _ (lt_of_block hres)]; exact hres
  have hb1 := block_grown hbA hg (own_ne h.own.ref h.box (by decide))
  have hr1 := block_grown hrA hg (own_ne h.own.ref hres (by decide))
  have hDA : OwnD (wr.alloc o) w.heap.size dv rows D := h.own.dat.below hA
  have hD1 : OwnD w1 w.heap.size dv rows D := hDA.grown hg (own_apart hDA.top (h.own.ref.below hA) (by decide)) (fun i hi => by
    cases e : (rows.getD i nilv).ownBlock with
    | none => exact Or.inl rfl
    | some g => exact Or.inr (fun e2 => h.own.off i hi g e2.symm e))
  refine ⟨hb1, ⟨(grown_below h.old h.own.ref (Nat.le_refl _) hz hg).setCell h.lo.2.1 _, h.lo, ⟨x', y', ?_⟩, set1 hb1 _, ?_⟩⟩
  · rw [Go.Deep.blk_setCell_other _ _ _ _ h.lo.2.2]; exact hr1
  · refine OwnF.otherType (a := ⟨b, 1, none⟩) (t := 44) ⟨hD1, ho, fun i hi g hg' e => ?_⟩ hb1 (by decide) (by decide) _
    rcases hat with hat | hat
    · exact h.own.off i hi g (by rw [hat]; exact hg') e
    · have h1 := (World.ownsRow.lt (h.own.dat.each i hi) g e).2
      have h2 := hat g hg'
      omega

theorem OwnF.empty (w : World) (lo : Nat) : OwnF w lo nilv nilv [] [] [] :=
  ⟨⟨World.ownsRow_nil _ _ _ _, fun i hi => by simp at hi, fun i j hi => by simp at hi⟩, ownNil _ _, fun i hi => by simp at hi⟩

end Go.Proofs.Ytlcdefpdahjjeaf
