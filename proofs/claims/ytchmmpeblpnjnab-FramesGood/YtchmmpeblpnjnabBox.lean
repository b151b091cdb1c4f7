/- Frames in a local variable: what calls and stores leave. -/
import Derived.Test.YtchmmpeblpnjnabWalkShare
import Derived.Test.YtchmmpeblpnjnabWalkDrop
import Derived.Test.YtchmmpeblpnjnabWalkX
import Derived.Test.YtchmmpeblpnjnabWalkPick
namespace Go.Proofs.Ytchmmpeblpnjnab
open Go.RowKit

/-- The local variable at block q holds these frames. -/
structure BoxF (w : World) (q : Nat) (A : Option Addr) (c : Nat) (B : Option Addr) (c' : Nat) (D : List (List Int)) (R : List Int) (W : World) : Prop where
  old : Below w.heap.size w W
  lo : w.heap.size ≤ q
  box : W.heap[q]? = some (.cells #[.slice A D.length c, .slice B R.length c'] 25 (0, 0))
  rows : RowsAt W (.slice A D.length c) D
  ints : IntsAt W (.slice B R.length c') R

theorem BoxF.start {w w1 : World} {A B : Option Addr} {c c' : Nat} {D : List (List Int)} {R : List Int} (hb : Below w.heap.size w w1) (hd : RowsAt w1 (.slice A D.length c) D) (hr : IntsAt w1 (.slice B R.length c') R) : BoxF w w1.heap.size A c B c' D R (w1.alloc (.cells #[.slice A D.length c, .slice B R.length c'] 25)) :=
  ⟨hb.alloc hb.size _, hb.size, Go.Deep.blk_alloc_new _ _, hd.below (below_alloc _ _), hr.below (below_alloc _ _)⟩

theorem BoxF.keep {w W w2 : World} {q : Nat} {A B : Option Addr} {c c' : Nat} {D : List (List Int)} {R : List Int} (h : BoxF w q A c B c' D R W) (hb : Below W.heap.size W w2) : BoxF w q A c B c' D R w2 :=
  ⟨h.old.trans (hb.mono h.old.size), h.lo, by rw [hb.block _ (lt_of_block h.box)]; exact h.box, h.rows.below hb, h.ints.below hb⟩

theorem set01 {w : World} {b : Nat} {x y : Value} {t : TypeId} (h : w.heap[b]? = some (.cells #[x, y] t (0, 0))) (u u' : Value) : ((w.setCell ⟨b, 0, none⟩ u).setCell ⟨b, 1, none⟩ u').heap[b]? = some (.cells #[u, u'] t (0, 0)) := set1 (set0 h u) u'

/-- What was answered is stored into the variable. -/
theorem BoxF.next {w W w2 : World} {q : Nat} {A B A2 B2 : Option Addr} {c c' c2 c2' : Nat} {D D2 : List (List Int)} {R R2 : List Int} (h : BoxF w q A c B c' D R W) (hb : Below W.heap.size W w2) (hd : RowsLo W.heap.size w2 (.slice A2 D2.length c2) D2) (hr : IntsLo W.heap.size w2 (.slice B2 R2.length c2') R2) :
    BoxF w q A2 c2 B2 c2' D2 R2 ((w2.setCell ⟨q, 0, none⟩ (.slice A2 D2.length c2)).setCell ⟨q, 1, none⟩ (.slice B2 R2.length c2')) := by
  have hq := lt_of_block h.box
  have hk := h.keep hb
  exact ⟨(hk.old.setCell h.lo _).setCell h.lo _, h.lo, set01 hk.box _ _, ((hd.setCell (a := ⟨q, 0, none⟩) hq _).setCell (a := ⟨q, 1, none⟩) hq _).at, ((hr.setCell (a := ⟨q, 0, none⟩) hq _).setCell (a := ⟨q, 1, none⟩) hq _).at⟩

theorem may3 {a b c : List Int} {x y z : Int} (h0 : 0 ≤ x ∧ x ≤ 200 ∧ (a.length : Int) = wordsB x) (h1 : 0 ≤ y ∧ y ≤ 200 ∧ (b.length : Int) = wordsB y) (h2 : 0 ≤ z ∧ z ≤ 200 ∧ (c.length : Int) = wordsB z) : May [a, b, c] [x, y, z] := by
  refine ⟨rfl, by simp, fun i hi => ?_⟩
  match i, hi with
  | 0, _ => exact h0
  | 1, _ => exact h1
  | 2, _ => exact h2

end Go.Proofs.Ytchmmpeblpnjnab
