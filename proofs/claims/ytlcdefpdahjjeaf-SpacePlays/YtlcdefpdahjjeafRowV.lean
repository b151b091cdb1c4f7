/- A block that holds these values from its head on. -/
import Derived.Test.YtlcdefpdahjjeafOwnF
import Derived.Test.YtlcdefpdahjjeafMadeZ
namespace Go.Proofs.Ytlcdefpdahjjeaf
open Go.RowKit

theorem box_setV {w : World} {b i : Nat} {cur : Array Value} {t : TypeId} (h : w.heap[b]? = some (.cells cur t (0, 0))) (x : Value) : (w.setCell ⟨b, i, none⟩ x).heap[b]? = some (.cells (cur.setIfInBounds i x) t (0, 0)) := by
  simp [World.setCell, Array.getElem?_modify, h]
theorem other_blockV {w : World} {b i c : Nat} {o : Obj} (h : w.heap[c]? = some o) (hne : c ≠ b) (x : Value) : (w.setCell ⟨b, i, none⟩ x).heap[c]? = some o := by
  rw [Below.heap_setCell _ _ _ _ hne]; exact h

/-- The block g begins with these values, and may be written. -/
def RowV (w : World) (g : Nat) (t : TypeId) (xs : List Value) : Prop :=
  ∃ cur, w.heap[g]? = some (.cells cur t (0, 0)) ∧ xs.length ≤ cur.size ∧ ∀ j, j < xs.length → cur[j]? = xs[j]?

theorem RowV.lt {w : World} {g : Nat} {t : TypeId} {xs : List Value} (h : RowV w g t xs) : g < w.heap.size := by
  obtain ⟨cur, h1, _⟩ := h
  exact lt_of_block h1
theorem RowV.cell {w : World} {g : Nat} {t : TypeId} {xs : List Value} (h : RowV w g t xs) {j : Nat} {v : Value} (hj : xs[j]? = some v) : w.cell? ⟨g, j, none⟩ = some v := by
  obtain ⟨cur, h1, h2, h3⟩ := h
  have hl : j < xs.length := by
    rcases Nat.lt_or_ge j xs.length with hh | hh
    · exact hh
    · rw [List.getElem?_eq_none hh] at hj; cases hj
  simp [World.cell?, h1, h3 j hl, hj]
theorem RowV.frozen {w : World} {g : Nat} {t : TypeId} {xs : List Value} (h : RowV w g t xs) (j : Nat) : w.frozen? ⟨g, j, none⟩ = false := by
  obtain ⟨cur, h1, _⟩ := h
  simp [World.frozen?, h1]
theorem RowV.below {w w' : World} {g : Nat} {t : TypeId} {xs : List Value} (h : RowV w g t xs) (hb : Below w.heap.size w w') : RowV w' g t xs := by
  have hl := h.lt
  obtain ⟨cur, h1, h2⟩ := h
  exact ⟨cur, (hb.block _ hl).trans h1, h2⟩
theorem RowV.set {w : World} {g : Nat} {t : TypeId} {xs : List Value} (h : RowV w g t xs) (j : Nat) (v : Value) : RowV (w.setCell ⟨g, j, none⟩ v) g t (xs.set j v) := by
  obtain ⟨cur, h1, h2, h3⟩ := h
  refine ⟨cur.setIfInBounds j v, box_setV h1 v, by simpa using h2, fun i hi => ?_⟩
  have hi' : i < xs.length := by simpa using hi
  by_cases e : j = i
  · subst e
    simp [hi', Nat.lt_of_lt_of_le hi' h2]
  · simp [e, h3 i hi']
theorem RowV.other {w : World} {g g' : Nat} {t : TypeId} {xs : List Value} (h : RowV w g t xs) (hne : g ≠ g') (j : Nat) (v : Value) : RowV (w.setCell ⟨g', j, none⟩ v) g t xs := by
  obtain ⟨cur, h1, h2⟩ := h
  exact ⟨cur, other_blockV h1 hne v, h2⟩
theorem RowV.made {w : World} {g n : Nat} {t : TypeId} {x : Value} (h : w.heap[g]? = some (.cells (madeCells #[x] n) t (0, 0))) : RowV w g t (List.replicate n x) := by
  refine ⟨_, h, by simp [size_madeCells], fun j hj => ?_⟩
  rw [← Array.getElem?_toList, toList_madeCells_one]
theorem RowV.of_own {w : World} {lo g n c : Nat} {t : TypeId} {xs : List Value} (h : w.ownsRow lo t 1 (.slice (some ⟨g, 0, none⟩) n c) n xs) : RowV w g t xs ∧ lo ≤ g := by
  obtain ⟨h1, h2⟩ := h
  rcases h2 with ⟨h2, _⟩ | ⟨g', cap, cur, hv, hg, hh, r1, r2, r3, r4⟩
  · cases h2
  · simp only [Value.slice.injEq, Option.some.injEq, Addr.mk.injEq, and_true, true_and] at hv
    obtain ⟨rfl, rfl⟩ := hv
    refine ⟨⟨cur, hh, by omega, fun j hj => ?_⟩, hg⟩
    rw [← r4, List.getElem?_take, if_pos (by omega), ← Array.getElem?_toList]

/-- Numbers, Booleans as values. -/
abbrev vI (l : List Int) : List Value := l.map (Value.int .i64)
abbrev vB (l : List Bool) : List Value := l.map Value.bool
theorem vI_at {l : List Int} {j : Nat} (h : j < l.length) : (vI l)[j]? = some (.int .i64 (l.getD j 0)) := by simp [vI, List.getD, h]
theorem vB_at {l : List Bool} {j : Nat} (h : j < l.length) : (vB l)[j]? = some (.bool (l.getD j false)) := by simp [vB, List.getD, h]
theorem vI_set (l : List Int) (j : Nat) (v : Int) : (vI l).set j (.int .i64 v) = vI (l.set j v) := by simp [vI, List.map_set]
theorem vB_set (l : List Bool) (j : Nat) (v : Bool) : (vB l).set j (.bool v) = vB (l.set j v) := by simp [vB, List.map_set]
theorem RowV.low {w : World} {lo g n c : Nat} {l : List Int} (h : RowV w g 3 (vI l)) (hlo : lo ≤ g) (hn : l.length = n) (hb : n * 8 ≤ 140737488351232) : IntsLo lo w (.slice (some ⟨g, 0, none⟩) n c) l :=
  ⟨_, c, by rw [hn], by rw [hn]; exact hb, fun _ => ⟨g, 0, rfl, hlo, h.lt, fun j hj => by rw [Nat.zero_add]; exact h.cell (vI_at hj)⟩⟩

end Go.Proofs.Ytlcdefpdahjjeaf
