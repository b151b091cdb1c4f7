/- Slices over numbers, and over such, that lie in blocks of a kind. -/
import Derived.Test.YtlcdefpdahjjeafBase
namespace Go.Proofs.Ytlcdefpdahjjeaf
open Go.RowKit

/-- The value is a slice over these numbers, in a block of this kind. -/
def IntsB (P : Nat → Prop) (w : World) (v : Value) (l : List Int) : Prop :=
  ∃ (A : Option Addr) (c : Nat), v = .slice A l.length c ∧ l.length * 8 ≤ 140737488351232 ∧
    (0 < l.length → ∃ b off, A = some ⟨b, off, none⟩ ∧ P b ∧ b < w.heap.size ∧ ∀ j, j < l.length → w.cell? ⟨b, off + j, none⟩ = some (.int .i64 (l.getD j 0)))
def RowsB (P : Nat → Prop) (w : World) (v : Value) (D : List (List Int)) : Prop :=
  ∃ (A : Option Addr) (c : Nat), v = .slice A D.length c ∧ D.length * 24 ≤ 140737488351232 ∧
    (0 < D.length → ∃ b off, A = some ⟨b, off, none⟩ ∧ P b ∧ b < w.heap.size ∧ ∀ j, j < D.length → ∃ u, w.cell? ⟨b, off + j, none⟩ = some u ∧ IntsB P w u (D.getD j []))

theorem IntsB.at {P : Nat → Prop} {w : World} {v : Value} {l : List Int} (h : IntsB P w v l) : IntsAt w v l := by
  obtain ⟨A, c, e, hl, hc⟩ := h
  exact ⟨A, c, e, hl, fun h0 => let ⟨b, off, e, _, h1, h2⟩ := hc h0; ⟨b, off, e, h1, h2⟩⟩
theorem RowsB.at {P : Nat → Prop} {w : World} {v : Value} {D : List (List Int)} (h : RowsB P w v D) : RowsAt w v D := by
  obtain ⟨A, c, e, hl, hc⟩ := h
  exact ⟨A, c, e, hl, fun h0 => let ⟨b, off, e, _, h1, h2⟩ := hc h0; ⟨b, off, e, h1, fun j hj => let ⟨u, h3, h4⟩ := h2 j hj; ⟨u, h3, h4.at⟩⟩⟩
theorem IntsB.mono {P P' : Nat → Prop} {w : World} {v : Value} {l : List Int} (h : IntsB P w v l) (hp : ∀ b, b < w.heap.size → P b → P' b) : IntsB P' w v l := by
  obtain ⟨A, c, e, hl, hc⟩ := h
  exact ⟨A, c, e, hl, fun h0 => let ⟨b, off, e, h3, h1, h2⟩ := hc h0; ⟨b, off, e, hp b h1 h3, h1, h2⟩⟩
theorem RowsB.mono {P P' : Nat → Prop} {w : World} {v : Value} {D : List (List Int)} (h : RowsB P w v D) (hp : ∀ b, b < w.heap.size → P b → P' b) : RowsB P' w v D := by
  obtain ⟨A, c, e, hl, hc⟩ := h
  exact ⟨A, c, e, hl, fun h0 => let ⟨b, off, e, h3, h1, h2⟩ := hc h0; ⟨b, off, e, hp b h1 h3, h1, fun j hj => let ⟨u, h4, h5⟩ := h2 j hj; ⟨u, h4, h5.mono hp⟩⟩⟩
theorem IntsAt.inB {w : World} {v : Value} {l : List Int} (h : IntsAt w v l) : IntsB (fun b => b < w.heap.size) w v l := by
  obtain ⟨A, c, e, hl, hc⟩ := h
  exact ⟨A, c, e, hl, fun h0 => let ⟨b, off, e, h1, h2⟩ := hc h0; ⟨b, off, e, h1, h1, h2⟩⟩
theorem RowsAt.inB {w : World} {v : Value} {D : List (List Int)} (h : RowsAt w v D) : RowsB (fun b => b < w.heap.size) w v D := by
  obtain ⟨A, c, e, hl, hc⟩ := h
  exact ⟨A, c, e, hl, fun h0 => let ⟨b, off, e, h1, h2⟩ := hc h0; ⟨b, off, e, h1, h1, fun j hj => let ⟨u, h3, h4⟩ := h2 j hj; ⟨u, h3, h4.inB⟩⟩⟩
theorem IntsLo.inB {lo : Nat} {w : World} {v : Value} {l : List Int} (h : IntsLo lo w v l) : IntsB (fun b => lo ≤ b) w v l := h
theorem RowsLo.inB {lo : Nat} {w : World} {v : Value} {D : List (List Int)} (h : RowsLo lo w v D) : RowsB (fun b => lo ≤ b) w v D := h
theorem IntsB.below {P : Nat → Prop} {w w' : World} {v : Value} {l : List Int} (h : IntsB P w v l) (hb : Below w.heap.size w w') : IntsB P w' v l := by
  obtain ⟨A, c, e, hl, hc⟩ := h
  refine ⟨A, c, e, hl, fun h0 => ?_⟩
  obtain ⟨b, off, e, h3, h1, h2⟩ := hc h0
  exact ⟨b, off, e, h3, Nat.lt_of_lt_of_le h1 hb.size, fun j hj => (hb.cell (p := ⟨b, off + j, none⟩) h1).trans (h2 j hj)⟩
theorem RowsB.below {P : Nat → Prop} {w w' : World} {v : Value} {D : List (List Int)} (h : RowsB P w v D) (hb : Below w.heap.size w w') : RowsB P w' v D := by
  obtain ⟨A, c, e, hl, hc⟩ := h
  refine ⟨A, c, e, hl, fun h0 => ?_⟩
  obtain ⟨b, off, e, h3, h1, h2⟩ := hc h0
  refine ⟨b, off, e, h3, Nat.lt_of_lt_of_le h1 hb.size, fun j hj => ?_⟩
  obtain ⟨u, h4, h5⟩ := h2 j hj
  exact ⟨u, (hb.cell (p := ⟨b, off + j, none⟩) h1).trans h4, h5.below hb⟩
theorem cell_set_ne (w : World) (b i c o : Nat) (u : Value) (h : c ≠ b) : (w.setCell ⟨b, i, none⟩ u).cell? ⟨c, o, none⟩ = w.cell? ⟨c, o, none⟩ := by
  simp only [World.cell?]
  rw [Below.heap_setCell _ _ _ _ h]
theorem IntsB.setCell {P : Nat → Prop} {w : World} {v : Value} {l : List Int} (h : IntsB P w v l) {b i : Nat} (hb : ¬ P b) (u : Value) : IntsB P (w.setCell ⟨b, i, none⟩ u) v l := by
  obtain ⟨A, c, e, hl, hc⟩ := h
  refine ⟨A, c, e, hl, fun h0 => ?_⟩
  obtain ⟨b', off, e, h3, h1, h2⟩ := hc h0
  have hne : b' ≠ b := fun e => hb (e ▸ h3)
  exact ⟨b', off, e, h3, by simpa using h1, fun j hj => (cell_set_ne _ _ _ _ _ _ hne).trans (h2 j hj)⟩
theorem RowsB.setCell {P : Nat → Prop} {w : World} {v : Value} {D : List (List Int)} (h : RowsB P w v D) {b i : Nat} (hb : ¬ P b) (u : Value) : RowsB P (w.setCell ⟨b, i, none⟩ u) v D := by
  obtain ⟨A, c, e, hl, hc⟩ := h
  refine ⟨A, c, e, hl, fun h0 => ?_⟩
  obtain ⟨b', off, e, h3, h1, h2⟩ := hc h0
  have hne : b' ≠ b := fun e => hb (e ▸ h3)
  refine ⟨b', off, e, h3, by simpa using h1, fun j hj => ?_⟩
  obtain ⟨x, h4, h5⟩ := h2 j hj
  exact ⟨x, (cell_set_ne _ _ _ _ _ _ hne).trans h4, h5.setCell hb u⟩

end Go.Proofs.Ytlcdefpdahjjeaf
