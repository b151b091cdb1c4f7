/- What slices of numbers, slices of such slices and frames hold in a world: notions and plain laws, without the program. -/
import Derived.WalkKit
import Derived.Deep.Matrix
import Derived.Deep.Draws
import Derived.WalkSmall
import Derived.Deep.OwnRows
namespace Go.Proofs.Ytgjlomccdgpnnaa
open Go.RowKit
set_option maxRecDepth 100000

/-- The value is a slice over these numbers. -/
def IntsAt (w : World) (v : Value) (l : List Int) : Prop :=
  ∃ (A : Option Addr) (c : Nat), v = .slice A l.length c ∧ l.length * 8 ≤ 140737488351232 ∧
    (0 < l.length → ∃ b off, A = some ⟨b, off, none⟩ ∧ b < w.heap.size ∧ ∀ j, j < l.length → w.cell? ⟨b, off + j, none⟩ = some (.int .i64 (l.getD j 0)))

/-- The value is a slice over slices over these numbers. -/
def RowsAt (w : World) (v : Value) (D : List (List Int)) : Prop :=
  ∃ (A : Option Addr) (c : Nat), v = .slice A D.length c ∧ D.length * 24 ≤ 140737488351232 ∧
    (0 < D.length → ∃ b off, A = some ⟨b, off, none⟩ ∧ b < w.heap.size ∧ ∀ j, j < D.length → ∃ u, w.cell? ⟨b, off + j, none⟩ = some u ∧ IntsAt w u (D.getD j []))

theorem IntsAt.below {w w' : World} {v : Value} {l : List Int} (h : IntsAt w v l) (hb : Below w.heap.size w w') : IntsAt w' v l := by
  obtain ⟨A, c, rfl, hl, hc⟩ := h
  refine ⟨A, c, rfl, hl, fun h0 => ?_⟩
  obtain ⟨b, off, rfl, hlt, hj⟩ := hc h0
  exact ⟨b, off, rfl, Nat.lt_of_lt_of_le hlt hb.size, fun j hjl => (hb.cell (p := ⟨b, off + j, none⟩) hlt).trans (hj j hjl)⟩

theorem IntsAt.drewN {w : World} {v : Value} {l : List Int} (h : IntsAt w v l) (n : Nat) : IntsAt (w.drewN n) v l := h

theorem RowsAt.below {w w' : World} {v : Value} {D : List (List Int)} (h : RowsAt w v D) (hb : Below w.heap.size w w') : RowsAt w' v D := by
  obtain ⟨A, c, rfl, hl, hc⟩ := h
  refine ⟨A, c, rfl, hl, fun h0 => ?_⟩
  obtain ⟨b, off, rfl, hlt, hj⟩ := hc h0
  refine ⟨b, off, rfl, Nat.lt_of_lt_of_le hlt hb.size, fun j hjl => ?_⟩
  obtain ⟨u, hu, hi⟩ := hj j hjl
  exact ⟨u, (hb.cell (p := ⟨b, off + j, none⟩) hlt).trans hu, hi.below hb⟩

theorem RowsAt.bounds {w : World} {v : Value} {D : List (List Int)} (h : RowsAt w v D) : D.length * 24 ≤ 140737488351232 ∧ ∀ i, i < D.length → (D.getD i []).length * 8 ≤ 140737488351232 := by
  obtain ⟨A, c, _, hl, hc⟩ := h
  refine ⟨hl, fun i hi => ?_⟩
  obtain ⟨_, _, _, _, hj⟩ := hc (by omega)
  obtain ⟨u, _, _, _, _, h8, _⟩ := hj i hi
  exact h8
theorem IntsAt.bound {w : World} {v : Value} {l : List Int} (h : IntsAt w v l) : l.length * 8 ≤ 140737488351232 := by
  obtain ⟨_, _, _, hl, _⟩ := h
  exact hl

theorem RowsAt.drew {w : World} {v : Value} {D : List (List Int)} (h : RowsAt w v D) : RowsAt w.drew v D := h
theorem IntsAt.drew {w : World} {v : Value} {l : List Int} (h : IntsAt w v l) : IntsAt w.drew v l := h

/-- The same, the memory from block 'lo' on. -/
def IntsLo (lo : Nat) (w : World) (v : Value) (l : List Int) : Prop :=
  ∃ (A : Option Addr) (c : Nat), v = .slice A l.length c ∧ l.length * 8 ≤ 140737488351232 ∧
    (0 < l.length → ∃ b off, A = some ⟨b, off, none⟩ ∧ lo ≤ b ∧ b < w.heap.size ∧ ∀ j, j < l.length → w.cell? ⟨b, off + j, none⟩ = some (.int .i64 (l.getD j 0)))
def RowsLo (lo : Nat) (w : World) (v : Value) (D : List (List Int)) : Prop :=
  ∃ (A : Option Addr) (c : Nat), v = .slice A D.length c ∧ D.length * 24 ≤ 140737488351232 ∧
    (0 < D.length → ∃ b off, A = some ⟨b, off, none⟩ ∧ lo ≤ b ∧ b < w.heap.size ∧ ∀ j, j < D.length → ∃ u, w.cell? ⟨b, off + j, none⟩ = some u ∧ IntsLo lo w u (D.getD j []))

theorem IntsLo.at {lo : Nat} {w : World} {v : Value} {l : List Int} (h : IntsLo lo w v l) : IntsAt w v l := by
  obtain ⟨A, c, e, hl, hc⟩ := h
  exact ⟨A, c, e, hl, fun h0 => let ⟨b, off, e, _, h1, h2⟩ := hc h0; ⟨b, off, e, h1, h2⟩⟩
theorem RowsLo.at {lo : Nat} {w : World} {v : Value} {D : List (List Int)} (h : RowsLo lo w v D) : RowsAt w v D := by
  obtain ⟨A, c, e, hl, hc⟩ := h
  exact ⟨A, c, e, hl, fun h0 => let ⟨b, off, e, _, h1, h2⟩ := hc h0; ⟨b, off, e, h1, fun j hj => let ⟨u, h3, h4⟩ := h2 j hj; ⟨u, h3, h4.at⟩⟩⟩
theorem IntsLo.mono {lo lo' : Nat} {w : World} {v : Value} {l : List Int} (h : IntsLo lo w v l) (hlo : lo' ≤ lo) : IntsLo lo' w v l := by
  obtain ⟨A, c, e, hl, hc⟩ := h
  exact ⟨A, c, e, hl, fun h0 => let ⟨b, off, e, h, h1, h2⟩ := hc h0; ⟨b, off, e, by omega, h1, h2⟩⟩
theorem RowsLo.mono {lo lo' : Nat} {w : World} {v : Value} {D : List (List Int)} (h : RowsLo lo w v D) (hlo : lo' ≤ lo) : RowsLo lo' w v D := by
  obtain ⟨A, c, e, hl, hc⟩ := h
  exact ⟨A, c, e, hl, fun h0 => let ⟨b, off, e, h, h1, h2⟩ := hc h0; ⟨b, off, e, by omega, h1, fun j hj => let ⟨u, h3, h4⟩ := h2 j hj; ⟨u, h3, h4.mono hlo⟩⟩⟩
/-- A store below 'lo' leaves them as they are. -/
theorem IntsLo.setCell {lo : Nat} {w : World} {v : Value} {l : List Int} (h : IntsLo lo w v l) {a : Addr} (ha : a.block < lo) (u : Value) : IntsLo lo (w.setCell a u) v l := by
  obtain ⟨A, c, e, hl, hc⟩ := h
  refine ⟨A, c, e, hl, fun h0 => ?_⟩
  obtain ⟨b, off, e, h, h1, h2⟩ := hc h0
  refine ⟨b, off, e, h, by simpa using h1, fun j hj => ?_⟩
  rw [World.cell?_of_block (a := ⟨b, off + j, none⟩) (Go.Deep.blk_setCell_other _ _ _ _ (by simp; omega)), h2 j hj]
theorem RowsLo.setCell {lo : Nat} {w : World} {v : Value} {D : List (List Int)} (h : RowsLo lo w v D) {a : Addr} (ha : a.block < lo) (u : Value) : RowsLo lo (w.setCell a u) v D := by
  obtain ⟨A, c, e, hl, hc⟩ := h
  refine ⟨A, c, e, hl, fun h0 => ?_⟩
  obtain ⟨b, off, e, h, h1, h2⟩ := hc h0
  refine ⟨b, off, e, h, by simpa using h1, fun j hj => ?_⟩
  obtain ⟨x, h3, h4⟩ := h2 j hj
  refine ⟨x, ?_, h4.setCell ha u⟩
  rw [World.cell?_of_block (a := ⟨b, off + j, none⟩) (Go.Deep.blk_setCell_other _ _ _ _ (by simp; omega)), h3]
theorem IntsLo.below {lo : Nat} {w w' : World} {v : Value} {l : List Int} (h : IntsLo lo w v l) (hb : Below w.heap.size w w') : IntsLo lo w' v l := by
  obtain ⟨A, c, rfl, hl, hc⟩ := h
  refine ⟨A, c, rfl, hl, fun h0 => ?_⟩
  obtain ⟨b, off, rfl, h, hlt, hj⟩ := hc h0
  exact ⟨b, off, rfl, h, Nat.lt_of_lt_of_le hlt hb.size, fun j hjl => (hb.cell (p := ⟨b, off + j, none⟩) hlt).trans (hj j hjl)⟩
theorem RowsLo.below {lo : Nat} {w w' : World} {v : Value} {D : List (List Int)} (h : RowsLo lo w v D) (hb : Below w.heap.size w w') : RowsLo lo w' v D := by
  obtain ⟨A, c, rfl, hl, hc⟩ := h
  refine ⟨A, c, rfl, hl, fun h0 => ?_⟩
  obtain ⟨b, off, rfl, h, hlt, hj⟩ := hc h0
  refine ⟨b, off, rfl, h, Nat.lt_of_lt_of_le hlt hb.size, fun j hjl => ?_⟩
  obtain ⟨u, hu, hi⟩ := hj j hjl
  exact ⟨u, (hb.cell (p := ⟨b, off + j, none⟩) hlt).trans hu, hi.below hb⟩
theorem RowsLo.drew {lo : Nat} {w : World} {v : Value} {D : List (List Int)} (h : RowsLo lo w v D) : RowsLo lo w.drew v D := h
theorem IntsLo.drew {lo : Nat} {w : World} {v : Value} {l : List Int} (h : IntsLo lo w v l) : IntsLo lo w.drew v l := h

theorem bcell {W w1 : World} (hb : Below W.heap.size W w1) : (∀ b o, b < W.heap.size → w1.cell? ⟨b, o, none⟩ = W.cell? ⟨b, o, none⟩) ∧ (∀ b o, b < W.heap.size → w1.frozen? ⟨b, o, none⟩ = W.frozen? ⟨b, o, none⟩) :=
  ⟨fun b o h => hb.cell (p := ⟨b, o, none⟩) h, fun b o h => hb.frozen (p := ⟨b, o, none⟩) h⟩

theorem drewN_two (w : World) (n m : Nat) : ∃ k, (w.drewN n).drewN m = w.drewN k := ⟨n + m, by simp [World.drewN, Nat.add_assoc]⟩

/-- A struct of two fields in a block of its own. -/
theorem two_cells {w : World} {b : Nat} {x y : Value} {t : TypeId} (h : w.heap[b]? = some (.cells #[x, y] t (0, 0))) :
    w.cell? ⟨b, 0, none⟩ = some x ∧ w.cell? ⟨b, 1, none⟩ = some y ∧ (∀ j, w.frozen? ⟨b, j, none⟩ = false) ∧ b < w.heap.size :=
  ⟨by simp [World.cell?, h], by simp [World.cell?, h], fun j => by simp [World.frozen?, h], lt_of_block h⟩

theorem box_kept {w w1 : World} {o : Obj} (hb : Below (w.alloc o).heap.size (w.alloc o) w1) : w1.heap[w.heap.size]? = some o := by
  rw [hb.block _ (by simp), Go.Deep.blk_alloc_new]

theorem below_alloc (w : World) (o : Obj) : Below w.heap.size w (w.alloc o) := (Below.refl _ _).alloc (Nat.le_refl _) _

end Go.Proofs.Ytgjlomccdgpnnaa
