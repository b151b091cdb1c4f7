/- Frames that a call has made itself, and what stores into them do. Plain laws, without the program. -/
import Derived.Test.YtlcdefpdahjjeagDoorOwn
namespace Go.Proofs.YtlcdefpdahjjeagDoor
open Go.RowKit
set_option maxRecDepth 100000

abbrev nilv : Value := .slice none 0 0

theorem own_ne {w : World} {lo n g : Nat} {e e' : TypeId} {v : Value} {xs : List Value} {cur : Array Value} (h : w.ownsRow lo e 1 v n xs) (hg : w.heap[g]? = some (.cells cur e' (0, 0))) (hne : e ≠ e') : v.ownBlock ≠ some g := by
  intro hv
  rcases h.2 with ⟨rfl, _⟩ | ⟨g', cap, cur', rfl, _, hg', _⟩
  · simp [Value.ownBlock] at hv
  · simp [Value.ownBlock] at hv
    subst hv
    rw [hg] at hg'
    simp at hg'
    exact hne hg'.2.symm

theorem own_block {w : World} {lo n m g cap : Nat} {e : TypeId} {xs : List Value} (h : w.ownsRow lo e 1 (.slice (some ⟨g, 0, none⟩) n cap) m xs) : (∃ cur, w.heap[g]? = some (.cells cur e (0, 0))) ∧ n = m := by
  rcases h.2 with ⟨h0, _⟩ | ⟨g', c, cur, h0, _, hg, _⟩
  · simp at h0
  · simp only [Value.slice.injEq, Option.some.injEq, Addr.mk.injEq, and_true] at h0
    obtain ⟨rfl, rfl, rfl⟩ := h0
    exact ⟨⟨cur, hg⟩, rfl⟩

/-- Slices of the call's own: the outer one, the inner ones' values, what they hold. -/
structure OwnD (w : World) (lo : Nat) (dv : Value) (rows : List Value) (D : List (List Int)) : Prop where
  top : w.ownsRow lo 22 1 dv D.length rows
  each : ∀ i, i < D.length → OwnI w lo (rows.getD i nilv) (D.getD i [])
  apart : ∀ i j, i < D.length → j < D.length → i ≠ j → ∀ g, (rows.getD i nilv).ownBlock = some g → (rows.getD j nilv).ownBlock ≠ some g

theorem OwnD.len {w : World} {lo : Nat} {dv : Value} {rows : List Value} {D : List (List Int)} (h : OwnD w lo dv rows D) : rows.length = D.length := by
  have := h.top.1; omega

theorem OwnD.below {w w' : World} {lo : Nat} {dv : Value} {rows : List Value} {D : List (List Int)} (h : OwnD w lo dv rows D) (hb : Below w.heap.size w w') : OwnD w' lo dv rows D :=
  ⟨ownsRow_below h.top hb, fun i hi => (h.each i hi).below hb, h.apart⟩

theorem getD_set {α : Type} (l : List α) (i j : Nat) (x d : α) (hi : i < l.length) : (l.set i x).getD j d = if j = i then x else l.getD j d := by
  by_cases e : j = i
  · subst e; simp [List.getD, hi]
  · simp [List.getD, e, Ne.symm e]

/-- A row is put into its place. -/
theorem OwnD.putRow {w : World} {lo n cap gd i : Nat} {u : Value} {rows : List Value} {D : List (List Int)} {l : List Int} (h : OwnD w lo (.slice (some ⟨gd, 0, none⟩) n cap) rows D) (hi : i < D.length)
    (hu : OwnI w lo u l) (hap : ∀ j, j < D.length → j ≠ i → ∀ g, u.ownBlock = some g → (rows.getD j nilv).ownBlock ≠ some g) :
    OwnD (w.setCell ⟨gd, i, none⟩ u) lo (.slice (some ⟨gd, 0, none⟩) n cap) (rows.set i u) (D.set i l) := by
  have hlen := h.len
  obtain ⟨⟨cur, hgd⟩, hn⟩ := own_block h.top
  subst hn
  refine ⟨?_, fun j hj => ?_, fun a b ha hb hab g hg => ?_⟩
  · have := (h.top.stored i u).1
    simpa using this
  · simp at hj
    rw [getD_set _ _ _ _ _ (by omega), getD_set _ _ _ _ _ hi]
    by_cases e : j = i
    · rw [if_pos e, if_pos e]
      exact ownsRow_setCell_other hu (own_ne hu hgd (by decide)) u
    · rw [if_neg e, if_neg e]
      exact ownsRow_setCell_other (h.each j hj) (own_ne (h.each j hj) hgd (by decide)) u
  · simp at ha hb
    rw [getD_set _ _ _ _ _ (by omega)] at hg ⊢
    by_cases e1 : a = i
    · rw [if_pos e1] at hg
      rw [if_neg (by omega)]
      exact hap b hb (by omega) g hg
    · rw [if_neg e1] at hg
      by_cases e2 : b = i
      · rw [if_pos e2]
        intro hu'
        exact hap a ha e1 g hu' hg
      · rw [if_neg e2]
        exact h.apart a b ha hb hab g hg

theorem OwnD.set_same {w : World} {lo i : Nat} {dv : Value} {rows : List Value} {D : List (List Int)} (h : OwnD w lo dv rows D) {l : List Int} (hi : i < D.length) (hu : OwnI w lo (rows.getD i nilv) l) : OwnD w lo dv rows (D.set i l) := by
  refine ⟨by simpa using h.top, fun j hj => ?_, fun a b ha hb => h.apart a b (by simpa using ha) (by simpa using hb)⟩
  simp at hj
  rw [getD_set _ _ _ _ _ hi]
  by_cases e : j = i
  · rw [if_pos e, e]; exact hu
  · rw [if_neg e]; exact h.each j hj

/-- A store into a block that is none of theirs. -/
theorem OwnD.other {w : World} {lo : Nat} {dv : Value} {rows : List Value} {D : List (List Int)} (h : OwnD w lo dv rows D) {a : Addr} (h1 : dv.ownBlock ≠ some a.block) (h2 : ∀ i, i < D.length → (rows.getD i nilv).ownBlock ≠ some a.block) (u : Value) : OwnD (w.setCell a u) lo dv rows D :=
  ⟨ownsRow_setCell_other h.top h1 u, fun i hi => ownsRow_setCell_other (h.each i hi) (h2 i hi) u, h.apart⟩

/-- A store into a block of another type. -/
theorem OwnD.otherType {w : World} {lo : Nat} {dv : Value} {rows : List Value} {D : List (List Int)} (h : OwnD w lo dv rows D) {a : Addr} {cur : Array Value} {t : TypeId} (ha : w.heap[a.block]? = some (.cells cur t (0, 0))) (h1 : 22 ≠ t) (h2 : 3 ≠ t) (u : Value) : OwnD (w.setCell a u) lo dv rows D :=
  h.other (own_ne h.top ha h1) (fun i hi => own_ne (h.each i hi) ha h2) u

theorem OwnI.stored {w : World} {lo g cap n i : Nat} {l : List Int} (h : OwnI w lo (.slice (some ⟨g, 0, none⟩) n cap) l) (x : Int) : OwnI (w.setCell ⟨g, i, none⟩ (.int .i64 x)) lo (.slice (some ⟨g, 0, none⟩) n cap) (l.set i x) := by
  obtain ⟨_, hn⟩ := own_block h
  subst hn
  have := (World.ownsRow.stored h i (.int .i64 x)).1
  simpa [OwnI, List.map_set] using this

/-- A word of a row is written. -/
theorem OwnD.putWord {w : World} {lo i k g cap n : Nat} {dv : Value} {rows : List Value} {D : List (List Int)} (h : OwnD w lo dv rows D) (hi : i < D.length) (hr : rows.getD i nilv = .slice (some ⟨g, 0, none⟩) n cap) (x : Int) :
    OwnD (w.setCell ⟨g, k, none⟩ (.int .i64 x)) lo dv rows (D.set i ((D.getD i []).set k x)) := by
  have hei := h.each i hi
  rw [hr] at hei
  obtain ⟨⟨cur, hg⟩, _⟩ := own_block hei
  refine ⟨by simpa using ownsRow_setCell_other (a := ⟨g, k, none⟩) h.top (own_ne h.top hg (by decide)) _, fun j hj => ?_, fun a b ha hb => h.apart a b (by simpa using ha) (by simpa using hb)⟩
  simp at hj
  rw [getD_set _ _ _ _ _ hi]
  by_cases e : j = i
  · rw [if_pos e, e, hr]
    exact OwnI.stored hei x
  · rw [if_neg e]
    exact ownsRow_setCell_other (a := ⟨g, k, none⟩) (h.each j hj) (h.apart i j hi hj (Ne.symm e) g (by rw [hr]; rfl)) _

theorem OwnD.rows_lo {w : World} {lo : Nat} {dv : Value} {rows : List Value} {D : List (List Int)} (h : OwnD w lo dv rows D) (h1 : D.length * 24 ≤ 140737488351232) (h2 : ∀ i, i < D.length → (D.getD i []).length * 8 ≤ 140737488351232) : RowsLo lo w dv D := by
  by_cases h0 : 0 < D.length
  · obtain ⟨g, cap, rfl, hlo, hlt, _, hc, _⟩ := ownsRow_at h.top h0
    refine ⟨_, cap, rfl, h1, fun _ => ⟨g, 0, rfl, hlo, hlt, fun j hj => ⟨rows.getD j nilv, ?_, (h.each j hj).low (h2 j hj)⟩⟩⟩
    have := h.len
    rw [Nat.zero_add, hc j hj]
    simp [List.getD, show j < rows.length by omega]
  · have hv : ∃ A c, dv = .slice A D.length c := by
      rcases h.top.2 with ⟨rfl, hn⟩ | ⟨g, cap, cur, rfl, _⟩
      · exact ⟨none, 0, by rw [hn]⟩
      · exact ⟨_, _, rfl⟩
    obtain ⟨A, c, rfl⟩ := hv
    exact ⟨A, c, rfl, h1, fun h => absurd h h0⟩
theorem OwnD.rows_at {w : World} {lo : Nat} {dv : Value} {rows : List Value} {D : List (List Int)} (h : OwnD w lo dv rows D) (h1 : D.length * 24 ≤ 140737488351232) (h2 : ∀ i, i < D.length → (D.getD i []).length * 8 ≤ 140737488351232) : RowsAt w dv D := (h.rows_lo h1 h2).at

/-- Frames of the call's own. -/
structure OwnF (w : World) (lo : Nat) (dv rv : Value) (rows : List Value) (D : List (List Int)) (R : List Int) : Prop where
  dat : OwnD w lo dv rows D
  ref : OwnI w lo rv R
  off : ∀ i, i < D.length → ∀ g, rv.ownBlock = some g → (rows.getD i nilv).ownBlock ≠ some g

theorem OwnF.below {w w' : World} {lo : Nat} {dv rv : Value} {rows : List Value} {D : List (List Int)} {R : List Int} (h : OwnF w lo dv rv rows D R) (hb : Below w.heap.size w w') : OwnF w' lo dv rv rows D R :=
  ⟨h.dat.below hb, h.ref.below hb, h.off⟩

theorem OwnF.otherType {w : World} {lo : Nat} {dv rv : Value} {rows : List Value} {D : List (List Int)} {R : List Int} (h : OwnF w lo dv rv rows D R) {a : Addr} {cur : Array Value} {t : TypeId} (ha : w.heap[a.block]? = some (.cells cur t (0, 0))) (h1 : 22 ≠ t) (h2 : 3 ≠ t) (u : Value) : OwnF (w.setCell a u) lo dv rv rows D R :=
  ⟨h.dat.otherType ha h1 h2 u, ownsRow_setCell_other h.ref (own_ne h.ref ha h2) u, h.off⟩

theorem OwnF.shape {w : World} {lo : Nat} {dv rv : Value} {rows : List Value} {D : List (List Int)} {R : List Int} (h : OwnF w lo dv rv rows D R) : ∃ A c B c', dv = .slice A D.length c ∧ rv = .slice B R.length c' := by
  obtain ⟨B, c', hr⟩ := h.ref.shape
  rcases h.dat.top.2 with ⟨hd, hn⟩ | ⟨g, cap, cur, hd, _⟩
  · exact ⟨none, 0, B, c', by rw [hd, hn], hr⟩
  · exact ⟨_, _, B, c', hd, hr⟩

/-- Where there are frames: the blocks, their cells. -/
theorem OwnF.opened {w : World} {lo : Nat} {dv rv : Value} {rows : List Value} {D : List (List Int)} {R : List Int} (h : OwnF w lo dv rv rows D R) (hD : 0 < D.length) (hR : 0 < R.length) :
    ∃ gd cd gr cr, dv = .slice (some ⟨gd, 0, none⟩) D.length cd ∧ rv = .slice (some ⟨gr, 0, none⟩) R.length cr ∧ lo ≤ gd ∧ gd < w.heap.size ∧ lo ≤ gr ∧ gr < w.heap.size ∧ gd ≠ gr ∧
      (∀ j, j < D.length → w.cell? ⟨gd, j, none⟩ = some (rows.getD j nilv)) ∧ (∀ j, w.frozen? ⟨gd, j, none⟩ = false) ∧ (∀ j, j < R.length → w.cell? ⟨gr, j, none⟩ = some (.int .i64 (R.getD j 0))) ∧ (∀ j, w.frozen? ⟨gr, j, none⟩ = false) := by
  obtain ⟨gd, cd, hd, l1, l2, ⟨cur, hb⟩, hc, hf⟩ := ownsRow_at h.dat.top hD
  obtain ⟨gr, cr, hr, l3, l4, _, hc', hf'⟩ := ownsRow_at h.ref hR
  have hlen := h.dat.len
  refine ⟨gd, cd, gr, cr, hd, hr, l1, l2, l3, l4, fun e => ?_, fun j hj => ?_, hf, fun j hj => ?_, hf'⟩
  · subst e
    exact own_ne h.ref hb (by decide) (by rw [hr]; rfl)
  · rw [hc j hj]
    simp [List.getD, show j < rows.length by omega]
  · rw [hc' j hj]
    simp [List.getD, hj]

theorem OwnF.mono {w : World} {lo lo' : Nat} {dv rv : Value} {rows : List Value} {D : List (List Int)} {R : List Int} (h : OwnF w lo dv rv rows D R) (hlo : lo' ≤ lo) : OwnF w lo' dv rv rows D R :=
  ⟨⟨ownsRow_mono h.dat.top hlo, fun i hi => ownsRow_mono (h.dat.each i hi) hlo, h.dat.apart⟩, ownsRow_mono h.ref hlo, h.off⟩

theorem OwnF.rowsAt {w w0 : World} {lo : Nat} {dv rv v0 : Value} {rows : List Value} {D : List (List Int)} {R : List Int} (h : OwnF w lo dv rv rows D R) (h0 : RowsAt w0 v0 D) : RowsAt w dv D := h.dat.rows_at h0.bounds.1 h0.bounds.2
theorem OwnF.intsAt {w w0 : World} {lo : Nat} {dv rv v0 : Value} {rows : List Value} {D : List (List Int)} {R : List Int} (h : OwnF w lo dv rv rows D R) (h0 : IntsAt w0 v0 R) : IntsAt w rv R := h.ref.at h0.bound

/-- Both fields of a struct of the call's own are stored. -/
theorem OwnF.store2 {w : World} {lo b : Nat} {dv rv x y : Value} {rows : List Value} {D : List (List Int)} {R : List Int} {t : TypeId} (h : OwnF w lo dv rv rows D R) (hb : w.heap[b]? = some (.cells #[x, y] t (0, 0))) (h1 : 22 ≠ t) (h2 : 3 ≠ t) (u u' : Value) :
    OwnF ((w.setCell ⟨b, 0, none⟩ u).setCell ⟨b, 1, none⟩ u') lo dv rv rows D R := by
  have hb' : (w.setCell ⟨b, 0, none⟩ u).heap[b]? = some (.cells #[u, y] t (0, 0)) := by
    simp [World.setCell, Array.getElem?_modify, hb]
  exact (h.otherType (a := ⟨b, 0, none⟩) hb h1 h2 u).otherType (a := ⟨b, 1, none⟩) hb' h1 h2 u'

/-- How many know a frame is written. -/
theorem OwnF.putRef {w : World} {lo i g cap n : Nat} {dv : Value} {rows : List Value} {D : List (List Int)} {R : List Int} (h : OwnF w lo dv (.slice (some ⟨g, 0, none⟩) n cap) rows D R) (x : Int) :
    OwnF (w.setCell ⟨g, i, none⟩ (.int .i64 x)) lo dv (.slice (some ⟨g, 0, none⟩) n cap) rows D (R.set i x) := by
  obtain ⟨⟨cur, hg⟩, _⟩ := own_block h.ref
  exact ⟨h.dat.other (a := ⟨g, i, none⟩) (own_ne h.dat.top hg (by decide)) (fun j hj => h.off j hj g rfl) _, OwnI.stored h.ref x, h.off⟩

/-- The words of a frame are put into their place. -/
theorem OwnF.putRow {w : World} {lo n cap gd i : Nat} {u rv : Value} {rows : List Value} {D : List (List Int)} {R l : List Int} (h : OwnF w lo (.slice (some ⟨gd, 0, none⟩) n cap) rv rows D R) (hi : i < D.length)
    (hu : OwnI w lo u l) (hap : ∀ j, j < D.length → j ≠ i → ∀ g, u.ownBlock = some g → (rows.getD j nilv).ownBlock ≠ some g) (hr : ∀ g, rv.ownBlock = some g → u.ownBlock ≠ some g) :
    OwnF (w.setCell ⟨gd, i, none⟩ u) lo (.slice (some ⟨gd, 0, none⟩) n cap) rv (rows.set i u) (D.set i l) R := by
  obtain ⟨⟨cur, hgd⟩, _⟩ := own_block h.dat.top
  have hlen := h.dat.len
  refine ⟨h.dat.putRow hi hu hap, ownsRow_setCell_other (a := ⟨gd, i, none⟩) h.ref (own_ne h.ref hgd (by decide)) u, fun j hj g hg => ?_⟩
  simp at hj
  rw [getD_set _ _ _ _ _ (by omega)]
  by_cases e : j = i
  · rw [if_pos e]; exact hr g hg
  · rw [if_neg e]; exact h.off j hj g hg

/-- A word of a frame is written. -/
theorem OwnF.putWord {w : World} {lo i k g cap n : Nat} {dv rv : Value} {rows : List Value} {D : List (List Int)} {R : List Int} (h : OwnF w lo dv rv rows D R) (hi : i < D.length) (hr : rows.getD i nilv = .slice (some ⟨g, 0, none⟩) n cap) (x : Int) :
    OwnF (w.setCell ⟨g, k, none⟩ (.int .i64 x)) lo dv rv rows (D.set i ((D.getD i []).set k x)) R :=
  ⟨h.dat.putWord hi hr x, ownsRow_setCell_other (a := ⟨g, k, none⟩) h.ref (fun hv => h.off i hi g hv (by rw [hr]; rfl)) _, fun j hj => h.off j (by simpa using hj)⟩

/-- Blocks that lie behind all of theirs are apart from them. -/
theorem OwnD.fresh {w : World} {lo : Nat} {dv : Value} {rows : List Value} {D : List (List Int)} (h : OwnD w lo dv rows D) {u : Value} (hu : ∀ g, u.ownBlock = some g → w.heap.size ≤ g) (j : Nat) (hj : j < D.length) (g : Nat) (hg : u.ownBlock = some g) : (rows.getD j nilv).ownBlock ≠ some g := fun e => by
  have := ((h.each j hj).lt g e).2
  have := hu g hg
  omega

theorem OwnF.fresh {w : World} {lo : Nat} {dv rv : Value} {rows : List Value} {D : List (List Int)} {R : List Int} (h : OwnF w lo dv rv rows D R) {u : Value} (hu : ∀ g, u.ownBlock = some g → w.heap.size ≤ g) (g : Nat) (hg : rv.ownBlock = some g) : u.ownBlock ≠ some g := fun e => by
  have := (h.ref.lt g hg).2
  have := hu g e
  omega

/-- A row with words: its block. -/
theorem OwnI.opened {w : World} {lo : Nat} {v : Value} {l : List Int} (h : OwnI w lo v l) (hl : 0 < l.length) :
    ∃ g c, v = .slice (some ⟨g, 0, none⟩) l.length c ∧ lo ≤ g ∧ g < w.heap.size ∧ (∀ i, i < l.length → w.cell? ⟨g, i, none⟩ = some (.int .i64 (l.getD i 0))) ∧ ∀ i, w.frozen? ⟨g, i, none⟩ = false := by
  obtain ⟨g, c, rfl, h1, h2, _, h3, h4⟩ := ownsRow_at h hl
  exact ⟨g, c, rfl, h1, h2, fun i hi => by rw [h3 i hi]; simp [List.getD, hi], h4⟩

end Go.Proofs.YtlcdefpdahjjeagDoor
