/- Memory that a call has made itself: slices of numbers, slices of such slices, frames; what stores into it do. Plain laws, without the program. -/
import Derived.Test.YtecpblabaelopaaGreatDoorBasePart
import Derived.WalkSpells
import Derived.Deep.OwnRows
namespace Go.Proofs.YtecpblabaelopaaGreatDoor
open Go.RowKit
set_option maxRecDepth 100000


def OwnI (w : World) (lo : Nat) (v : Value) (l : List Int) : Prop := w.ownsRow lo 3 1 v l.length (l.map (Value.int .i64))

theorem ownsRow_below {w w' : World} {base : Nat} {e : TypeId} {size : Nat} {v : Value} {n : Nat} {xs : List Value} (h : w.ownsRow base e size v n xs) (hb : Below w.heap.size w w') : w'.ownsRow base e size v n xs := by
  obtain ⟨h1, h2⟩ := h
  refine ⟨h1, ?_⟩
  rcases h2 with h2 | ⟨g, cap, cur, hv, hg, hh, r⟩
  · exact Or.inl h2
  · exact Or.inr ⟨g, cap, cur, hv, hg, by rw [hb.block g (lt_of_block hh)]; exact hh, r⟩

theorem ownsRow_mono {w : World} {base base' : Nat} {e : TypeId} {size : Nat} {v : Value} {n : Nat} {xs : List Value} (h : w.ownsRow base e size v n xs) (hb : base' ≤ base) : w.ownsRow base' e size v n xs := by
  obtain ⟨h1, h2⟩ := h
  refine ⟨h1, ?_⟩
  rcases h2 with h2 | ⟨g, cap, cur, hv, hg, r⟩
  · exact Or.inl h2
  · exact Or.inr ⟨g, cap, cur, hv, by omega, r⟩

theorem ownsRow_at {w : World} {base : Nat} {e : TypeId} {v : Value} {n : Nat} {xs : List Value} (h : w.ownsRow base e 1 v n xs) (hn : 0 < n) :
    ∃ g cap, v = .slice (some ⟨g, 0, none⟩) n cap ∧ base ≤ g ∧ g < w.heap.size ∧ (∃ cur, w.heap[g]? = some (.cells cur e (0, 0))) ∧ (∀ j, j < n → w.cell? ⟨g, j, none⟩ = xs[j]?) ∧ (∀ j, w.frozen? ⟨g, j, none⟩ = false) := by
  have h' := h
  obtain ⟨h1, h2⟩ := h
  rcases h2 with ⟨_, h2⟩ | ⟨g, cap, cur, rfl, hg, hh, r⟩
  · omega
  · exact ⟨g, cap, rfl, hg, lt_of_block hh, ⟨cur, hh⟩, fun j hj => h'.cellAt j (by omega), fun j => h'.frozenAt j⟩

theorem OwnI.low {w : World} {lo : Nat} {v : Value} {l : List Int} (h : OwnI w lo v l) (hl : l.length * 8 ≤ 140737488351232) : IntsLo lo w v l := by
  by_cases h0 : 0 < l.length
  · obtain ⟨g, cap, rfl, hlo, hlt, _, hc, _⟩ := ownsRow_at h h0
    refine ⟨_, cap, rfl, hl, fun _ => ⟨g, 0, rfl, hlo, hlt, fun j hj => ?_⟩⟩
    rw [Nat.zero_add, hc j hj]
    simp [List.getD, hj]
  · have hv : ∃ A c, v = .slice A l.length c := by
      rcases h.2 with ⟨rfl, hn⟩ | ⟨g, cap, cur, rfl, _⟩
      · exact ⟨none, 0, by rw [hn]⟩
      · exact ⟨_, _, rfl⟩
    obtain ⟨A, c, rfl⟩ := hv
    exact ⟨A, c, rfl, hl, fun h => absurd h h0⟩
theorem OwnI.at {w : World} {lo : Nat} {v : Value} {l : List Int} (h : OwnI w lo v l) (hl : l.length * 8 ≤ 140737488351232) : IntsAt w v l := (h.low hl).at

theorem OwnI.snoc {w : World} {lo : Nat} {v : Value} {l l' : List Int} {x : Int} (h : w.ownsRow lo 3 1 v (l.length + 1) (l.map (Value.int .i64) ++ [.int .i64 x])) (e : l' = l ++ [x]) : OwnI w lo v l' := by
  subst e
  simpa [OwnI] using h

theorem grown_below {B : Nat} {w0 w w' : World} {v : Value} {base : Nat} {e : TypeId} {size n : Nat} {xs : List Value} (hb : Below B w0 w) (ho : w.ownsRow base e size v n xs) (hB : B ≤ base) (hB' : B ≤ w.heap.size) {o : Obj} (hg : (w.alloc o).grownBy w' v.ownBlock) : Below B w0 w' :=
  (hb.alloc hB' o).grown hg (by simp; omega) (fun k hk => by have := (ho.lt k hk).1; omega)

theorem OwnI.shape {w : World} {lo : Nat} {v : Value} {l : List Int} (h : OwnI w lo v l) : ∃ A c, v = .slice A l.length c := by
  rcases h.2 with ⟨rfl, hn⟩ | ⟨g, cap, cur, rfl, _⟩
  · exact ⟨none, 0, by rw [hn]⟩
  · exact ⟨_, _, rfl⟩

theorem OwnI.below {w w' : World} {lo : Nat} {v : Value} {l : List Int} (h : OwnI w lo v l) (hb : Below w.heap.size w w') : OwnI w' lo v l := ownsRow_below h hb

end Go.Proofs.YtecpblabaelopaaGreatDoor

/- Frames that a call has made itself, and what stores into them do. Plain laws, without the program. -/

namespace Go.Proofs.YtecpblabaelopaaGreatDoor
open Go.RowKit
set_option maxRecDepth 100000

abbrev nilv : Value := .slice none 0 0

theorem own_ne {w : World} {lo n g : Nat} {e e' : TypeId} {v : Value} {xs : List Value} {cur : Array Value} (h : w.ownsRow lo e 1 v n xs) (hg : w.heap[g]? = some (.cells cur e' (0, 0))) (hne : e ≠ e') : v.ownBlock ≠ some g := by
  intro hv
  rcases h.2 with ⟨rfl, _⟩ | ⟨g', cap, cur', rfl, _, hg', _⟩
  · simp [Value.ownBlock] at hv
  · simp [Value.ownBlock] at hv
    subst hv
    rw [hg] at hg'
    simp at hg'
    exact hne hg'.2.symm

theorem own_block {w : World} {lo n m g cap : Nat} {e : TypeId} {xs : List Value} (h : w.ownsRow lo e 1 (.slice (some ⟨g, 0, none⟩) n cap) m xs) : (∃ cur, w.heap[g]? = some (.cells cur e (0, 0))) ∧ n = m := by
  rcases h.2 with ⟨h0, _⟩ | ⟨g', c, cur, h0, _, hg, _⟩
  · simp at h0
  · simp only [Value.slice.injEq, Option.some.injEq, Addr.mk.injEq, and_true] at h0
    obtain ⟨rfl, rfl, rfl⟩ := h0
    exact ⟨⟨cur, hg⟩, rfl⟩

structure OwnD (w : World) (lo : Nat) (dv : Value) (rows : List Value) (D : List (List Int)) : Prop where
  top : w.ownsRow lo 24 1 dv D.length rows
  each : ∀ i, i < D.length → OwnI w lo (rows.getD i nilv) (D.getD i [])
  apart : ∀ i j, i < D.length → j < D.length → i ≠ j → ∀ g, (rows.getD i nilv).ownBlock = some g → (rows.getD j nilv).ownBlock ≠ some g

theorem OwnD.len {w : World} {lo : Nat} {dv : Value} {rows : List Value} {D : List (List Int)} (h : OwnD w lo dv rows D) : rows.length = D.length := by
  have := h.top.1; omega

theorem OwnD.below {w w' : World} {lo : Nat} {dv : Value} {rows : List Value} {D : List (List Int)} (h : OwnD w lo dv rows D) (hb : Below w.heap.size w w') : OwnD w' lo dv rows D :=
  ⟨ownsRow_below h.top hb, fun i hi => (h.each i hi).below hb, h.apart⟩

theorem getD_set {α : Type} (l : List α) (i j : Nat) (x d : α) (hi : i < l.length) : (l.set i x).getD j d = if j = i then x else l.getD j d := by
  by_cases e : j = i
  · subst e; simp [List.getD, hi]
  · simp [List.getD, e, Ne.symm e]

theorem OwnD.putRow {w : World} {lo n cap gd i : Nat} {u : Value} {rows : List Value} {D : List (List Int)} {l : List Int} (h : OwnD w lo (.slice (some ⟨gd, 0, none⟩) n cap) rows D) (hi : i < D.length)
    (hu : OwnI w lo u l) (hap : ∀ j, j < D.length → j ≠ i → ∀ g, u.ownBlock = some g → (rows.getD j nilv).ownBlock ≠ some g) :
    OwnD (w.setCell ⟨gd, i, none⟩ u) lo (.slice (some ⟨gd, 0, none⟩) n cap) (rows.set i u) (D.set i l) := by
  have hlen := h.len
  obtain ⟨⟨cur, hgd⟩, hn⟩ := own_block h.top
  subst hn
  refine ⟨?_, fun j hj => ?_, fun a b ha hb hab g hg => ?_⟩
  · have := (h.top.stored i u).1
    simpa using this
  · simp at hj
    rw [getD_set _ _ _ _ _ (by omega), getD_set _ _ _ _ _ hi]
    by_cases e : j = i
    · rw [if_pos e, if_pos e]
      exact ownsRow_setCell_other hu (own_ne hu hgd (by decide)) u
    · rw [if_neg e, if_neg e]
      exact ownsRow_setCell_other (h.each j hj) (own_ne (h.each j hj) hgd (by decide)) u
  · simp at ha hb
    rw [getD_set _ _ _ _ _ (by omega)] at hg ⊢
    by_cases e1 : a = i
    · rw [if_pos e1] at hg
      rw [if_neg (by omega)]
      exact hap b hb (by omega) g hg
    · rw [if_neg e1] at hg
      by_cases e2 : b = i
      · rw [if_pos e2]
        intro hu'
        exact hap a ha e1 g hu' hg
      · rw [if_neg e2]
        exact h.apart a b ha hb hab g hg

theorem OwnD.set_same {w : World} {lo i : Nat} {dv : Value} {rows : List Value} {D : List (List Int)} (h : OwnD w lo dv rows D) {l : List Int} (hi : i < D.length) (hu : OwnI w lo (rows.getD i nilv) l) : OwnD w lo dv rows (D.set i l) := by
  refine ⟨by simpa using h.top, fun j hj => ?_, fun a b ha hb => h.apart a b (by simpa using ha) (by simpa using hb)⟩
  simp at hj
  rw [getD_set _ _ _ _ _ hi]
  by_cases e : j = i
  · rw [if_pos e, e]; exact hu
  · rw [if_neg e]; exact h.each j hj

theorem OwnD.other {w : World} {lo : Nat} {dv : Value} {rows : List Value} {D : List (List Int)} (h : OwnD w lo dv rows D) {a : Addr} (h1 : dv.ownBlock ≠ some a.block) (h2 : ∀ i, i < D.length → (rows.getD i nilv).ownBlock ≠ some a.block) (u : Value) : OwnD (w.setCell a u) lo dv rows D :=
  ⟨ownsRow_setCell_other h.top h1 u, fun i hi => ownsRow_setCell_other (h.each i hi) (h2 i hi) u, h.apart⟩

theorem OwnD.otherType {w : World} {lo : Nat} {dv : Value} {rows : List Value} {D : List (List Int)} (h : OwnD w lo dv rows D) {a : Addr} {cur : Array Value} {t : TypeId} (ha : w.heap[a.block]? = some (.cells cur t (0, 0))) (h1 : 24 ≠ t) (h2 : 3 ≠ t) (u : Value) : OwnD (w.setCell a u) lo dv rows D :=
  h.other (own_ne h.top ha h1) (fun i hi => own_ne (h.each i hi) ha h2) u

theorem OwnI.stored {w : World} {lo g cap n i : Nat} {l : List Int} (h : OwnI w lo (.slice (some ⟨g, 0, none⟩) n cap) l) (x : Int) : OwnI (w.setCell ⟨g, i, none⟩ (.int .i64 x)) lo (.slice (some ⟨g, 0, none⟩) n cap) (l.set i x) := by
  obtain ⟨_, hn⟩ := own_block h
  subst hn
  have := (World.ownsRow.stored h i (.int .i64 x)).1
  simpa [OwnI, List.map_set] using this

theorem OwnD.putWord {w : World} {lo i k g cap n : Nat} {dv : Value} {rows : List Value} {D : List (List Int)} (h : OwnD w lo dv rows D) (hi : i < D.length) (hr : rows.getD i nilv = .slice (some ⟨g, 0, none⟩) n cap) (x : Int) :
    OwnD (w.setCell ⟨g, k, none⟩ (.int .i64 x)) lo dv rows (D.set i ((D.getD i []).set k x)) := by
  have hei := h.each i hi
  rw [hr] at hei
  obtain ⟨⟨cur, hg⟩, _⟩ := own_block hei
  refine ⟨by simpa using ownsRow_setCell_other (a := ⟨g, k, none⟩) h.top (own_ne h.top hg (by decide)) _, fun j hj => ?_, fun a b ha hb => h.apart a b (by simpa using ha) (by simpa using hb)⟩
  simp at hj
  rw [getD_set _ _ _ _ _ hi]
  by_cases e : j = i
  · rw [if_pos e, e, hr]
    exact OwnI.stored hei x
  · rw [if_neg e]
    exact ownsRow_setCell_other (a := ⟨g, k, none⟩) (h.each j hj) (h.apart i j hi hj (Ne.symm e) g (by rw [hr]; rfl)) _

structure OwnF (w : World) (lo : Nat) (dv rv : Value) (rows : List Value) (D : List (List Int)) (R : List Int) : Prop where
  dat : OwnD w lo dv rows D
  ref : OwnI w lo rv R
  off : ∀ i, i < D.length → ∀ g, rv.ownBlock = some g → (rows.getD i nilv).ownBlock ≠ some g

theorem OwnF.below {w w' : World} {lo : Nat} {dv rv : Value} {rows : List Value} {D : List (List Int)} {R : List Int} (h : OwnF w lo dv rv rows D R) (hb : Below w.heap.size w w') : OwnF w' lo dv rv rows D R :=
  ⟨h.dat.below hb, h.ref.below hb, h.off⟩

theorem OwnF.otherType {w : World} {lo : Nat} {dv rv : Value} {rows : List Value} {D : List (List Int)} {R : List Int} (h : OwnF w lo dv rv rows D R) {a : Addr} {cur : Array Value} {t : TypeId} (ha : w.heap[a.block]? = some (.cells cur t (0, 0))) (h1 : 24 ≠ t) (h2 : 3 ≠ t) (u : Value) : OwnF (w.setCell a u) lo dv rv rows D R :=
  ⟨h.dat.otherType ha h1 h2 u, ownsRow_setCell_other h.ref (own_ne h.ref ha h2) u, h.off⟩

theorem OwnF.shape {w : World} {lo : Nat} {dv rv : Value} {rows : List Value} {D : List (List Int)} {R : List Int} (h : OwnF w lo dv rv rows D R) : ∃ A c B c', dv = .slice A D.length c ∧ rv = .slice B R.length c' := by
  obtain ⟨B, c', hr⟩ := h.ref.shape
  rcases h.dat.top.2 with ⟨hd, hn⟩ | ⟨g, cap, cur, hd, _⟩
  · exact ⟨none, 0, B, c', by rw [hd, hn], hr⟩
  · exact ⟨_, _, B, c', hd, hr⟩

theorem OwnF.opened {w : World} {lo : Nat} {dv rv : Value} {rows : List Value} {D : List (List Int)} {R : List Int} (h : OwnF w lo dv rv rows D R) (hD : 0 < D.length) (hR : 0 < R.length) :
    ∃ gd cd gr cr, dv = .slice (some ⟨gd, 0, none⟩) D.length cd ∧ rv = .slice (some ⟨gr, 0, none⟩) R.length cr ∧ lo ≤ gd ∧ gd < w.heap.size ∧ lo ≤ gr ∧ gr < w.heap.size ∧ gd ≠ gr ∧
      (∀ j, j < D.length → w.cell? ⟨gd, j, none⟩ = some (rows.getD j nilv)) ∧ (∀ j, w.frozen? ⟨gd, j, none⟩ = false) ∧ (∀ j, j < R.length → w.cell? ⟨gr, j, none⟩ = some (.int .i64 (R.getD j 0))) ∧ (∀ j, w.frozen? ⟨gr, j, none⟩ = false) := by
  obtain ⟨gd, cd, hd, l1, l2, ⟨cur, hb⟩, hc, hf⟩ := ownsRow_at h.dat.top hD
  obtain ⟨gr, cr, hr, l3, l4, _, hc', hf'⟩ := ownsRow_at h.ref hR
  have hlen := h.dat.len
  refine ⟨gd, cd, gr, cr, hd, hr, l1, l2, l3, l4, fun e => ?_, fun j hj => ?_, hf, fun j hj => ?_, hf'⟩
  · subst e
    exact own_ne h.ref hb (by decide) (by rw [hr]; rfl)
  · rw [hc j hj]
    simp [List.getD, show j < rows.length by omega]
  · rw [hc' j hj]
    simp [List.getD, hj]

theorem OwnF.mono {w : World} {lo lo' : Nat} {dv rv : Value} {rows : List Value} {D : List (List Int)} {R : List Int} (h : OwnF w lo dv rv rows D R) (hlo : lo' ≤ lo) : OwnF w lo' dv rv rows D R :=
  ⟨⟨ownsRow_mono h.dat.top hlo, fun i hi => ownsRow_mono (h.dat.each i hi) hlo, h.dat.apart⟩, ownsRow_mono h.ref hlo, h.off⟩

theorem OwnF.putRef {w : World} {lo i g cap n : Nat} {dv : Value} {rows : List Value} {D : List (List Int)} {R : List Int} (h : OwnF w lo dv (.slice (some ⟨g, 0, none⟩) n cap) rows D R) (x : Int) :
    OwnF (w.setCell ⟨g, i, none⟩ (.int .i64 x)) lo dv (.slice (some ⟨g, 0, none⟩) n cap) rows D (R.set i x) := by
  obtain ⟨⟨cur, hg⟩, _⟩ := own_block h.ref
  exact ⟨h.dat.other (a := ⟨g, i, none⟩) (own_ne h.dat.top hg (by decide)) (fun j hj => h.off j hj g rfl) _, OwnI.stored h.ref x, h.off⟩

theorem OwnF.putRow {w : World} {lo n cap gd i : Nat} {u rv : Value} {rows : List Value} {D : List (List Int)} {R l : List Int} (h : OwnF w lo (.slice (some ⟨gd, 0, none⟩) n cap) rv rows D R) (hi : i < D.length)
    (hu : OwnI w lo u l) (hap : ∀ j, j < D.length → j ≠ i → ∀ g, u.ownBlock = some g → (rows.getD j nilv).ownBlock ≠ some g) (hr : ∀ g, rv.ownBlock = some g → u.ownBlock ≠ some g) :
    OwnF (w.setCell ⟨gd, i, none⟩ u) lo (.slice (some ⟨gd, 0, none⟩) n cap) rv (rows.set i u) (D.set i l) R := by
  obtain ⟨⟨cur, hgd⟩, _⟩ := own_block h.dat.top
  have hlen := h.dat.len
  refine ⟨h.dat.putRow hi hu hap, ownsRow_setCell_other (a := ⟨gd, i, none⟩) h.ref (own_ne h.ref hgd (by decide)) u, fun j hj g hg => ?_⟩
  simp at hj
  rw [getD_set _ _ _ _ _ (by omega)]
  by_cases e : j = i
  · rw [if_pos e]; exact hr g hg
  · rw [if_neg e]; exact h.off j hj g hg

theorem OwnF.putWord {w : World} {lo i k g cap n : Nat} {dv rv : Value} {rows : List Value} {D : List (List Int)} {R : List Int} (h : OwnF w lo dv rv rows D R) (hi : i < D.length) (hr : rows.getD i nilv = .slice (some ⟨g, 0, none⟩) n cap) (x : Int) :
    OwnF (w.setCell ⟨g, k, none⟩ (.int .i64 x)) lo dv rv rows (D.set i ((D.getD i []).set k x)) R :=
  ⟨h.dat.putWord hi hr x, ownsRow_setCell_other (a := ⟨g, k, none⟩) h.ref (fun hv => h.off i hi g hv (by rw [hr]; rfl)) _, fun j hj => h.off j (by simpa using hj)⟩

theorem OwnD.fresh {w : World} {lo : Nat} {dv : Value} {rows : List Value} {D : List (List Int)} (h : OwnD w lo dv rows D) {u : Value} (hu : ∀ g, u.ownBlock = some g → w.heap.size ≤ g) (j : Nat) (hj : j < D.length) (g : Nat) (hg : u.ownBlock = some g) : (rows.getD j nilv).ownBlock ≠ some g := fun e => by
  have := ((h.each j hj).lt g e).2
  have := hu g hg
  omega

theorem OwnF.fresh {w : World} {lo : Nat} {dv rv : Value} {rows : List Value} {D : List (List Int)} {R : List Int} (h : OwnF w lo dv rv rows D R) {u : Value} (hu : ∀ g, u.ownBlock = some g → w.heap.size ≤ g) (g : Nat) (hg : rv.ownBlock = some g) : u.ownBlock ≠ some g := fun e => by
  have := (h.ref.lt g hg).2
  have := hu g e
  omega

theorem OwnI.opened {w : World} {lo : Nat} {v : Value} {l : List Int} (h : OwnI w lo v l) (hl : 0 < l.length) :
    ∃ g c, v = .slice (some ⟨g, 0, none⟩) l.length c ∧ lo ≤ g ∧ g < w.heap.size ∧ (∀ i, i < l.length → w.cell? ⟨g, i, none⟩ = some (.int .i64 (l.getD i 0))) ∧ ∀ i, w.frozen? ⟨g, i, none⟩ = false := by
  obtain ⟨g, c, rfl, h1, h2, _, h3, h4⟩ := ownsRow_at h hl
  exact ⟨g, c, rfl, h1, h2, fun i hi => by rw [h3 i hi]; simp [List.getD, hi], h4⟩

end Go.Proofs.YtecpblabaelopaaGreatDoor

/- Frames that a call makes by append: what an append does to them. Plain laws, without the program. -/

namespace Go.Proofs.YtecpblabaelopaaGreatDoor
open Go.RowKit
set_option maxRecDepth 100000

theorem own_apart {w : World} {lo lo' n n' : Nat} {e e' : TypeId} {v v' : Value} {xs xs' : List Value} (h : w.ownsRow lo e 1 v n xs) (h' : w.ownsRow lo' e' 1 v' n' xs') (hne : e ≠ e') : v.ownBlock = none ∨ v.ownBlock ≠ v'.ownBlock := by
  cases hv : v.ownBlock with
  | none => exact Or.inl rfl
  | some g =>
    right
    intro e2
    rcases h'.2 with ⟨rfl, _⟩ | ⟨g', cap, cur, rfl, _, hg', _⟩
    · simp [Value.ownBlock] at e2
    · have : g = g' := by simpa [Value.ownBlock] using e2
      subst this
      exact own_ne h hg' hne hv

theorem OwnD.grown {w w' : World} {lo : Nat} {dv : Value} {rows : List Value} {D : List (List Int)} {row : Option Nat} (h : OwnD w lo dv rows D) (hg : w.grownBy w' row) (h1 : dv.ownBlock = none ∨ dv.ownBlock ≠ row) (h2 : ∀ i, i < D.length → (rows.getD i nilv).ownBlock = none ∨ (rows.getD i nilv).ownBlock ≠ row) : OwnD w' lo dv rows D :=
  ⟨h.top.kept hg h1, fun i hi => World.ownsRow.kept (h.each i hi) hg (h2 i hi), h.apart⟩

theorem getD_snoc {α : Type} (l : List α) (x d : α) (j : Nat) : (l ++ [x]).getD j d = if j < l.length then l.getD j d else if j = l.length then x else d := by
  by_cases h : j < l.length
  · rw [if_pos h, List.getD, List.getD, List.getElem?_append_left h]
  · by_cases e : j = l.length
    · subst e; simp [List.getD]
    · have : (l ++ [x]).length ≤ j := by simp; omega
      simp [List.getD, h, e, List.getElem?_eq_none this]

theorem OwnD.snoc {w w' : World} {lo : Nat} {dv dv' u : Value} {rows : List Value} {D : List (List Int)} {l : List Int} (h : OwnD w lo dv rows D) (hu : OwnI w lo u l) (hap : ∀ j, j < D.length → ∀ g, u.ownBlock = some g → (rows.getD j nilv).ownBlock ≠ some g)
    (hg : w.grownBy w' dv.ownBlock) (ho : w'.ownsRow lo 24 1 dv' (D.length + 1) (rows ++ [u])) : OwnD w' lo dv' (rows ++ [u]) (D ++ [l]) := by
  have hlen := h.len
  refine ⟨by simpa using ho, fun i hi => ?_, fun i j hi hj hij g hgi => ?_⟩
  · simp at hi
    rw [getD_snoc, getD_snoc, hlen]
    by_cases e : i < D.length
    · rw [if_pos e, if_pos e]
      exact World.ownsRow.kept (h.each i e) hg (own_apart (h.each i e) h.top (by decide))
    · have e2 : i = D.length := by omega
      rw [if_neg e, if_neg e, if_pos e2, if_pos e2]
      exact World.ownsRow.kept hu hg (own_apart hu h.top (by decide))
  · simp at hi hj
    rw [getD_snoc, hlen] at hgi ⊢
    by_cases e : i < D.length
    · rw [if_pos e] at hgi
      by_cases e2 : j < D.length
      · rw [if_pos e2]; exact h.apart i j e e2 hij g hgi
      · rw [if_neg e2, if_pos (by omega)]
        intro hu'
        exact hap i e g hu' hgi
    · rw [if_neg e, if_pos (by omega)] at hgi
      by_cases e2 : j < D.length
      · rw [if_pos e2]; exact hap j e2 g hgi
      · omega

theorem ownNil (w : World) (lo : Nat) : OwnI w lo nilv [] := World.ownsRow_nil _ _ _ _

theorem block_grown {w w' : World} {b : Nat} {o : Obj} {row : Option Nat} (h : w.heap[b]? = some o) (hg : w.grownBy w' row) (hne : row ≠ some b) : w'.heap[b]? = some o := by
  rw [hg.block b (lt_of_block h) (fun e => hne e.symm)]; exact h

end Go.Proofs.YtecpblabaelopaaGreatDoor

/- Facts on the type of numbers. -/

namespace Go.Proofs.YtecpblabaelopaaGreatDoor
open Go.RowKit
set_option maxRecDepth 100000

theorem infoInt : (Tryz.prog.info? 3).map (fun i => (i.zero, i.size, i.bytes)) = some (some (.int .i64 0), 1, 8) := by kernel_rfl

theorem take_snoc (l : List Int) (k : Nat) (h : k < l.length) : l.take (k + 1) = l.take k ++ [l.getD k 0] := by
  rw [List.take_succ_eq_append_getElem h]; simp [List.getD, h]

end Go.Proofs.YtecpblabaelopaaGreatDoor

/- New memory of zeros. -/

namespace Go.Proofs.YtecpblabaelopaaGreatDoor
open Go.RowKit

theorem OwnI.madeZ {w : World} {lo g n : Nat} (hlo : lo ≤ g) (hn : n ≤ maxLen) (h : w.heap[g]? = some (.cells (madeCells #[.int .i64 0] n) 3 (0, 0))) : OwnI w lo (.slice (some ⟨g, 0, none⟩) n n) (List.replicate n 0) := by
  refine ⟨by simp, Or.inr ⟨g, n, _, by simp, hlo, h, by simp, hn, by simp [size_madeCells], ?_⟩⟩
  rw [toList_madeCells_one]; simp

end Go.Proofs.YtecpblabaelopaaGreatDoor

/- Frames of a host, that are changed where they lie: notions and plain laws; what else is as it was. -/

namespace Go.Proofs.YtecpblabaelopaaGreatDoor
open Go.RowKit
set_option maxRecDepth 100000

structure Chg (F : Nat → Prop) (w w' : World) : Prop where
  os : w'.os = w.os
  tape : w'.tape = w.tape
  output : w'.output = w.output
  size : w.heap.size ≤ w'.heap.size
  kept : ∀ g, g < w.heap.size → ¬ F g → w'.heap[g]? = w.heap[g]?
theorem Chg.refl (F : Nat → Prop) (w : World) : Chg F w w := ⟨rfl, rfl, rfl, Nat.le_refl _, fun _ _ _ => rfl⟩
theorem Chg.of_below {F : Nat → Prop} {w w' : World} (h : Below w.heap.size w w') : Chg F w w' := ⟨h.os, h.tape, h.output, h.size, fun g hg _ => h.block g hg⟩
theorem Chg.mono {F G : Nat → Prop} {w w' : World} (h : Chg F w w') (hf : ∀ g, g < w.heap.size → F g → G g) : Chg G w w' := ⟨h.os, h.tape, h.output, h.size, fun g hg hn => h.kept g hg (fun e => hn (hf g hg e))⟩
theorem Chg.trans {F G : Nat → Prop} {w w1 w2 : World} (h : Chg F w w1) (k : Chg G w1 w2) (hf : ∀ g, G g → F g ∨ w.heap.size ≤ g) : Chg F w w2 :=
  ⟨k.os.trans h.os, k.tape.trans h.tape, k.output.trans h.output, Nat.le_trans h.size k.size, fun g hg hn => by
    rw [k.kept g (Nat.lt_of_lt_of_le hg h.size) (fun e => by rcases hf g e with e | e; exact hn e; omega)]
    exact h.kept g hg hn⟩
theorem Chg.set {F : Nat → Prop} {w w' : World} (h : Chg F w w') {a : Addr} (ha : F a.block ∨ w.heap.size ≤ a.block) (u : Value) : Chg F w (w'.setCell a u) :=
  ⟨h.os, h.tape, h.output, by simpa using h.size, fun g hg hn => by
    rw [Below.heap_setCell _ _ _ _ (fun e => by subst e; rcases ha with ha | ha; exact hn ha; omega)]
    exact h.kept g hg hn⟩
theorem Chg.alloc {F : Nat → Prop} {w w' : World} (h : Chg F w w') (o : Obj) : Chg F w (w'.alloc o) := h.trans (Chg.of_below (F := fun _ => False) (below_alloc w' o)) (fun _ e => e.elim)
theorem Chg.drew {F : Nat → Prop} {w w' : World} (h : Chg F w w') : Chg F w w'.drew := ⟨h.os, h.tape, h.output, h.size, h.kept⟩
theorem Chg.then_ {F : Nat → Prop} {w w1 w2 : World} (h : Chg F w w1) (k : Below w1.heap.size w1 w2) : Chg F w w2 := h.trans (Chg.of_below (F := fun _ => False) k) (fun _ e => e.elim)
theorem Chg.below {F : Nat → Prop} {w w' : World} (h : Chg F w w') {lo : Nat} (hlo : lo ≤ w.heap.size) (hf : ∀ g, F g → lo ≤ g) : Below lo w w' :=
  ⟨h.os, h.tape, h.output, h.size, fun g hg => h.kept g (by omega) (fun e => by have := hf g e; omega)⟩
theorem Chg.box {F : Nat → Prop} {w w' : World} (h : Chg F w w') {g : Nat} {o : Obj} (hg : w.heap[g]? = some o) (hn : ¬ F g) : w'.heap[g]? = some o := by rw [h.kept g (lt_of_block hg) hn]; exact hg
theorem Chg.owns {F : Nat → Prop} {w w' : World} (h : Chg F w w') {base : Nat} {e : TypeId} {size : Nat} {v : Value} {n : Nat} {xs : List Value} (k : w.ownsRow base e size v n xs) (hn : ∀ g, v.ownBlock = some g → ¬ F g) : w'.ownsRow base e size v n xs := by
  obtain ⟨h1, h2⟩ := k
  refine ⟨h1, ?_⟩
  rcases h2 with h2 | ⟨g, cap, cur, rfl, hg, hh, r⟩
  · exact Or.inl h2
  · exact Or.inr ⟨g, cap, cur, rfl, hg, h.box hh (hn g rfl), r⟩
theorem Chg.own {F : Nat → Prop} {w w' : World} (h : Chg F w w') {lo : Nat} {v : Value} {l : List Int} (k : OwnI w lo v l) (hn : ∀ g, v.ownBlock = some g → ¬ F g) : OwnI w' lo v l := h.owns k hn

structure HV where
  dv : Value
  rv : Value
  rows : List Value
def HV.foot (v : HV) (g : Nat) : Prop := v.dv.ownBlock = some g ∨ v.rv.ownBlock = some g ∨ ∃ i, (v.rows.getD i nilv).ownBlock = some g
structure HostAt (w : World) (lo hp : Nat) (v : HV) (D : List (List Int)) (R : List Int) : Prop where
  box : w.heap[hp]? = some (.cells #[v.dv, v.rv] 189 (0, 0))
  own : OwnF w lo v.dv v.rv v.rows D R
  len : D.length = R.length
  few : R.length ≤ 200
  le : lo ≤ hp
def HostTo (w : World) (lo hp : Nat) (v : HV) (D : List (List Int)) (R : List Int) (w' : World) : Prop :=
  ∃ v' : HV, HostAt w' lo hp v' D R ∧ (∀ g, v'.foot g → v.foot g ∨ w.heap.size ≤ g) ∧ Chg v.foot w w'

theorem OwnF.foot {w : World} {lo : Nat} {v : HV} {D : List (List Int)} {R : List Int} (h : OwnF w lo v.dv v.rv v.rows D R) {g : Nat} (hg : v.foot g) : lo ≤ g ∧ ∃ cur, w.heap[g]? = some (.cells cur 3 (0, 0)) ∨ w.heap[g]? = some (.cells cur 24 (0, 0)) := by
  have own : ∀ {e : TypeId} {u : Value} {n : Nat} {xs : List Value}, w.ownsRow lo e 1 u n xs → u.ownBlock = some g → lo ≤ g ∧ ∃ cur, w.heap[g]? = some (.cells cur e (0, 0)) := fun ho hu => by
    rcases ho.2 with ⟨rfl, _⟩ | ⟨g', cap, cur, rfl, hl, hh, _⟩
    · simp [Value.ownBlock] at hu
    · simp [Value.ownBlock] at hu
      subst hu
      exact ⟨hl, cur, hh⟩
  rcases hg with hg | hg | ⟨i, hg⟩
  · obtain ⟨h1, cur, h2⟩ := own h.dat.top hg
    exact ⟨h1, cur, Or.inr h2⟩
  · obtain ⟨h1, cur, h2⟩ := own h.ref hg
    exact ⟨h1, cur, Or.inl h2⟩
  · have hi : i < D.length := by
      by_cases hh : i < v.rows.length
      · have := h.dat.len; omega
      · have e0 : v.rows.getD i nilv = nilv := by simp [List.getD, List.getElem?_eq_none (show v.rows.length ≤ i by omega)]
        rw [e0] at hg
        simp [Value.ownBlock] at hg
    obtain ⟨h1, cur, h2⟩ := own (h.dat.each i hi) hg
    exact ⟨h1, cur, Or.inl h2⟩
theorem HostAt.foot_lt {w : World} {lo hp : Nat} {v : HV} {D : List (List Int)} {R : List Int} (h : HostAt w lo hp v D R) {g : Nat} (hg : v.foot g) : lo ≤ g ∧ g < w.heap.size := by
  obtain ⟨h1, cur, h2 | h2⟩ := h.own.foot hg
  · exact ⟨h1, lt_of_block h2⟩
  · exact ⟨h1, lt_of_block h2⟩
theorem HostAt.off {w : World} {lo hp : Nat} {v : HV} {D : List (List Int)} {R : List Int} (h : HostAt w lo hp v D R) {g : Nat} {cur : Array Value} {t : TypeId} (hg : w.heap[g]? = some (.cells cur t (0, 0))) (h1 : 3 ≠ t) (h2 : 24 ≠ t) : ¬ v.foot g := fun e => by
  obtain ⟨_, cur', h3 | h3⟩ := h.own.foot e
  · rw [hg] at h3; simp at h3; exact h1 h3.2.symm
  · rw [hg] at h3; simp at h3; exact h2 h3.2.symm
theorem HostAt.below {w w' : World} {lo hp : Nat} {v : HV} {D : List (List Int)} {R : List Int} (h : HostAt w lo hp v D R) (hb : Below w.heap.size w w') : HostAt w' lo hp v D R :=
  ⟨by rw [hb.block _ (lt_of_block h.box)]; exact h.box, h.own.below hb, h.len, h.few, h.le⟩
theorem HostAt.drew {w : World} {lo hp : Nat} {v : HV} {D : List (List Int)} {R : List Int} (h : HostAt w lo hp v D R) : HostAt w.drew lo hp v D R := h.below ((Below.refl _ w).drew)
theorem HostTo.drew {w w' : World} {lo hp : Nat} {v : HV} {D : List (List Int)} {R : List Int} (h : HostTo w lo hp v D R w') : HostTo w lo hp v D R w'.drew := by
  obtain ⟨v', a, b, c⟩ := h
  exact ⟨v', a.drew, b, c.drew⟩
theorem HostTo.same {w w' : World} {lo hp : Nat} {v : HV} {D : List (List Int)} {R : List Int} (h : HostAt w lo hp v D R) (hb : Below w.heap.size w w') : HostTo w lo hp v D R w' := ⟨v, h.below hb, fun _ e => Or.inl e, Chg.of_below hb⟩
theorem HostTo.trans {w w1 w2 : World} {lo hp : Nat} {v v1 : HV} {D2 : List (List Int)} {R2 : List Int} (hf : ∀ g, v1.foot g → v.foot g ∨ w.heap.size ≤ g) (hc : Chg v.foot w w1) (k : HostTo w1 lo hp v1 D2 R2 w2) : HostTo w lo hp v D2 R2 w2 := by
  obtain ⟨v2, h2, f2, c2⟩ := k
  refine ⟨v2, h2, fun g e => ?_, hc.trans c2 hf⟩
  rcases f2 g e with e | e
  · exact hf g e
  · exact Or.inr (Nat.le_trans hc.size e)
theorem HostAt.other {w : World} {lo hp p : Nat} {v : HV} {D : List (List Int)} {R : List Int} (h : HostAt w lo hp v D R) {cur : Array Value} {t : TypeId} (hp' : w.heap[p]? = some (.cells cur t (0, 0))) (h0 : p ≠ hp) (h1 : 24 ≠ t) (h2 : 3 ≠ t) (i : Nat) (u : Value) : HostAt (w.setCell ⟨p, i, none⟩ u) lo hp v D R :=
  ⟨by rw [Below.heap_setCell _ _ _ _ (Ne.symm h0)]; exact h.box, h.own.otherType (a := ⟨p, i, none⟩) hp' h1 h2 u, h.len, h.few, h.le⟩

theorem HostAt.opened {w : World} {lo hp : Nat} {v : HV} {D : List (List Int)} {R : List Int} (h : HostAt w lo hp v D R) (hR : 0 < R.length) :
    ∃ gd cd gr cr, v.dv = .slice (some ⟨gd, 0, none⟩) R.length cd ∧ v.rv = .slice (some ⟨gr, 0, none⟩) R.length cr ∧ gd < w.heap.size ∧ gr < w.heap.size ∧ gd ≠ gr ∧ hp ≠ gd ∧ hp ≠ gr ∧
      (∀ j, j < R.length → w.cell? ⟨gd, j, none⟩ = some (v.rows.getD j nilv)) ∧ (∀ j, w.frozen? ⟨gd, j, none⟩ = false) ∧ (∀ j, j < R.length → w.cell? ⟨gr, j, none⟩ = some (.int .i64 (R.getD j 0))) ∧ (∀ j, w.frozen? ⟨gr, j, none⟩ = false) := by
  have hl := h.len
  obtain ⟨gd, cd, gr, cr, e1, e2, l1, l2, l3, l4, hne, q1, q2, q3, q4⟩ := h.own.opened (by omega) hR
  rw [hl] at e1 q1
  have n1 : v.foot gd := Or.inl (by rw [e1]; rfl)
  have n2 : v.foot gr := Or.inr (Or.inl (by rw [e2]; rfl))
  exact ⟨gd, cd, gr, cr, e1, e2, l2, l4, hne, fun e => h.off h.box (by decide) (by decide) (e ▸ n1), fun e => h.off h.box (by decide) (by decide) (e ▸ n2), q1, q2, q3, q4⟩
theorem HostAt.shape {w : World} {lo hp : Nat} {v : HV} {D : List (List Int)} {R : List Int} (h : HostAt w lo hp v D R) : ∃ A c B c', v.dv = .slice A R.length c ∧ v.rv = .slice B R.length c' := by
  obtain ⟨A, c, B, c', h1, h2⟩ := h.own.shape
  exact ⟨A, c, B, c', by rw [h1, h.len], h2⟩
theorem HostAt.refs {w : World} {lo hp : Nat} {v : HV} {D : List (List Int)} {R : List Int} (h : HostAt w lo hp v D R) : IntsAt w v.rv R := h.own.ref.at (by have := h.few; omega)

theorem HostAt.putRef {w : World} {lo hp : Nat} {v : HV} {D : List (List Int)} {R : List Int} (h : HostAt w lo hp v D R) {gr n c : Nat} (e : v.rv = .slice (some ⟨gr, 0, none⟩) n c) (i : Nat) (x : Int) : HostTo w lo hp v D (R.set i x) (w.setCell ⟨gr, i, none⟩ (.int .i64 x)) := by
  have hf : v.foot gr := Or.inr (Or.inl (by rw [e]; rfl))
  have hn := h.off h.box (by decide) (by decide)
  refine ⟨v, ⟨?_, ?_, by simpa using h.len, by simpa using h.few, h.le⟩, fun _ e => Or.inl e, (Chg.refl _ _).set (Or.inl hf) _⟩
  · rw [Below.heap_setCell _ ⟨gr, i, none⟩ _ _ (fun e2 => hn (by have e3 : hp = gr := e2; rw [e3]; exact hf))]; exact h.box
  · have := h.own
    rw [e] at this ⊢
    exact this.putRef x
theorem HostAt.putRow {w : World} {lo hp : Nat} {v : HV} {D : List (List Int)} {R : List Int} (h : HostAt w lo hp v D R) {gd n c i : Nat} (e : v.dv = .slice (some ⟨gd, 0, none⟩) n c) (hi : i < R.length) {u : Value} {l : List Int} (hu : OwnI w lo u l) (hn : ∀ g, u.ownBlock = some g → ¬ v.foot g) :
    ∃ v' : HV, v'.dv = v.dv ∧ v'.rv = v.rv ∧ v'.rows = v.rows.set i u ∧ HostAt (w.setCell ⟨gd, i, none⟩ u) lo hp v' (D.set i l) R ∧ (∀ g, v'.foot g → v.foot g ∨ u.ownBlock = some g) ∧ Chg v.foot w (w.setCell ⟨gd, i, none⟩ u) := by
  have hf : v.foot gd := Or.inl (by rw [e]; rfl)
  have hb := h.off h.box (by decide) (by decide)
  have hl := h.len
  refine ⟨⟨v.dv, v.rv, v.rows.set i u⟩, rfl, rfl, rfl, ⟨?_, ?_, by simpa using h.len, h.few, h.le⟩, fun g hg => ?_, (Chg.refl _ _).set (Or.inl hf) _⟩
  · rw [Below.heap_setCell _ ⟨gd, i, none⟩ _ _ (fun e2 => hb (by have e3 : hp = gd := e2; rw [e3]; exact hf))]; exact h.box
  · have := h.own
    rw [e] at this ⊢
    exact this.putRow (by omega) hu (fun j hj _ g hg e2 => hn g hg (Or.inr (Or.inr ⟨j, e2⟩))) (fun g hg e2 => hn g e2 (Or.inr (Or.inl hg)))
  · rcases hg with hg | hg | ⟨j, hg⟩
    · exact Or.inl (Or.inl hg)
    · exact Or.inl (Or.inr (Or.inl hg))
    · simp only at hg
      by_cases hj : i < v.rows.length
      · rw [getD_set _ _ _ _ _ hj] at hg
        by_cases e2 : j = i
        · rw [if_pos e2] at hg; exact Or.inr hg
        · rw [if_neg e2] at hg; exact Or.inl (Or.inr (Or.inr ⟨j, hg⟩))
      · rw [List.set_eq_of_length_le (by omega)] at hg
        exact Or.inl (Or.inr (Or.inr ⟨j, hg⟩))
theorem HostAt.putWord {w : World} {lo hp : Nat} {v : HV} {D : List (List Int)} {R : List Int} (h : HostAt w lo hp v D R) {i k g n c : Nat} (hi : i < R.length) (hr : v.rows.getD i nilv = .slice (some ⟨g, 0, none⟩) n c) (x : Int) : HostTo w lo hp v (D.set i ((D.getD i []).set k x)) R (w.setCell ⟨g, k, none⟩ (.int .i64 x)) := by
  have hf : v.foot g := Or.inr (Or.inr ⟨i, by rw [hr]; rfl⟩)
  have hb := h.off h.box (by decide) (by decide)
  refine ⟨v, ⟨?_, h.own.putWord (by have := h.len; omega) hr x, by simpa using h.len, h.few, h.le⟩, fun _ e => Or.inl e, (Chg.refl _ _).set (Or.inl hf) _⟩
  rw [Below.heap_setCell _ ⟨g, k, none⟩ _ _ (fun e2 => hb (by have e3 : hp = g := e2; rw [e3]; exact hf))]; exact h.box
theorem HostAt.frame {w : World} {lo hp : Nat} {v : HV} {D : List (List Int)} {R : List Int} (h : HostAt w lo hp v D R) {i : Nat} (hi : i < R.length) (hl : (D.getD i []).length = 16) :
    ∃ g c, v.rows.getD i nilv = .slice (some ⟨g, 0, none⟩) 16 c ∧ v.foot g ∧ g < w.heap.size ∧ (∀ j, j < 16 → w.cell? ⟨g, j, none⟩ = some (.int .i64 ((D.getD i []).getD j 0))) ∧ (∀ j, w.frozen? ⟨g, j, none⟩ = false) := by
  obtain ⟨g, c, e, _, h2, h3, h4⟩ := (h.own.dat.each i (by have := h.len; omega)).opened (by omega)
  rw [hl] at e
  exact ⟨g, c, e, Or.inr (Or.inr ⟨i, by rw [e]; rfl⟩), h2, fun j hj => h3 j (by omega), h4⟩
theorem HostAt.occupy {w : World} {lo hp : Nat} {v : HV} {D : List (List Int)} {R : List Int} (h : HostAt w lo hp v D R) {gd gr n c m c' k : Nat} (e1 : v.dv = .slice (some ⟨gd, 0, none⟩) n c) (e2 : v.rv = .slice (some ⟨gr, 0, none⟩) m c') (hk : k < R.length) :
    HostTo w lo hp v (D.set k (List.replicate 16 0)) (R.set k 1) (((w.setCell ⟨gr, k, none⟩ (.int .i64 1)).alloc (.cells (madeCells #[.int .i64 0] 16) 3)).setCell ⟨gd, k, none⟩ (.slice (some ⟨w.heap.size, 0, none⟩) 16 16)) := by
  obtain ⟨v1, h1, f1, c1⟩ := h.putRef e2 k 1
  obtain ⟨A, ca, B, cb, s1, s2⟩ := h1.shape
  have e1' : v1.dv = v.dv := by
    have a := h1.box
    rw [c1.box h.box (h.off h.box (by decide) (by decide))] at a
    simp at a
    exact a.1.symm
  have hz : (w.setCell ⟨gr, k, none⟩ (.int .i64 1)).heap.size = w.heap.size := by simp
  have h2 := h1.below (below_alloc _ (.cells (madeCells #[.int .i64 0] 16) 3))
  have hlow : lo ≤ w.heap.size := by
    have := (h.foot_lt (g := gr) (Or.inr (Or.inl (by rw [e2]; rfl)))).1
    have := (h.foot_lt (g := gr) (Or.inr (Or.inl (by rw [e2]; rfl)))).2
    omega
  have hnew := Go.Deep.blk_alloc_new (w.setCell ⟨gr, k, none⟩ (.int .i64 1)) (.cells (madeCells #[.int .i64 0] 16) 3)
  rw [hz] at hnew
  have hu : OwnI ((w.setCell ⟨gr, k, none⟩ (.int .i64 1)).alloc (.cells (madeCells #[.int .i64 0] 16) 3)) lo (.slice (some ⟨w.heap.size, 0, none⟩) 16 16) (List.replicate 16 0) := OwnI.madeZ hlow (by decide) hnew
  obtain ⟨v3, r1, r2, r3, h3, f3, c3⟩ := h2.putRow (i := k) (e1'.trans e1) (by simpa using hk) hu (fun g hg e => by
    simp [Value.ownBlock] at hg
    have := (h1.foot_lt e).2
    omega)
  have hc0 : Chg v.foot w ((w.setCell ⟨gr, k, none⟩ (.int .i64 1)).alloc (.cells (madeCells #[.int .i64 0] 16) 3)) := c1.then_ (below_alloc _ _)
  refine ⟨v3, h3, fun g hg => ?_, hc0.trans c3 f1⟩
  rcases f3 g hg with e | e
  · exact f1 g e
  · simp [Value.ownBlock] at e
    exact Or.inr (by omega)
theorem HostTo.dv {w w' : World} {lo hp : Nat} {v v' : HV} {D D' : List (List Int)} {R R' : List Int} (h : HostAt w lo hp v D R) (h' : HostAt w' lo hp v' D' R') (hc : Chg v.foot w w') : v'.dv = v.dv ∧ v'.rv = v.rv := by
  have a := h'.box
  rw [hc.box h.box (h.off h.box (by decide) (by decide))] at a
  simp at a
  exact ⟨a.1.symm, a.2.symm⟩

end Go.Proofs.YtecpblabaelopaaGreatDoor
