/- A world, plainly: may it be? -/
import Derived.Test.YtecpblabaelopaaDoorBasePart
import Derived.Deep.DeepCutAuto
import Derived.Deep.LoopGhost
namespace Go.Proofs.YtecpblabaelopaaDoor
open Go.RowKit

/-- What a world has. -/
structure Wd where
  irqs : List Int
  values : List Int
  blocks : List (List Int)
  delays : List Int

/-- All from lo to hi. -/
def allIn (lo hi : Int) (l : List Int) : Bool := l.all fun x => inB x lo hi
theorem allIn_iff {lo hi : Int} {l : List Int} : allIn lo hi l = true ↔ ∀ i, i < l.length → inB (l.getD i 0) lo hi = true := by
  unfold allIn
  rw [List.all_eq_true]
  constructor
  · intro h i hi
    have e : l.getD i 0 = l[i] := by simp [List.getD, hi]
    rw [e]
    exact h _ (List.getElem_mem hi)
  · intro h x hx
    obtain ⟨i, hi, rfl⟩ := List.mem_iff_getElem.1 hx
    have e : l.getD i 0 = l[i] := by simp [List.getD, hi]
    rw [← e]
    exact h i hi
theorem allIn_no {lo hi : Int} {l : List Int} {k : Nat} (hk : k < l.length) (h : inB (l.getD k 0) lo hi = false) : allIn lo hi l = false := by
  cases e : allIn lo hi l with
  | false => rfl
  | true => rw [allIn_iff.1 e k hk] at h; exact absurd h (by decide)
theorem allIn_step {lo hi : Int} {l : List Int} {k : Nat} (h : ∀ i, i < k → inB (l.getD i 0) lo hi = true) (hk : inB (l.getD k 0) lo hi = true) : ∀ i, i < k + 1 → inB (l.getD i 0) lo hi = true := fun i hi => by
  by_cases e : i = k
  · subst e; exact hk
  · exact h i (by omega)
theorem allIn_word (l : List Int) : allIn (-1099511627776) 1099511627776 l = allB l := rfl

/-- Block by block. -/
def blocksNo : List (List Int) → Int
  | [] => 0
  | b :: r => if b.length = 16 then (if allB b = true then blocksNo r else 2) else 1
/-- All are such as may be so far: what is left tells. -/
theorem blocksNo_drop (D : List (List Int)) (k : Nat) (hk : k < D.length) : blocksNo (D.drop k) = if (D.getD k []).length = 16 then (if allB (D.getD k []) = true then blocksNo (D.drop (k + 1)) else 2) else 1 := by
  have e := List.drop_eq_getElem_cons hk
  have e2 : D.getD k [] = D[k] := by simp [List.getD, hk]
  rw [e, blocksNo, e2]

/-- More than there may be? -/
def Wd.fits (x : Wd) : Bool := decide (x.irqs.length ≤ 1000 ∧ x.values.length ≤ 1000 ∧ x.blocks.length ≤ 1000 ∧ x.delays.length ≤ 1000)
/-- What a world is refused for. -/
def worldNo (x : Wd) : Int :=
  if x.fits = true then (if allIn 0 3000 x.irqs = true ∧ allIn 0 3000 x.delays = true ∧ allB x.values = true then blocksNo x.blocks else 2) else 1

/-- A world in memory. -/
structure WdAt (w : World) (a b c d : Value) (x : Wd) : Prop where
  irqs : IntsAt w a x.irqs
  values : IntsAt w b x.values
  blocks : RowsAt w c x.blocks
  delays : IntsAt w d x.delays
theorem WdAt.below {w w' : World} {a b c d : Value} {x : Wd} (h : WdAt w a b c d x) (hb : Below w.heap.size w w') : WdAt w' a b c d x :=
  ⟨h.irqs.below hb, h.values.below hb, h.blocks.below hb, h.delays.below hb⟩

end Go.Proofs.YtecpblabaelopaaDoor

/- Memory that a call has made itself: slices of numbers, slices of such slices, frames; what stores into it do. Plain laws, without the program. -/

namespace Go.Proofs.YtecpblabaelopaaDoor
open Go.RowKit
set_option maxRecDepth 100000


/-- The value is a slice of the call's own (its block from 'lo' on) over these numbers. -/
def OwnI (w : World) (lo : Nat) (v : Value) (l : List Int) : Prop := w.ownsRow lo 3 1 v l.length (l.map (Value.int .i64))

theorem ownsRow_below {w w' : World} {base : Nat} {e : TypeId} {size : Nat} {v : Value} {n : Nat} {xs : List Value} (h : w.ownsRow base e size v n xs) (hb : Below w.heap.size w w') : w'.ownsRow base e size v n xs := by
  obtain ⟨h1, h2⟩ := h
  refine ⟨h1, ?_⟩
  rcases h2 with h2 | ⟨g, cap, cur, hv, hg, hh, r⟩
  · exact Or.inl h2
  · exact Or.inr ⟨g, cap, cur, hv, hg, by rw [hb.block g (lt_of_block hh)]; exact hh, r⟩

theorem ownsRow_mono {w : World} {base base' : Nat} {e : TypeId} {size : Nat} {v : Value} {n : Nat} {xs : List Value} (h : w.ownsRow base e size v n xs) (hb : base' ≤ base) : w.ownsRow base' e size v n xs := by
  obtain ⟨h1, h2⟩ := h
  refine ⟨h1, ?_⟩
  rcases h2 with h2 | ⟨g, cap, cur, hv, hg, r⟩
  · exact Or.inl h2
  · exact Or.inr ⟨g, cap, cur, hv, by omega, r⟩

/-- Where there is an element: the block, its cells, not frozen. -/
theorem ownsRow_at {w : World} {base : Nat} {e : TypeId} {v : Value} {n : Nat} {xs : List Value} (h : w.ownsRow base e 1 v n xs) (hn : 0 < n) :
    ∃ g cap, v = .slice (some ⟨g, 0, none⟩) n cap ∧ base ≤ g ∧ g < w.heap.size ∧ (∃ cur, w.heap[g]? = some (.cells cur e (0, 0))) ∧ (∀ j, j < n → w.cell? ⟨g, j, none⟩ = xs[j]?) ∧ (∀ j, w.frozen? ⟨g, j, none⟩ = false) := by
  have h' := h
  obtain ⟨h1, h2⟩ := h
  rcases h2 with ⟨_, h2⟩ | ⟨g, cap, cur, rfl, hg, hh, r⟩
  · omega
  · exact ⟨g, cap, rfl, hg, lt_of_block hh, ⟨cur, hh⟩, fun j hj => h'.cellAt j (by omega), fun j => h'.frozenAt j⟩

theorem OwnI.low {w : World} {lo : Nat} {v : Value} {l : List Int} (h : OwnI w lo v l) (hl : l.length * 8 ≤ 140737488351232) : IntsLo lo w v l := by
  by_cases h0 : 0 < l.length
  · obtain ⟨g, cap, rfl, hlo, hlt, _, hc, _⟩ := ownsRow_at h h0
    refine ⟨_, cap, rfl, hl, fun _ => ⟨g, 0, rfl, hlo, hlt, fun j hj => ?_⟩⟩
    rw [Nat.zero_add, hc j hj]
    simp [List.getD, hj]
  · have hv : ∃ A c, v = .slice A l.length c := by
      rcases h.2 with ⟨rfl, hn⟩ | ⟨g, cap, cur, rfl, _⟩
      · exact ⟨none, 0, by rw [hn]⟩
      · exact ⟨_, _, rfl⟩
    obtain ⟨A, c, rfl⟩ := hv
    exact ⟨A, c, rfl, hl, fun h => absurd h h0⟩
theorem OwnI.at {w : World} {lo : Nat} {v : Value} {l : List Int} (h : OwnI w lo v l) (hl : l.length * 8 ≤ 140737488351232) : IntsAt w v l := (h.low hl).at

theorem OwnI.snoc {w : World} {lo : Nat} {v : Value} {l l' : List Int} {x : Int} (h : w.ownsRow lo 3 1 v (l.length + 1) (l.map (Value.int .i64) ++ [.int .i64 x])) (e : l' = l ++ [x]) : OwnI w lo v l' := by
  subst e
  simpa [OwnI] using h

theorem grown_below {B : Nat} {w0 w w' : World} {v : Value} {base : Nat} {e : TypeId} {size n : Nat} {xs : List Value} (hb : Below B w0 w) (ho : w.ownsRow base e size v n xs) (hB : B ≤ base) (hB' : B ≤ w.heap.size) {o : Obj} (hg : (w.alloc o).grownBy w' v.ownBlock) : Below B w0 w' :=
  (hb.alloc hB' o).grown hg (by simp; omega) (fun k hk => by have := (ho.lt k hk).1; omega)

theorem OwnI.shape {w : World} {lo : Nat} {v : Value} {l : List Int} (h : OwnI w lo v l) : ∃ A c, v = .slice A l.length c := by
  rcases h.2 with ⟨rfl, hn⟩ | ⟨g, cap, cur, rfl, _⟩
  · exact ⟨none, 0, by rw [hn]⟩
  · exact ⟨_, _, rfl⟩

theorem OwnI.below {w w' : World} {lo : Nat} {v : Value} {l : List Int} (h : OwnI w lo v l) (hb : Below w.heap.size w w') : OwnI w' lo v l := ownsRow_below h hb

end Go.Proofs.YtecpblabaelopaaDoor

/- Frames that a call has made itself, and what stores into them do. Plain laws, without the program. -/

namespace Go.Proofs.YtecpblabaelopaaDoor
open Go.RowKit
set_option maxRecDepth 100000

abbrev nilv : Value := .slice none 0 0

theorem own_ne {w : World} {lo n g : Nat} {e e' : TypeId} {v : Value} {xs : List Value} {cur : Array Value} (h : w.ownsRow lo e 1 v n xs) (hg : w.heap[g]? = some (.cells cur e' (0, 0))) (hne : e ≠ e') : v.ownBlock ≠ some g := by
  intro hv
  rcases h.2 with ⟨rfl, _⟩ | ⟨g', cap, cur', rfl, _, hg', _⟩
  · simp [Value.ownBlock] at hv
  · simp [Value.ownBlock] at hv
    subst hv
    rw [hg] at hg'
    simp at hg'
    exact hne hg'.2.symm

theorem own_block {w : World} {lo n m g cap : Nat} {e : TypeId} {xs : List Value} (h : w.ownsRow lo e 1 (.slice (some ⟨g, 0, none⟩) n cap) m xs) : (∃ cur, w.heap[g]? = some (.cells cur e (0, 0))) ∧ n = m := by
  rcases h.2 with ⟨h0, _⟩ | ⟨g', c, cur, h0, _, hg, _⟩
  · simp at h0
  · simp only [Value.slice.injEq, Option.some.injEq, Addr.mk.injEq, and_true] at h0
    obtain ⟨rfl, rfl, rfl⟩ := h0
    exact ⟨⟨cur, hg⟩, rfl⟩

/-- Slices of the call's own: the outer one, the inner ones' values, what they hold. -/
structure OwnD (w : World) (lo : Nat) (dv : Value) (rows : List Value) (D : List (List Int)) : Prop where
  top : w.ownsRow lo 23 1 dv D.length rows
  each : ∀ i, i < D.length → OwnI w lo (rows.getD i nilv) (D.getD i [])
  apart : ∀ i j, i < D.length → j < D.length → i ≠ j → ∀ g, (rows.getD i nilv).ownBlock = some g → (rows.getD j nilv).ownBlock ≠ some g

theorem OwnD.len {w : World} {lo : Nat} {dv : Value} {rows : List Value} {D : List (List Int)} (h : OwnD w lo dv rows D) : rows.length = D.length := by
  have := h.top.1; omega

theorem OwnD.below {w w' : World} {lo : Nat} {dv : Value} {rows : List Value} {D : List (List Int)} (h : OwnD w lo dv rows D) (hb : Below w.heap.size w w') : OwnD w' lo dv rows D :=
  ⟨ownsRow_below h.top hb, fun i hi => (h.each i hi).below hb, h.apart⟩

theorem getD_set {α : Type} (l : List α) (i j : Nat) (x d : α) (hi : i < l.length) : (l.set i x).getD j d = if j = i then x else l.getD j d := by
  by_cases e : j = i
  · subst e; simp [List.getD, hi]
  · simp [List.getD, e, Ne.symm e]

/-- A row is put into its place. -/
theorem OwnD.putRow {w : World} {lo n cap gd i : Nat} {u : Value} {rows : List Value} {D : List (List Int)} {l : List Int} (h : OwnD w lo (.slice (some ⟨gd, 0, none⟩) n cap) rows D) (hi : i < D.length)
    (hu : OwnI w lo u l) (hap : ∀ j, j < D.length → j ≠ i → ∀ g, u.ownBlock = some g → (rows.getD j nilv).ownBlock ≠ some g) :
    OwnD (w.setCell ⟨gd, i, none⟩ u) lo (.slice (some ⟨gd, 0, none⟩) n cap) (rows.set i u) (D.set i l) := by
  have hlen := h.len
  obtain ⟨⟨cur, hgd⟩, hn⟩ := own_block h.top
  subst hn
  refine ⟨?_, fun j hj => ?_, fun a b ha hb hab g hg => ?_⟩
  · have := (h.top.stored i u).1
    simpa using this
  · simp at hj
    rw [getD_set _ _ _ _ _ (by omega), getD_set _ _ _ _ _ hi]
    by_cases e : j = i
    · rw [if_pos e, if_pos e]
      exact ownsRow_setCell_other hu (own_ne hu hgd (by decide)) u
    · rw [if_neg e, if_neg e]
      exact ownsRow_setCell_other (h.each j hj) (own_ne (h.each j hj) hgd (by decide)) u
  · simp at ha hb
    rw [getD_set _ _ _ _ _ (by omega)] at hg ⊢
    by_cases e1 : a = i
    · rw [if_pos e1] at hg
      rw [if_neg (by omega)]
      exact hap b hb (by omega) g hg
    · rw [if_neg e1] at hg
      by_cases e2 : b = i
      · rw [if_pos e2]
        intro hu'
        exact hap a ha e1 g hu' hg
      · rw [if_neg e2]
        exact h.apart a b ha hb hab g hg

theorem OwnD.set_same {w : World} {lo i : Nat} {dv : Value} {rows : List Value} {D : List (List Int)} (h : OwnD w lo dv rows D) {l : List Int} (hi : i < D.length) (hu : OwnI w lo (rows.getD i nilv) l) : OwnD w lo dv rows (D.set i l) := by
  refine ⟨by simpa using h.top, fun j hj => ?_, fun a b ha hb => h.apart a b (by simpa using ha) (by simpa using hb)⟩
  simp at hj
  rw [getD_set _ _ _ _ _ hi]
  by_cases e : j = i
  · rw [if_pos e, e]; exact hu
  · rw [if_neg e]; exact h.each j hj

/-- A store into a block that is none of theirs. -/
theorem OwnD.other {w : World} {lo : Nat} {dv : Value} {rows : List Value} {D : List (List Int)} (h : OwnD w lo dv rows D) {a : Addr} (h1 : dv.ownBlock ≠ some a.block) (h2 : ∀ i, i < D.length → (rows.getD i nilv).ownBlock ≠ some a.block) (u : Value) : OwnD (w.setCell a u) lo dv rows D :=
  ⟨ownsRow_setCell_other h.top h1 u, fun i hi => ownsRow_setCell_other (h.each i hi) (h2 i hi) u, h.apart⟩

/-- A store into a block of another type. -/
theorem OwnD.otherType {w : World} {lo : Nat} {dv : Value} {rows : List Value} {D : List (List Int)} (h : OwnD w lo dv rows D) {a : Addr} {cur : Array Value} {t : TypeId} (ha : w.heap[a.block]? = some (.cells cur t (0, 0))) (h1 : 23 ≠ t) (h2 : 3 ≠ t) (u : Value) : OwnD (w.setCell a u) lo dv rows D :=
  h.other (own_ne h.top ha h1) (fun i hi => own_ne (h.each i hi) ha h2) u

theorem OwnI.stored {w : World} {lo g cap n i : Nat} {l : List Int} (h : OwnI w lo (.slice (some ⟨g, 0, none⟩) n cap) l) (x : Int) : OwnI (w.setCell ⟨g, i, none⟩ (.int .i64 x)) lo (.slice (some ⟨g, 0, none⟩) n cap) (l.set i x) := by
  obtain ⟨_, hn⟩ := own_block h
  subst hn
  have := (World.ownsRow.stored h i (.int .i64 x)).1
  simpa [OwnI, List.map_set] using this

/-- A word of a row is written. -/
theorem OwnD.putWord {w : World} {lo i k g cap n : Nat} {dv : Value} {rows : List Value} {D : List (List Int)} (h : OwnD w lo dv rows D) (hi : i < D.length) (hr : rows.getD i nilv = .slice (some ⟨g, 0, none⟩) n cap) (x : Int) :
    OwnD (w.setCell ⟨g, k, none⟩ (.int .i64 x)) lo dv rows (D.set i ((D.getD i []).set k x)) := by
  have hei := h.each i hi
  rw [hr] at hei
  obtain ⟨⟨cur, hg⟩, _⟩ := own_block hei
  refine ⟨by simpa using ownsRow_setCell_other (a := ⟨g, k, none⟩) h.top (own_ne h.top hg (by decide)) _, fun j hj => ?_, fun a b ha hb => h.apart a b (by simpa using ha) (by simpa using hb)⟩
  simp at hj
  rw [getD_set _ _ _ _ _ hi]
  by_cases e : j = i
  · rw [if_pos e, e, hr]
    exact OwnI.stored hei x
  · rw [if_neg e]
    exact ownsRow_setCell_other (a := ⟨g, k, none⟩) (h.each j hj) (h.apart i j hi hj (Ne.symm e) g (by rw [hr]; rfl)) _

theorem OwnD.rows_lo {w : World} {lo : Nat} {dv : Value} {rows : List Value} {D : List (List Int)} (h : OwnD w lo dv rows D) (h1 : D.length * 24 ≤ 140737488351232) (h2 : ∀ i, i < D.length → (D.getD i []).length * 8 ≤ 140737488351232) : RowsLo lo w dv D := by
  by_cases h0 : 0 < D.length
  · obtain ⟨g, cap, rfl, hlo, hlt, _, hc, _⟩ := ownsRow_at h.top h0
    refine ⟨_, cap, rfl, h1, fun _ => ⟨g, 0, rfl, hlo, hlt, fun j hj => ⟨rows.getD j nilv, ?_, (h.each j hj).low (h2 j hj)⟩⟩⟩
    have := h.len
    rw [Nat.zero_add, hc j hj]
    simp [List.getD, show j < rows.length by omega]
  · have hv : ∃ A c, dv = .slice A D.length c := by
      rcases h.top.2 with ⟨rfl, hn⟩ | ⟨g, cap, cur, rfl, _⟩
      · exact ⟨none, 0, by rw [hn]⟩
      · exact ⟨_, _, rfl⟩
    obtain ⟨A, c, rfl⟩ := hv
    exact ⟨A, c, rfl, h1, fun h => absurd h h0⟩
theorem OwnD.rows_at {w : World} {lo : Nat} {dv : Value} {rows : List Value} {D : List (List Int)} (h : OwnD w lo dv rows D) (h1 : D.length * 24 ≤ 140737488351232) (h2 : ∀ i, i < D.length → (D.getD i []).length * 8 ≤ 140737488351232) : RowsAt w dv D := (h.rows_lo h1 h2).at

/-- Frames of the call's own. -/
structure OwnF (w : World) (lo : Nat) (dv rv : Value) (rows : List Value) (D : List (List Int)) (R : List Int) : Prop where
  dat : OwnD w lo dv rows D
  ref : OwnI w lo rv R
  off : ∀ i, i < D.length → ∀ g, rv.ownBlock = some g → (rows.getD i nilv).ownBlock ≠ some g

theorem OwnF.below {w w' : World} {lo : Nat} {dv rv : Value} {rows : List Value} {D : List (List Int)} {R : List Int} (h : OwnF w lo dv rv rows D R) (hb : Below w.heap.size w w') : OwnF w' lo dv rv rows D R :=
  ⟨h.dat.below hb, h.ref.below hb, h.off⟩

theorem OwnF.otherType {w : World} {lo : Nat} {dv rv : Value} {rows : List Value} {D : List (List Int)} {R : List Int} (h : OwnF w lo dv rv rows D R) {a : Addr} {cur : Array Value} {t : TypeId} (ha : w.heap[a.block]? = some (.cells cur t (0, 0))) (h1 : 23 ≠ t) (h2 : 3 ≠ t) (u : Value) : OwnF (w.setCell a u) lo dv rv rows D R :=
  ⟨h.dat.otherType ha h1 h2 u, ownsRow_setCell_other h.ref (own_ne h.ref ha h2) u, h.off⟩

theorem OwnF.shape {w : World} {lo : Nat} {dv rv : Value} {rows : List Value} {D : List (List Int)} {R : List Int} (h : OwnF w lo dv rv rows D R) : ∃ A c B c', dv = .slice A D.length c ∧ rv = .slice B R.length c' := by
  obtain ⟨B, c', hr⟩ := h.ref.shape
  rcases h.dat.top.2 with ⟨hd, hn⟩ | ⟨g, cap, cur, hd, _⟩
  · exact ⟨none, 0, B, c', by rw [hd, hn], hr⟩
  · exact ⟨_, _, B, c', hd, hr⟩

/-- Where there are frames: the blocks, their cells. -/
theorem OwnF.opened {w : World} {lo : Nat} {dv rv : Value} {rows : List Value} {D : List (List Int)} {R : List Int} (h : OwnF w lo dv rv rows D R) (hD : 0 < D.length) (hR : 0 < R.length) :
    ∃ gd cd gr cr, dv = .slice (some ⟨gd, 0, none⟩) D.length cd ∧ rv = .slice (some ⟨gr, 0, none⟩) R.length cr ∧ lo ≤ gd ∧ gd < w.heap.size ∧ lo ≤ gr ∧ gr < w.heap.size ∧ gd ≠ gr ∧
      (∀ j, j < D.length → w.cell? ⟨gd, j, none⟩ = some (rows.getD j nilv)) ∧ (∀ j, w.frozen? ⟨gd, j, none⟩ = false) ∧ (∀ j, j < R.length → w.cell? ⟨gr, j, none⟩ = some (.int .i64 (R.getD j 0))) ∧ (∀ j, w.frozen? ⟨gr, j, none⟩ = false) := by
  obtain ⟨gd, cd, hd, l1, l2, ⟨cur, hb⟩, hc, hf⟩ := ownsRow_at h.dat.top hD
  obtain ⟨gr, cr, hr, l3, l4, _, hc', hf'⟩ := ownsRow_at h.ref hR
  have hlen := h.dat.len
  refine ⟨gd, cd, gr, cr, hd, hr, l1, l2, l3, l4, fun e => ?_, fun j hj => ?_, hf, fun j hj => ?_, hf'⟩
  · subst e
    exact own_ne h.ref hb (by decide) (by rw [hr]; rfl)
  · rw [hc j hj]
    simp [List.getD, show j < rows.length by omega]
  · rw [hc' j hj]
    simp [List.getD, hj]

theorem OwnF.mono {w : World} {lo lo' : Nat} {dv rv : Value} {rows : List Value} {D : List (List Int)} {R : List Int} (h : OwnF w lo dv rv rows D R) (hlo : lo' ≤ lo) : OwnF w lo' dv rv rows D R :=
  ⟨⟨ownsRow_mono h.dat.top hlo, fun i hi => ownsRow_mono (h.dat.each i hi) hlo, h.dat.apart⟩, ownsRow_mono h.ref hlo, h.off⟩

theorem OwnF.rowsAt {w w0 : World} {lo : Nat} {dv rv v0 : Value} {rows : List Value} {D : List (List Int)} {R : List Int} (h : OwnF w lo dv rv rows D R) (h0 : RowsAt w0 v0 D) : RowsAt w dv D := h.dat.rows_at h0.bounds.1 h0.bounds.2
theorem OwnF.intsAt {w w0 : World} {lo : Nat} {dv rv v0 : Value} {rows : List Value} {D : List (List Int)} {R : List Int} (h : OwnF w lo dv rv rows D R) (h0 : IntsAt w0 v0 R) : IntsAt w rv R := h.ref.at h0.bound

/-- Both fields of a struct of the call's own are stored. -/
theorem OwnF.store2 {w : World} {lo b : Nat} {dv rv x y : Value} {rows : List Value} {D : List (List Int)} {R : List Int} {t : TypeId} (h : OwnF w lo dv rv rows D R) (hb : w.heap[b]? = some (.cells #[x, y] t (0, 0))) (h1 : 23 ≠ t) (h2 : 3 ≠ t) (u u' : Value) :
    OwnF ((w.setCell ⟨b, 0, none⟩ u).setCell ⟨b, 1, none⟩ u') lo dv rv rows D R := by
  have hb' : (w.setCell ⟨b, 0, none⟩ u).heap[b]? = some (.cells #[u, y] t (0, 0)) := by
    simp [World.setCell, Array.getElem?_modify, hb]
  exact (h.otherType (a := ⟨b, 0, none⟩) hb h1 h2 u).otherType (a := ⟨b, 1, none⟩) hb' h1 h2 u'

/-- How many know a frame is written. -/
theorem OwnF.putRef {w : World} {lo i g cap n : Nat} {dv : Value} {rows : List Value} {D : List (List Int)} {R : List Int} (h : OwnF w lo dv (.slice (some ⟨g, 0, none⟩) n cap) rows D R) (x : Int) :
    OwnF (w.setCell ⟨g, i, none⟩ (.int .i64 x)) lo dv (.slice (some ⟨g, 0, none⟩) n cap) rows D (R.set i x) := by
  obtain ⟨⟨cur, hg⟩, _⟩ := own_block h.ref
  exact ⟨h.dat.other (a := ⟨g, i, none⟩) (own_ne h.dat.top hg (by decide)) (fun j hj => h.off j hj g rfl) _, OwnI.stored h.ref x, h.off⟩

/-- The words of a frame are put into their place. -/
theorem OwnF.putRow {w : World} {lo n cap gd i : Nat} {u rv : Value} {rows : List Value} {D : List (List Int)} {R l : List Int} (h : OwnF w lo (.slice (some ⟨gd, 0, none⟩) n cap) rv rows D R) (hi : i < D.length)
    (hu : OwnI w lo u l) (hap : ∀ j, j < D.length → j ≠ i → ∀ g, u.ownBlock = some g → (rows.getD j nilv).ownBlock ≠ some g) (hr : ∀ g, rv.ownBlock = some g → u.ownBlock ≠ some g) :
    OwnF (w.setCell ⟨gd, i, none⟩ u) lo (.slice (some ⟨gd, 0, none⟩) n cap) rv (rows.set i u) (D.set i l) R := by
  obtain ⟨⟨cur, hgd⟩, _⟩ := own_block h.dat.top
  have hlen := h.dat.len
  refine ⟨h.dat.putRow hi hu hap, ownsRow_setCell_other (a := ⟨gd, i, none⟩) h.ref (own_ne h.ref hgd (by decide)) u, fun j hj g hg => ?_⟩
  simp at hj
  rw [getD_set _ _ _ _ _ (by omega)]
  by_cases e : j = i
  · rw [if_pos e]; exact hr g hg
  · rw [if_neg e]; exact h.off j hj g hg

/-- A word of a frame is written. -/
theorem OwnF.putWord {w : World} {lo i k g cap n : Nat} {dv rv : Value} {rows : List Value} {D : List (List Int)} {R : List Int} (h : OwnF w lo dv rv rows D R) (hi : i < D.length) (hr : rows.getD i nilv = .slice (some ⟨g, 0, none⟩) n cap) (x : Int) :
    OwnF (w.setCell ⟨g, k, none⟩ (.int .i64 x)) lo dv rv rows (D.set i ((D.getD i []).set k x)) R :=
  ⟨h.dat.putWord hi hr x, ownsRow_setCell_other (a := ⟨g, k, none⟩) h.ref (fun hv => h.off i hi g hv (by rw [hr]; rfl)) _, fun j hj => h.off j (by simpa using hj)⟩

/-- Blocks that lie behind all of theirs are apart from them. -/
theorem OwnD.fresh {w : World} {lo : Nat} {dv : Value} {rows : List Value} {D : List (List Int)} (h : OwnD w lo dv rows D) {u : Value} (hu : ∀ g, u.ownBlock = some g → w.heap.size ≤ g) (j : Nat) (hj : j < D.length) (g : Nat) (hg : u.ownBlock = some g) : (rows.getD j nilv).ownBlock ≠ some g := fun e => by
  have := ((h.each j hj).lt g e).2
  have := hu g hg
  omega

theorem OwnF.fresh {w : World} {lo : Nat} {dv rv : Value} {rows : List Value} {D : List (List Int)} {R : List Int} (h : OwnF w lo dv rv rows D R) {u : Value} (hu : ∀ g, u.ownBlock = some g → w.heap.size ≤ g) (g : Nat) (hg : rv.ownBlock = some g) : u.ownBlock ≠ some g := fun e => by
  have := (h.ref.lt g hg).2
  have := hu g e
  omega

/-- A row with words: its block. -/
theorem OwnI.opened {w : World} {lo : Nat} {v : Value} {l : List Int} (h : OwnI w lo v l) (hl : 0 < l.length) :
    ∃ g c, v = .slice (some ⟨g, 0, none⟩) l.length c ∧ lo ≤ g ∧ g < w.heap.size ∧ (∀ i, i < l.length → w.cell? ⟨g, i, none⟩ = some (.int .i64 (l.getD i 0))) ∧ ∀ i, w.frozen? ⟨g, i, none⟩ = false := by
  obtain ⟨g, c, rfl, h1, h2, _, h3, h4⟩ := ownsRow_at h hl
  exact ⟨g, c, rfl, h1, h2, fun i hi => by rw [h3 i hi]; simp [List.getD, hi], h4⟩

end Go.Proofs.YtecpblabaelopaaDoor

/- Plain notions: a guest, how it lies in memory, and what it does at a step. -/

namespace Go.Proofs.YtecpblabaelopaaDoor
open Go.RowKit
set_option linter.unusedVariables false

structure Mach where
  regs : List Int
  pc : Int
  back : Int
  ints : Bool
  wait : Bool
  table : Int
  count : Int
  fin : Int
  mem : List Int
  out : List Int
  ready : Int
  want : Int

/-- The fields of a guest, its three slices as they are. -/
def Mach.cells (m : Mach) (rv mv ov : Value) : Array Value :=
  #[rv, .int .i64 m.pc, .int .i64 m.back, .bool m.ints, .bool m.wait, .int .i64 m.table, .int .i64 m.count, .int .i64 m.fin, mv, ov, .int .i64 m.ready, .int .i64 m.want]
/-- A guest that may be. -/
def Mach.may (m : Mach) : Bool :=
  decide (m.regs.length = 8) && decide (m.mem.length = 256) && decide (m.out.length ≤ 200) && allB m.regs && allB m.mem && allB m.out &&
  wordB m.pc && wordB m.back && inB m.table (-1) 15 && inB m.count 0 1099511627776 && inB m.fin 0 4 && inB m.ready 0 1 && inB m.want (-1) 15

/-- A struct of twelve fields in a block of its own. -/
theorem twelve_cells {w : World} {b : Nat} {x0 x1 x2 x3 x4 x5 x6 x7 x8 x9 x10 x11 : Value} {t : TypeId} (h : w.heap[b]? = some (.cells #[x0, x1, x2, x3, x4, x5, x6, x7, x8, x9, x10, x11] t (0, 0))) :
    (w.cell? ⟨b, 0, none⟩ = some x0 ∧ w.cell? ⟨b, 1, none⟩ = some x1 ∧ w.cell? ⟨b, 2, none⟩ = some x2 ∧ w.cell? ⟨b, 3, none⟩ = some x3 ∧ w.cell? ⟨b, 4, none⟩ = some x4 ∧ w.cell? ⟨b, 5, none⟩ = some x5 ∧
      w.cell? ⟨b, 6, none⟩ = some x6 ∧ w.cell? ⟨b, 7, none⟩ = some x7 ∧ w.cell? ⟨b, 8, none⟩ = some x8 ∧ w.cell? ⟨b, 9, none⟩ = some x9 ∧ w.cell? ⟨b, 10, none⟩ = some x10 ∧ w.cell? ⟨b, 11, none⟩ = some x11) ∧ (∀ j, w.frozen? ⟨b, j, none⟩ = false) ∧ b < w.heap.size := by
  refine ⟨⟨?_, ?_, ?_, ?_, ?_, ?_, ?_, ?_, ?_, ?_, ?_, ?_⟩, fun j => by simp [World.frozen?, h], lt_of_block h⟩ <;> simp [World.cell?, h]

theorem below_alloc2 (w : World) (o1 o2 : Obj) : Below w.heap.size w ((w.alloc o1).alloc o2) := (below_alloc w o1).alloc (by simp) o2

/-- Two values that do not share a block. -/
def Apart (u v : Value) : Prop := ∀ g, u.ownBlock = some g → v.ownBlock ≠ some g
theorem Apart.symm {u v : Value} (h : Apart u v) : Apart v u := fun g hg e => h g e hg

/-- A guest of the call's own. -/
structure OwnM (w : World) (lo : Nat) (rv mv ov : Value) (m : Mach) : Prop where
  regs : OwnI w lo rv m.regs
  mem : OwnI w lo mv m.mem
  out : OwnI w lo ov m.out
  rm : Apart rv mv
  ro : Apart rv ov
  mo : Apart mv ov

theorem OwnM.below {w w' : World} {lo : Nat} {rv mv ov : Value} {m : Mach} (h : OwnM w lo rv mv ov m) (hb : Below w.heap.size w w') : OwnM w' lo rv mv ov m :=
  ⟨h.regs.below hb, h.mem.below hb, h.out.below hb, h.rm, h.ro, h.mo⟩
theorem OwnM.mono {w : World} {lo lo' : Nat} {rv mv ov : Value} {m : Mach} (h : OwnM w lo rv mv ov m) (hlo : lo' ≤ lo) : OwnM w lo' rv mv ov m :=
  ⟨ownsRow_mono h.regs hlo, ownsRow_mono h.mem hlo, ownsRow_mono h.out hlo, h.rm, h.ro, h.mo⟩
/-- A store into a block of another type. -/
theorem OwnM.otherType {w : World} {lo : Nat} {rv mv ov : Value} {m : Mach} (h : OwnM w lo rv mv ov m) {a : Addr} {cur : Array Value} {t : TypeId} (ha : w.heap[a.block]? = some (.cells cur t (0, 0))) (h2 : 3 ≠ t) (u : Value) : OwnM (w.setCell a u) lo rv mv ov m :=
  ⟨ownsRow_setCell_other h.regs (own_ne h.regs ha h2) u, ownsRow_setCell_other h.mem (own_ne h.mem ha h2) u, ownsRow_setCell_other h.out (own_ne h.out ha h2) u, h.rm, h.ro, h.mo⟩
/-- Only the numbers matter. -/
theorem OwnM.of {w : World} {lo : Nat} {rv mv ov : Value} {m m' : Mach} (h : OwnM w lo rv mv ov m) (h1 : m'.regs = m.regs) (h2 : m'.mem = m.mem) (h3 : m'.out = m.out) : OwnM w lo rv mv ov m' :=
  ⟨by rw [h1]; exact h.regs, by rw [h2]; exact h.mem, by rw [h3]; exact h.out, h.rm, h.ro, h.mo⟩
/-- A register is written. -/
theorem OwnM.putReg {w : World} {lo g cap n i : Nat} {mv ov : Value} {m : Mach} (h : OwnM w lo (.slice (some ⟨g, 0, none⟩) n cap) mv ov m) (x : Int) :
    OwnM (w.setCell ⟨g, i, none⟩ (.int .i64 x)) lo (.slice (some ⟨g, 0, none⟩) n cap) mv ov { m with regs := m.regs.set i x } :=
  ⟨OwnI.stored h.regs x, ownsRow_setCell_other (a := ⟨g, i, none⟩) h.mem (h.rm g rfl) _, ownsRow_setCell_other (a := ⟨g, i, none⟩) h.out (h.ro g rfl) _, h.rm, h.ro, h.mo⟩
/-- A word is written. -/
theorem OwnM.putMem {w : World} {lo g cap n i : Nat} {rv ov : Value} {m : Mach} (h : OwnM w lo rv (.slice (some ⟨g, 0, none⟩) n cap) ov m) (x : Int) :
    OwnM (w.setCell ⟨g, i, none⟩ (.int .i64 x)) lo rv (.slice (some ⟨g, 0, none⟩) n cap) ov { m with mem := m.mem.set i x } :=
  ⟨ownsRow_setCell_other (a := ⟨g, i, none⟩) h.regs (h.rm.symm g rfl) _, OwnI.stored h.mem x, ownsRow_setCell_other (a := ⟨g, i, none⟩) h.out (h.mo g rfl) _, h.rm, h.ro, h.mo⟩
theorem OwnM.shape {w : World} {lo : Nat} {rv mv ov : Value} {m : Mach} (h : OwnM w lo rv mv ov m) : ∃ A c B c' C c'', rv = .slice A m.regs.length c ∧ mv = .slice B m.mem.length c' ∧ ov = .slice C m.out.length c'' := by
  obtain ⟨A, c, h1⟩ := h.regs.shape
  obtain ⟨B, c', h2⟩ := h.mem.shape
  obtain ⟨C, c'', h3⟩ := h.out.shape
  exact ⟨A, c, B, c', C, c'', h1, h2, h3⟩
/-- New memory is apart from what was there. -/
theorem apart_new {w w1 : World} {lo lo1 : Nat} {u v : Value} {l l1 : List Int} (h : OwnI w lo u l) (h1 : OwnI w1 lo1 v l1) (hl : w.heap.size ≤ lo1) : Apart u v := fun g hg e => by
  have := (World.ownsRow.lt h g hg).2
  have := (World.ownsRow.lt h1 g e).1
  omega

/-- The bounds of slices that hold a guest. -/
structure MachFits (m : Mach) : Prop where
  regs : m.regs.length * 8 ≤ 140737488351232
  mem : m.mem.length * 8 ≤ 140737488351232
  out : m.out.length * 8 ≤ 140737488351232

/-- The values are slices over a guest's numbers. -/
structure MachAt (w : World) (rv mv ov : Value) (m : Mach) : Prop where
  regs : IntsAt w rv m.regs
  mem : IntsAt w mv m.mem
  out : IntsAt w ov m.out
theorem MachAt.below {w w' : World} {rv mv ov : Value} {m : Mach} (h : MachAt w rv mv ov m) (hb : Below w.heap.size w w') : MachAt w' rv mv ov m := ⟨h.regs.below hb, h.mem.below hb, h.out.below hb⟩
theorem MachAt.fits {w : World} {rv mv ov : Value} {m : Mach} (h : MachAt w rv mv ov m) : MachFits m := ⟨h.regs.bound, h.mem.bound, h.out.bound⟩
theorem OwnM.at {w : World} {lo : Nat} {rv mv ov : Value} {m : Mach} (h : OwnM w lo rv mv ov m) (hf : MachFits m) : MachAt w rv mv ov m := ⟨h.regs.at hf.regs, h.mem.at hf.mem, h.out.at hf.out⟩
theorem MachAt.shape {w : World} {rv mv ov : Value} {m : Mach} (h : MachAt w rv mv ov m) : ∃ A c B c' C c'', rv = .slice A m.regs.length c ∧ mv = .slice B m.mem.length c' ∧ ov = .slice C m.out.length c'' := by
  obtain ⟨A, c, h1, _⟩ := h.regs
  obtain ⟨B, c', h2, _⟩ := h.mem
  obtain ⟨C, c'', h3, _⟩ := h.out
  exact ⟨A, c, B, c', C, c'', h1, h2, h3⟩

/-- A struct of guests' type lies in this block. -/
def IsBox (w : World) (b : Nat) : Prop := ∃ cur, w.heap[b]? = some (.cells cur 28 (0, 0))
theorem IsBox.set {w : World} {b : Nat} (h : IsBox w b) (i : Nat) (x : Value) : IsBox (w.setCell ⟨b, i, none⟩ x) b := by
  obtain ⟨cur, hc⟩ := h
  exact ⟨cur.setIfInBounds i x, by simp [World.setCell, Array.getElem?_modify, hc]⟩
theorem OwnM.box {w : World} {lo b : Nat} {rv mv ov : Value} {m : Mach} (h : OwnM w lo rv mv ov m) (hb : IsBox w b) (i : Nat) (x : Value) : OwnM (w.setCell ⟨b, i, none⟩ x) lo rv mv ov m := by
  obtain ⟨cur, hc⟩ := hb
  exact h.otherType (a := ⟨b, i, none⟩) hc (by decide) x
/-- All fields of a struct of guests' type are stored. -/
theorem OwnM.set12 {w : World} {lo b : Nat} {rv mv ov : Value} {m : Mach} (h : OwnM w lo rv mv ov m) (hb : IsBox w b) (x0 x1 x2 x3 x4 x5 x6 x7 x8 x9 x10 x11 : Value) : OwnM ((((((((((((w.setCell ⟨b, 0, none⟩ x0).setCell ⟨b, 1, none⟩ x1).setCell ⟨b, 2, none⟩ x2).setCell ⟨b, 3, none⟩ x3).setCell ⟨b, 4, none⟩ x4).setCell ⟨b, 5, none⟩ x5).setCell ⟨b, 6, none⟩ x6).setCell ⟨b, 7, none⟩ x7).setCell ⟨b, 8, none⟩ x8).setCell ⟨b, 9, none⟩ x9).setCell ⟨b, 10, none⟩ x10).setCell ⟨b, 11, none⟩ x11) lo rv mv ov m := by
  have h0 := h.box hb 0 x0
  have b0 := hb.set 0 x0
  have h1 := h0.box b0 1 x1
  have b1 := b0.set 1 x1
  have h2 := h1.box b1 2 x2
  have b2 := b1.set 2 x2
  have h3 := h2.box b2 3 x3
  have b3 := b2.set 3 x3
  have h4 := h3.box b3 4 x4
  have b4 := b3.set 4 x4
  have h5 := h4.box b4 5 x5
  have b5 := b4.set 5 x5
  have h6 := h5.box b5 6 x6
  have b6 := b5.set 6 x6
  have h7 := h6.box b6 7 x7
  have b7 := b6.set 7 x7
  have h8 := h7.box b7 8 x8
  have b8 := b7.set 8 x8
  have h9 := h8.box b8 9 x9
  have b9 := b8.set 9 x9
  have h10 := h9.box b9 10 x10
  have b10 := b9.set 10 x10
  have h11 := h10.box b10 11 x11
  exact h11
theorem below_set12 {w0 w : World} {B b : Nat} (h : Below B w0 w) (hb : B ≤ b) (x0 x1 x2 x3 x4 x5 x6 x7 x8 x9 x10 x11 : Value) : Below B w0 ((((((((((((w.setCell ⟨b, 0, none⟩ x0).setCell ⟨b, 1, none⟩ x1).setCell ⟨b, 2, none⟩ x2).setCell ⟨b, 3, none⟩ x3).setCell ⟨b, 4, none⟩ x4).setCell ⟨b, 5, none⟩ x5).setCell ⟨b, 6, none⟩ x6).setCell ⟨b, 7, none⟩ x7).setCell ⟨b, 8, none⟩ x8).setCell ⟨b, 9, none⟩ x9).setCell ⟨b, 10, none⟩ x10).setCell ⟨b, 11, none⟩ x11) :=
  (((((((((((h.setCell (by simpa using hb) _).setCell (by simpa using hb) _).setCell (by simpa using hb) _).setCell (by simpa using hb) _).setCell (by simpa using hb) _).setCell (by simpa using hb) _).setCell (by simpa using hb) _).setCell (by simpa using hb) _).setCell (by simpa using hb) _).setCell (by simpa using hb) _).setCell (by simpa using hb) _).setCell (by simpa using hb) _

/-- A store into a struct of the call's own. -/
theorem box_set {w : World} {b i : Nat} {cur : Array Value} {t : TypeId} (h : w.heap[b]? = some (.cells cur t (0, 0))) (x : Value) : (w.setCell ⟨b, i, none⟩ x).heap[b]? = some (.cells (cur.setIfInBounds i x) t (0, 0)) := by
  simp [World.setCell, Array.getElem?_modify, h]
theorem box_other {w : World} {b i c : Nat} {o : Obj} (h : w.heap[c]? = some o) (hne : c ≠ b) (x : Value) : (w.setCell ⟨b, i, none⟩ x).heap[c]? = some o := by
  rw [Go.Deep.blk_setCell_other _ _ _ _ (by simpa using hne)]; exact h
theorem OwnI.otherType {w : World} {lo : Nat} {v : Value} {l : List Int} (h : OwnI w lo v l) {a : Addr} {cur : Array Value} {t : TypeId} (ha : w.heap[a.block]? = some (.cells cur t (0, 0))) (h2 : 3 ≠ t) (u : Value) : OwnI (w.setCell a u) lo v l := ownsRow_setCell_other h (own_ne h ha h2) u

abbrev zeroM : Array Value := #[.slice none 0 0, .int .i64 0, .int .i64 0, .bool false, .bool false, .int .i64 0, .int .i64 0, .int .i64 0, .slice none 0 0, .slice none 0 0, .int .i64 0, .int .i64 0]

/-- One of the three slices was copied, and put into the struct. -/
theorem copy_one {w w1 : World} {W0 : World} {cur : Array Value} {v' : Value} {l : List Int} {i : Nat} (hb : Below w.heap.size w W0) (hz : W0.heap[w.heap.size]? = some (.cells cur 28 (0, 0))) (hy : W0.heap[w.heap.size + 1]? = some (.cells zeroM 28 (0, 0)))
    (h1 : Below W0.heap.size W0 w1) (ho : OwnI w1 W0.heap.size v' l) :
    w1.heap[w.heap.size]? = some (.cells cur 28 (0, 0)) ∧
    (w1.setCell ⟨w.heap.size, i, none⟩ v').heap[w.heap.size]? = some (.cells (cur.setIfInBounds i v') 28 (0, 0)) ∧ (w1.setCell ⟨w.heap.size, i, none⟩ v').heap[w.heap.size + 1]? = some (.cells zeroM 28 (0, 0)) ∧
    Below w.heap.size w (w1.setCell ⟨w.heap.size, i, none⟩ v') ∧ OwnI (w1.setCell ⟨w.heap.size, i, none⟩ v') W0.heap.size v' l := by
  have hz1 : w1.heap[w.heap.size]? = some (.cells cur 28 (0, 0)) := by rw [h1.block _ (lt_of_block hz)]; exact hz
  have hy1 : w1.heap[w.heap.size + 1]? = some (.cells zeroM 28 (0, 0)) := by rw [h1.block _ (lt_of_block hy)]; exact hy
  exact ⟨hz1, box_set hz1 _, box_other hy1 (by omega) _, (hb.trans (h1.mono hb.size)).setCell (by simp) _, ho.otherType (a := ⟨w.heap.size, i, none⟩) hz1 (by decide) _⟩

/-- The word of the table for an address. -/
def Mach.page (m : Mach) (at' : Int) : Int := m.mem.getD (16 * m.table + at' / 16).toNat 0
/-- How the guest ends at an address. -/
def Mach.meantE (m : Mach) (at' : Int) (write : Bool) : Int :=
  if !inB at' 0 255 then 3 else if m.table == -1 then 0 else
  if !inB (m.page at') 32 63 then 4 else if write && decide (m.page at' < 48) then 4 else 0
/-- The word that an address means. -/
def Mach.meantK (m : Mach) (at' : Int) (write : Bool) : Int :=
  if m.meantE at' write = 0 then (if m.table == -1 then at' else 16 * (m.page at' % 16) + at' % 16) else 0

/-- What a guest that may be is. -/
structure MayP (m : Mach) : Prop where
  regs : m.regs.length = 8
  mem : m.mem.length = 256
  out : m.out.length ≤ 200
  aregs : allB m.regs = true
  amem : allB m.mem = true
  aout : allB m.out = true
  pc : wordB m.pc = true
  back : wordB m.back = true
  table : -1 ≤ m.table ∧ m.table ≤ 15
  count : 0 ≤ m.count ∧ m.count ≤ 1099511627776
  fin : 0 ≤ m.fin ∧ m.fin ≤ 4
  ready : 0 ≤ m.ready ∧ m.ready ≤ 1
  want : -1 ≤ m.want ∧ m.want ≤ 15
theorem mayP_iff {m : Mach} : m.may = true ↔ MayP m := by
  simp only [Mach.may, Bool.and_eq_true, decide_eq_true_eq, inB_iff]
  constructor
  · rintro ⟨⟨⟨⟨⟨⟨⟨⟨⟨⟨⟨⟨a, b⟩, c⟩, d⟩, e⟩, f⟩, g⟩, h⟩, i⟩, j⟩, k⟩, l⟩, n⟩
    exact ⟨a, b, c, d, e, f, g, h, i, j, k, l, n⟩
  · rintro ⟨a, b, c, d, e, f, g, h, i, j, k, l, n⟩
    exact ⟨⟨⟨⟨⟨⟨⟨⟨⟨⟨⟨⟨a, b⟩, c⟩, d⟩, e⟩, f⟩, g⟩, h⟩, i⟩, j⟩, k⟩, l⟩, n⟩

theorem meant_bd {m : Mach} {at' : Int} {wr : Bool} (h : m.meantE at' wr = 0) : 0 ≤ m.meantK at' wr ∧ m.meantK at' wr ≤ 255 := by
  have hk : m.meantK at' wr = (if m.table == -1 then at' else 16 * (m.page at' % 16) + at' % 16) := by simp [Mach.meantK, h]
  cases g0 : inB at' 0 255 with
  | false => simp [Mach.meantE, g0] at h
  | true =>
  have := inB_iff.1 g0
  rw [hk]
  split <;> omega

/-- The word that comes next. -/
def Mach.nextX (m : Mach) : Int := m.mem.getD (m.meantK m.pc false).toNat 0
theorem nextX_bd {m : Mach} (hm : MayP m) (h : m.meantE m.pc false = 0) : -1099511627776 ≤ m.nextX ∧ m.nextX ≤ 1099511627776 := by
  have := meant_bd h
  have hl := hm.mem
  exact wordB_iff.1 (allB_iff.1 hm.amem _ (by omega))
/-- How the guest ends ahead of its instruction. -/
def Mach.nextE (m : Mach) : Int := if m.meantE m.pc false = 0 then (if decNo m.nextX = 0 then 0 else 2) else m.meantE m.pc false

abbrev zeroI : Array Value := #[.int .i64 0, .int .i64 0, .int .i64 0, .int .i64 0]
abbrev instrA (x : Int) : Array Value := #[.int .i64 (x % 16), .int .i64 (x / 16 % 8), .int .i64 (x / 128 % 8), .int .i64 (x / 1024)]

def Mach.reg (m : Mach) (k : Int) : Int := m.regs.getD k.toNat 0
def Mach.setReg (m : Mach) (k x : Int) : Mach := { m with regs := m.regs.set k.toNat x }
def Mach.go (m : Mach) (p : Int) : Mach := { m with pc := foldF p }
def Mach.ends (m : Mach) (e : Int) : Mach := { m with fin := e }
/-- A block's words are put, the first k of them. -/
def putWords (l : List Int) (at' : Nat) (blk : List Int) : Nat → List Int
  | 0 => l
  | k + 1 => (putWords l at' blk k).set (at' + k) (blk.getD k 0)
/-- What comes from outside: an interrupt, a block. -/
def Mach.told (m : Mach) (irq : Bool) (blk : List Int) : Mach :=
  if 0 < blk.length ∧ 0 ≤ m.want then { m with wait := true, mem := putWords m.mem (16 * m.want).toNat blk 16, want := -1, ready := 1 } else { m with wait := m.wait || irq }
/-- An interrupt that waits is let in. -/
def Mach.enter (m : Mach) : Mach := if m.wait && m.ints then { m with wait := false, ints := false, back := m.pc, pc := 8 } else m
def Mach.counted (m : Mach) : Mach := { m with count := m.count + 1 }
/-- The instruction is done. -/
def Mach.exec (m : Mach) (op a b n value : Int) : Mach × Int :=
  if op = 0 then (m.ends 1, -1) else
  if op = 1 then ((m.setReg a n).go (m.pc + 1), -1) else
  if op = 2 then ((m.setReg a (foldF (m.reg b + m.reg n))).go (m.pc + 1), -1) else
  if op = 3 then ((m.setReg a (foldF (m.reg b - m.reg n))).go (m.pc + 1), -1) else
  if op = 4 then ((m.setReg a (foldF (m.reg b + n))).go (m.pc + 1), -1) else
  if op = 5 then (if m.meantE (m.reg b + n) false = 0 then ((m.setReg a (m.mem.getD (m.meantK (m.reg b + n) false).toNat 0)).go (m.pc + 1), -1) else (m.ends (m.meantE (m.reg b + n) false), -1)) else
  if op = 6 then (if m.meantE (m.reg b + n) true = 0 then (({ m with mem := m.mem.set (m.meantK (m.reg b + n) true).toNat (m.reg a) } : Mach).go (m.pc + 1), m.meantK (m.reg b + n) true) else (m.ends (m.meantE (m.reg b + n) true), -1)) else
  if op = 7 then (m.go (m.pc + if m.reg a = 0 then n else 1), -1) else
  if op = 8 then (m.go (m.pc + if m.reg a < 0 then n else 1), -1) else
  if op = 9 then (m.go (m.pc + n), -1) else
  if op = 10 then (if n = 0 ∨ n = 1 then ((m.setReg a value).go (m.pc + 1), -1) else if n = 2 then ((m.setReg a m.ready).go (m.pc + 1), -1) else (m.ends 3, -1)) else
  if op = 11 then
    (if n = 3 then (if m.out.length < 200 then (({ m with out := m.out ++ [m.reg a] } : Mach).go (m.pc + 1), -1) else (m.go (m.pc + 1), -1))
     else if n = 4 ∧ 0 ≤ m.reg a ∧ m.reg a ≤ 15 then (if m.want = -1 then (({ m with want := m.reg a, ready := 0 } : Mach).go (m.pc + 1), -1) else (m.go (m.pc + 1), -1))
     else (m.ends 3, -1)) else
  if op = 12 then (({ m with ints := n == 1 } : Mach).go (m.pc + 1), -1) else
  if op = 13 then (({ m with ints := true } : Mach).go m.back, -1) else
  if op = 14 then (if -1 ≤ m.reg a ∧ m.reg a ≤ 15 then (({ m with table := m.reg a } : Mach).go (m.pc + 1), -1) else (m.ends 3, -1)) else
  (m.go (m.pc + 1), -1)
/-- The guest does what comes next. -/
def Mach.run1 (m : Mach) (value : Int) : Mach × Int :=
  if m.nextE = 0 then m.exec (m.nextX % 16) (m.nextX / 16 % 8) (m.nextX / 128 % 8) (m.nextX / 1024) value else (m.ends m.nextE, -1)
/-- A step. -/
def Mach.step (m : Mach) (irq : Bool) (blk : List Int) (value : Int) : Mach × Int :=
  if m.fin = 0 then ((m.told irq blk).enter.counted).run1 value else (m, -1)

theorem putWords_len (l : List Int) (p : Nat) (blk : List Int) (k : Nat) : (putWords l p blk k).length = l.length := by
  induction k with
  | zero => rfl
  | succ k ih => simp [putWords, ih]

theorem allB_set {l : List Int} {i : Nat} {x : Int} (h : allB l = true) (hx : wordB x = true) : allB (l.set i x) = true := by
  rw [allB_iff] at *
  intro j hj
  simp at hj
  by_cases hi : i < l.length
  · rw [getD_set _ _ _ _ _ hi]
    split
    · exact hx
    · exact h j hj
  · rw [List.set_eq_of_length_le (by omega)]; exact h j hj
theorem putWords_all {l : List Int} {p : Nat} {blk : List Int} (h : allB l = true) (hb : allB blk = true) (k : Nat) (hk : k ≤ blk.length) : allB (putWords l p blk k) = true := by
  induction k with
  | zero => exact h
  | succ k ih => exact allB_set (ih (by omega)) (allB_iff.1 hb k (by omega))
attribute [irreducible] putWords
theorem foldF_word (n : Int) : wordB (foldF n) = true := wordB_iff.2 (foldF_bd n)

/-- What comes from outside leaves a guest that may be. -/
theorem MayP.told {m : Mach} (h : MayP m) (irq : Bool) {blk : List Int} (hb : allB blk = true) (hl : blk.length = 0 ∨ blk.length = 16) : MayP (m.told irq blk) := by
  unfold Mach.told
  split
  · next hc => exact ⟨h.regs, (putWords_len _ _ _ _).trans h.mem, h.out, h.aregs, putWords_all h.amem hb 16 (by omega), h.aout, h.pc, h.back, h.table, h.count, h.fin, ⟨by simp, by simp⟩, ⟨by simp, by simp⟩⟩
  · exact ⟨h.regs, h.mem, h.out, h.aregs, h.amem, h.aout, h.pc, h.back, h.table, h.count, h.fin, h.ready, h.want⟩
theorem word8 : wordB 8 = true := by decide
theorem MayP.enter {m : Mach} (h : MayP m) : MayP m.enter := by
  unfold Mach.enter
  split
  · exact ⟨h.regs, h.mem, h.out, h.aregs, h.amem, h.aout, word8, h.pc, h.table, h.count, h.fin, h.ready, h.want⟩
  · exact h
theorem MayP.counted {m : Mach} (h : MayP m) (hc : m.count < 1099511627776) : MayP m.counted :=
  ⟨h.regs, h.mem, h.out, h.aregs, h.amem, h.aout, h.pc, h.back, h.table, ⟨by have := h.count; show 0 ≤ m.count + 1; omega, by show m.count + 1 ≤ _; omega⟩, h.fin, h.ready, h.want⟩
theorem told_count (m : Mach) (irq : Bool) (blk : List Int) : (m.told irq blk).count = m.count ∧ (m.told irq blk).fin = m.fin := by unfold Mach.told; split <;> exact ⟨rfl, rfl⟩
theorem enter_count (m : Mach) : m.enter.count = m.count ∧ m.enter.fin = m.fin := by unfold Mach.enter; split <;> exact ⟨rfl, rfl⟩

theorem MayP.go {m : Mach} (h : MayP m) (p : Int) : MayP (m.go p) := ⟨h.regs, h.mem, h.out, h.aregs, h.amem, h.aout, foldF_word p, h.back, h.table, h.count, h.fin, h.ready, h.want⟩
theorem MayP.setReg {m : Mach} (h : MayP m) (k : Int) {x : Int} (hx : wordB x = true) : MayP (m.setReg k x) := ⟨by simp [Mach.setReg, h.regs], h.mem, h.out, allB_set h.aregs hx, h.amem, h.aout, h.pc, h.back, h.table, h.count, h.fin, h.ready, h.want⟩
theorem MayP.ends {m : Mach} (h : MayP m) {e : Int} (he : 0 ≤ e ∧ e ≤ 4) : MayP (m.ends e) := ⟨h.regs, h.mem, h.out, h.aregs, h.amem, h.aout, h.pc, h.back, h.table, h.count, he, h.ready, h.want⟩
theorem reg_word {m : Mach} (h : MayP m) {k : Int} (hk : 0 ≤ k ∧ k ≤ 7) : wordB (m.reg k) = true := allB_iff.1 h.aregs _ (by have := h.regs; omega)
theorem meantE_bd (m : Mach) (p : Int) (wr : Bool) : 0 ≤ m.meantE p wr ∧ m.meantE p wr ≤ 4 := by
  unfold Mach.meantE
  repeat' split
  all_goals decide
theorem nextE_bd (m : Mach) : 0 ≤ m.nextE ∧ m.nextE ≤ 4 := by
  unfold Mach.nextE
  split
  · split <;> decide
  · exact meantE_bd _ _ _

/-- A slice over numbers that lies below 'lo'. -/
def IntsOld (lo : Nat) (w : World) (v : Value) (l : List Int) : Prop :=
  ∃ (A : Option Addr) (c : Nat), v = .slice A l.length c ∧ l.length * 8 ≤ 140737488351232 ∧
    (0 < l.length → ∃ b off, A = some ⟨b, off, none⟩ ∧ b < lo ∧ ∀ j, j < l.length → w.cell? ⟨b, off + j, none⟩ = some (.int .i64 (l.getD j 0)))
theorem IntsOld.below {lo : Nat} {w w' : World} {v : Value} {l : List Int} (h : IntsOld lo w v l) (hb : Below lo w w') : IntsOld lo w' v l := by
  obtain ⟨A, c, rfl, hl, hc⟩ := h
  refine ⟨A, c, rfl, hl, fun h0 => ?_⟩
  obtain ⟨b, off, rfl, hlt, hj⟩ := hc h0
  exact ⟨b, off, rfl, hlt, fun j hjl => (hb.cell (p := ⟨b, off + j, none⟩) hlt).trans (hj j hjl)⟩

/-- A guest in a local variable (block b), its slices of the call's own; an empty guest behind it. -/
structure Boxed (w : World) (lo : Nat) (wc : World) (rv mv ov : Value) (m : Mach) : Prop where
  box : wc.heap[w.heap.size]? = some (.cells (m.cells rv mv ov) 28 (0, 0))
  res : wc.heap[w.heap.size + 1]? = some (.cells zeroM 28 (0, 0))
  own : OwnM wc lo rv mv ov m
  old : Below lo w wc

theorem boxed_start {w : World} {lo : Nat} {rv mv ov : Value} {m : Mach} (m' : Mach) (h : OwnM w lo rv mv ov m) (hlo : lo ≤ w.heap.size) (h1 : m'.regs = m.regs) (h2 : m'.mem = m.mem) (h3 : m'.out = m.out) :
    Boxed w lo ((w.alloc (.cells (m'.cells rv mv ov) 28)).alloc (.cells zeroM 28)) rv mv ov m' := by
  obtain ⟨b0, b1, b2⟩ := two_boxes (Below.refl (((w.alloc (.cells (m'.cells rv mv ov) 28)).alloc (.cells zeroM 28)).heap.size) ((w.alloc (.cells (m'.cells rv mv ov) 28)).alloc (.cells zeroM 28)))
  exact ⟨b0, b1, (h.below b2).of h1 h2 h3, b2.mono hlo⟩

end Go.Proofs.YtecpblabaelopaaDoor
