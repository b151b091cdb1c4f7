/- Frames that a call has made itself, and what stores into them do. Plain laws, without the program. -/
import Derived.Test.YtbjlfhpiebokkaaDoorOpenIPart
import Derived.Test.YtbjlfhpiebokkaaDoorInfoPart
import Derived.Test.YtbjlfhpiebokkaaDoorBySumPart
import Derived.Test.YtbjlfhpiebokkaaDoorEvCheckPart
namespace Go.Proofs.YtbjlfhpiebokkaaDoor
open Go.RowKit
set_option maxRecDepth 100000

abbrev nilv : Value := .slice none 0 0

theorem own_ne {w : World} {lo n g : Nat} {e e' : TypeId} {v : Value} {xs : List Value} {cur : Array Value} (h : w.ownsRow lo e 1 v n xs) (hg : w.heap[g]? = some (.cells cur e' (0, 0))) (hne : e ≠ e') : v.ownBlock ≠ some g := by
  intro hv
  rcases h.2 with ⟨rfl, _⟩ | ⟨g', cap, cur', rfl, _, hg', _⟩
  · simp [Value.ownBlock] at hv
  · simp [Value.ownBlock] at hv
    subst hv
    rw [hg] at hg'
    simp at hg'
    exact hne hg'.2.symm

theorem own_block {w : World} {lo n m g cap : Nat} {e : TypeId} {xs : List Value} (h : w.ownsRow lo e 1 (.slice (some ⟨g, 0, none⟩) n cap) m xs) : (∃ cur, w.heap[g]? = some (.cells cur e (0, 0))) ∧ n = m := by
  rcases h.2 with ⟨h0, _⟩ | ⟨g', c, cur, h0, _, hg, _⟩
  · simp at h0
  · simp only [Value.slice.injEq, Option.some.injEq, Addr.mk.injEq, and_true] at h0
    obtain ⟨rfl, rfl, rfl⟩ := h0
    exact ⟨⟨cur, hg⟩, rfl⟩

structure OwnD (w : World) (lo : Nat) (dv : Value) (rows : List Value) (D : List (List Int)) : Prop where
  top : w.ownsRow lo 22 1 dv D.length rows
  each : ∀ i, i < D.length → OwnI w lo (rows.getD i nilv) (D.getD i [])
  apart : ∀ i j, i < D.length → j < D.length → i ≠ j → ∀ g, (rows.getD i nilv).ownBlock = some g → (rows.getD j nilv).ownBlock ≠ some g

theorem OwnD.len {w : World} {lo : Nat} {dv : Value} {rows : List Value} {D : List (List Int)} (h : OwnD w lo dv rows D) : rows.length = D.length := by
  have := h.top.1; omega

theorem OwnD.below {w w' : World} {lo : Nat} {dv : Value} {rows : List Value} {D : List (List Int)} (h : OwnD w lo dv rows D) (hb : Below w.heap.size w w') : OwnD w' lo dv rows D :=
  ⟨ownsRow_below h.top hb, fun i hi => (h.each i hi).below hb, h.apart⟩

theorem getD_set {α : Type} (l : List α) (i j : Nat) (x d : α) (hi : i < l.length) : (l.set i x).getD j d = if j = i then x else l.getD j d := by
  by_cases e : j = i
  · subst e; simp [List.getD, hi]
  · simp [List.getD, e, Ne.symm e]

theorem OwnD.putRow {w : World} {lo n cap gd i : Nat} {u : Value} {rows : List Value} {D : List (List Int)} {l : List Int} (h : OwnD w lo (.slice (some ⟨gd, 0, none⟩) n cap) rows D) (hi : i < D.length)
    (hu : OwnI w lo u l) (hap : ∀ j, j < D.length → j ≠ i → ∀ g, u.ownBlock = some g → (rows.getD j nilv).ownBlock ≠ some g) :
    OwnD (w.setCell ⟨gd, i, none⟩ u) lo (.slice (some ⟨gd, 0, none⟩) n cap) (rows.set i u) (D.set i l) := by
  have hlen := h.len
  obtain ⟨⟨cur, hgd⟩, hn⟩ := own_block h.top
  subst hn
  refine ⟨?_, fun j hj => ?_, fun a b ha hb hab g hg => ?_⟩
  · have := (h.top.stored i u).1
    simpa using this
  · simp at hj
    rw [getD_set _ _ _ _ _ (by omega), getD_set _ _ _ _ _ hi]
    by_cases e : j = i
    · rw [if_pos e, if_pos e]
      exact ownsRow_setCell_other hu (own_ne hu hgd (by decide)) u
    · rw [if_neg e, if_neg e]
      exact ownsRow_setCell_other (h.each j hj) (own_ne (h.each j hj) hgd (by decide)) u
  · simp at ha hb
    rw [getD_set _ _ _ _ _ (by omega)] at hg ⊢
    by_cases e1 : a = i
    · rw [if_pos e1] at hg
      rw [if_neg (by omega)]
      exact hap b hb (by omega) g hg
    · rw [if_neg e1] at hg
      by_cases e2 : b = i
      · rw [if_pos e2]
        intro hu'
        exact hap a ha e1 g hu' hg
      · rw [if_neg e2]
        exact h.apart a b ha hb hab g hg

theorem OwnD.set_same {w : World} {lo i : Nat} {dv : Value} {rows : List Value} {D : List (List Int)} (h : OwnD w lo dv rows D) {l : List Int} (hi : i < D.length) (hu : OwnI w lo (rows.getD i nilv) l) : OwnD w lo dv rows (D.set i l) := by
  refine ⟨by simpa using h.top, fun j hj => ?_, fun a b ha hb => h.apart a b (by simpa using ha) (by simpa using hb)⟩
  simp at hj
  rw [getD_set _ _ _ _ _ hi]
  by_cases e : j = i
  · rw [if_pos e, e]; exact hu
  · rw [if_neg e]; exact h.each j hj

theorem OwnD.other {w : World} {lo : Nat} {dv : Value} {rows : List Value} {D : List (List Int)} (h : OwnD w lo dv rows D) {a : Addr} (h1 : dv.ownBlock ≠ some a.block) (h2 : ∀ i, i < D.length → (rows.getD i nilv).ownBlock ≠ some a.block) (u : Value) : OwnD (w.setCell a u) lo dv rows D :=
  ⟨ownsRow_setCell_other h.top h1 u, fun i hi => ownsRow_setCell_other (h.each i hi) (h2 i hi) u, h.apart⟩

theorem OwnD.otherType {w : World} {lo : Nat} {dv : Value} {rows : List Value} {D : List (List Int)} (h : OwnD w lo dv rows D) {a : Addr} {cur : Array Value} {t : TypeId} (ha : w.heap[a.block]? = some (.cells cur t (0, 0))) (h1 : 22 ≠ t) (h2 : 3 ≠ t) (u : Value) : OwnD (w.setCell a u) lo dv rows D :=
  h.other (own_ne h.top ha h1) (fun i hi => own_ne (h.each i hi) ha h2) u

theorem OwnI.stored {w : World} {lo g cap n i : Nat} {l : List Int} (h : OwnI w lo (.slice (some ⟨g, 0, none⟩) n cap) l) (x : Int) : OwnI (w.setCell ⟨g, i, none⟩ (.int .i64 x)) lo (.slice (some ⟨g, 0, none⟩) n cap) (l.set i x) := by
  obtain ⟨_, hn⟩ := own_block h
  subst hn
  have := (World.ownsRow.stored h i (.int .i64 x)).1
  simpa [OwnI, List.map_set] using this

theorem OwnD.putWord {w : World} {lo i k g cap n : Nat} {dv : Value} {rows : List Value} {D : List (List Int)} (h : OwnD w lo dv rows D) (hi : i < D.length) (hr : rows.getD i nilv = .slice (some ⟨g, 0, none⟩) n cap) (x : Int) :
    OwnD (w.setCell ⟨g, k, none⟩ (.int .i64 x)) lo dv rows (D.set i ((D.getD i []).set k x)) := by
  have hei := h.each i hi
  rw [hr] at hei
  obtain ⟨⟨cur, hg⟩, _⟩ := own_block hei
  refine ⟨by simpa using ownsRow_setCell_other (a := ⟨g, k, none⟩) h.top (own_ne h.top hg (by decide)) _, fun j hj => ?_, fun a b ha hb => h.apart a b (by simpa using ha) (by simpa using hb)⟩
  simp at hj
  rw [getD_set _ _ _ _ _ hi]
  by_cases e : j = i
  · rw [if_pos e, e, hr]
    exact OwnI.stored hei x
  · rw [if_neg e]
    exact ownsRow_setCell_other (a := ⟨g, k, none⟩) (h.each j hj) (h.apart i j hi hj (Ne.symm e) g (by rw [hr]; rfl)) _

theorem OwnD.rows_lo {w : World} {lo : Nat} {dv : Value} {rows : List Value} {D : List (List Int)} (h : OwnD w lo dv rows D) (h1 : D.length * 24 ≤ 140737488351232) (h2 : ∀ i, i < D.length → (D.getD i []).length * 8 ≤ 140737488351232) : RowsLo lo w dv D := by
  by_cases h0 : 0 < D.length
  · obtain ⟨g, cap, rfl, hlo, hlt, _, hc, _⟩ := ownsRow_at h.top h0
    refine ⟨_, cap, rfl, h1, fun _ => ⟨g, 0, rfl, hlo, hlt, fun j hj => ⟨rows.getD j nilv, ?_, (h.each j hj).low (h2 j hj)⟩⟩⟩
    have := h.len
    rw [Nat.zero_add, hc j hj]
    simp [List.getD, show j < rows.length by omega]
  · have hv : ∃ A c, dv = .slice A D.length c := by
      rcases h.top.2 with ⟨rfl, hn⟩ | ⟨g, cap, cur, rfl, _⟩
      · exact ⟨none, 0, by rw [hn]⟩
      · exact ⟨_, _, rfl⟩
    obtain ⟨A, c, rfl⟩ := hv
    exact ⟨A, c, rfl, h1, fun h => absurd h h0⟩
theorem OwnD.rows_at {w : World} {lo : Nat} {dv : Value} {rows : List Value} {D : List (List Int)} (h : OwnD w lo dv rows D) (h1 : D.length * 24 ≤ 140737488351232) (h2 : ∀ i, i < D.length → (D.getD i []).length * 8 ≤ 140737488351232) : RowsAt w dv D := (h.rows_lo h1 h2).at

structure OwnF (w : World) (lo : Nat) (dv rv : Value) (rows : List Value) (D : List (List Int)) (R : List Int) : Prop where
  dat : OwnD w lo dv rows D
  ref : OwnI w lo rv R
  off : ∀ i, i < D.length → ∀ g, rv.ownBlock = some g → (rows.getD i nilv).ownBlock ≠ some g

theorem OwnF.below {w w' : World} {lo : Nat} {dv rv : Value} {rows : List Value} {D : List (List Int)} {R : List Int} (h : OwnF w lo dv rv rows D R) (hb : Below w.heap.size w w') : OwnF w' lo dv rv rows D R :=
  ⟨h.dat.below hb, h.ref.below hb, h.off⟩

theorem OwnF.otherType {w : World} {lo : Nat} {dv rv : Value} {rows : List Value} {D : List (List Int)} {R : List Int} (h : OwnF w lo dv rv rows D R) {a : Addr} {cur : Array Value} {t : TypeId} (ha : w.heap[a.block]? = some (.cells cur t (0, 0))) (h1 : 22 ≠ t) (h2 : 3 ≠ t) (u : Value) : OwnF (w.setCell a u) lo dv rv rows D R :=
  ⟨h.dat.otherType ha h1 h2 u, ownsRow_setCell_other h.ref (own_ne h.ref ha h2) u, h.off⟩

theorem OwnF.shape {w : World} {lo : Nat} {dv rv : Value} {rows : List Value} {D : List (List Int)} {R : List Int} (h : OwnF w lo dv rv rows D R) : ∃ A c B c', dv = .slice A D.length c ∧ rv = .slice B R.length c' := by
  obtain ⟨B, c', hr⟩ := h.ref.shape
  rcases h.dat.top.2 with ⟨hd, hn⟩ | ⟨g, cap, cur, hd, _⟩
  · exact ⟨none, 0, B, c', by rw [hd, hn], hr⟩
  · exact ⟨_, _, B, c', hd, hr⟩

theorem OwnF.opened {w : World} {lo : Nat} {dv rv : Value} {rows : List Value} {D : List (List Int)} {R : List Int} (h : OwnF w lo dv rv rows D R) (hD : 0 < D.length) (hR : 0 < R.length) :
    ∃ gd cd gr cr, dv = .slice (some ⟨gd, 0, none⟩) D.length cd ∧ rv = .slice (some ⟨gr, 0, none⟩) R.length cr ∧ lo ≤ gd ∧ gd < w.heap.size ∧ lo ≤ gr ∧ gr < w.heap.size ∧ gd ≠ gr ∧
      (∀ j, j < D.length → w.cell? ⟨gd, j, none⟩ = some (rows.getD j nilv)) ∧ (∀ j, w.frozen? ⟨gd, j, none⟩ = false) ∧ (∀ j, j < R.length → w.cell? ⟨gr, j, none⟩ = some (.int .i64 (R.getD j 0))) ∧ (∀ j, w.frozen? ⟨gr, j, none⟩ = false) := by
  obtain ⟨gd, cd, hd, l1, l2, ⟨cur, hb⟩, hc, hf⟩ := ownsRow_at h.dat.top hD
  obtain ⟨gr, cr, hr, l3, l4, _, hc', hf'⟩ := ownsRow_at h.ref hR
  have hlen := h.dat.len
  refine ⟨gd, cd, gr, cr, hd, hr, l1, l2, l3, l4, fun e => ?_, fun j hj => ?_, hf, fun j hj => ?_, hf'⟩
  · subst e
    exact own_ne h.ref hb (by decide) (by rw [hr]; rfl)
  · rw [hc j hj]
    simp [List.getD, show j < rows.length by omega]
  · rw [hc' j hj]
    simp [List.getD, hj]

theorem OwnF.mono {w : World} {lo lo' : Nat} {dv rv : Value} {rows : List Value} {D : List (List Int)} {R : List Int} (h : OwnF w lo dv rv rows D R) (hlo : lo' ≤ lo) : OwnF w lo' dv rv rows D R :=
  ⟨⟨ownsRow_mono h.dat.top hlo, fun i hi => ownsRow_mono (h.dat.each i hi) hlo, h.dat.apart⟩, ownsRow_mono h.ref hlo, h.off⟩

theorem OwnF.rowsAt {w w0 : World} {lo : Nat} {dv rv v0 : Value} {rows : List Value} {D : List (List Int)} {R : List Int} (h : OwnF w lo dv rv rows D R) (h0 : RowsAt w0 v0 D) : RowsAt w dv D := h.dat.rows_at h0.bounds.1 h0.bounds.2
theorem OwnF.intsAt {w w0 : World} {lo : Nat} {dv rv v0 : Value} {rows : List Value} {D : List (List Int)} {R : List Int} (h : OwnF w lo dv rv rows D R) (h0 : IntsAt w0 v0 R) : IntsAt w rv R := h.ref.at h0.bound

theorem OwnF.store2 {w : World} {lo b : Nat} {dv rv x y : Value} {rows : List Value} {D : List (List Int)} {R : List Int} {t : TypeId} (h : OwnF w lo dv rv rows D R) (hb : w.heap[b]? = some (.cells #[x, y] t (0, 0))) (h1 : 22 ≠ t) (h2 : 3 ≠ t) (u u' : Value) :
    OwnF ((w.setCell ⟨b, 0, none⟩ u).setCell ⟨b, 1, none⟩ u') lo dv rv rows D R := by
  have hb' : (w.setCell ⟨b, 0, none⟩ u).heap[b]? = some (.cells #[u, y] t (0, 0)) := by
    simp [World.setCell, Array.getElem?_modify, hb]
  exact (h.otherType (a := ⟨b, 0, none⟩) hb h1 h2 u).otherType (a := ⟨b, 1, none⟩) hb' h1 h2 u'

theorem OwnF.putRef {w : World} {lo i g cap n : Nat} {dv : Value} {rows : List Value} {D : List (List Int)} {R : List Int} (h : OwnF w lo dv (.slice (some ⟨g, 0, none⟩) n cap) rows D R) (x : Int) :
    OwnF (w.setCell ⟨g, i, none⟩ (.int .i64 x)) lo dv (.slice (some ⟨g, 0, none⟩) n cap) rows D (R.set i x) := by
  obtain ⟨⟨cur, hg⟩, _⟩ := own_block h.ref
  exact ⟨h.dat.other (a := ⟨g, i, none⟩) (own_ne h.dat.top hg (by decide)) (fun j hj => h.off j hj g rfl) _, OwnI.stored h.ref x, h.off⟩

theorem OwnF.putRow {w : World} {lo n cap gd i : Nat} {u rv : Value} {rows : List Value} {D : List (List Int)} {R l : List Int} (h : OwnF w lo (.slice (some ⟨gd, 0, none⟩) n cap) rv rows D R) (hi : i < D.length)
    (hu : OwnI w lo u l) (hap : ∀ j, j < D.length → j ≠ i → ∀ g, u.ownBlock = some g → (rows.getD j nilv).ownBlock ≠ some g) (hr : ∀ g, rv.ownBlock = some g → u.ownBlock ≠ some g) :
    OwnF (w.setCell ⟨gd, i, none⟩ u) lo (.slice (some ⟨gd, 0, none⟩) n cap) rv (rows.set i u) (D.set i l) R := by
  obtain ⟨⟨cur, hgd⟩, _⟩ := own_block h.dat.top
  have hlen := h.dat.len
  refine ⟨h.dat.putRow hi hu hap, ownsRow_setCell_other (a := ⟨gd, i, none⟩) h.ref (own_ne h.ref hgd (by decide)) u, fun j hj g hg => ?_⟩
  simp at hj
  rw [getD_set _ _ _ _ _ (by omega)]
  by_cases e : j = i
  · rw [if_pos e]; exact hr g hg
  · rw [if_neg e]; exact h.off j hj g hg

theorem OwnF.putWord {w : World} {lo i k g cap n : Nat} {dv rv : Value} {rows : List Value} {D : List (List Int)} {R : List Int} (h : OwnF w lo dv rv rows D R) (hi : i < D.length) (hr : rows.getD i nilv = .slice (some ⟨g, 0, none⟩) n cap) (x : Int) :
    OwnF (w.setCell ⟨g, k, none⟩ (.int .i64 x)) lo dv rv rows (D.set i ((D.getD i []).set k x)) R :=
  ⟨h.dat.putWord hi hr x, ownsRow_setCell_other (a := ⟨g, k, none⟩) h.ref (fun hv => h.off i hi g hv (by rw [hr]; rfl)) _, fun j hj => h.off j (by simpa using hj)⟩

theorem OwnD.fresh {w : World} {lo : Nat} {dv : Value} {rows : List Value} {D : List (List Int)} (h : OwnD w lo dv rows D) {u : Value} (hu : ∀ g, u.ownBlock = some g → w.heap.size ≤ g) (j : Nat) (hj : j < D.length) (g : Nat) (hg : u.ownBlock = some g) : (rows.getD j nilv).ownBlock ≠ some g := fun e => by
  have := ((h.each j hj).lt g e).2
  have := hu g hg
  omega

theorem OwnF.fresh {w : World} {lo : Nat} {dv rv : Value} {rows : List Value} {D : List (List Int)} {R : List Int} (h : OwnF w lo dv rv rows D R) {u : Value} (hu : ∀ g, u.ownBlock = some g → w.heap.size ≤ g) (g : Nat) (hg : rv.ownBlock = some g) : u.ownBlock ≠ some g := fun e => by
  have := (h.ref.lt g hg).2
  have := hu g e
  omega

theorem OwnI.opened {w : World} {lo : Nat} {v : Value} {l : List Int} (h : OwnI w lo v l) (hl : 0 < l.length) :
    ∃ g c, v = .slice (some ⟨g, 0, none⟩) l.length c ∧ lo ≤ g ∧ g < w.heap.size ∧ (∀ i, i < l.length → w.cell? ⟨g, i, none⟩ = some (.int .i64 (l.getD i 0))) ∧ ∀ i, w.frozen? ⟨g, i, none⟩ = false := by
  obtain ⟨g, c, rfl, h1, h2, _, h3, h4⟩ := ownsRow_at h hl
  exact ⟨g, c, rfl, h1, h2, fun i hi => by rw [h3 i hi]; simp [List.getD, hi], h4⟩

end Go.Proofs.YtbjlfhpiebokkaaDoor

/- Contracts of evlog.appendData and evlog.Encode. -/

namespace Go.Proofs.YtbjlfhpiebokkaaDoor
open Go.RowKit
set_option maxRecDepth 100000

def Fits (u : Value) : Prop := ∃ A n c, u = .slice A n c ∧ n ≤ c
structure EvsF (w : World) (v : Value) (L : List Ev) : Prop where
  at_ : EvsAt w v L
  fit : ∀ b off c, v = .slice (some ⟨b, off, none⟩) L.length c → ∀ j, j < L.length → ∀ u, w.cell? ⟨b, off + j * 3 + 2, none⟩ = some u → Fits u
theorem EvsF.below {w w' : World} {v : Value} {L : List Ev} (h : EvsF w v L) (hB : Below w.heap.size w w') : EvsF w' v L := by
  refine ⟨h.at_.below hB, fun b off c e j hj u hu => h.fit b off c e j hj u ?_⟩
  obtain ⟨A, c', e', _, hc⟩ := h.at_
  obtain ⟨b', off', e2, hlt, _⟩ := hc (by omega)
  rw [e] at e'
  simp only [Value.slice.injEq] at e'
  have e3 := e'.1.trans e2
  simp only [Option.some.injEq, Addr.mk.injEq] at e3
  obtain ⟨rfl, rfl, -⟩ := e3
  rw [← hu]
  exact (hB.cell (p := ⟨b, off + j * 3 + 2, none⟩) hlt).symm

def prevAt (L : List Ev) (k : Nat) : Int := if k = 0 then 0 else (L.getD (k - 1) noEv).at_
theorem chk_zero {L : List Ev} (h : chkNo L = 0) : L.length ≤ 1000 ∧ ∀ k, k < L.length → verdict L k = 0 := by
  by_cases h1 : 1000 < L.length
  · simp [chkNo, h1] at h
  · refine ⟨by omega, ?_⟩
    have h0 : chk L 0 = 0 := by simpa [chkNo, h1] using h
    have hall : ∀ k, k ≤ L.length → chk L k = 0 := by
      intro k
      induction k with
      | zero => intro _; exact h0
      | succ k ih =>
        intro hk
        have := ih (by omega)
        by_cases hv : verdict L k = 0
        · rw [← chk_ok (by omega) hv]; exact this
        · rw [chk_no (by omega) hv] at this; exact absurd this hv
    intro k hk
    by_cases hv : verdict L k = 0
    · exact hv
    · have := hall k (by omega)
      rw [chk_no hk hv] at this
      exact absurd this hv
theorem ok_at {L : List Ev} (h : chkNo L = 0) (k : Nat) (hk : k < L.length) : evNo (L.getD k noEv) = 0 ∧ 0 ≤ prevAt L k ∧ prevAt L k ≤ (L.getD k noEv).at_ := by
  obtain ⟨_, hv⟩ := chk_zero h
  have he := verdict_ev (hv k hk)
  refine ⟨he, ?_⟩
  rcases k with _ | j
  · simp only [prevAt, if_pos]
    exact ⟨Int.le_refl 0, (evNo_bd he).2.1.1⟩
  · have hj := verdict_ev (hv j (by omega))
    have hb := hv (j + 1) hk
    unfold verdict at hb
    rw [if_pos he, if_neg (by omega), Nat.add_sub_cancel] at hb
    have hbb : behind (L.getD (j + 1) noEv) (L.getD j noEv) = true := by
      cases e : behind (L.getD (j + 1) noEv) (L.getD j noEv) with
      | true => rfl
      | false => rw [e] at hb; simp at hb
    have h1 := evNo_bd he
    have h2 := evNo_bd hj
    simp only [prevAt, if_neg (show ¬ j + 1 = 0 by omega), Nat.add_sub_cancel]
    unfold behind at hbb
    have hbb := of_decide_eq_true hbb
    exact ⟨h2.2.1.1, by omega⟩
theorem prevAt_succ (L : List Ev) (k : Nat) : prevAt L (k + 1) = (L.getD k noEv).at_ := by simp [prevAt]

theorem zigs_byte {z : Int} : ∀ x ∈ zigs z, 0 ≤ x ∧ x ≤ 255 := by
  unfold zigs
  split <;> exact sevens_byte
theorem runsB_byte : ∀ (l : List Int) (last : Int) (run : Nat), ∀ x ∈ runsB last run l, 0 ≤ x ∧ x ≤ 255
  | [], _, _, x, hx => by simp [runsB] at hx
  | [y], last, run, x, hx => by
    simp only [runsB, List.mem_append] at hx
    rcases hx with hx | hx
    · exact sevens_byte x hx
    · exact zigs_byte x hx
  | y :: z :: t, last, run, x, hx => by
    by_cases h : z = y
    · simp only [runsB, if_pos h] at hx
      exact runsB_byte (z :: t) _ _ x hx
    · simp only [runsB, if_neg h, List.mem_append] at hx
      rcases hx with (hx | hx) | hx
      · exact sevens_byte x hx
      · exact zigs_byte x hx
      · exact runsB_byte (z :: t) _ _ x hx
theorem dataB_byte (y : Ev) : ∀ x ∈ dataB y, 0 ≤ x ∧ x ≤ 255 := by
  unfold dataB
  split
  · exact runsB_byte _ _ _
  · split
    · exact zigs_byte
    · simp
theorem encFrom_byte : ∀ (L : List Ev) (last : Int), ∀ x ∈ encFrom last L, 0 ≤ x ∧ x ≤ 255
  | [], _, x, hx => by simp [encFrom] at hx
  | y :: L, last, x, hx => by
    simp only [encFrom, evB, List.mem_append] at hx
    rcases hx with (hx | hx) | hx
    · exact sevens_byte x hx
    · exact dataB_byte y x hx
    · exact encFrom_byte L _ x hx
theorem encB_byte (L : List Ev) : ∀ x ∈ encB L, 0 ≤ x ∧ x ≤ 255 := by
  intro x hx
  simp only [encB, List.mem_append] at hx
  rcases hx with hx | hx
  · exact sevens_byte x hx
  · exact encFrom_byte L _ x hx
theorem encFrom_len : ∀ (L : List Ev) (last : Int), 0 ≤ last → (∀ x ∈ L, evNo x = 0) → (encFrom last L).length ≤ 231 * L.length
  | [], _, _, _ => by simp [encFrom]
  | y :: L, last, hl, he => by
    have hy := he y (by simp)
    have h1 := evNo_bd hy
    have h2 := sevens_len7 (n := (4 * (y.at_ - last) + y.kind).toNat) (by omega)
    have h3 := dataB_len hy
    have h4 := encFrom_len L y.at_ h1.2.1.1 (fun x hx => he x (List.mem_cons_of_mem _ hx))
    simp [encFrom, evB]
    omega
theorem ok_mem {L : List Ev} (h : chkNo L = 0) : ∀ x ∈ L, evNo x = 0 := fun x hx => by
  obtain ⟨i, hi, rfl⟩ := List.getElem_of_mem hx
  have := (ok_at h i hi).1
  simpa [List.getD, hi] using this
theorem encB_len {L : List Ev} (h : chkNo L = 0) : (encB L).length ≤ 231007 := by
  have h1 := encFrom_len L 0 (by simp) (ok_mem h)
  have h2 := (chk_zero h).1
  have h3 := sevens_len7 (n := L.length) (by omega)
  simp [encB]
  omega
theorem enc_step {L : List Ev} {k : Nat} (hk : k < L.length) (last : Int) : encFrom last (L.drop k) = sevens (4 * ((L.getD k noEv).at_ - last) + (L.getD k noEv).kind).toNat ++ dataB (L.getD k noEv) ++ encFrom (L.getD k noEv).at_ (L.drop (k + 1)) := by
  rw [List.drop_eq_getElem_cons hk]
  have : L[k] = L.getD k noEv := by simp [List.getD, hk]
  rw [this]
  rfl

set_option maxHeartbeats 1000000 in
theorem appendData_any (v u : Value) (bs : List Int) (a k : Int) (d : List Int) (lo : Nat) (w : World) (h : OwnB w lo v bs) (hlo : lo ≤ w.heap.size) (he : evNo ⟨a, k, d⟩ = 0) (hi : IntsAt w u d) (hu : Fits u) (hub : ∀ b off n c, 0 < d.length → u = .slice (some ⟨b, off, none⟩) n c → b < lo) (hlen : bs.length ≤ 1000000) :
    Calls Tryd.prog 61 #[v, .agg #[.int .i64 a, .int .i64 k, u]] w fun e w' => ∃ v', e = .returned v' ∧ Appd lo w w' v v' (bs ++ dataB ⟨a, k, d⟩) := by
  obtain ⟨hk, ha, hw, hl⟩ := evNo_bd he
  simp only at hk ha hw hl
  have HI : Hid (IntsAt w u d) := hi
  obtain ⟨A, c, rfl, h8, hc⟩ := hi
  obtain ⟨A', n', c', e', hcap⟩ := hu
  simp only [Value.slice.injEq] at e'
  obtain ⟨rfl, rfl, rfl⟩ := e'
  have hb0 := below_alloc w (.cells #[.int .i64 a, .int .i64 k, .slice A d.length c] 54)
  have HO : Hid (OwnB (w.alloc (.cells #[.int .i64 a, .int .i64 k, .slice A d.length c] 54)) lo v bs) := h.below hb0
  by_cases k2 : k = 2
  · subst k2
    have h16 : d.length = 16 := by simp [wordsN] at hl; omega
    obtain ⟨b, off, rfl, hbs, hcell⟩ := hc (by omega)
    have HF : Hid (∀ W, W = w.alloc (.cells #[.int .i64 a, .int .i64 2, .slice (some ⟨b, off, none⟩) d.length c] 54) → Calls Tryd.prog 99 #[v, .slice (some ⟨b, off, none⟩) d.length c] W fun e w' => ∃ v', e = .returned v' ∧ Appd lo w w' v v' (bs ++ dataB ⟨a, 2, d⟩)) := fun W e => by
      subst e
      refine (appendRuns_any v _ bs d lo _ HO.out (by simp; omega) ⟨b, off, c, rfl, hcap, hub b off _ c (by omega) rfl⟩ (HI.out.below hb0) (by omega) (allB_mem hw) (by omega)).mono ?_
      rintro e w' ⟨v', rfl, ha'⟩
      refine ⟨v', rfl, ?_⟩
      have : dataB ⟨a, 2, d⟩ = runsB 0 0 d := by simp [dataB]
      rw [this]
      exact ha'.pre hb0 hlo
    clear hc hcell hw hl HI hub HO hb0 he h hk ha h16
    go_enter Tryd.func61, Tryd.ntmps61
    go_wp2_with fail
    refine (HF.out _ rfl).mono ?_
    rintro e w' ⟨v', rfl, ha'⟩
    have HA : Hid (Appd lo w w' v v' (bs ++ dataB ⟨a, 2, d⟩)) := ha'
    clear ha' HF
    go_wp2_with fail
    go_ret
    exact ⟨v', rfl, HA.out⟩
  · by_cases k3 : k = 3
    · subst k3
      have h1 : d.length = 1 := by simp [wordsN] at hl; omega
      obtain ⟨x, rfl⟩ : ∃ x, d = [x] := by
        match d, h1 with
        | [x], _ => exact ⟨x, rfl⟩
      obtain ⟨b, off, rfl, hbs, hcell⟩ := hc (by simp)
      have hx := allB_mem hw x (by simp)
      have c0 : w.cell? ⟨b, off, none⟩ = some (.int .i64 x) := by simpa using hcell 0 (by simp)
      have hbn : ¬ b = w.heap.size := by omega
      have HF : Hid (∀ W, W = w.alloc (.cells #[.int .i64 a, .int .i64 3, .slice (some ⟨b, off, none⟩) 1 c] 54) → Calls Tryd.prog 100 #[v, .int .i64 x] W fun e w' => ∃ v', e = .returned v' ∧ Appd lo w w' v v' (bs ++ dataB ⟨a, 3, [x]⟩)) := fun W e => by
        subst e
        refine (appendAnyKind_any v bs x lo _ HO.out (by simp; omega) (by omega) (by omega)).mono ?_
        rintro e w' ⟨v', rfl, ha'⟩
        refine ⟨v', rfl, ?_⟩
        have : dataB ⟨a, 3, [x]⟩ = zigs x := by simp [dataB]
        rw [this]
        exact ha'.pre hb0 hlo
      clear hc hcell hw hl HI hub HO hb0 he h hk ha
      simp only [List.length_singleton]
      go_enter Tryd.func61, Tryd.ntmps61
      go_wp2_with fail
      refine (HF.out _ rfl).mono ?_
      rintro e w' ⟨v', rfl, ha'⟩
      have HA : Hid (Appd lo w w' v v' (bs ++ dataB ⟨a, 3, [x]⟩)) := ha'
      clear ha' HF
      go_wp2_with fail
      go_ret
      exact ⟨v', rfl, HA.out⟩
    · have HD : Hid (bs ++ dataB ⟨a, k, d⟩ = bs) := by show _ = _; simp [dataB, k2, k3]
      have HA : Hid (Appd lo w (w.alloc (.cells #[.int .i64 a, .int .i64 k, .slice A d.length c] 54)) v v bs) := ⟨HO.out, hb0.mono hlo, (Grown.refl _ _).post hb0⟩
      clear hc hw hl HI hub HO hb0 he h hk ha
      go_enter Tryd.func61, Tryd.ntmps61
      go_wp2_with fail
      go_ret
      exact ⟨v, rfl, by rw [HD.out]; exact HA.out⟩

end Go.Proofs.YtbjlfhpiebokkaaDoor
