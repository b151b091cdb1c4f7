/- Numbers and slices of numbers that are handed in, opened. -/
import Derived.Test.YtbjlfhpiebokkaaDoorProg
import Derived.Test.YtbjlfhpiebokkaaDoorBasePart
import Derived.ProofKit
import Derived.OpenShut
import Derived.SizedLaws
import Derived.Lib.SmallJoins
import Derived.Deep.Matrix
import Derived.Test.YtbjlfhpiebokkaaDoorRows
import Derived.LaidMore
import Derived.LaidLaws
import Derived.Stop.Joined
namespace Go.Proofs.YtbjlfhpiebokkaaDoor
open Go.ChangeShapes Go.WideShapes Go.ChangeAt Go.RowKit Go.Deep Go.Joins
set_option maxRecDepth 100000

theorem own : ownKnob Tryd.prog.godebug = none := by kernel_rfl
theorem laidOut : laidOutB Tryd.prog = true := by kernel_rfl
theorem cellsInts : Tryd.prog.cellsOf 22 = 1 := by kernel_rfl
theorem cellsInt : Tryd.prog.cellsOf 3 = 1 := by kernel_rfl
theorem bytesInts : Tryd.prog.bytesOf 22 = 24 := by kernel_rfl
theorem bytesInt : Tryd.prog.bytesOf 3 = 8 := by kernel_rfl
theorem reach_is : reachBytes = 140737488351232 := rfl

theorem weightsAll_mem {H : Type} {P : Program} {e : TypeId} : ∀ {l : List (DataW H)} {d : DataW H}, d ∈ l → ∀ n ∈ d.weights P e, n ∈ DataW.weightsAll P e l
  | x :: l, d, hd, n, hn => by
    simp only [DataW.weightsAll, List.mem_append]
    rcases List.mem_cons.1 hd with rfl | h
    · exact Or.inl hn
    · exact Or.inr (weightsAll_mem h n hn)

theorem intsAt_of {H : Type} {enc : TypeId × Value → H} {W : World} {fuel : Nat} {v : Value} {x : DataW H × List MemPlace}
    (h : DataW.trod enc Tryd.prog W 0 (fun _ => true) true fuel 22 [v] = some x) (hs : ∀ n ∈ x.1.weights Tryd.prog 22, n ≤ reachBytes) :
    ∃ l, IntsAt W v l ∧ ∀ n ∈ l, (Lit.int .i64 n).wf = true := by
  rcases open_ints Tryd.underlying22 Tryd.underlying3 cellsInt h with ⟨hcs, _⟩ | ⟨a, len, cap, zs, hcs, _, hl, hm, hz, hx, hcell, hwz⟩
  · simp at hcs
    exact ⟨[], ⟨none, 0, by simpa using hcs, by simp, fun h => by simp at h⟩, by simp⟩
  · simp at hcs
    subst hcs
    simp only [if_true] at hz
    have hlen : (zs.take len).length = len := by simp; omega
    refine ⟨zs.take len, ⟨some a, cap, by rw [hlen], ?_, fun h0 => ?_⟩, fun n hn => hwz n (List.mem_of_mem_take hn)⟩
    · have := hs ((zs.take len).length * 8 + (zs.drop len).length * 8) (by
        rw [hx]
        simp only [DataW.weights, Tryd.underlying22, bytesInt, List.mem_cons]
        left
        simp [lits]
        omega)
      rw [reach_is] at this
      omega
    · rw [hlen] at h0 ⊢
      obtain ⟨b, off, rfl, hc⟩ := ints_at hcell (by omega)
      refine ⟨b, off, rfl, World.block_lt_of_cell? _ _ (hc 0 (by omega)), fun j hj => ?_⟩
      rw [hc j (by omega)]
      simp [List.getD, hj]

end Go.Proofs.YtbjlfhpiebokkaaDoor

/- What the package variable evlog.dataWords holds when a call begins. -/

namespace Go.Proofs.YtbjlfhpiebokkaaDoor
open Go.ChangeShapes Go.WideShapes Go.ChangeAt Go.WideMaps Go.WideElems Go.RowKit
set_option maxRecDepth 100000

theorem gWords : Tryd.prog.globalNamed "hourglass/evlog.dataWords" = some 0 := by kernel_rfl
theorem tWords : (Tryd.prog.globals[0]?).map (·.type) = some 146 := by kernel_rfl
def laidD : List (String × DataW Unit) := [("hourglass/evlog.dataWords", Rows.laid_hourglass_evlog_dataWords)]

theorem door_met (os : Os) (args : Array Value) : laidMetH Tryd.prog laidD ((World.doorLaid Tryd.prog 400 os).forCall (fun _ _ => 0) ⟨#[], args, []⟩).memory :=
  laidMetH_of_parts3 (fuel := 8) (laidMet_of_run' 8 (by kernel_rfl) (by kernel_rfl)) (by kernel_rfl) (by kernel_rfl)

theorem of_laid {W : World} (h : laidMetH Tryd.prog laidD W) : Laid W := by
  rw [MakeChecks.laidMetH_plain _ _ _ (by kernel_rfl)] at h
  obtain ⟨ps, ⟨g0, t0, cs0, f0, p0, q0, hg0, ht0, hv0, hd0, _, _⟩, _, _⟩ := h
  obtain rfl := Option.some.inj (gWords.symm.trans hg0)
  obtain rfl := Option.some.inj (tWords.symm.trans ht0)
  obtain ⟨xs, m1, rfl, hx1, hlen, hn4, hel⟩ := DataW.trod_array Tryd.underlying146 hd0
  have c3 : Tryd.prog.cellsOf 3 = 1 := by kernel_rfl
  have c57 : Tryd.prog.cellsOf 146 = 4 := by kernel_rfl
  simp only [Prod.mk.injEq, Rows.laid_hourglass_evlog_dataWords, DataW.agg.injEq] at hx1
  match xs, hn4, hx1, hel with
  | [x0, x1, x2, x3], _, hx1, hel =>
    simp only [List.map_cons, List.map_nil, List.cons.injEq] at hx1
    have e0 := hel 0 (by decide)
    have e1 := hel 1 (by decide)
    have e2 := hel 2 (by decide)
    have e3 := hel 3 (by decide)
    obtain ⟨k0, a0, b0, _⟩ := DataW.trod_int Tryd.underlying3 (show DataW.trod _ Tryd.prog W 0 _ false m1 3 _ = some x0 from e0)
    obtain ⟨k1, a1, b1, _⟩ := DataW.trod_int Tryd.underlying3 (show DataW.trod _ Tryd.prog W 0 _ false m1 3 _ = some x1 from e1)
    obtain ⟨k2, a2, b2, _⟩ := DataW.trod_int Tryd.underlying3 (show DataW.trod _ Tryd.prog W 0 _ false m1 3 _ = some x2 from e2)
    obtain ⟨k3, a3, b3, _⟩ := DataW.trod_int Tryd.underlying3 (show DataW.trod _ Tryd.prog W 0 _ false m1 3 _ = some x3 from e3)
    have v0 := World.var?_cell hg0 hv0 0
    have v1 := World.var?_cell hg0 hv0 1
    have v2 := World.var?_cell hg0 hv0 2
    have v3 := World.var?_cell hg0 hv0 3
    obtain ⟨l⟩ := cs0
    rw [c57] at hlen
    rw [c3] at a0 a1 a2 a3
    rw [b0, b1, b2, b3] at hx1
    simp only [DataW.lit.injEq, Lit.int.injEq] at hx1
    obtain ⟨⟨⟨-, h0⟩, ⟨-, h1⟩, ⟨-, h2⟩, ⟨-, h3⟩, -⟩, -⟩ := hx1
    subst h0 h1 h2 h3
    match l, hlen with
    | [y0, y1, y2, y3], _ =>
      simp at a0 a1 a2 a3
      subst a0 a1 a2 a3
      simp at v0 v1 v2 v3
      exact ⟨v0, v1, v2, v3, World.block_lt_of_cell? _ _ v0⟩

end Go.Proofs.YtbjlfhpiebokkaaDoor

/- A world, plainly: may it be? -/

namespace Go.Proofs.YtbjlfhpiebokkaaDoor
open Go.RowKit

structure Wd where
  irqs : List Int
  values : List Int
  blocks : List (List Int)
  delays : List Int

def allIn (lo hi : Int) (l : List Int) : Bool := l.all fun x => inB x lo hi
theorem allIn_iff {lo hi : Int} {l : List Int} : allIn lo hi l = true ↔ ∀ i, i < l.length → inB (l.getD i 0) lo hi = true := by
  unfold allIn
  rw [List.all_eq_true]
  constructor
  · intro h i hi
    have e : l.getD i 0 = l[i] := by simp [List.getD, hi]
    rw [e]
    exact h _ (List.getElem_mem hi)
  · intro h x hx
    obtain ⟨i, hi, rfl⟩ := List.mem_iff_getElem.1 hx
    have e : l.getD i 0 = l[i] := by simp [List.getD, hi]
    rw [← e]
    exact h i hi
theorem allIn_no {lo hi : Int} {l : List Int} {k : Nat} (hk : k < l.length) (h : inB (l.getD k 0) lo hi = false) : allIn lo hi l = false := by
  cases e : allIn lo hi l with
  | false => rfl
  | true => rw [allIn_iff.1 e k hk] at h; exact absurd h (by decide)
theorem allIn_step {lo hi : Int} {l : List Int} {k : Nat} (h : ∀ i, i < k → inB (l.getD i 0) lo hi = true) (hk : inB (l.getD k 0) lo hi = true) : ∀ i, i < k + 1 → inB (l.getD i 0) lo hi = true := fun i hi => by
  by_cases e : i = k
  · subst e; exact hk
  · exact h i (by omega)
theorem allIn_word (l : List Int) : allIn (-1099511627776) 1099511627776 l = allB l := rfl

def blocksNo : List (List Int) → Int
  | [] => 0
  | b :: r => if b.length = 16 then (if allB b = true then blocksNo r else 2) else 1
theorem blocksNo_drop (D : List (List Int)) (k : Nat) (hk : k < D.length) : blocksNo (D.drop k) = if (D.getD k []).length = 16 then (if allB (D.getD k []) = true then blocksNo (D.drop (k + 1)) else 2) else 1 := by
  have e := List.drop_eq_getElem_cons hk
  have e2 : D.getD k [] = D[k] := by simp [List.getD, hk]
  rw [e, blocksNo, e2]

def Wd.fits (x : Wd) : Bool := decide (x.irqs.length ≤ 1000 ∧ x.values.length ≤ 1000 ∧ x.blocks.length ≤ 1000 ∧ x.delays.length ≤ 1000)
def worldNo (x : Wd) : Int :=
  if x.fits = true then (if allIn 0 3000 x.irqs = true ∧ allIn 0 3000 x.delays = true ∧ allB x.values = true then blocksNo x.blocks else 2) else 1

structure WdAt (w : World) (a b c d : Value) (x : Wd) : Prop where
  irqs : IntsAt w a x.irqs
  values : IntsAt w b x.values
  blocks : RowsAt w c x.blocks
  delays : IntsAt w d x.delays
theorem WdAt.below {w w' : World} {a b c d : Value} {x : Wd} (h : WdAt w a b c d x) (hb : Below w.heap.size w w') : WdAt w' a b c d x :=
  ⟨h.irqs.below hb, h.values.below hb, h.blocks.below hb, h.delays.below hb⟩

end Go.Proofs.YtbjlfhpiebokkaaDoor

/- Memory that a call has made itself: slices of numbers, slices of such slices, frames; what stores into it do. Plain laws, without the program. -/

namespace Go.Proofs.YtbjlfhpiebokkaaDoor
open Go.RowKit
set_option maxRecDepth 100000


def OwnI (w : World) (lo : Nat) (v : Value) (l : List Int) : Prop := w.ownsRow lo 3 1 v l.length (l.map (Value.int .i64))

theorem ownsRow_below {w w' : World} {base : Nat} {e : TypeId} {size : Nat} {v : Value} {n : Nat} {xs : List Value} (h : w.ownsRow base e size v n xs) (hb : Below w.heap.size w w') : w'.ownsRow base e size v n xs := by
  obtain ⟨h1, h2⟩ := h
  refine ⟨h1, ?_⟩
  rcases h2 with h2 | ⟨g, cap, cur, hv, hg, hh, r⟩
  · exact Or.inl h2
  · exact Or.inr ⟨g, cap, cur, hv, hg, by rw [hb.block g (lt_of_block hh)]; exact hh, r⟩

theorem ownsRow_mono {w : World} {base base' : Nat} {e : TypeId} {size : Nat} {v : Value} {n : Nat} {xs : List Value} (h : w.ownsRow base e size v n xs) (hb : base' ≤ base) : w.ownsRow base' e size v n xs := by
  obtain ⟨h1, h2⟩ := h
  refine ⟨h1, ?_⟩
  rcases h2 with h2 | ⟨g, cap, cur, hv, hg, r⟩
  · exact Or.inl h2
  · exact Or.inr ⟨g, cap, cur, hv, by omega, r⟩

theorem ownsRow_at {w : World} {base : Nat} {e : TypeId} {v : Value} {n : Nat} {xs : List Value} (h : w.ownsRow base e 1 v n xs) (hn : 0 < n) :
    ∃ g cap, v = .slice (some ⟨g, 0, none⟩) n cap ∧ base ≤ g ∧ g < w.heap.size ∧ (∃ cur, w.heap[g]? = some (.cells cur e (0, 0))) ∧ (∀ j, j < n → w.cell? ⟨g, j, none⟩ = xs[j]?) ∧ (∀ j, w.frozen? ⟨g, j, none⟩ = false) := by
  have h' := h
  obtain ⟨h1, h2⟩ := h
  rcases h2 with ⟨_, h2⟩ | ⟨g, cap, cur, rfl, hg, hh, r⟩
  · omega
  · exact ⟨g, cap, rfl, hg, lt_of_block hh, ⟨cur, hh⟩, fun j hj => h'.cellAt j (by omega), fun j => h'.frozenAt j⟩

theorem OwnI.low {w : World} {lo : Nat} {v : Value} {l : List Int} (h : OwnI w lo v l) (hl : l.length * 8 ≤ 140737488351232) : IntsLo lo w v l := by
  by_cases h0 : 0 < l.length
  · obtain ⟨g, cap, rfl, hlo, hlt, _, hc, _⟩ := ownsRow_at h h0
    refine ⟨_, cap, rfl, hl, fun _ => ⟨g, 0, rfl, hlo, hlt, fun j hj => ?_⟩⟩
    rw [Nat.zero_add, hc j hj]
    simp [List.getD, hj]
  · have hv : ∃ A c, v = .slice A l.length c := by
      rcases h.2 with ⟨rfl, hn⟩ | ⟨g, cap, cur, rfl, _⟩
      · exact ⟨none, 0, by rw [hn]⟩
      · exact ⟨_, _, rfl⟩
    obtain ⟨A, c, rfl⟩ := hv
    exact ⟨A, c, rfl, hl, fun h => absurd h h0⟩
theorem OwnI.at {w : World} {lo : Nat} {v : Value} {l : List Int} (h : OwnI w lo v l) (hl : l.length * 8 ≤ 140737488351232) : IntsAt w v l := (h.low hl).at

theorem OwnI.snoc {w : World} {lo : Nat} {v : Value} {l l' : List Int} {x : Int} (h : w.ownsRow lo 3 1 v (l.length + 1) (l.map (Value.int .i64) ++ [.int .i64 x])) (e : l' = l ++ [x]) : OwnI w lo v l' := by
  subst e
  simpa [OwnI] using h

theorem grown_below {B : Nat} {w0 w w' : World} {v : Value} {base : Nat} {e : TypeId} {size n : Nat} {xs : List Value} (hb : Below B w0 w) (ho : w.ownsRow base e size v n xs) (hB : B ≤ base) (hB' : B ≤ w.heap.size) {o : Obj} (hg : (w.alloc o).grownBy w' v.ownBlock) : Below B w0 w' :=
  (hb.alloc hB' o).grown hg (by simp; omega) (fun k hk => by have := (ho.lt k hk).1; omega)

theorem OwnI.shape {w : World} {lo : Nat} {v : Value} {l : List Int} (h : OwnI w lo v l) : ∃ A c, v = .slice A l.length c := by
  rcases h.2 with ⟨rfl, hn⟩ | ⟨g, cap, cur, rfl, _⟩
  · exact ⟨none, 0, by rw [hn]⟩
  · exact ⟨_, _, rfl⟩

theorem OwnI.below {w w' : World} {lo : Nat} {v : Value} {l : List Int} (h : OwnI w lo v l) (hb : Below w.heap.size w w') : OwnI w' lo v l := ownsRow_below h hb

end Go.Proofs.YtbjlfhpiebokkaaDoor

/- Frames that a call has made itself, and what stores into them do. Plain laws, without the program. -/

namespace Go.Proofs.YtbjlfhpiebokkaaDoor
open Go.RowKit
set_option maxRecDepth 100000

abbrev nilv : Value := .slice none 0 0

theorem own_ne {w : World} {lo n g : Nat} {e e' : TypeId} {v : Value} {xs : List Value} {cur : Array Value} (h : w.ownsRow lo e 1 v n xs) (hg : w.heap[g]? = some (.cells cur e' (0, 0))) (hne : e ≠ e') : v.ownBlock ≠ some g := by
  intro hv
  rcases h.2 with ⟨rfl, _⟩ | ⟨g', cap, cur', rfl, _, hg', _⟩
  · simp [Value.ownBlock] at hv
  · simp [Value.ownBlock] at hv
    subst hv
    rw [hg] at hg'
    simp at hg'
    exact hne hg'.2.symm

theorem own_block {w : World} {lo n m g cap : Nat} {e : TypeId} {xs : List Value} (h : w.ownsRow lo e 1 (.slice (some ⟨g, 0, none⟩) n cap) m xs) : (∃ cur, w.heap[g]? = some (.cells cur e (0, 0))) ∧ n = m := by
  rcases h.2 with ⟨h0, _⟩ | ⟨g', c, cur, h0, _, hg, _⟩
  · simp at h0
  · simp only [Value.slice.injEq, Option.some.injEq, Addr.mk.injEq, and_true] at h0
    obtain ⟨rfl, rfl, rfl⟩ := h0
    exact ⟨⟨cur, hg⟩, rfl⟩

structure OwnD (w : World) (lo : Nat) (dv : Value) (rows : List Value) (D : List (List Int)) : Prop where
  top : w.ownsRow lo 22 1 dv D.length rows
  each : ∀ i, i < D.length → OwnI w lo (rows.getD i nilv) (D.getD i [])
  apart : ∀ i j, i < D.length → j < D.length → i ≠ j → ∀ g, (rows.getD i nilv).ownBlock = some g → (rows.getD j nilv).ownBlock ≠ some g

theorem OwnD.len {w : World} {lo : Nat} {dv : Value} {rows : List Value} {D : List (List Int)} (h : OwnD w lo dv rows D) : rows.length = D.length := by
  have := h.top.1; omega

theorem OwnD.below {w w' : World} {lo : Nat} {dv : Value} {rows : List Value} {D : List (List Int)} (h : OwnD w lo dv rows D) (hb : Below w.heap.size w w') : OwnD w' lo dv rows D :=
  ⟨ownsRow_below h.top hb, fun i hi => (h.each i hi).below hb, h.apart⟩

theorem getD_set {α : Type} (l : List α) (i j : Nat) (x d : α) (hi : i < l.length) : (l.set i x).getD j d = if j = i then x else l.getD j d := by
  by_cases e : j = i
  · subst e; simp [List.getD, hi]
  · simp [List.getD, e, Ne.symm e]

theorem OwnD.putRow {w : World} {lo n cap gd i : Nat} {u : Value} {rows : List Value} {D : List (List Int)} {l : List Int} (h : OwnD w lo (.slice (some ⟨gd, 0, none⟩) n cap) rows D) (hi : i < D.length)
    (hu : OwnI w lo u l) (hap : ∀ j, j < D.length → j ≠ i → ∀ g, u.ownBlock = some g → (rows.getD j nilv).ownBlock ≠ some g) :
    OwnD (w.setCell ⟨gd, i, none⟩ u) lo (.slice (some ⟨gd, 0, none⟩) n cap) (rows.set i u) (D.set i l) := by
  have hlen := h.len
  obtain ⟨⟨cur, hgd⟩, hn⟩ := own_block h.top
  subst hn
  refine ⟨?_, fun j hj => ?_, fun a b ha hb hab g hg => ?_⟩
  · have := (h.top.stored i u).1
    simpa using this
  · simp at hj
    rw [getD_set _ _ _ _ _ (by omega), getD_set _ _ _ _ _ hi]
    by_cases e : j = i
    · rw [if_pos e, if_pos e]
      exact ownsRow_setCell_other hu (own_ne hu hgd (by decide)) u
    · rw [if_neg e, if_neg e]
      exact ownsRow_setCell_other (h.each j hj) (own_ne (h.each j hj) hgd (by decide)) u
  · simp at ha hb
    rw [getD_set _ _ _ _ _ (by omega)] at hg ⊢
    by_cases e1 : a = i
    · rw [if_pos e1] at hg
      rw [if_neg (by omega)]
      exact hap b hb (by omega) g hg
    · rw [if_neg e1] at hg
      by_cases e2 : b = i
      · rw [if_pos e2]
        intro hu'
        exact hap a ha e1 g hu' hg
      · rw [if_neg e2]
        exact h.apart a b ha hb hab g hg

theorem OwnD.set_same {w : World} {lo i : Nat} {dv : Value} {rows : List Value} {D : List (List Int)} (h : OwnD w lo dv rows D) {l : List Int} (hi : i < D.length) (hu : OwnI w lo (rows.getD i nilv) l) : OwnD w lo dv rows (D.set i l) := by
  refine ⟨by simpa using h.top, fun j hj => ?_, fun a b ha hb => h.apart a b (by simpa using ha) (by simpa using hb)⟩
  simp at hj
  rw [getD_set _ _ _ _ _ hi]
  by_cases e : j = i
  · rw [if_pos e, e]; exact hu
  · rw [if_neg e]; exact h.each j hj

theorem OwnD.other {w : World} {lo : Nat} {dv : Value} {rows : List Value} {D : List (List Int)} (h : OwnD w lo dv rows D) {a : Addr} (h1 : dv.ownBlock ≠ some a.block) (h2 : ∀ i, i < D.length → (rows.getD i nilv).ownBlock ≠ some a.block) (u : Value) : OwnD (w.setCell a u) lo dv rows D :=
  ⟨ownsRow_setCell_other h.top h1 u, fun i hi => ownsRow_setCell_other (h.each i hi) (h2 i hi) u, h.apart⟩

theorem OwnD.otherType {w : World} {lo : Nat} {dv : Value} {rows : List Value} {D : List (List Int)} (h : OwnD w lo dv rows D) {a : Addr} {cur : Array Value} {t : TypeId} (ha : w.heap[a.block]? = some (.cells cur t (0, 0))) (h1 : 22 ≠ t) (h2 : 3 ≠ t) (u : Value) : OwnD (w.setCell a u) lo dv rows D :=
  h.other (own_ne h.top ha h1) (fun i hi => own_ne (h.each i hi) ha h2) u

theorem OwnI.stored {w : World} {lo g cap n i : Nat} {l : List Int} (h : OwnI w lo (.slice (some ⟨g, 0, none⟩) n cap) l) (x : Int) : OwnI (w.setCell ⟨g, i, none⟩ (.int .i64 x)) lo (.slice (some ⟨g, 0, none⟩) n cap) (l.set i x) := by
  obtain ⟨_, hn⟩ := own_block h
  subst hn
  have := (World.ownsRow.stored h i (.int .i64 x)).1
  simpa [OwnI, List.map_set] using this

theorem OwnD.putWord {w : World} {lo i k g cap n : Nat} {dv : Value} {rows : List Value} {D : List (List Int)} (h : OwnD w lo dv rows D) (hi : i < D.length) (hr : rows.getD i nilv = .slice (some ⟨g, 0, none⟩) n cap) (x : Int) :
    OwnD (w.setCell ⟨g, k, none⟩ (.int .i64 x)) lo dv rows (D.set i ((D.getD i []).set k x)) := by
  have hei := h.each i hi
  rw [hr] at hei
  obtain ⟨⟨cur, hg⟩, _⟩ := own_block hei
  refine ⟨by simpa using ownsRow_setCell_other (a := ⟨g, k, none⟩) h.top (own_ne h.top hg (by decide)) _, fun j hj => ?_, fun a b ha hb => h.apart a b (by simpa using ha) (by simpa using hb)⟩
  simp at hj
  rw [getD_set _ _ _ _ _ hi]
  by_cases e : j = i
  · rw [if_pos e, e, hr]
    exact OwnI.stored hei x
  · rw [if_neg e]
    exact ownsRow_setCell_other (a := ⟨g, k, none⟩) (h.each j hj) (h.apart i j hi hj (Ne.symm e) g (by rw [hr]; rfl)) _

theorem OwnD.rows_lo {w : World} {lo : Nat} {dv : Value} {rows : List Value} {D : List (List Int)} (h : OwnD w lo dv rows D) (h1 : D.length * 24 ≤ 140737488351232) (h2 : ∀ i, i < D.length → (D.getD i []).length * 8 ≤ 140737488351232) : RowsLo lo w dv D := by
  by_cases h0 : 0 < D.length
  · obtain ⟨g, cap, rfl, hlo, hlt, _, hc, _⟩ := ownsRow_at h.top h0
    refine ⟨_, cap, rfl, h1, fun _ => ⟨g, 0, rfl, hlo, hlt, fun j hj => ⟨rows.getD j nilv, ?_, (h.each j hj).low (h2 j hj)⟩⟩⟩
    have := h.len
    rw [Nat.zero_add, hc j hj]
    simp [List.getD, show j < rows.length by omega]
  · have hv : ∃ A c, dv = .slice A D.length c := by
      rcases h.top.2 with ⟨rfl, hn⟩ | ⟨g, cap, cur, rfl, _⟩
      · exact ⟨none, 0, by rw [hn]⟩
      · exact ⟨_, _, rfl⟩
    obtain ⟨A, c, rfl⟩ := hv
    exact ⟨A, c, rfl, h1, fun h => absurd h h0⟩
theorem OwnD.rows_at {w : World} {lo : Nat} {dv : Value} {rows : List Value} {D : List (List Int)} (h : OwnD w lo dv rows D) (h1 : D.length * 24 ≤ 140737488351232) (h2 : ∀ i, i < D.length → (D.getD i []).length * 8 ≤ 140737488351232) : RowsAt w dv D := (h.rows_lo h1 h2).at

structure OwnF (w : World) (lo : Nat) (dv rv : Value) (rows : List Value) (D : List (List Int)) (R : List Int) : Prop where
  dat : OwnD w lo dv rows D
  ref : OwnI w lo rv R
  off : ∀ i, i < D.length → ∀ g, rv.ownBlock = some g → (rows.getD i nilv).ownBlock ≠ some g

theorem OwnF.below {w w' : World} {lo : Nat} {dv rv : Value} {rows : List Value} {D : List (List Int)} {R : List Int} (h : OwnF w lo dv rv rows D R) (hb : Below w.heap.size w w') : OwnF w' lo dv rv rows D R :=
  ⟨h.dat.below hb, h.ref.below hb, h.off⟩

theorem OwnF.otherType {w : World} {lo : Nat} {dv rv : Value} {rows : List Value} {D : List (List Int)} {R : List Int} (h : OwnF w lo dv rv rows D R) {a : Addr} {cur : Array Value} {t : TypeId} (ha : w.heap[a.block]? = some (.cells cur t (0, 0))) (h1 : 22 ≠ t) (h2 : 3 ≠ t) (u : Value) : OwnF (w.setCell a u) lo dv rv rows D R :=
  ⟨h.dat.otherType ha h1 h2 u, ownsRow_setCell_other h.ref (own_ne h.ref ha h2) u, h.off⟩

theorem OwnF.shape {w : World} {lo : Nat} {dv rv : Value} {rows : List Value} {D : List (List Int)} {R : List Int} (h : OwnF w lo dv rv rows D R) : ∃ A c B c', dv = .slice A D.length c ∧ rv = .slice B R.length c' := by
  obtain ⟨B, c', hr⟩ := h.ref.shape
  rcases h.dat.top.2 with ⟨hd, hn⟩ | ⟨g, cap, cur, hd, _⟩
  · exact ⟨none, 0, B, c', by rw [hd, hn], hr⟩
  · exact ⟨_, _, B, c', hd, hr⟩

theorem OwnF.opened {w : World} {lo : Nat} {dv rv : Value} {rows : List Value} {D : List (List Int)} {R : List Int} (h : OwnF w lo dv rv rows D R) (hD : 0 < D.length) (hR : 0 < R.length) :
    ∃ gd cd gr cr, dv = .slice (some ⟨gd, 0, none⟩) D.length cd ∧ rv = .slice (some ⟨gr, 0, none⟩) R.length cr ∧ lo ≤ gd ∧ gd < w.heap.size ∧ lo ≤ gr ∧ gr < w.heap.size ∧ gd ≠ gr ∧
      (∀ j, j < D.length → w.cell? ⟨gd, j, none⟩ = some (rows.getD j nilv)) ∧ (∀ j, w.frozen? ⟨gd, j, none⟩ = false) ∧ (∀ j, j < R.length → w.cell? ⟨gr, j, none⟩ = some (.int .i64 (R.getD j 0))) ∧ (∀ j, w.frozen? ⟨gr, j, none⟩ = false) := by
  obtain ⟨gd, cd, hd, l1, l2, ⟨cur, hb⟩, hc, hf⟩ := ownsRow_at h.dat.top hD
  obtain ⟨gr, cr, hr, l3, l4, _, hc', hf'⟩ := ownsRow_at h.ref hR
  have hlen := h.dat.len
  refine ⟨gd, cd, gr, cr, hd, hr, l1, l2, l3, l4, fun e => ?_, fun j hj => ?_, hf, fun j hj => ?_, hf'⟩
  · subst e
    exact own_ne h.ref hb (by decide) (by rw [hr]; rfl)
  · rw [hc j hj]
    simp [List.getD, show j < rows.length by omega]
  · rw [hc' j hj]
    simp [List.getD, hj]

theorem OwnF.mono {w : World} {lo lo' : Nat} {dv rv : Value} {rows : List Value} {D : List (List Int)} {R : List Int} (h : OwnF w lo dv rv rows D R) (hlo : lo' ≤ lo) : OwnF w lo' dv rv rows D R :=
  ⟨⟨ownsRow_mono h.dat.top hlo, fun i hi => ownsRow_mono (h.dat.each i hi) hlo, h.dat.apart⟩, ownsRow_mono h.ref hlo, h.off⟩

theorem OwnF.rowsAt {w w0 : World} {lo : Nat} {dv rv v0 : Value} {rows : List Value} {D : List (List Int)} {R : List Int} (h : OwnF w lo dv rv rows D R) (h0 : RowsAt w0 v0 D) : RowsAt w dv D := h.dat.rows_at h0.bounds.1 h0.bounds.2
theorem OwnF.intsAt {w w0 : World} {lo : Nat} {dv rv v0 : Value} {rows : List Value} {D : List (List Int)} {R : List Int} (h : OwnF w lo dv rv rows D R) (h0 : IntsAt w0 v0 R) : IntsAt w rv R := h.ref.at h0.bound

theorem OwnF.store2 {w : World} {lo b : Nat} {dv rv x y : Value} {rows : List Value} {D : List (List Int)} {R : List Int} {t : TypeId} (h : OwnF w lo dv rv rows D R) (hb : w.heap[b]? = some (.cells #[x, y] t (0, 0))) (h1 : 22 ≠ t) (h2 : 3 ≠ t) (u u' : Value) :
    OwnF ((w.setCell ⟨b, 0, none⟩ u).setCell ⟨b, 1, none⟩ u') lo dv rv rows D R := by
  have hb' : (w.setCell ⟨b, 0, none⟩ u).heap[b]? = some (.cells #[u, y] t (0, 0)) := by
    simp [World.setCell, Array.getElem?_modify, hb]
  exact (h.otherType (a := ⟨b, 0, none⟩) hb h1 h2 u).otherType (a := ⟨b, 1, none⟩) hb' h1 h2 u'

theorem OwnF.putRef {w : World} {lo i g cap n : Nat} {dv : Value} {rows : List Value} {D : List (List Int)} {R : List Int} (h : OwnF w lo dv (.slice (some ⟨g, 0, none⟩) n cap) rows D R) (x : Int) :
    OwnF (w.setCell ⟨g, i, none⟩ (.int .i64 x)) lo dv (.slice (some ⟨g, 0, none⟩) n cap) rows D (R.set i x) := by
  obtain ⟨⟨cur, hg⟩, _⟩ := own_block h.ref
  exact ⟨h.dat.other (a := ⟨g, i, none⟩) (own_ne h.dat.top hg (by decide)) (fun j hj => h.off j hj g rfl) _, OwnI.stored h.ref x, h.off⟩

theorem OwnF.putRow {w : World} {lo n cap gd i : Nat} {u rv : Value} {rows : List Value} {D : List (List Int)} {R l : List Int} (h : OwnF w lo (.slice (some ⟨gd, 0, none⟩) n cap) rv rows D R) (hi : i < D.length)
    (hu : OwnI w lo u l) (hap : ∀ j, j < D.length → j ≠ i → ∀ g, u.ownBlock = some g → (rows.getD j nilv).ownBlock ≠ some g) (hr : ∀ g, rv.ownBlock = some g → u.ownBlock ≠ some g) :
    OwnF (w.setCell ⟨gd, i, none⟩ u) lo (.slice (some ⟨gd, 0, none⟩) n cap) rv (rows.set i u) (D.set i l) R := by
  obtain ⟨⟨cur, hgd⟩, _⟩ := own_block h.dat.top
  have hlen := h.dat.len
  refine ⟨h.dat.putRow hi hu hap, ownsRow_setCell_other (a := ⟨gd, i, none⟩) h.ref (own_ne h.ref hgd (by decide)) u, fun j hj g hg => ?_⟩
  simp at hj
  rw [getD_set _ _ _ _ _ (by omega)]
  by_cases e : j = i
  · rw [if_pos e]; exact hr g hg
  · rw [if_neg e]; exact h.off j hj g hg

theorem OwnF.putWord {w : World} {lo i k g cap n : Nat} {dv rv : Value} {rows : List Value} {D : List (List Int)} {R : List Int} (h : OwnF w lo dv rv rows D R) (hi : i < D.length) (hr : rows.getD i nilv = .slice (some ⟨g, 0, none⟩) n cap) (x : Int) :
    OwnF (w.setCell ⟨g, k, none⟩ (.int .i64 x)) lo dv rv rows (D.set i ((D.getD i []).set k x)) R :=
  ⟨h.dat.putWord hi hr x, ownsRow_setCell_other (a := ⟨g, k, none⟩) h.ref (fun hv => h.off i hi g hv (by rw [hr]; rfl)) _, fun j hj => h.off j (by simpa using hj)⟩

theorem OwnD.fresh {w : World} {lo : Nat} {dv : Value} {rows : List Value} {D : List (List Int)} (h : OwnD w lo dv rows D) {u : Value} (hu : ∀ g, u.ownBlock = some g → w.heap.size ≤ g) (j : Nat) (hj : j < D.length) (g : Nat) (hg : u.ownBlock = some g) : (rows.getD j nilv).ownBlock ≠ some g := fun e => by
  have := ((h.each j hj).lt g e).2
  have := hu g hg
  omega

theorem OwnF.fresh {w : World} {lo : Nat} {dv rv : Value} {rows : List Value} {D : List (List Int)} {R : List Int} (h : OwnF w lo dv rv rows D R) {u : Value} (hu : ∀ g, u.ownBlock = some g → w.heap.size ≤ g) (g : Nat) (hg : rv.ownBlock = some g) : u.ownBlock ≠ some g := fun e => by
  have := (h.ref.lt g hg).2
  have := hu g e
  omega

theorem OwnI.opened {w : World} {lo : Nat} {v : Value} {l : List Int} (h : OwnI w lo v l) (hl : 0 < l.length) :
    ∃ g c, v = .slice (some ⟨g, 0, none⟩) l.length c ∧ lo ≤ g ∧ g < w.heap.size ∧ (∀ i, i < l.length → w.cell? ⟨g, i, none⟩ = some (.int .i64 (l.getD i 0))) ∧ ∀ i, w.frozen? ⟨g, i, none⟩ = false := by
  obtain ⟨g, c, rfl, h1, h2, _, h3, h4⟩ := ownsRow_at h hl
  exact ⟨g, c, rfl, h1, h2, fun i hi => by rw [h3 i hi]; simp [List.getD, hi], h4⟩

end Go.Proofs.YtbjlfhpiebokkaaDoor
