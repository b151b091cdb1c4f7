/- A world, plainly: may it be? -/
import Derived.Test.YtlcdefpdahjjeagDoorNum
namespace Go.Proofs.YtlcdefpdahjjeagDoor
open Go.RowKit

/-- What a world has. -/
structure Wd where
  irqs : List Int
  values : List Int
  blocks : List (List Int)
  delays : List Int

/-- All from lo to hi. -/
def allIn (lo hi : Int) (l : List Int) : Bool := l.all fun x => inB x lo hi
theorem allIn_iff {lo hi : Int} {l : List Int} : allIn lo hi l = true ↔ ∀ i, i < l.length → inB (l.getD i 0) lo hi = true := by
  unfold allIn
  rw [List.all_eq_true]
  constructor
  · intro h i hi
    have e : l.getD i 0 = l[i] := by simp [List.getD, hi]
    rw [e]
    exact h _ (List.getElem_mem hi)
  · intro h x hx
    obtain ⟨i, hi, rfl⟩ := List.mem_iff_getElem.1 hx
    have e : l.getD i 0 = l[i] := by simp [List.getD, hi]
    rw [← e]
    exact h i hi
theorem allIn_no {lo hi : Int} {l : List Int} {k : Nat} (hk : k < l.length) (h : inB (l.getD k 0) lo hi = false) : allIn lo hi l = false := by
  cases e : allIn lo hi l with
  | false => rfl
  | true => rw [allIn_iff.1 e k hk] at h; exact absurd h (by decide)
theorem allIn_step {lo hi : Int} {l : List Int} {k : Nat} (h : ∀ i, i < k → inB (l.getD i 0) lo hi = true) (hk : inB (l.getD k 0) lo hi = true) : ∀ i, i < k + 1 → inB (l.getD i 0) lo hi = true := fun i hi => by
  by_cases e : i = k
  · subst e; exact hk
  · exact h i (by omega)
theorem allIn_word (l : List Int) : allIn (-1099511627776) 1099511627776 l = allB l := rfl

/-- Block by block. -/
def blocksNo : List (List Int) → Int
  | [] => 0
  | b :: r => if b.length = 16 then (if allB b = true then blocksNo r else 2) else 1
/-- All are such as may be so far: what is left tells. -/
theorem blocksNo_drop (D : List (List Int)) (k : Nat) (hk : k < D.length) : blocksNo (D.drop k) = if (D.getD k []).length = 16 then (if allB (D.getD k []) = true then blocksNo (D.drop (k + 1)) else 2) else 1 := by
  have e := List.drop_eq_getElem_cons hk
  have e2 : D.getD k [] = D[k] := by simp [List.getD, hk]
  rw [e, blocksNo, e2]

/-- More than there may be? -/
def Wd.fits (x : Wd) : Bool := decide (x.irqs.length ≤ 1000 ∧ x.values.length ≤ 1000 ∧ x.blocks.length ≤ 1000 ∧ x.delays.length ≤ 1000)
/-- What a world is refused for. -/
def worldNo (x : Wd) : Int :=
  if x.fits = true then (if allIn 0 3000 x.irqs = true ∧ allIn 0 3000 x.delays = true ∧ allB x.values = true then blocksNo x.blocks else 2) else 1

/-- A world in memory. -/
structure WdAt (w : World) (a b c d : Value) (x : Wd) : Prop where
  irqs : IntsAt w a x.irqs
  values : IntsAt w b x.values
  blocks : RowsAt w c x.blocks
  delays : IntsAt w d x.delays
theorem WdAt.below {w w' : World} {a b c d : Value} {x : Wd} (h : WdAt w a b c d x) (hb : Below w.heap.size w w') : WdAt w' a b c d x :=
  ⟨h.irqs.below hb, h.values.below hb, h.blocks.below hb, h.delays.below hb⟩

end Go.Proofs.YtlcdefpdahjjeagDoor
