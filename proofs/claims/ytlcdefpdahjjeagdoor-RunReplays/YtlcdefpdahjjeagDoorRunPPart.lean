/- A world, plainly: may it be? -/
import Derived.Test.YtlcdefpdahjjeagDoorBasePart
import Derived.Deep.RegionHeld3
import Derived.Deep.RegionLaw
import Derived.Deep.RegionWith
import Derived.Deep.DeepCutAuto
namespace Go.Proofs.YtlcdefpdahjjeagDoor
open Go.RowKit

/-- What a world has. -/
structure Wd where
  irqs : List Int
  values : List Int
  blocks : List (List Int)
  delays : List Int

/-- All from lo to hi. -/
def allIn (lo hi : Int) (l : List Int) : Bool := l.all fun x => inB x lo hi
theorem allIn_iff {lo hi : Int} {l : List Int} : allIn lo hi l = true ↔ ∀ i, i < l.length → inB (l.getD i 0) lo hi = true := by
  unfold allIn
  rw [List.all_eq_true]
  constructor
  · intro h i hi
    have e : l.getD i 0 = l[i] := by simp [List.getD, hi]
    rw [e]
    exact h _ (List.getElem_mem hi)
  · intro h x hx
    obtain ⟨i, hi, rfl⟩ := List.mem_iff_getElem.1 hx
    have e : l.getD i 0 = l[i] := by simp [List.getD, hi]
    rw [← e]
    exact h i hi
theorem allIn_no {lo hi : Int} {l : List Int} {k : Nat} (hk : k < l.length) (h : inB (l.getD k 0) lo hi = false) : allIn lo hi l = false := by
  cases e : allIn lo hi l with
  | false => rfl
  | true => rw [allIn_iff.1 e k hk] at h; exact absurd h (by decide)
theorem allIn_step {lo hi : Int} {l : List Int} {k : Nat} (h : ∀ i, i < k → inB (l.getD i 0) lo hi = true) (hk : inB (l.getD k 0) lo hi = true) : ∀ i, i < k + 1 → inB (l.getD i 0) lo hi = true := fun i hi => by
  by_cases e : i = k
  · subst e; exact hk
  · exact h i (by omega)
theorem allIn_word (l : List Int) : allIn (-1099511627776) 1099511627776 l = allB l := rfl

/-- Block by block. -/
def blocksNo : List (List Int) → Int
  | [] => 0
  | b :: r => if b.length = 16 then (if allB b = true then blocksNo r else 2) else 1
/-- All are such as may be so far: what is left tells. -/
theorem blocksNo_drop (D : List (List Int)) (k : Nat) (hk : k < D.length) : blocksNo (D.drop k) = if (D.getD k []).length = 16 then (if allB (D.getD k []) = true then blocksNo (D.drop (k + 1)) else 2) else 1 := by
  have e := List.drop_eq_getElem_cons hk
  have e2 : D.getD k [] = D[k] := by simp [List.getD, hk]
  rw [e, blocksNo, e2]

/-- More than there may be? -/
def Wd.fits (x : Wd) : Bool := decide (x.irqs.length ≤ 1000 ∧ x.values.length ≤ 1000 ∧ x.blocks.length ≤ 1000 ∧ x.delays.length ≤ 1000)
/-- What a world is refused for. -/
def worldNo (x : Wd) : Int :=
  if x.fits = true then (if allIn 0 3000 x.irqs = true ∧ allIn 0 3000 x.delays = true ∧ allB x.values = true then blocksNo x.blocks else 2) else 1

/-- A world in memory. -/
structure WdAt (w : World) (a b c d : Value) (x : Wd) : Prop where
  irqs : IntsAt w a x.irqs
  values : IntsAt w b x.values
  blocks : RowsAt w c x.blocks
  delays : IntsAt w d x.delays
theorem WdAt.below {w w' : World} {a b c d : Value} {x : Wd} (h : WdAt w a b c d x) (hb : Below w.heap.size w w') : WdAt w' a b c d x :=
  ⟨h.irqs.below hb, h.values.below hb, h.blocks.below hb, h.delays.below hb⟩

end Go.Proofs.YtlcdefpdahjjeagDoor

/- Contracts of run.outside, of the closure that it makes, and of what is no word. -/

namespace Go.Proofs.YtlcdefpdahjjeagDoor
open Go.RowKit

/-- A closure that finds what is not from lo to hi. -/
abbrev cloR (p q : Nat) : Value := .func (.func 78) #[] #[.pointer (some ⟨p, 0, none⟩), .pointer (some ⟨q, 0, none⟩)]
/-- What such a closure holds. -/
structure CloAtR (w : World) (p q : Nat) (lo hi : Int) : Prop where
  c1 : w.cell? ⟨p, 0, none⟩ = some (.int .i64 lo)
  c2 : w.cell? ⟨q, 0, none⟩ = some (.int .i64 hi)
  l1 : p < w.heap.size
  l2 : q < w.heap.size
theorem CloAtR.below {w w' : World} {p q : Nat} {lo hi : Int} (h : CloAtR w p q lo hi) (hb : Below w.heap.size w w') : CloAtR w' p q lo hi :=
  ⟨(hb.cell (p := ⟨p, 0, none⟩) h.l1).trans h.c1, (hb.cell (p := ⟨q, 0, none⟩) h.l2).trans h.c2, Nat.lt_of_lt_of_le h.l1 hb.size, Nat.lt_of_lt_of_le h.l2 hb.size⟩
theorem CloAtR.drew {w : World} {p q : Nat} {lo hi : Int} (h : CloAtR w p q lo hi) : CloAtR w.drew p q lo hi := h.below ((Below.refl _ w).drew)

theorem one_cellR {w : World} {b : Nat} {x : Value} {t : TypeId} (h : w.heap[b]? = some (.cells #[x] t (0, 0))) : w.cell? ⟨b, 0, none⟩ = some x := by simp [World.cell?, h]

theorem outsideR_any (lo hi : Int) (w : World) : Calls Tryd.prog 43 #[.int .i64 lo, .int .i64 hi] w fun e w' => ∃ p q, e = .returned (cloR p q) ∧ CloAtR w' p q lo hi ∧ Below w.heap.size w w' := by
  go_enter Tryd.func43, Tryd.ntmps43
  go_wp2
  go_ret
  obtain ⟨b0, b1, b2⟩ := two_boxes (Below.refl ((w.alloc (.cells #[.int .i64 lo] 3)).alloc (.cells #[.int .i64 hi] 3)).heap.size ((w.alloc (.cells #[.int .i64 lo] 3)).alloc (.cells #[.int .i64 hi] 3)))
  exact ⟨_, _, rfl, ⟨one_cellR b0, one_cellR b1, by simp; omega, by simp⟩, b2⟩

theorem cloR_any (x lo hi : Int) (p q : Nat) (w : World) (h : CloAtR w p q lo hi) :
    Calls Tryd.prog 78 #[.int .i64 x, .pointer (some ⟨p, 0, none⟩), .pointer (some ⟨q, 0, none⟩)] w fun e w' => e = .returned (.bool (!inB x lo hi)) ∧ w' = w := by
  obtain ⟨c1, c2, -, -⟩ := h
  by_cases h1 : x < lo
  · have hI : (!inB x lo hi) = true := by simp [inB]; omega
    rw [hI]
    go_enter Tryd.func78, Tryd.ntmps78
    go_wp2
    go_ret
    exact ⟨rfl, rfl⟩
  · by_cases h2 : hi < x
    · have hI : (!inB x lo hi) = true := by simp [inB]; omega
      rw [hI]
      go_enter Tryd.func78, Tryd.ntmps78
      go_wp2
      go_ret
      exact ⟨rfl, rfl⟩
    · have hI : (!inB x lo hi) = false := by simp [inB]; omega
      rw [hI]
      go_enter Tryd.func78, Tryd.ntmps78
      go_wp2
      go_ret
      exact ⟨rfl, rfl⟩

set_option maxHeartbeats 400000 in
theorem IndexFuncR (v : Value) (l : List Int) (p q : Nat) (lo hi : Int) (w : World) (h : IntsAt w v l) (hq : CloAtR w p q lo hi) :
    Calls Tryd.prog 96 #[v, cloR p q] w fun e w' => ∃ r : Int, e = .returned (.int .i64 r) ∧ decide (0 ≤ r) = !allIn lo hi l ∧ w' = w := by
  obtain ⟨A, c, rfl, hl, hc⟩ := h
  have HQ : Hid (CloAtR w p q lo hi) := hq
  clear hq
  go_enter Tryd.func96, Tryd.ntmps96
  go_wp2
  go_loopw [8] (fun i wr => ∃ k : Nat, k ≤ l.length ∧ i = .int .i64 k ∧ Hid (∀ i, i < k → inB (l.getD i 0) lo hi = true) ∧ wr = w) (fun i _ => l.length - (intOf i).toNat)
  case atStart => exact ⟨0, Nat.zero_le _, rfl, fun i hi => absurd hi (Nat.not_lt_zero _), rfl⟩
  case round =>
    obtain ⟨k, hk, rfl, ht, hw⟩ := hrel
    subst wr
    by_cases hlt : k < l.length
    · obtain ⟨b, off, rfl, hbs, hcell⟩ := hc (by omega)
      have h1 := hcell k hlt
      cases hw : inB (l.getD k 0) lo hi with
      | false =>
        have HN : Hid (true = !allIn lo hi l) := by show _ = _; rw [allIn_no hlt hw]; rfl
        clear hcell hc
        revert h1 hw
        generalize l.getD k 0 = x
        intro h1 hw
        go_wp2_with (go_at_call 78; refine (cloR_any _ lo hi p q _ HQ.out).mono ?_; rintro e w' ⟨rfl, rfl⟩)
        go_ret
        exact ⟨k, rfl, by rw [← HN.out]; simp, rfl⟩
      | true =>
        have HN : Hid (∀ i, i < k + 1 → inB (l.getD i 0) lo hi = true) := allIn_step ht.out hw
        clear hcell hc
        revert h1 hw
        generalize l.getD k 0 = x
        intro h1 hw
        go_wp2_with (go_at_call 78; refine (cloR_any _ lo hi p q _ HQ.out).mono ?_; rintro e w' ⟨rfl, rfl⟩)
        refine ⟨⟨k + 1, by omega, by go_num, HN, trivial⟩, ?_⟩
        simp [intOf]; omega
    · have HN : Hid (false = !allIn lo hi l) := by show _ = _; rw [allIn_iff.2 fun i hi => ht.out i (by omega)]; rfl
      clear hc
      go_wp2
      go_ret
      exact ⟨-1, rfl, by rw [← HN.out]; rfl, rfl⟩

theorem ContainsFuncR (v : Value) (l : List Int) (p q : Nat) (lo hi : Int) (w : World) (h : IntsAt w v l) (hq : CloAtR w p q lo hi) :
    Calls Tryd.prog 56 #[v, cloR p q] w fun e w' => e = .returned (.bool (!allIn lo hi l)) ∧ w' = w := by
  go_enter Tryd.func56, Tryd.ntmps56
  go_wp2_with (go_at_call 96; refine (IndexFuncR v l p q lo hi _ h hq).mono ?_; rintro e w' ⟨r, rfl, hr, rfl⟩)
  go_ret
  exact ⟨rfl, rfl⟩

theorem isNoWordR_any (w : World) : Calls Tryd.prog 55 #[] w fun e w' => ∃ p q, e = .returned (cloR p q) ∧ CloAtR w' p q (-1099511627776) 1099511627776 ∧ Below w.heap.size w w' := by
  go_enter Tryd.func55, Tryd.ntmps55
  go_wp2_with (go_at_call 43; refine (outsideR_any _ _ _).mono ?_; rintro e w' ⟨p, q, rfl, hc, hb⟩)
  go_ret
  exact ⟨p, q, rfl, hc, hb⟩

theorem isNoCount_any (w : World) : Calls Tryd.prog 28 #[] w fun e w' => ∃ p q, e = .returned (cloR p q) ∧ CloAtR w' p q 0 3000 ∧ Below w.heap.size w w' := by
  go_enter Tryd.func28, Tryd.ntmps28
  go_wp2_with (go_at_call 43; refine (outsideR_any _ _ _).mono ?_; rintro e w' ⟨p, q, rfl, hc, hb⟩)
  go_ret
  exact ⟨p, q, rfl, hc, hb⟩

end Go.Proofs.YtlcdefpdahjjeagDoor
