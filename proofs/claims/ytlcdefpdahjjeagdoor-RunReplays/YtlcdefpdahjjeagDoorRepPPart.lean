/- A replay, plainly. -/
import Derived.Test.YtlcdefpdahjjeagDoorBinsPart
import Derived.Test.YtlcdefpdahjjeagDoorStepDPart
import Derived.Test.YtlcdefpdahjjeagDoorBasePart
namespace Go.Proofs.YtlcdefpdahjjeagDoor
open Go.RowKit
set_option maxRecDepth 100000

theorem count_if (c : Prop) [Decidable c] (A B : Mach × Int) (k : Int) (h1 : A.1.count = k) (h2 : B.1.count = k) : (if c then A else B).1.count = k := by
  split
  · exact h1
  · exact h2
theorem run1_count (m : Mach) (v : Int) : (m.run1 v).1.count = m.count := by
  unfold Mach.run1
  split
  · unfold Mach.exec
    repeat' (first | refine count_if _ _ _ _ ?_ ?_ | rfl)
  · rfl
theorem step_count (m : Mach) (irq : Bool) (blk : List Int) (v : Int) : (m.step irq blk v).1.count ≤ m.count + 1 := by
  unfold Mach.step
  split
  · rw [run1_count]
    show (m.told irq blk).enter.count + 1 ≤ m.count + 1
    rw [(enter_count _).1, (told_count _ _ _).1]
    exact Int.le_refl _
  · show m.count ≤ m.count + 1
    omega
theorem newM_may {l : List Int} (h : newNo l = 0) : MayP (newM l) := by
  unfold newNo at h
  split at h
  · cases h
  · rename_i hl
    split at h
    · cases h
    · rename_i ha
      have ha' : allB l = true := by simpa using ha
      refine ⟨by simp [newM], by simp [newM]; omega, by simp [newM], (by decide : allB (List.replicate 8 0) = true), ?_, rfl, (by decide : wordB 0 = true), (by decide : wordB 0 = true), by simp [newM], by simp [newM], by simp [newM], by simp [newM], by simp [newM]⟩
      show allB (l ++ List.replicate (256 - l.length) 0) = true
      unfold allB at ha' ⊢
      rw [List.all_append, ha', Bool.true_and, List.all_eq_true]
      intro x hx
      rw [(List.mem_replicate.1 hx).2]
      decide

/-- The guest behind so many instructions. -/
def replayM (im : List Int) (L : List Ev) : Nat → Mach
  | 0 => newM im
  | n + 1 => ((replayM im L n).step (toldL n L).irq (toldL n L).blk (toldL n L).val).1
theorem replay_may {im : List Int} {L : List Ev} (hi : newNo im = 0) (hL : chkNo L = 0) : ∀ n, n ≤ 3000 → MayP (replayM im L n) ∧ (replayM im L n).count ≤ n
  | 0, _ => ⟨newM_may hi, Int.le_refl _⟩
  | n + 1, hn => by
    obtain ⟨h1, h2⟩ := replay_may hi hL n (by omega)
    have ht := toldL_may hL n
    refine ⟨h1.step _ ht.all ht.len ht.val (by omega), ?_⟩
    have := step_count (replayM im L n) (toldL n L).irq (toldL n L).blk (toldL n L).val
    show ((replayM im L n).step _ _ _).1.count ≤ ((n + 1 : Nat) : Int)
    omega

def noMach12 : Mach := ⟨[], 0, 0, false, false, 0, 0, 0, [], [], 0, 0⟩
def replayG (im bs : List Int) (cnt n : Int) : Mach × Int :=
  if (tapeG im bs cnt).1 ≠ 0 then (noMach12, (tapeG im bs cnt).1) else if inB n 0 cnt = false then (noMach12, 2) else (replayM im (tapeG im bs cnt).2 n.toNat, 0)
theorem tapeG_ok {im bs : List Int} {cnt : Int} (h : (tapeG im bs cnt).1 = 0) : newNo im = 0 ∧ inB cnt 0 3000 = true ∧ (decD bs).1 = 0 ∧ (tapeG im bs cnt).2 = (decD bs).2 := by
  unfold tapeG at h ⊢
  split at h
  · rename_i h1; exact absurd h h1
  · rename_i h1
    split at h
    · cases h
    · rename_i h2
      split at h
      · rename_i h3; exact absurd h h3
      · rename_i h3
        split at h
        · cases h
        · rename_i h4
          rw [if_neg h1, if_neg h2, if_neg h3, if_neg h4]
          exact ⟨by simpa using h1, by simpa using h2, by simpa using h3, rfl⟩

end Go.Proofs.YtlcdefpdahjjeagDoor

/- Contract of In: is a number from low to high; and laws on callees met in a region that draws. -/

namespace Go.Proofs.YtlcdefpdahjjeagDoor
open Go.RowKit
set_option maxRecDepth 100000
set_option linter.unusedVariables false

theorem In_any (n lo hi : Int) (w : World) : Calls Tryd.prog 35 #[.int .i64 n, .int .i64 lo, .int .i64 hi] w fun e w' => e = .returned (.bool (decide (lo ≤ n ∧ n ≤ hi))) ∧ w' = w := by
  by_cases h1 : lo ≤ n <;> by_cases h2 : n ≤ hi
  all_goals
    go_enter Tryd.func35, Tryd.ntmps35
    go_wp2
    go_ret
    simp [h1, h2]

theorem In_B (n lo hi : Int) (w : World) : Calls Tryd.prog 35 #[.int .i64 n, .int .i64 lo, .int .i64 hi] w fun e w' => e = .returned (.bool (inB n lo hi)) ∧ w' = w := In_any n lo hi w

end Go.Proofs.YtlcdefpdahjjeagDoor
