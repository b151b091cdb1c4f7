/- Plain notions: numbers that may be, instructions, words. -/
import Derived.Test.YtgjlomccdgpnnaaProg
import Derived.Test.YtgjlomccdgpnnaaBase
import Derived.WalkKit
import Derived.WalkLawsBesides
import Derived.Deep.QuietTactic
import Derived.BigQuiet
import Derived.Outline
namespace Go.Proofs.Ytgjlomccdgpnnaa
open Go.RowKit
set_option maxRecDepth 100000

/-- The same test, closed to the walk. -/
def inB (n lo hi : Int) : Bool := decide (lo ≤ n ∧ n ≤ hi)
theorem inB_yes {n lo hi : Int} (h1 : lo ≤ n) (h2 : n ≤ hi) : inB n lo hi = true := by simp [inB, h1, h2]
theorem inB_no {n lo hi : Int} (h : ¬ (lo ≤ n ∧ n ≤ hi)) : inB n lo hi = false := by simp only [inB, decide_eq_false_iff_not]; exact h

/-- A callee's contract, met in a region that draws, where the draws ahead of the region have been added in. -/
theorem quiet_same2 {P : Program} {f : FuncId} {args : Array Value} {w : World} {n k : Nat} {v : Value}
    (h : Calls P f args (w.drewN (n + k)) fun e w' => e = .returned v ∧ w' = w.drewN (n + k)) : Calls P f args (w.drewN (n + k)) fun e w'' => e = .returned v ∧ ∃ m, w'' = w.drewN (n + m) :=
  h.mono fun _ _ ⟨he, hm⟩ => ⟨he, k, hm⟩
theorem quiet_of2 {P : Program} {f : FuncId} {args : Array Value} {w : World} {n k : Nat} {v : Value}
    (h : Calls P f args (w.drewN (n + k)) fun e w' => e = .returned v ∧ ∃ m, w' = (w.drewN (n + k)).drewN m) : Calls P f args (w.drewN (n + k)) fun e w'' => e = .returned v ∧ ∃ m, w'' = w.drewN (n + m) :=
  h.mono fun _ _ ⟨he, m, hm⟩ => ⟨he, k + m, by rw [hm, World.drewN_drewN, Nat.add_assoc]⟩

theorem ret_int {k : IntKind} {a b : Int} (h : a = b) : Ending.returned (.int k a) = .returned (.int k b) := by rw [h]
theorem ret_bool {a b : Bool} (h : a = b) : Ending.returned (.bool a) = .returned (.bool b) := by rw [h]

/-- The word that is a multiple of 2 * MaxWord + 1 beside a number. -/
def foldF (n : Int) : Int := (n + 1099511627776) % 2199023255553 - 1099511627776
theorem foldF_bd (n : Int) : -1099511627776 ≤ foldF n ∧ foldF n ≤ 1099511627776 := by unfold foldF; omega
theorem foldF_of {n m : Int} (h1 : -1099511627776 ≤ m) (h2 : m ≤ 1099511627776) (h3 : (n - m) % 2199023255553 = 0) : foldF n = m := by unfold foldF; omega
theorem foldF_id {n : Int} (h1 : -1099511627776 ≤ n) (h2 : n ≤ 1099511627776) : foldF n = n := foldF_of h1 h2 (by simp)
theorem i64_bd {n : Int} (h : (Lit.int .i64 n).wf = true) : -9223372036854775808 ≤ n ∧ n ≤ 9223372036854775807 := by
  simpa [Lit.wf, IntKind.min, IntKind.max, IntKind.signed, IntKind.bits] using h

/-- What is wrong with an instruction. -/
def instrNo (op a b n : Int) : Int :=
  if !inB op 0 15 then 3 else
  if !inB a 0 7 || !inB b 0 7 || !inB n (-1048576) 1048575 then 2 else
  if (op == 2 || op == 3) && !inB n 0 7 then 4 else
  if op == 12 && !inB n 0 1 then 4 else 0

/-- A struct of four fields in a block of its own. -/
theorem four_cells {w : World} {b : Nat} {x0 x1 x2 x3 : Value} {t : TypeId} (h : w.heap[b]? = some (.cells #[x0, x1, x2, x3] t (0, 0))) :
    w.cell? ⟨b, 0, none⟩ = some x0 ∧ w.cell? ⟨b, 1, none⟩ = some x1 ∧ w.cell? ⟨b, 2, none⟩ = some x2 ∧ w.cell? ⟨b, 3, none⟩ = some x3 ∧ (∀ j, w.frozen? ⟨b, j, none⟩ = false) ∧ b < w.heap.size :=
  ⟨by simp [World.cell?, h], by simp [World.cell?, h], by simp [World.cell?, h], by simp [World.cell?, h], fun j => by simp [World.frozen?, h], lt_of_block h⟩

theorem ret_two {k k' : IntKind} {a b c d : Int} (h : a = b) (h' : c = d) : Ending.returned (.tuple #[.int k a, .int k' c]) = .returned (.tuple #[.int k b, .int k' d]) := by rw [h, h']

/-- Quotient and rest, as Go has them, by sign. -/
theorem tdiv_sign (n b : Int) : (0 ≤ n ∧ n.tdiv b = n / b) ∨ (n < 0 ∧ n.tdiv b = -((-n) / b)) := by
  by_cases h : 0 ≤ n
  · exact Or.inl ⟨h, Int.tdiv_eq_ediv_of_nonneg h⟩
  · exact Or.inr ⟨by omega, by rw [← Int.tdiv_eq_ediv_of_nonneg (by omega), Int.neg_tdiv, Int.neg_neg]⟩
theorem tmod_sign (n b : Int) : (0 ≤ n ∧ n.tmod b = n % b) ∨ (n < 0 ∧ n.tmod b = -((-n) % b)) := by
  by_cases h : 0 ≤ n
  · exact Or.inl ⟨h, Int.tmod_eq_emod_of_nonneg h⟩
  · exact Or.inr ⟨by omega, by rw [← Int.tmod_eq_emod_of_nonneg (by omega), Int.neg_tmod, Int.neg_neg]⟩

theorem inB_iff {n lo hi : Int} : inB n lo hi = true ↔ lo ≤ n ∧ n ≤ hi := by simp [inB]
theorem instrNo_bd {op a b n : Int} (h : instrNo op a b n = 0) : (0 ≤ op ∧ op ≤ 15) ∧ (0 ≤ a ∧ a ≤ 7) ∧ (0 ≤ b ∧ b ≤ 7) ∧ (-1048576 ≤ n ∧ n ≤ 1048575) := by
  cases c0 : inB op 0 15 with
  | false => simp [instrNo, c0] at h
  | true =>
  cases c1 : inB a 0 7 with
  | false => simp [instrNo, c0, c1] at h
  | true =>
  cases c2 : inB b 0 7 with
  | false => simp [instrNo, c0, c1, c2] at h
  | true =>
  cases c3 : inB n (-1048576) 1048575 with
  | false => simp [instrNo, c0, c1, c2, c3] at h
  | true => exact ⟨inB_iff.1 c0, inB_iff.1 c1, inB_iff.1 c2, inB_iff.1 c3⟩
theorem instrNo_reg {op a b n : Int} (h : instrNo op a b n = 0) (ho : op = 2 ∨ op = 3) : 0 ≤ n ∧ n ≤ 7 := by
  obtain ⟨b0, b1, b2, b3⟩ := instrNo_bd h
  cases c3 : inB n 0 7 with
  | true => exact inB_iff.1 c3
  | false => rcases ho with rfl | rfl <;> simp [instrNo, inB_iff.2 b0, inB_iff.2 b1, inB_iff.2 b2, inB_iff.2 b3, c3] at h

/-- The word of an instruction. -/
def wordF (op a b n : Int) : Int := 1024 * n + 128 * b + 16 * a + op
def wordNo (op a b n : Int) : Int := if instrNo op a b n = 0 then wordF op a b n else 0

/-- What is wrong with a word. -/
def decNo (x : Int) : Int := instrNo (x % 16) (x / 16 % 8) (x / 128 % 8) (x / 1024)
/-- The instruction of a word; without one the empty instruction. -/
def decI (x : Int) : Value := if decNo x = 0 then .agg #[.int .i64 (x % 16), .int .i64 (x / 16 % 8), .int .i64 (x / 128 % 8), .int .i64 (x / 1024)] else .agg #[.int .i64 0, .int .i64 0, .int .i64 0, .int .i64 0]

theorem low_parts (x : Int) : (x - 1024 * (x / 1024)) % 16 = x % 16 ∧ (x - 1024 * (x / 1024)) / 16 % 8 = x / 16 % 8 ∧ (x - 1024 * (x / 1024)) / 128 = x / 128 % 8 := by omega

theorem two_boxes {w w1 : World} {o1 o2 : Obj} (hb : Below ((w.alloc o1).alloc o2).heap.size ((w.alloc o1).alloc o2) w1) :
    w1.heap[w.heap.size]? = some o1 ∧ w1.heap[w.heap.size + 1]? = some o2 ∧ Below w.heap.size w w1 := by
  refine ⟨?_, ?_, (((Below.refl _ _).alloc (Nat.le_refl _) o1).alloc (by simp) o2).trans (hb.mono (by simp; omega))⟩
  · rw [hb.block _ (by simp; omega), Below.heap_alloc _ _ _ (by simp), Go.Deep.blk_alloc_new]
  · have := Go.Deep.blk_alloc_new (w.alloc o1) o2
    rw [show (w.alloc o1).heap.size = w.heap.size + 1 by simp] at this
    rw [hb.block _ (by simp), this]

/-- A number that is a word. -/
def wordB (n : Int) : Bool := inB n (-1099511627776) 1099511627776
theorem wordB_iff {n : Int} : wordB n = true ↔ -1099511627776 ≤ n ∧ n ≤ 1099511627776 := by simp [wordB, inB]
/-- Numbers that all are words. -/
def allB (l : List Int) : Bool := l.all wordB
theorem allB_iff {l : List Int} : allB l = true ↔ ∀ i, i < l.length → wordB (l.getD i 0) = true := by
  unfold allB
  rw [List.all_eq_true]
  constructor
  · intro h i hi
    have : l.getD i 0 = l[i] := by simp [List.getD, hi]
    rw [this]
    exact h _ (List.getElem_mem hi)
  · intro h x hx
    obtain ⟨i, hi, rfl⟩ := List.getElem_of_mem hx
    have := h i hi
    rwa [show l.getD i 0 = l[i] by simp [List.getD, hi]] at this
theorem allB_no {l : List Int} {k : Nat} (hk : k < l.length) (h : wordB (l.getD k 0) = false) : allB l = false := by
  cases e : allB l with
  | false => rfl
  | true => rw [allB_iff.1 e k hk] at h; exact absurd h (by decide)
theorem allB_step {l : List Int} {k : Nat} (h : ∀ i, i < k → wordB (l.getD i 0) = true) (hk : wordB (l.getD k 0) = true) : ∀ i, i < k + 1 → wordB (l.getD i 0) = true := fun i hi => by
  by_cases e : i = k
  · subst e; exact hk
  · exact h i (by omega)

end Go.Proofs.Ytgjlomccdgpnnaa
