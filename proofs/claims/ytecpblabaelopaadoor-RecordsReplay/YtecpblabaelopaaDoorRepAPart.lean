/- What a step counts; a new guest may be. -/
import Derived.Test.YtecpblabaelopaaDoorMaySPart
import Derived.Test.YtecpblabaelopaaDoorBasePart
import Derived.Test.YtecpblabaelopaaDoorRunPPart
import Derived.Maps.AppendAt
namespace Go.Proofs.YtecpblabaelopaaDoor
open Go.RowKit
set_option maxRecDepth 100000

theorem count_if (c : Prop) [Decidable c] (A B : Mach × Int) (k : Int) (h1 : A.1.count = k) (h2 : B.1.count = k) : (if c then A else B).1.count = k := by
  split
  · exact h1
  · exact h2
theorem run1_count (m : Mach) (v : Int) : (m.run1 v).1.count = m.count := by
  unfold Mach.run1
  split
  · unfold Mach.exec
    repeat' (first | refine count_if _ _ _ _ ?_ ?_ | rfl)
  · rfl
theorem step_count (m : Mach) (irq : Bool) (blk : List Int) (v : Int) : (m.step irq blk v).1.count ≤ m.count + 1 := by
  unfold Mach.step
  split
  · rw [run1_count]
    show (m.told irq blk).enter.count + 1 ≤ m.count + 1
    rw [(enter_count _).1, (told_count _ _ _).1]
    exact Int.le_refl _
  · show m.count ≤ m.count + 1
    omega
theorem newM_may {l : List Int} (h : newNo l = 0) : MayP (newM l) := by
  unfold newNo at h
  split at h
  · cases h
  · rename_i hl
    split at h
    · cases h
    · rename_i ha
      have ha' : allB l = true := by simpa using ha
      refine ⟨by simp [newM], by simp [newM]; omega, by simp [newM], (by decide : allB (List.replicate 8 0) = true), ?_, rfl, (by decide : wordB 0 = true), (by decide : wordB 0 = true), by simp [newM], by simp [newM], by simp [newM], by simp [newM], by simp [newM]⟩
      show allB (l ++ List.replicate (256 - l.length) 0) = true
      unfold allB at ha' ⊢
      rw [List.all_append, ha', Bool.true_and, List.all_eq_true]
      intro x hx
      rw [(List.mem_replicate.1 hx).2]
      decide

end Go.Proofs.YtecpblabaelopaaDoor

/- A recording, plainly. -/

namespace Go.Proofs.YtecpblabaelopaaDoor
open Go.RowKit
set_option maxRecDepth 100000

/-- Is it one of these? -/
def hasI (l : List Int) (k : Int) : Bool := l.any fun y => decide (y = k)
theorem hasI_iff {l : List Int} {k : Int} : hasI l k = true ↔ ∃ i, i < l.length ∧ l.getD i 0 = k := by
  unfold hasI
  rw [List.any_eq_true]
  constructor
  · rintro ⟨y, hy, he⟩
    obtain ⟨i, hi, rfl⟩ := List.mem_iff_getElem.1 hy
    exact ⟨i, hi, by simpa [List.getD, hi] using he⟩
  · rintro ⟨i, hi, he⟩
    exact ⟨l[i], List.getElem_mem hi, by simpa [List.getD, hi] using he⟩
theorem hasI_no {l : List Int} {k : Int} (h : ∀ i, i < l.length → l.getD i 0 ≠ k) : hasI l k = false := by
  cases e : hasI l k with
  | false => rfl
  | true =>
    obtain ⟨i, hi, he⟩ := hasI_iff.1 e
    exact absurd he (h i hi)
theorem hasI_take (l : List Int) (k : Int) (j : Nat) (hj : j < l.length) : hasI (l.take (j + 1)) k = (hasI (l.take j) k || decide (l.getD j 0 = k)) := by
  unfold hasI
  rw [List.take_succ_eq_append_getElem hj, List.any_append]
  simp [List.getD, hj]

/-- The guest as it is when its instruction is looked for. -/
def Mach.ahead (m : Mach) (irq : Bool) (blk : List Int) : Mach := (m.told irq blk).enter
/-- Would the step ask the world for a word? -/
def Mach.asks (m : Mach) (irq : Bool) (blk : List Int) : Bool :=
  decide (m.fin = 0 ∧ (m.ahead irq blk).nextE = 0 ∧ (m.ahead irq blk).nextX % 16 = 10 ∧ ((m.ahead irq blk).nextX / 1024 = 0 ∨ (m.ahead irq blk).nextX / 1024 = 1))

def zero16 : List Int := List.replicate 16 0
/-- A recording so far: the guest, the events, how many words were asked for, how many blocks wanted, when the next one comes. -/
structure RecS where
  m : Mach
  evs : List Ev
  va : Nat
  bl : Nat
  due : Int
def RecS.irq (_ : RecS) (x : Wd) (k : Int) : Bool := hasI x.irqs k
def RecS.blk (s : RecS) (x : Wd) (k : Int) : List Int := if s.due = k then x.blocks.getD (s.bl - 1) zero16 else []
def RecS.ask (s : RecS) (x : Wd) (k : Int) : Bool := s.m.asks (s.irq x k) (s.blk x k)
def RecS.val (s : RecS) (x : Wd) (k : Int) : Int := if s.ask x k = true then x.values.getD s.va 0 else 0
def RecS.then_ (s : RecS) (x : Wd) (k : Int) : Mach := (s.m.step (s.irq x k) (s.blk x k) (s.val x k)).1
/-- Is a block wanted behind the step that was not ahead of it? -/
def RecS.new (s : RecS) (x : Wd) (k : Int) : Bool := decide ((s.due = k ∨ s.m.want = -1) ∧ 0 ≤ (s.then_ x k).want)
def RecS.evI (s : RecS) (x : Wd) (k : Int) : List Ev := if s.irq x k = true then [⟨k, 1, []⟩] else []
def RecS.evB (s : RecS) (x : Wd) (k : Int) : List Ev := if s.due = k then [⟨k, 2, s.blk x k⟩] else []
def RecS.evV (s : RecS) (x : Wd) (k : Int) : List Ev := if s.ask x k = true then [⟨k, 3, [s.val x k]⟩] else []
def RecS.next (s : RecS) (x : Wd) (k : Int) : RecS :=
  { m := s.then_ x k
    evs := s.evs ++ s.evI x k ++ s.evB x k ++ s.evV x k
    va := if s.ask x k = true then s.va + 1 else s.va
    bl := if s.new x k = true then s.bl + 1 else s.bl
    due := if s.new x k = true then k + 1 + x.delays.getD s.bl 0 else if s.due = k then -1 else s.due }
def recN (x : Wd) (im : List Int) : Nat → RecS
  | 0 => ⟨newM im, [], 0, 0, -1⟩
  | k + 1 => if (recN x im k).m.fin = 0 then (recN x im k).next x k else recN x im k

/-- How a block stands: none is wanted, and none to come; or one is. -/
def DueOk (k : Int) (s : RecS) : Prop := (s.due = -1 ∧ s.m.want = -1) ∨ (k ≤ s.due ∧ 0 ≤ s.m.want ∧ 1 ≤ s.bl)

theorem want_if (c : Prop) [Decidable c] (A B : Mach × Int) (k : Int) (h1 : A.1.want = k) (h2 : B.1.want = k) : (if c then A else B).1.want = k := by
  split
  · exact h1
  · exact h2
theorem run1_want (m : Mach) (v : Int) (h : m.want ≠ -1) : (m.run1 v).1.want = m.want := by
  unfold Mach.run1
  split
  · unfold Mach.exec
    simp only [if_neg h]
    repeat' (first | refine want_if _ _ _ _ ?_ ?_ | rfl)
  · rfl
theorem enter_want (m : Mach) : m.enter.want = m.want := by unfold Mach.enter; split <;> rfl
theorem step_want {m : Mach} (irq : Bool) (v : Int) (hf : m.fin = 0) (h : m.want ≠ -1) : (m.step irq [] v).1.want = m.want := by
  have e : ((m.told irq []).enter.counted).want = m.want := by
    show (m.told irq []).enter.want = m.want
    rw [enter_want]
    unfold Mach.told
    rw [if_neg (by simp)]
  unfold Mach.step
  rw [if_pos hf, run1_want _ _ (by rw [e]; exact h), e]
theorem step_going {m : Mach} (irq : Bool) (blk : List Int) (v : Int) (hf : m.fin = 0) : (m.step irq blk v).1.count = m.count + 1 := by
  unfold Mach.step
  rw [if_pos hf, run1_count]
  show (m.told irq blk).enter.count + 1 = m.count + 1
  rw [(enter_count _).1, (told_count _ _ _).1]

/-- A world that may be. -/
structure WdMay (x : Wd) : Prop where
  irqs : allIn 0 3000 x.irqs = true
  delays : allIn 0 3000 x.delays = true
  values : allB x.values = true
  blocks : ∀ i, i < x.blocks.length → (x.blocks.getD i []).length = 16 ∧ allB (x.blocks.getD i []) = true
  fits : x.fits = true
theorem blocksNo_all : ∀ {D : List (List Int)}, blocksNo D = 0 → ∀ i, i < D.length → (D.getD i []).length = 16 ∧ allB (D.getD i []) = true
  | [], _, i, hi => by simp at hi
  | b :: r, h, i, hi => by
    unfold blocksNo at h
    split at h
    · rename_i h1
      split at h
      · rename_i h2
        cases i with
        | zero => exact ⟨h1, h2⟩
        | succ i => simpa [List.getD] using blocksNo_all (D := r) h i (by simpa using hi)
      · cases h
    · cases h
theorem worldNo_may {x : Wd} (h : worldNo x = 0) : WdMay x := by
  unfold worldNo at h
  split at h
  · rename_i hf
    split at h
    · rename_i h3
      exact ⟨h3.1, h3.2.1, h3.2.2, blocksNo_all h, hf⟩
    · cases h
  · cases h
theorem zero16_len : zero16.length = 16 := by simp [zero16]
theorem zero16_all : allB zero16 = true := allB_zeros 16
theorem WdMay.blk {x : Wd} (h : WdMay x) (i : Nat) : (x.blocks.getD i zero16).length = 16 ∧ allB (x.blocks.getD i zero16) = true := by
  by_cases hi : i < x.blocks.length
  · have e : x.blocks.getD i zero16 = x.blocks.getD i [] := by simp [List.getD, hi]
    rw [e]
    exact h.blocks i hi
  · have e : x.blocks.getD i zero16 = zero16 := by simp [List.getD, hi]
    rw [e]
    exact ⟨zero16_len, zero16_all⟩
theorem WdMay.value {x : Wd} (h : WdMay x) (i : Nat) : wordB (x.values.getD i 0) = true := by
  by_cases hi : i < x.values.length
  · exact allB_iff.1 h.values i hi
  · have e : x.values.getD i 0 = 0 := by simp [List.getD, hi]
    rw [e]
    decide
theorem WdMay.delay {x : Wd} (h : WdMay x) (i : Nat) : 0 ≤ x.delays.getD i 0 ∧ x.delays.getD i 0 ≤ 3000 := by
  by_cases hi : i < x.delays.length
  · exact inB_iff.1 (allIn_iff.1 h.delays i hi)
  · have e : x.delays.getD i 0 = 0 := by simp [List.getD, hi]
    rw [e]
    decide

theorem RecS.blk_may {x : Wd} (hx : WdMay x) (s : RecS) (k : Int) : ((s.blk x k).length = 0 ∨ (s.blk x k).length = 16) ∧ allB (s.blk x k) = true := by
  unfold RecS.blk
  split
  · exact ⟨Or.inr (hx.blk _).1, (hx.blk _).2⟩
  · exact ⟨Or.inl rfl, rfl⟩
theorem RecS.blk_at {x : Wd} (hx : WdMay x) {s : RecS} {k : Int} (h : s.due = k) : (s.blk x k).length = 16 := by
  unfold RecS.blk
  rw [if_pos h]
  exact (hx.blk _).1
theorem RecS.val_may {x : Wd} (hx : WdMay x) (s : RecS) (k : Int) : wordB (s.val x k) = true := by
  unfold RecS.val
  split
  · exact hx.value _
  · decide

/-- What is so behind each step. -/
structure RecOk (k : Nat) (s : RecS) : Prop where
  may : MayP s.m
  cnt : s.m.fin = 0 → s.m.count = (k : Int)
  cle : s.m.count ≤ (k : Int)
  due : s.m.fin = 0 → DueOk k s
theorem RecOk.next {x : Wd} (hx : WdMay x) {k : Nat} {s : RecS} (h : RecOk k s) (hf : s.m.fin = 0) (hk : k < 3000) : RecOk (k + 1) (s.next x k) := by
  have hb := RecS.blk_may hx s (k : Int)
  have hv := RecS.val_may hx s (k : Int)
  have hc := h.cnt hf
  have hm : MayP (s.then_ x k) := h.may.step (s.irq x k) hb.2 hb.1 hv (by omega)
  have hcount : (s.then_ x k).count = ((k + 1 : Nat) : Int) := by
    unfold RecS.then_
    rw [step_going _ _ _ hf, hc]
    omega
  refine ⟨hm, fun _ => hcount, Int.le_of_eq hcount, fun _ => ?_⟩
  by_cases hn : s.new x k = true
  · refine Or.inr ⟨?_, ?_, ?_⟩
    · show ((k + 1 : Nat) : Int) ≤ (if s.new x k = true then _ else _)
      rw [if_pos hn]
      have := (hx.delay s.bl).1
      omega
    · unfold RecS.new at hn
      exact (of_decide_eq_true hn).2
    · show 1 ≤ (if s.new x k = true then _ else _)
      rw [if_pos hn]
      omega
  · have hn' : ¬ ((s.due = (k : Int) ∨ s.m.want = -1) ∧ 0 ≤ (s.then_ x k).want) := fun e => hn (by unfold RecS.new; exact decide_eq_true e)
    have hw1 := hm.want.1
    have hnb : (if s.new x k = true then s.bl + 1 else s.bl) = s.bl := if_neg hn
    have hnd : (if s.new x k = true then (k : Int) + 1 + x.delays.getD s.bl 0 else if s.due = (k : Int) then -1 else s.due) = if s.due = (k : Int) then -1 else s.due := if_neg hn
    rcases h.due hf with ⟨h1, h2⟩ | ⟨h1, h2, h3⟩
    · refine Or.inl ⟨?_, ?_⟩
      · show (if s.new x k = true then _ else _) = _
        rw [hnd, if_neg (by omega)]
        exact h1
      · show (s.then_ x k).want = -1
        omega
    · by_cases hd : s.due = (k : Int)
      · refine Or.inl ⟨?_, ?_⟩
        · show (if s.new x k = true then _ else _) = _
          rw [hnd, if_pos hd]
        · show (s.then_ x k).want = -1
          omega
      · refine Or.inr ⟨?_, ?_, ?_⟩
        · show ((k + 1 : Nat) : Int) ≤ (if s.new x k = true then _ else _)
          rw [hnd, if_neg hd]
          omega
        · show 0 ≤ (s.then_ x k).want
          unfold RecS.then_
          rw [show s.blk x k = [] by unfold RecS.blk; rw [if_neg hd], step_want _ _ hf (by omega)]
          exact h2
        · show 1 ≤ (if s.new x k = true then _ else _)
          rw [hnb]
          exact h3
theorem rec_ok {x : Wd} (hx : WdMay x) {im : List Int} (hi : newNo im = 0) : ∀ k, k ≤ 3000 → RecOk k (recN x im k)
  | 0, _ => ⟨newM_may hi, fun _ => rfl, Int.le_refl _, fun _ => Or.inl ⟨rfl, rfl⟩⟩
  | k + 1, hk => by
    have h := rec_ok hx hi k (by omega)
    unfold recN
    split
    · rename_i hf
      exact h.next hx hf (by omega)
    · rename_i hf
      exact ⟨h.may, fun e => absurd e hf, by have := h.cle; omega, fun e => absurd e hf⟩
/-- A guest that has ended stays. -/
theorem rec_stays {x : Wd} {im : List Int} {k : Nat} (hf : (recN x im k).m.fin ≠ 0) : ∀ d, recN x im (k + d) = recN x im k
  | 0 => rfl
  | d + 1 => by
    have ih := rec_stays hf d
    show (if (recN x im (k + d)).m.fin = 0 then _ else recN x im (k + d)) = _
    rw [ih, if_neg hf]
theorem rec_step {x : Wd} {im : List Int} {k : Nat} (hf : (recN x im k).m.fin = 0) : recN x im (k + 1) = (recN x im k).next x k := by
  rw [recN, if_pos hf]
theorem rec_grows {x : Wd} {im : List Int} (k : Nat) : (recN x im k).evs.length ≤ (recN x im (k + 1)).evs.length := by
  rw [recN]
  split
  · simp [RecS.next]
  · exact Nat.le_refl _
theorem rec_more {x : Wd} {im : List Int} (k : Nat) : ∀ d, (recN x im k).evs.length ≤ (recN x im (k + d)).evs.length
  | 0 => Nat.le_refl _
  | d + 1 => Nat.le_trans (rec_more k d) (rec_grows (k + d))

end Go.Proofs.YtecpblabaelopaaDoor

/- Bytes: plain notions; what a number, a number of any kind, the sum, and events are as bytes. -/

namespace Go.Proofs.YtecpblabaelopaaDoor
open Go.RowKit
set_option maxRecDepth 100000

/-- A number that is not below 0, as bytes; f: so many at most. -/
def sevensF : Nat → Nat → List Int
  | 0, n => [(n : Int)]
  | f + 1, n => if n < 128 then [(n : Int)] else ((128 + n % 128 : Nat) : Int) :: sevensF f (n / 128)
def sevens (n : Nat) : List Int := sevensF n n
theorem sevensF_same : ∀ (f f' n : Nat), n ≤ f → n ≤ f' → sevensF f n = sevensF f' n
  | 0, 0, _, _, _ => rfl
  | 0, f' + 1, n, h, _ => by
    obtain rfl : n = 0 := by omega
    simp [sevensF]
  | f + 1, 0, n, _, h => by
    obtain rfl : n = 0 := by omega
    simp [sevensF]
  | f + 1, f' + 1, n, h, h' => by
    rw [sevensF, sevensF]
    by_cases h1 : n < 128
    · rw [if_pos h1, if_pos h1]
    · rw [if_neg h1, if_neg h1, sevensF_same f f' (n / 128) (by omega) (by omega)]
theorem sevens_small {n : Nat} (h : n < 128) : sevens n = [(n : Int)] := by
  unfold sevens
  cases n with
  | zero => rfl
  | succ m => rw [sevensF, if_pos h]
theorem sevens_more {n : Nat} (h : ¬ n < 128) : sevens n = ((128 + n % 128 : Nat) : Int) :: sevens (n / 128) := by
  unfold sevens
  cases n with
  | zero => omega
  | succ m =>
    rw [sevensF, if_neg h]
    congr 1
    exact sevensF_same _ _ _ (by omega) (by omega)
theorem sevens_ne (n : Nat) : 0 < (sevens n).length := by
  by_cases h : n < 128
  · rw [sevens_small h]; simp
  · rw [sevens_more h]; simp
theorem sevens_len : ∀ (k n : Nat), n < 128 ^ (k + 1) → (sevens n).length ≤ k + 1
  | 0, n, h => by rw [sevens_small (by simpa using h)]; simp
  | k + 1, n, h => by
    by_cases h1 : n < 128
    · rw [sevens_small h1]; simp
    · rw [sevens_more h1]
      have : n / 128 < 128 ^ (k + 1) := Nat.div_lt_of_lt_mul (by rw [Nat.pow_succ] at h; omega)
      have := sevens_len k (n / 128) this
      simp
      omega
theorem sevens_len7 {n : Nat} (h : n < 562949953421312) : (sevens n).length ≤ 7 := sevens_len 6 n (by simpa using h)
theorem sevens_byte {n : Nat} : ∀ x ∈ sevens n, 0 ≤ x ∧ x ≤ 255 := by
  induction n using Nat.strongRecOn with
  | _ n ih =>
    intro x hx
    by_cases h1 : n < 128
    · rw [sevens_small h1] at hx
      simp at hx
      omega
    · rw [sevens_more h1] at hx
      rcases List.mem_cons.1 hx with rfl | hx
      · omega
      · exact ih (n / 128) (by omega) x hx
/-- A number of any kind, as bytes. -/
def zigs (z : Int) : List Int := if z < 0 then sevens (-2 * z - 1).toNat else sevens (2 * z).toNat
theorem zigs_len7 {z : Int} (h : -281474976710656 < z ∧ z < 281474976710656) : (zigs z).length ≤ 7 := by
  unfold zigs
  split <;> exact sevens_len7 (by omega)
/-- The sum, byte by byte. -/
def sumStep (s : Int × Int) (b : Int) : Int × Int := ((s.1 + b) % 65521, (s.2 + (s.1 + b) % 65521) % 65521)
def sumP (l : List Int) : Int × Int := l.foldl sumStep (1, 0)
def sumB (l : List Int) : List Int := [(sumP l).2 / 256, (sumP l).2 % 256, (sumP l).1 / 256, (sumP l).1 % 256]
theorem foldl_sum_bd (l : List Int) : ∀ s : Int × Int, (0 ≤ s.1 ∧ s.1 < 65521) → (0 ≤ s.2 ∧ s.2 < 65521) → (0 ≤ (l.foldl sumStep s).1 ∧ (l.foldl sumStep s).1 < 65521) ∧ (0 ≤ (l.foldl sumStep s).2 ∧ (l.foldl sumStep s).2 < 65521) := by
  induction l with
  | nil => intro s h1 h2; exact ⟨h1, h2⟩
  | cons b l ih =>
    intro s h1 h2
    exact ih _ (by simp only [sumStep]; omega) (by simp only [sumStep]; omega)
theorem sumP_bd (l : List Int) : (0 ≤ (sumP l).1 ∧ (sumP l).1 < 65521) ∧ (0 ≤ (sumP l).2 ∧ (sumP l).2 < 65521) := foldl_sum_bd l (1, 0) (by simp) (by simp)
theorem sumP_snoc (l : List Int) (b : Int) : sumP (l ++ [b]) = sumStep (sumP l) b := by simp [sumP]
theorem sumB_byte (l : List Int) : ∀ x ∈ sumB l, 0 ≤ x ∧ x ≤ 255 := by
  have := sumP_bd l
  intro x hx
  simp [sumB] at hx
  omega

/-- Words, as often as one stands behind itself in one. -/
def runsB (last : Int) (run : Nat) : List Int → List Int
  | [] => []
  | [x] => sevens (run + 1) ++ zigs (x - last)
  | x :: y :: t => if y = x then runsB last (run + 1) (y :: t) else sevens (run + 1) ++ zigs (x - last) ++ runsB x 0 (y :: t)
/-- How often the first one stands there. -/
def runLen : List Int → Nat
  | [] => 0
  | [_] => 1
  | x :: y :: t => if y = x then runLen (y :: t) + 1 else 1
theorem runLen_le : ∀ l : List Int, runLen l ≤ l.length
  | [] => by simp [runLen]
  | [_] => by simp [runLen]
  | x :: y :: t => by
    have := runLen_le (y :: t)
    simp only [runLen]
    split <;> simp_all <;> omega
theorem runLen_pos : ∀ (x : Int) (t : List Int), 0 < runLen (x :: t)
  | _, [] => by simp [runLen]
  | x, y :: t => by simp only [runLen]; split <;> omega
theorem runsB_run : ∀ (t : List Int) (x last : Int) (run : Nat), runsB last run (x :: t) = sevens (run + runLen (x :: t)) ++ zigs (x - last) ++ runsB x 0 ((x :: t).drop (runLen (x :: t)))
  | [], x, last, run => by simp [runsB, runLen]
  | y :: t, x, last, run => by
    by_cases h : y = x
    · subst h
      rw [show runsB last run (y :: y :: t) = runsB last (run + 1) (y :: t) by simp [runsB], runsB_run t y last (run + 1)]
      rw [show runLen (y :: y :: t) = runLen (y :: t) + 1 by simp [runLen]]
      rw [List.drop_succ_cons]
      rw [show run + 1 + runLen (y :: t) = run + (runLen (y :: t) + 1) by omega]
    · simp [runsB, runLen, h]
/-- What an event has besides its count and its kind. -/
def dataB (x : Ev) : List Int := if x.kind = 2 then runsB 0 0 x.data else if x.kind = 3 then zigs (x.data.getD 0 0) else []
def evB (last : Int) (x : Ev) : List Int := sevens (4 * (x.at_ - last) + x.kind).toNat ++ dataB x
def encFrom (last : Int) : List Ev → List Int
  | [] => []
  | x :: L => evB last x ++ encFrom x.at_ L
def encB (L : List Ev) : List Int := sevens L.length ++ encFrom 0 L
def fullB (L : List Ev) : List Int := encB L ++ sumB (encB L)

/-- Lengths. -/
theorem runsB_len : ∀ (l : List Int) (last : Int) (run : Nat), run + l.length ≤ 1000 → (-1099511627776 ≤ last ∧ last ≤ 1099511627776) → (∀ x ∈ l, -1099511627776 ≤ x ∧ x ≤ 1099511627776) → (runsB last run l).length ≤ 14 * l.length
  | [], _, _, _, _, _ => by simp [runsB]
  | [x], last, run, hr, hl, hx => by
    have h1 := sevens_len7 (n := run + 1) (by simp at hr; omega)
    have hx0 := hx x (by simp)
    have h2 := zigs_len7 (z := x - last) (by omega)
    simp [runsB]
    omega
  | x :: y :: t, last, run, hr, hl, hx => by
    have hx0 := hx x (by simp)
    have h1 := sevens_len7 (n := run + 1) (by simp at hr; omega)
    have h2 := zigs_len7 (z := x - last) (by omega)
    by_cases h : y = x
    · have := runsB_len (y :: t) last (run + 1) (by simp at hr ⊢; omega) hl (fun z hz => hx z (List.mem_cons_of_mem _ hz))
      simp [runsB, h] at this ⊢
      omega
    · have := runsB_len (y :: t) x 0 (by simp at hr ⊢; omega) hx0 (fun z hz => hx z (List.mem_cons_of_mem _ hz))
      simp [runsB, h] at this ⊢
      omega
theorem word_bd {x : Int} (h : wordB x = true) : -1099511627776 ≤ x ∧ x ≤ 1099511627776 := by simpa [wordB, inB] using h
theorem allB_mem {l : List Int} (h : allB l = true) : ∀ x ∈ l, -1099511627776 ≤ x ∧ x ≤ 1099511627776 := fun x hx => by
  obtain ⟨i, hi, rfl⟩ := List.getElem_of_mem hx
  have := allB_iff.1 h i hi
  simp [List.getD, hi] at this
  exact word_bd this
theorem dataB_len {x : Ev} (h : evNo x = 0) : (dataB x).length ≤ 224 := by
  obtain ⟨hk, ha, hw, hl⟩ := evNo_bd h
  unfold dataB
  split
  · rename_i e
    have h16 : x.data.length = 16 := by simp [wordsN, e] at hl; omega
    have := runsB_len x.data 0 0 (by omega) (by simp) (allB_mem hw)
    omega
  · split
    · rename_i e e3
      have h1 : x.data.length = 1 := by simp [wordsN, e3] at hl; omega
      have hm := allB_mem hw (x.data.getD 0 0) (by
        match x.data, h1 with
        | [a], _ => simp)
      have := zigs_len7 (z := x.data.getD 0 0) (by omega)
      omega
    · simp

/-- Bytes of the call's own. -/
def OwnB (w : World) (lo : Nat) (v : Value) (l : List Int) : Prop := w.ownsRow lo 5 1 v l.length (l.map (Value.int .u8))
theorem OwnB.below {w w' : World} {lo : Nat} {v : Value} {l : List Int} (h : OwnB w lo v l) (hb : Below w.heap.size w w') : OwnB w' lo v l := ownsRow_below h hb
theorem OwnB.mono {w : World} {lo lo' : Nat} {v : Value} {l : List Int} (h : OwnB w lo v l) (hlo : lo' ≤ lo) : OwnB w lo' v l := ownsRow_mono h hlo
theorem OwnB.shape {w : World} {lo : Nat} {v : Value} {l : List Int} (h : OwnB w lo v l) : ∃ A c, v = .slice A l.length c := by
  rcases h.2 with ⟨rfl, hn⟩ | ⟨g, cap, cur, rfl, _⟩
  · exact ⟨none, 0, by rw [hn]⟩
  · exact ⟨_, _, rfl⟩
theorem OwnB.nil (w : World) (lo : Nat) : OwnB w lo (.slice none 0 0) [] := World.ownsRow_nil _ _ _ _
theorem OwnB.of {w : World} {lo : Nat} {v : Value} {l l' m : List Int} {n k : Nat} (h : w.ownsRow lo 5 1 v (n + k) (l.map (Value.int .u8) ++ m.map (Value.int .u8))) (hn : n = l.length) (hk : k = m.length) (e : l' = l ++ m) : OwnB w lo v l' := by
  subst e hn hk
  simpa [OwnB] using h
/-- Where there is a byte: the block and its cells. -/
theorem OwnB.at {w : World} {lo : Nat} {v : Value} {l : List Int} (h : OwnB w lo v l) (h0 : 0 < l.length) : ∃ g cap, v = .slice (some ⟨g, 0, none⟩) l.length cap ∧ lo ≤ g ∧ g < w.heap.size ∧ (∀ j u, (l.map (Value.int .u8))[j]? = some u → w.cell? ((⟨g, 0, none⟩ : Addr).add j) = some u) := by
  obtain ⟨g, cap, rfl, hlo, hlt, _, hc, _⟩ := ownsRow_at h h0
  refine ⟨g, cap, rfl, hlo, hlt, fun j u hu => ?_⟩
  have hjl : j < l.length := by
    by_cases hh : j < l.length
    · exact hh
    · simp [List.getElem?_eq_none (show l.length ≤ j by omega)] at hu
  rw [Go.WideShapes.add_plain, Nat.zero_add, hc j hjl, hu]

/-- A slice has grown: what lies elsewhere is as it was. -/
structure Grown (w w' : World) (v v' : Value) : Prop where
  size : w.heap.size ≤ w'.heap.size
  block : ∀ g, g < w.heap.size → v.ownBlock ≠ some g → w'.heap[g]? = w.heap[g]?
  at_ : v'.ownBlock = v.ownBlock ∨ ∀ g, v'.ownBlock = some g → w.heap.size ≤ g
theorem Grown.refl (w : World) (v : Value) : Grown w w v v := ⟨Nat.le_refl _, fun _ _ _ => rfl, Or.inl rfl⟩
theorem Grown.trans {w w1 w2 : World} {v v1 v2 : Value} (h : Grown w w1 v v1) (k : Grown w1 w2 v1 v2) : Grown w w2 v v2 := by
  refine ⟨Nat.le_trans h.size k.size, fun g hg hn => ?_, ?_⟩
  · have h1 := h.block g hg hn
    have hn1 : v1.ownBlock ≠ some g := fun e => by
      rcases h.at_ with a | a
      · exact hn (a ▸ e)
      · have := a g e; omega
    rw [k.block g (Nat.lt_of_lt_of_le hg h.size) hn1, h1]
  · rcases k.at_ with a | a
    · rw [a]; exact h.at_
    · exact Or.inr fun g e => Nat.le_trans h.size (a g e)
theorem Grown.pre {w0 w w' : World} {v v' : Value} (hb : Below w0.heap.size w0 w) (h : Grown w w' v v') : Grown w0 w' v v' := by
  refine ⟨Nat.le_trans hb.size h.size, fun g hg hn => by rw [h.block g (Nat.lt_of_lt_of_le hg hb.size) hn, hb.block g hg], ?_⟩
  rcases h.at_ with a | a
  · exact Or.inl a
  · exact Or.inr fun g e => Nat.le_trans hb.size (a g e)
theorem Grown.post {w w' w1 : World} {v v' : Value} (h : Grown w w' v v') (hb : Below w'.heap.size w' w1) : Grown w w1 v v' :=
  ⟨Nat.le_trans h.size hb.size, fun g hg hn => by rw [hb.block g (Nat.lt_of_lt_of_le hg h.size), h.block g hg hn], h.at_⟩
/-- Out of one append. -/
theorem Grown.of_append {w0 w w' : World} {v v' : Value} {K : Nat} (hb : Below w0.heap.size w0 w) (hg : w.grownBy w' v.ownBlock) (ha : v'.ownBlock = v.ownBlock ∨ v'.ownBlock = some K) (hK : w0.heap.size ≤ K) : Grown w0 w' v v' := by
  refine ⟨Nat.le_trans hb.size hg.size, fun g hlt hn => by rw [hg.block g (Nat.lt_of_lt_of_le hlt hb.size) (fun e => hn e.symm), hb.block g hlt], ?_⟩
  rcases ha with a | a
  · exact Or.inl a
  · exact Or.inr fun g e => by rw [a] at e; simp at e; omega
theorem append_below {lo : Nat} {w0 w w' : World} {v : Value} {n : Nat} {xs : List Value} (hb : Below w0.heap.size w0 w) (hlo : lo ≤ w0.heap.size) (ho : w.ownsRow lo 5 1 v n xs) (hg : w.grownBy w' v.ownBlock) : Below lo w0 w' :=
  (hb.mono hlo).grown hg (Nat.le_trans hlo hb.size) (fun k hk => (World.ownsRow.lt ho k hk).1)

end Go.Proofs.YtecpblabaelopaaDoor
