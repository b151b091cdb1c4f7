/- What a step counts; a new guest may be. -/
import Derived.Test.YtbjlfhpiebokkaaDoorStepAPart
import Derived.Test.YtbjlfhpiebokkaaDoorPtrPart
import Derived.Test.YtbjlfhpiebokkaaDoorBasePart
import Derived.Test.YtbjlfhpiebokkaaDoorTapePart
import Derived.Test.YtbjlfhpiebokkaaDoorOwnFPart
import Derived.Lib.SliceRun
namespace Go.Proofs.YtbjlfhpiebokkaaDoor
open Go.RowKit
set_option maxRecDepth 100000

theorem count_if (c : Prop) [Decidable c] (A B : Mach × Int) (k : Int) (h1 : A.1.count = k) (h2 : B.1.count = k) : (if c then A else B).1.count = k := by
  split
  · exact h1
  · exact h2
theorem run1_count (m : Mach) (v : Int) : (m.run1 v).1.count = m.count := by
  unfold Mach.run1
  split
  · unfold Mach.exec
    repeat' (first | refine count_if _ _ _ _ ?_ ?_ | rfl)
  · rfl
theorem step_count (m : Mach) (irq : Bool) (blk : List Int) (v : Int) : (m.step irq blk v).1.count ≤ m.count + 1 := by
  unfold Mach.step
  split
  · rw [run1_count]
    show (m.told irq blk).enter.count + 1 ≤ m.count + 1
    rw [(enter_count _).1, (told_count _ _ _).1]
    exact Int.le_refl _
  · show m.count ≤ m.count + 1
    omega
theorem newM_may {l : List Int} (h : newNo l = 0) : MayP (newM l) := by
  unfold newNo at h
  split at h
  · cases h
  · rename_i hl
    split at h
    · cases h
    · rename_i ha
      have ha' : allB l = true := by simpa using ha
      refine ⟨by simp [newM], by simp [newM]; omega, by simp [newM], (by decide : allB (List.replicate 8 0) = true), ?_, rfl, (by decide : wordB 0 = true), (by decide : wordB 0 = true), by simp [newM], by simp [newM], by simp [newM], by simp [newM], by simp [newM]⟩
      show allB (l ++ List.replicate (256 - l.length) 0) = true
      unfold allB at ha' ⊢
      rw [List.all_append, ha', Bool.true_and, List.all_eq_true]
      intro x hx
      rw [(List.mem_replicate.1 hx).2]
      decide

end Go.Proofs.YtbjlfhpiebokkaaDoor

/- A recording, plainly. -/

namespace Go.Proofs.YtbjlfhpiebokkaaDoor
open Go.RowKit
set_option maxRecDepth 100000

def hasI (l : List Int) (k : Int) : Bool := l.any fun y => decide (y = k)
theorem hasI_iff {l : List Int} {k : Int} : hasI l k = true ↔ ∃ i, i < l.length ∧ l.getD i 0 = k := by
  unfold hasI
  rw [List.any_eq_true]
  constructor
  · rintro ⟨y, hy, he⟩
    obtain ⟨i, hi, rfl⟩ := List.mem_iff_getElem.1 hy
    exact ⟨i, hi, by simpa [List.getD, hi] using he⟩
  · rintro ⟨i, hi, he⟩
    exact ⟨l[i], List.getElem_mem hi, by simpa [List.getD, hi] using he⟩
theorem hasI_no {l : List Int} {k : Int} (h : ∀ i, i < l.length → l.getD i 0 ≠ k) : hasI l k = false := by
  cases e : hasI l k with
  | false => rfl
  | true =>
    obtain ⟨i, hi, he⟩ := hasI_iff.1 e
    exact absurd he (h i hi)
theorem hasI_take (l : List Int) (k : Int) (j : Nat) (hj : j < l.length) : hasI (l.take (j + 1)) k = (hasI (l.take j) k || decide (l.getD j 0 = k)) := by
  unfold hasI
  rw [List.take_succ_eq_append_getElem hj, List.any_append]
  simp [List.getD, hj]

def Mach.ahead (m : Mach) (irq : Bool) (blk : List Int) : Mach := (m.told irq blk).enter
def Mach.asks (m : Mach) (irq : Bool) (blk : List Int) : Bool :=
  decide (m.fin = 0 ∧ (m.ahead irq blk).nextE = 0 ∧ (m.ahead irq blk).nextX % 16 = 10 ∧ ((m.ahead irq blk).nextX / 1024 = 0 ∨ (m.ahead irq blk).nextX / 1024 = 1))

def zero16 : List Int := List.replicate 16 0
structure RecS where
  m : Mach
  evs : List Ev
  va : Nat
  bl : Nat
  due : Int
def RecS.irq (_ : RecS) (x : Wd) (k : Int) : Bool := hasI x.irqs k
def RecS.blk (s : RecS) (x : Wd) (k : Int) : List Int := if s.due = k then x.blocks.getD (s.bl - 1) zero16 else []
def RecS.ask (s : RecS) (x : Wd) (k : Int) : Bool := s.m.asks (s.irq x k) (s.blk x k)
def RecS.val (s : RecS) (x : Wd) (k : Int) : Int := if s.ask x k = true then x.values.getD s.va 0 else 0
def RecS.then_ (s : RecS) (x : Wd) (k : Int) : Mach := (s.m.step (s.irq x k) (s.blk x k) (s.val x k)).1
def RecS.new (s : RecS) (x : Wd) (k : Int) : Bool := decide ((s.due = k ∨ s.m.want = -1) ∧ 0 ≤ (s.then_ x k).want)
def RecS.evI (s : RecS) (x : Wd) (k : Int) : List Ev := if s.irq x k = true then [⟨k, 1, []⟩] else []
def RecS.evB (s : RecS) (x : Wd) (k : Int) : List Ev := if s.due = k then [⟨k, 2, s.blk x k⟩] else []
def RecS.evV (s : RecS) (x : Wd) (k : Int) : List Ev := if s.ask x k = true then [⟨k, 3, [s.val x k]⟩] else []
def RecS.next (s : RecS) (x : Wd) (k : Int) : RecS :=
  { m := s.then_ x k
    evs := s.evs ++ s.evI x k ++ s.evB x k ++ s.evV x k
    va := if s.ask x k = true then s.va + 1 else s.va
    bl := if s.new x k = true then s.bl + 1 else s.bl
    due := if s.new x k = true then k + 1 + x.delays.getD s.bl 0 else if s.due = k then -1 else s.due }
def recN (x : Wd) (im : List Int) : Nat → RecS
  | 0 => ⟨newM im, [], 0, 0, -1⟩
  | k + 1 => if (recN x im k).m.fin = 0 then (recN x im k).next x k else recN x im k

def DueOk (k : Int) (s : RecS) : Prop := (s.due = -1 ∧ s.m.want = -1) ∨ (k ≤ s.due ∧ 0 ≤ s.m.want ∧ 1 ≤ s.bl)

theorem want_if (c : Prop) [Decidable c] (A B : Mach × Int) (k : Int) (h1 : A.1.want = k) (h2 : B.1.want = k) : (if c then A else B).1.want = k := by
  split
  · exact h1
  · exact h2
theorem run1_want (m : Mach) (v : Int) (h : m.want ≠ -1) : (m.run1 v).1.want = m.want := by
  unfold Mach.run1
  split
  · unfold Mach.exec
    simp only [if_neg h]
    repeat' (first | refine want_if _ _ _ _ ?_ ?_ | rfl)
  · rfl
theorem enter_want (m : Mach) : m.enter.want = m.want := by unfold Mach.enter; split <;> rfl
theorem step_want {m : Mach} (irq : Bool) (v : Int) (hf : m.fin = 0) (h : m.want ≠ -1) : (m.step irq [] v).1.want = m.want := by
  have e : ((m.told irq []).enter.counted).want = m.want := by
    show (m.told irq []).enter.want = m.want
    rw [enter_want]
    unfold Mach.told
    rw [if_neg (by simp)]
  unfold Mach.step
  rw [if_pos hf, run1_want _ _ (by rw [e]; exact h), e]
theorem step_going {m : Mach} (irq : Bool) (blk : List Int) (v : Int) (hf : m.fin = 0) : (m.step irq blk v).1.count = m.count + 1 := by
  unfold Mach.step
  rw [if_pos hf, run1_count]
  show (m.told irq blk).enter.count + 1 = m.count + 1
  rw [(enter_count _).1, (told_count _ _ _).1]

structure WdMay (x : Wd) : Prop where
  irqs : allIn 0 3000 x.irqs = true
  delays : allIn 0 3000 x.delays = true
  values : allB x.values = true
  blocks : ∀ i, i < x.blocks.length → (x.blocks.getD i []).length = 16 ∧ allB (x.blocks.getD i []) = true
  fits : x.fits = true
theorem blocksNo_all : ∀ {D : List (List Int)}, blocksNo D = 0 → ∀ i, i < D.length → (D.getD i []).length = 16 ∧ allB (D.getD i []) = true
  | [], _, i, hi => by simp at hi
  | b :: r, h, i, hi => by
    unfold blocksNo at h
    split at h
    · rename_i h1
      split at h
      · rename_i h2
        cases i with
        | zero => exact ⟨h1, h2⟩
        | succ i => simpa [List.getD] using blocksNo_all (D := r) h i (by simpa using hi)
      · cases h
    · cases h
theorem worldNo_may {x : Wd} (h : worldNo x = 0) : WdMay x := by
  unfold worldNo at h
  split at h
  · rename_i hf
    split at h
    · rename_i h3
      exact ⟨h3.1, h3.2.1, h3.2.2, blocksNo_all h, hf⟩
    · cases h
  · cases h
theorem zero16_len : zero16.length = 16 := by simp [zero16]
theorem zero16_all : allB zero16 = true := allB_zeros 16
theorem WdMay.blk {x : Wd} (h : WdMay x) (i : Nat) : (x.blocks.getD i zero16).length = 16 ∧ allB (x.blocks.getD i zero16) = true := by
  by_cases hi : i < x.blocks.length
  · have e : x.blocks.getD i zero16 = x.blocks.getD i [] := by simp [List.getD, hi]
    rw [e]
    exact h.blocks i hi
  · have e : x.blocks.getD i zero16 = zero16 := by simp [List.getD, hi]
    rw [e]
    exact ⟨zero16_len, zero16_all⟩
theorem WdMay.value {x : Wd} (h : WdMay x) (i : Nat) : wordB (x.values.getD i 0) = true := by
  by_cases hi : i < x.values.length
  · exact allB_iff.1 h.values i hi
  · have e : x.values.getD i 0 = 0 := by simp [List.getD, hi]
    rw [e]
    decide
theorem WdMay.delay {x : Wd} (h : WdMay x) (i : Nat) : 0 ≤ x.delays.getD i 0 ∧ x.delays.getD i 0 ≤ 3000 := by
  by_cases hi : i < x.delays.length
  · exact inB_iff.1 (allIn_iff.1 h.delays i hi)
  · have e : x.delays.getD i 0 = 0 := by simp [List.getD, hi]
    rw [e]
    decide

theorem RecS.blk_may {x : Wd} (hx : WdMay x) (s : RecS) (k : Int) : ((s.blk x k).length = 0 ∨ (s.blk x k).length = 16) ∧ allB (s.blk x k) = true := by
  unfold RecS.blk
  split
  · exact ⟨Or.inr (hx.blk _).1, (hx.blk _).2⟩
  · exact ⟨Or.inl rfl, rfl⟩
theorem RecS.blk_at {x : Wd} (hx : WdMay x) {s : RecS} {k : Int} (h : s.due = k) : (s.blk x k).length = 16 := by
  unfold RecS.blk
  rw [if_pos h]
  exact (hx.blk _).1
theorem RecS.val_may {x : Wd} (hx : WdMay x) (s : RecS) (k : Int) : wordB (s.val x k) = true := by
  unfold RecS.val
  split
  · exact hx.value _
  · decide

structure RecOk (k : Nat) (s : RecS) : Prop where
  may : MayP s.m
  cnt : s.m.fin = 0 → s.m.count = (k : Int)
  cle : s.m.count ≤ (k : Int)
  due : s.m.fin = 0 → DueOk k s
theorem RecOk.next {x : Wd} (hx : WdMay x) {k : Nat} {s : RecS} (h : RecOk k s) (hf : s.m.fin = 0) (hk : k < 3000) : RecOk (k + 1) (s.next x k) := by
  have hb := RecS.blk_may hx s (k : Int)
  have hv := RecS.val_may hx s (k : Int)
  have hc := h.cnt hf
  have hm : MayP (s.then_ x k) := h.may.step (s.irq x k) hb.2 hb.1 hv (by omega)
  have hcount : (s.then_ x k).count = ((k + 1 : Nat) : Int) := by
    unfold RecS.then_
    rw [step_going _ _ _ hf, hc]
    omega
  refine ⟨hm, fun _ => hcount, Int.le_of_eq hcount, fun _ => ?_⟩
  by_cases hn : s.new x k = true
  · refine Or.inr ⟨?_, ?_, ?_⟩
    · show ((k + 1 : Nat) : Int) ≤ (if s.new x k = true then _ else _)
      rw [if_pos hn]
      have := (hx.delay s.bl).1
      omega
    · unfold RecS.new at hn
      exact (of_decide_eq_true hn).2
    · show 1 ≤ (if s.new x k = true then _ else _)
      rw [if_pos hn]
      omega
  · have hn' : ¬ ((s.due = (k : Int) ∨ s.m.want = -1) ∧ 0 ≤ (s.then_ x k).want) := fun e => hn (by unfold RecS.new; exact decide_eq_true e)
    have hw1 := hm.want.1
    have hnb : (if s.new x k = true then s.bl + 1 else s.bl) = s.bl := if_neg hn
    have hnd : (if s.new x k = true then (k : Int) + 1 + x.delays.getD s.bl 0 else if s.due = (k : Int) then -1 else s.due) = if s.due = (k : Int) then -1 else s.due := if_neg hn
    rcases h.due hf with ⟨h1, h2⟩ | ⟨h1, h2, h3⟩
    · refine Or.inl ⟨?_, ?_⟩
      · show (if s.new x k = true then _ else _) = _
        rw [hnd, if_neg (by omega)]
        exact h1
      · show (s.then_ x k).want = -1
        omega
    · by_cases hd : s.due = (k : Int)
      · refine Or.inl ⟨?_, ?_⟩
        · show (if s.new x k = true then _ else _) = _
          rw [hnd, if_pos hd]
        · show (s.then_ x k).want = -1
          omega
      · refine Or.inr ⟨?_, ?_, ?_⟩
        · show ((k + 1 : Nat) : Int) ≤ (if s.new x k = true then _ else _)
          rw [hnd, if_neg hd]
          omega
        · show 0 ≤ (s.then_ x k).want
          unfold RecS.then_
          rw [show s.blk x k = [] by unfold RecS.blk; rw [if_neg hd], step_want _ _ hf (by omega)]
          exact h2
        · show 1 ≤ (if s.new x k = true then _ else _)
          rw [hnb]
          exact h3
theorem rec_ok {x : Wd} (hx : WdMay x) {im : List Int} (hi : newNo im = 0) : ∀ k, k ≤ 3000 → RecOk k (recN x im k)
  | 0, _ => ⟨newM_may hi, fun _ => rfl, Int.le_refl _, fun _ => Or.inl ⟨rfl, rfl⟩⟩
  | k + 1, hk => by
    have h := rec_ok hx hi k (by omega)
    unfold recN
    split
    · rename_i hf
      exact h.next hx hf (by omega)
    · rename_i hf
      exact ⟨h.may, fun e => absurd e hf, by have := h.cle; omega, fun e => absurd e hf⟩
theorem rec_stays {x : Wd} {im : List Int} {k : Nat} (hf : (recN x im k).m.fin ≠ 0) : ∀ d, recN x im (k + d) = recN x im k
  | 0 => rfl
  | d + 1 => by
    have ih := rec_stays hf d
    show (if (recN x im (k + d)).m.fin = 0 then _ else recN x im (k + d)) = _
    rw [ih, if_neg hf]
theorem rec_step {x : Wd} {im : List Int} {k : Nat} (hf : (recN x im k).m.fin = 0) : recN x im (k + 1) = (recN x im k).next x k := by
  rw [recN, if_pos hf]
theorem rec_grows {x : Wd} {im : List Int} (k : Nat) : (recN x im k).evs.length ≤ (recN x im (k + 1)).evs.length := by
  rw [recN]
  split
  · simp [RecS.next]
  · exact Nat.le_refl _
theorem rec_more {x : Wd} {im : List Int} (k : Nat) : ∀ d, (recN x im k).evs.length ≤ (recN x im (k + d)).evs.length
  | 0 => Nat.le_refl _
  | d + 1 => Nat.le_trans (rec_more k d) (rec_grows (k + d))

end Go.Proofs.YtbjlfhpiebokkaaDoor

/- Contracts of slices.Contains and slices.Clone at numbers. -/

namespace Go.Proofs.YtbjlfhpiebokkaaDoor
open Go.RowKit
set_option maxRecDepth 100000

theorem Index_any (v : Value) (l : List Int) (x : Int) (w : World) (h : IntsAt w v l) :
    Calls Tryd.prog 114 #[v, .int .i64 x] w fun e w' => ∃ r : Int, e = .returned (.int .i64 r) ∧ decide (0 ≤ r) = hasI l x ∧ w' = w := by
  obtain ⟨A, c, rfl, hl, hc⟩ := h
  go_enter Tryd.func114, Tryd.ntmps114
  go_wp2
  go_loopw [8] (fun i wr => ∃ k : Nat, k ≤ l.length ∧ i = .int .i64 k ∧ Hid (∀ i, i < k → l.getD i 0 ≠ x) ∧ wr = w) (fun i _ => l.length - (intOf i).toNat)
  case atStart => exact ⟨0, Nat.zero_le _, rfl, fun i hi => absurd hi (Nat.not_lt_zero _), rfl⟩
  case round =>
    obtain ⟨k, hk, rfl, ht, hw⟩ := hrel
    subst wr
    by_cases hlt : k < l.length
    · obtain ⟨b, off, rfl, hbs, hcell⟩ := hc (by omega)
      have h1 := hcell k hlt
      by_cases he : l.getD k 0 = x
      · have HN : Hid (true = hasI l x) := (hasI_iff.2 ⟨k, hlt, he⟩).symm
        have d0 : (x == l.getD k 0) = true := by rw [he]; exact beq_self_eq_true x
        clear hcell hc he
        revert h1 d0
        generalize l.getD k 0 = y
        intro h1 d0
        go_wp2
        go_ret
        exact ⟨k, rfl, by rw [← HN.out]; simp, rfl⟩
      · have HN : Hid (∀ i, i < k + 1 → l.getD i 0 ≠ x) := fun i hi => by
          by_cases e : i = k
          · rw [e]; exact he
          · exact ht.out i (by omega)
        have d0 : (x == l.getD k 0) = false := beq_false_of_ne (fun e => he e.symm)
        clear hcell hc he
        revert h1 d0
        generalize l.getD k 0 = y
        intro h1 d0
        go_wp2
        refine ⟨⟨k + 1, by omega, by go_num, HN, trivial⟩, ?_⟩
        simp [intOf]; omega
    · have HN : Hid (false = hasI l x) := (hasI_no fun i hi => ht.out i (by omega)).symm
      clear hc
      go_wp2
      go_ret
      exact ⟨-1, rfl, by rw [← HN.out]; rfl, rfl⟩

theorem Contains_any (v : Value) (l : List Int) (x : Int) (w : World) (h : IntsAt w v l) :
    Calls Tryd.prog 95 #[v, .int .i64 x] w fun e w' => e = .returned (.bool (hasI l x)) ∧ w' = w := by
  go_enter Tryd.func95, Tryd.ntmps95
  go_wp2_with (go_at_call 114; refine (Index_any v l x _ h).mono ?_; rintro e w' ⟨r, rfl, hr, rfl⟩)
  go_ret
  exact ⟨rfl, rfl⟩

set_option maxHeartbeats 2000000 in
theorem Clone_any (v : Value) (l : List Int) (w : World) (h : IntsAt w v l) :
    Calls Tryd.prog 29 #[v] w fun e w' => ∃ A c, e = .returned (.slice A l.length c) ∧ OwnI w' w.heap.size (.slice A l.length c) l ∧ Below w.heap.size w w' := by
  obtain ⟨A, c, rfl, hl, hc⟩ := h
  obtain ⟨i0, hi, hz0, hz1, hz2⟩ := info_parts infoInt
  have q22 : ∀ (w : World) (a : Option Addr) (n c n' c' : Nat), (binOp .eql 22 (.slice a n c) (.slice none n' c')).run Tryd.prog w = .ok (.bool a.isNone) w := fun w a n c n' c' => Lib.run_eql_slice_nil w _ _ a n c n' c' Tryd.underlying22
  cases A with
  | none =>
    have h0 : l = [] := by
      cases l with
      | nil => rfl
      | cons x t => obtain ⟨b, off, e, _⟩ := hc (by simp); simp at e
    subst h0
    clear hc
    go_enter Tryd.func29, Tryd.ntmps29
    go_wp2_with fail
    go_ret
    exact ⟨none, 0, rfl, World.ownsRow_nil _ _ _ _, Below.refl _ _⟩
  | some a =>
    have HC : Hid (∀ (o : Obj) j u, (l.map (Value.int .i64))[j]? = some u → (w.alloc o).cell? (a.add j) = some u) := fun o j u hj => by
      have hjl : j < l.length := by
        by_cases hh : j < l.length
        · exact hh
        · simp [List.getElem?_eq_none (show l.length ≤ j by omega)] at hj
      obtain ⟨b, off, e, hb, hcell⟩ := hc (by omega)
      simp only [Option.some.injEq] at e
      subst e
      rw [Go.WideShapes.add_plain]
      refine Lib.cell?_alloc_some _ ?_
      rw [hcell j hjl]
      simp [hjl] at hj
      simp [List.getD, hjl, hj]
    clear hc
    go_enter Tryd.func29, Tryd.ntmps29
    go_wp2_with (at_builtin; refine wpList_append_own _ rfl _ _ 22 rfl w.heap.size 3 i0 (.int .i64 0) 1 8 Tryd.underlying22 hi hz0 hz1 hz2 rfl (by decide) _ _ _ rfl (World.ownsRow_made w #[] 0 (Nat.le_refl _) (Nat.zero_le _) rfl) a l.length c (l.map (Value.int .i64)) rfl (by simp) (HC.out _) (ints_oneCell _ _) ?c4 ?c5 ?c6 ?_)
    case c4 => unfold maxLen; omega
    case c5 => omega
    case c6 => simp
    intro v' w1 hown hgrow hnil
    have HO : Hid (w1.ownsRow w.heap.size 3 1 v' l.length (l.map (Value.int .i64)) ∧ Below w.heap.size w w1) := ⟨by simpa using hown, ((Below.refl _ w).alloc (Nat.le_refl _) _).grown hgrow (by simp) (by intro k hk; simp [Value.ownBlock] at hk; omega)⟩
    obtain ⟨A', c', rfl⟩ : ∃ A' c', v' = .slice A' l.length c' := by
      obtain ⟨_, h2⟩ := HO.out.1
      rcases h2 with ⟨rfl, h0⟩ | ⟨g, cap, cur, rfl, _⟩
      · exact ⟨none, 0, by rw [h0]⟩
      · exact ⟨_, _, rfl⟩
    clear hown hgrow hnil
    go_wp2_with fail
    go_ret
    exact ⟨A', c', rfl, HO.out⟩

end Go.Proofs.YtbjlfhpiebokkaaDoor
