/- A recording has few events: at most one a step beside the interrupts. -/
import Derived.Test.YtecpblabaelopaaGreatDoorRunWPart
import Derived.Test.YtecpblabaelopaaGreatDoorRdEvPart
import Derived.Test.YtecpblabaelopaaGreatDoorBasePart
import Derived.Test.YtecpblabaelopaaGreatDoorOwnPart
import Derived.Test.YtecpblabaelopaaGreatDoorSpcFPart
namespace Go.Proofs.YtecpblabaelopaaGreatDoor
open Go.RowKit
set_option maxRecDepth 100000

theorem ask_want {m : Mach} {irq : Bool} {blk : List Int} (v : Int) (h : m.asks irq blk = true) : (m.step irq blk v).1.want = (m.ahead irq blk).want := by
  unfold Mach.asks at h
  obtain ⟨hf, he, ho, hn⟩ := of_decide_eq_true h
  have he' : ((m.told irq blk).enter.counted).nextE = 0 := he
  have ho' : ((m.told irq blk).enter.counted).nextX % 16 = 10 := ho
  have hn' : ((m.told irq blk).enter.counted).nextX / 1024 = 0 ∨ ((m.told irq blk).enter.counted).nextX / 1024 = 1 := hn
  unfold Mach.step
  rw [if_pos hf]
  unfold Mach.run1
  rw [if_pos he', ho']
  unfold Mach.exec
  rw [if_neg (by decide), if_neg (by decide), if_neg (by decide), if_neg (by decide), if_neg (by decide), if_neg (by decide), if_neg (by decide), if_neg (by decide), if_neg (by decide), if_neg (by decide), if_pos rfl, if_pos hn']
  rfl
theorem ask_new {x : Wd} {k : Nat} {s : RecS} (hx : WdMay x) (h : RecOk k s) (hf : s.m.fin = 0) (ha : s.ask x k = true) : s.new x k = false := by
  have hw : (s.then_ x k).want = (s.m.ahead (s.irq x k) (s.blk x k)).want := ask_want _ ha
  have e : (s.m.ahead (s.irq x k) (s.blk x k)).want = (s.m.told (s.irq x k) (s.blk x k)).want := enter_want _
  unfold RecS.new
  apply decide_eq_false
  rintro ⟨h1, h2⟩
  rw [hw, e] at h2
  unfold Mach.told at h2
  by_cases hd : s.due = (k : Int)
  · have hb := RecS.blk_at hx hd
    rcases h.due hf with ⟨a, b⟩ | ⟨a, b, c⟩
    · omega
    · rw [if_pos ⟨by omega, b⟩] at h2
      simp at h2
  · have hb : s.blk x k = [] := by unfold RecS.blk; rw [if_neg hd]
    rw [if_neg (by rw [hb]; simp)] at h2
    have h3 : 0 ≤ s.m.want := h2
    omega
def irqsTo (x : Wd) (k : Nat) : Nat := (x.irqs.filter fun y => decide (y < (k : Int))).length
theorem filter_more {k : Int} : ∀ l : List Int, (l.filter fun y => decide (y < k)).length + (if hasI l k = true then 1 else 0) ≤ (l.filter fun y => decide (y < k + 1)).length
  | [] => by simp [hasI]
  | y :: l => by
    have ih := filter_more (k := k) l
    have hc : hasI (y :: l) k = (decide (y = k) || hasI l k) := rfl
    rw [hc, List.filter_cons, List.filter_cons]
    by_cases h1 : y < k
    · have h2 : y < k + 1 := by omega
      have h3 : ¬ y = k := by omega
      simp only [h1, h2, h3, decide_true, decide_false, if_true, List.length_cons, Bool.false_or]
      omega
    · by_cases h3 : y = k
      · subst h3
        have h2 : y < y + 1 := by omega
        simp only [h1, h2, decide_true, decide_false, if_true, if_false, List.length_cons, Bool.true_or, Bool.false_eq_true]
        omega
      · have h2 : ¬ y < k + 1 := by omega
        simp only [h1, h2, h3, decide_false, Bool.false_or]
        simpa using ih
structure RecFewAt (x : Wd) (k : Nat) (s : RecS) (i b : Nat) : Prop where
  len : s.evs.length = i + b + s.va
  irq : i ≤ irqsTo x k
  blk : b + (if s.due = -1 then 0 else 1) ≤ s.bl
  sum : s.va + s.bl ≤ k
theorem irqs_more (x : Wd) (k : Nat) : irqsTo x k + (if hasI x.irqs k = true then 1 else 0) ≤ irqsTo x (k + 1) := by
  have := filter_more (k := (k : Int)) x.irqs
  unfold irqsTo
  have e : ((k + 1 : Nat) : Int) = (k : Int) + 1 := by omega
  rw [e]
  exact this
theorem rec_few {x : Wd} (hx : WdMay x) {im : List Int} (hi : newNo im = 0) : ∀ k, k ≤ 3000 → ∃ i b, RecFewAt x k (recN x im k) i b
  | 0, _ => ⟨0, 0, by simp [recN], by omega, by simp [recN], by simp [recN]⟩
  | k + 1, hk => by
    obtain ⟨i, b, h⟩ := rec_few hx hi k (by omega)
    have ho := rec_ok hx hi k (by omega)
    have hm := irqs_more x k
    by_cases hf : (recN x im k).m.fin = 0
    · rw [rec_step hf]
      generalize recN x im k = s at h ho hf
      have h1 := h.len
      have h2 := h.irq
      have h3 := h.blk
      have h4 := h.sum
      refine ⟨i + (if s.irq x k = true then 1 else 0), b + (if s.due = (k : Int) then 1 else 0), ?_, ?_, ?_, ?_⟩
      · show (s.evs ++ s.evI x k ++ s.evB x k ++ s.evV x k).length = _ + _ + (if s.ask x k = true then s.va + 1 else s.va)
        unfold RecS.evI RecS.evB RecS.evV
        simp only [List.length_append]
        by_cases c1 : s.irq x k = true
        all_goals by_cases c2 : s.due = (k : Int)
        all_goals by_cases c3 : s.ask x k = true
        all_goals simp only [c1, c2, c3, if_true, if_false, List.length_cons, List.length_nil, Bool.false_eq_true]
        all_goals omega
      · show i + (if hasI x.irqs k = true then 1 else 0) ≤ _
        omega
      · show b + _ + (if (if s.new x k = true then (k : Int) + 1 + x.delays.getD s.bl 0 else if s.due = (k : Int) then -1 else s.due) = -1 then 0 else 1) ≤ (if s.new x k = true then s.bl + 1 else s.bl)
        have hd0 : s.due = (k : Int) → ¬ s.due = -1 := by omega
        by_cases c1 : s.new x k = true
        all_goals by_cases c2 : s.due = (k : Int)
        all_goals by_cases c3 : s.due = -1
        all_goals simp only [c1, c2, c3, if_true, if_false, Bool.false_eq_true] at h3 ⊢
        all_goals repeat' (first | split | split at h3)
        all_goals omega
      · show (if s.ask x k = true then s.va + 1 else s.va) + (if s.new x k = true then s.bl + 1 else s.bl) ≤ k + 1
        by_cases c1 : s.ask x k = true
        · have c2 := ask_new hx ho hf c1
          simp only [c1, c2, if_true, if_false, Bool.false_eq_true]
          omega
        · simp only [c1, if_false, Bool.false_eq_true]
          split <;> omega
    · have e : recN x im (k + 1) = recN x im k := rec_stays hf 1
      rw [e]
      exact ⟨i, b, h.len, by have := h.irq; omega, h.blk, by have := h.sum; omega⟩
theorem rec_len_few {x : Wd} (hx : WdMay x) {im : List Int} (hi : newNo im = 0) {k : Nat} (hk : k ≤ 3000) : (recN x im k).evs.length ≤ x.irqs.length + k := by
  obtain ⟨i, b, h⟩ := rec_few hx hi k hk
  have h1 := h.len
  have h2 := h.irq
  have h3 := h.blk
  have h4 := h.sum
  have h5 : irqsTo x k ≤ x.irqs.length := List.length_filter_le _ _
  omega

end Go.Proofs.YtecpblabaelopaaGreatDoor

/- A recording in a world of small words: its bytes are few, its tape may be, and is replayed. Plain. -/

namespace Go.Proofs.YtecpblabaelopaaGreatDoor
open Go.RowKit
set_option maxRecDepth 100000

def small8 (l : List Int) : Prop := ∀ x ∈ l, 0 ≤ x ∧ x ≤ 8
theorem zero16_small : small8 zero16 := fun x hx => by
  have : x = 0 := by unfold zero16 at hx; exact List.eq_of_mem_replicate hx
  omega
structure WdSmall (x : Wd) : Prop where
  may : WdMay x
  blk : ∀ b ∈ x.blocks, small8 b
  few : x.irqs.length ≤ 21
theorem WdSmall.at {x : Wd} (h : WdSmall x) (i : Nat) : small8 (x.blocks.getD i zero16) := by
  by_cases hi : i < x.blocks.length
  · have e : x.blocks.getD i zero16 = x.blocks[i] := by simp [List.getD, hi]
    rw [e]
    exact h.blk _ (List.getElem_mem hi)
  · have e : x.blocks.getD i zero16 = zero16 := by simp [List.getD, hi]
    rw [e]
    exact zero16_small
theorem sevens_len1 {n : Nat} (h : n < 128) : (sevens n).length = 1 := by rw [sevens_small h]; rfl
theorem zigs_len1 {z : Int} (h : -9 ≤ z ∧ z ≤ 9) : (zigs z).length = 1 := by
  unfold zigs
  split
  · exact sevens_len1 (by omega)
  · exact sevens_len1 (by omega)
theorem runsB_small : ∀ (l : List Int) (last : Int) (run : Nat), run + l.length ≤ 100 → (0 ≤ last ∧ last ≤ 8) → small8 l → (runsB last run l).length ≤ 2 * l.length
  | [], _, _, _, _, _ => by simp [runsB]
  | [x], last, run, hr, hl, hx => by
    have h1 := sevens_len1 (n := run + 1) (by simp at hr; omega)
    have hx0 := hx x (by simp)
    have h2 := zigs_len1 (z := x - last) (by omega)
    simp [runsB]
    omega
  | x :: y :: t, last, run, hr, hl, hx => by
    have hx0 := hx x (by simp)
    have h1 := sevens_len1 (n := run + 1) (by simp at hr; omega)
    have h2 := zigs_len1 (z := x - last) (by omega)
    by_cases h : y = x
    · have := runsB_small (y :: t) last (run + 1) (by simp at hr ⊢; omega) hl (fun z hz => hx z (List.mem_cons_of_mem _ hz))
      simp [runsB, h] at this ⊢
      omega
    · have := runsB_small (y :: t) x 0 (by simp at hr ⊢; omega) hx0 (fun z hz => hx z (List.mem_cons_of_mem _ hz))
      simp [runsB, h] at this ⊢
      omega
def EvSmall (e : Ev) : Prop := e.kind = 2 → small8 e.data
theorem dataB_small {e : Ev} (h : evNo e = 0) (hs : EvSmall e) : (dataB e).length ≤ 32 := by
  obtain ⟨hk, ha, hw, hl⟩ := evNo_bd h
  unfold dataB
  split
  · rename_i e2
    have h16 : e.data.length = 16 := by simp [wordsN, e2] at hl; omega
    have := runsB_small e.data 0 0 (by omega) (by simp) (hs e2)
    omega
  · split
    · rename_i e2 e3
      have h1 : e.data.length = 1 := by simp [wordsN, e3] at hl; omega
      have hm := allB_mem hw (e.data.getD 0 0) (by
        match e.data, h1 with
        | [a], _ => simp)
      have := zigs_len7 (z := e.data.getD 0 0) (by omega)
      omega
    · simp
theorem encFrom_small : ∀ (L : List Ev) (last : Int), 0 ≤ last → (∀ e ∈ L, evNo e = 0 ∧ EvSmall e) → (encFrom last L).length ≤ 39 * L.length
  | [], _, _, _ => by simp [encFrom]
  | e :: L, last, h0, h => by
    obtain ⟨h1, h2⟩ := h e (by simp)
    obtain ⟨hk, ha, hw, hl⟩ := evNo_bd h1
    have h3 := dataB_small h1 h2
    have h4 := sevens_len7 (n := (4 * (e.at_ - last) + e.kind).toNat) (by omega)
    have ih := encFrom_small L e.at_ (by omega) (fun x hx => h x (List.mem_cons_of_mem _ hx))
    simp only [encFrom, evB, List.length_append, List.length_cons]
    omega
theorem fullB_small {L : List Ev} (hl : L.length ≤ 1000) (h : ∀ e ∈ L, evNo e = 0 ∧ EvSmall e) : (fullB L).length ≤ 60000 := by
  have h1 := encFrom_small L 0 (by omega) h
  have h2 := sevens_len7 (n := L.length) (by omega)
  simp only [fullB, encB, sumB, List.length_append, List.length_cons, List.length_nil]
  omega
theorem rec_small {x : Wd} (hx : WdSmall x) {im : List Int} : ∀ k, ∀ e ∈ (recN x im k).evs, EvSmall e
  | 0, e, he => by simp [recN] at he
  | k + 1, e, he => by
    have ih := rec_small hx (im := im) k
    rw [recN] at he
    split at he
    · rw [RecS.next_evs, List.mem_append] at he
      rcases he with he | he
      · exact ih e he
      · unfold RecS.more RecS.evI RecS.evB RecS.evV at he
        simp only [List.mem_append] at he
        rcases he with (he | he) | he
        · split at he
          · simp at he
            subst he
            intro h2
            cases h2
          · simp at he
        · split at he
          · rename_i hd
            simp at he
            subst he
            intro _
            show small8 (RecS.blk _ _ _)
            unfold RecS.blk
            rw [if_pos hd]
            exact hx.at _
          · simp at he
        · split at he
          · simp at he
            subst he
            intro h2
            cases h2
          · simp at he
    · exact ih e he
structure RecFine (x : Wd) (im : List Int) (n : Nat) : Prop where
  small : WdSmall x
  im : newNo im = 0
  le : n ≤ 900
theorem RecFine.chk {x : Wd} {im : List Int} {n : Nat} (h : RecFine x im n) : chkNo (recN x im n).evs = 0 := by
  have h1 := rec_len_few h.small.may h.im (k := n) (by have := h.le; omega)
  have h2 := h.small.few
  have h3 := h.le
  exact rec_chk h.small.may (by omega) (by omega)
theorem RecFine.bytes {x : Wd} {im : List Int} {n : Nat} (h : RecFine x im n) : (fullB (recN x im n).evs).length ≤ 60000 := by
  have h1 := rec_len_few h.small.may h.im (k := n) (by have := h.le; omega)
  have h2 := h.small.few
  have h3 := h.le
  exact fullB_small (by omega) (fun e he => ⟨rec_may h.small.may n (by omega) e he, rec_small h.small n e he⟩)
def recC (x : Wd) (im : List Int) (n : Nat) : Nat := (recN x im n).m.count.toNat
theorem RecFine.ok {x : Wd} {im : List Int} {n : Nat} (h : RecFine x im n) : RecOk n (recN x im n) := rec_ok h.small.may h.im n (by have := h.le; omega)
theorem RecFine.cnt {x : Wd} {im : List Int} {n : Nat} (h : RecFine x im n) : (recN x im n).m.count = (recC x im n : Int) ∧ recC x im n ≤ n := by
  have h1 := h.ok.cle
  have h2 := h.ok.may.count
  unfold recC
  omega
theorem RecFine.fix {x : Wd} {im : List Int} {n : Nat} (h : RecFine x im n) : recN x im (recC x im n) = recN x im n := rec_fix h.small.may h.im n (by have := h.le; omega)
theorem RecFine.dec {x : Wd} {im : List Int} {n : Nat} (h : RecFine x im n) : decD (fullB (recN x im n).evs) = (0, (recN x im n).evs) := decD_full h.chk h.bytes
theorem RecFine.late {x : Wd} {im : List Int} {n : Nat} (h : RecFine x im n) : lateB (recC x im n) (recN x im n).evs = false := by
  refine late_all fun j hj hl => ?_
  have e : (recN x im n).evs = (recN x im (recC x im n)).evs := by rw [h.fix]
  have hm : (recN x im n).evs.getD j noEv ∈ (recN x im (recC x im n)).evs := by
    rw [← e]
    simp [List.getD, hj]
  have := rec_before _ _ hm
  omega
theorem RecFine.tape {x : Wd} {im : List Int} {n : Nat} (h : RecFine x im n) : tapeG im (fullB (recN x im n).evs) (recC x im n) = (0, (recN x im n).evs) := by
  have h1 := h.cnt
  have h2 := h.le
  have h3 : inB (recC x im n : Int) 0 3000 = true := inB_iff.2 (by omega)
  have h4 := h.late
  unfold tapeG
  rw [h.dec, if_neg (by rw [h.im]; simp), if_neg (by rw [h3]; simp), if_neg (by simp), if_neg (by simp [h4])]
theorem RecFine.at_ {x : Wd} {im : List Int} {n k : Nat} (h : RecFine x im n) (hk : k ≤ recC x im n) : replayM im (recN x im n).evs k = (recN x im k).m := by
  have h1 := h.cnt
  exact rec_replay _ (by omega) (fun j hj => rec_going h.small.may h.im (n := n) (by have := h.le; omega) (by show j < recC x im n; omega))
theorem RecFine.ends {x : Wd} {im : List Int} {n : Nat} (h : RecFine x im n) : replayM im (recN x im n).evs (recC x im n) = (recN x im n).m := by
  rw [h.at_ (Nat.le_refl _), h.fix]
theorem RecFine.replay {x : Wd} {im : List Int} {n k : Nat} (h : RecFine x im n) (hk : k ≤ recC x im n) : replayG im (fullB (recN x im n).evs) (recC x im n) k = (replayM im (recN x im n).evs k, 0) := by
  have h1 : inB (k : Int) 0 (recC x im n) = true := inB_iff.2 (by omega)
  unfold replayG
  rw [h.tape, if_neg (by simp), if_neg (by rw [h1]; simp)]
  rfl
theorem RecFine.far {x : Wd} {im : List Int} {n : Nat} (h : RecFine x im n) : replayG im (fullB (recN x im n).evs) (recC x im n) ((recC x im n : Int) + 1) = (noMach12, 2) := by
  have h1 : inB ((recC x im n : Int) + 1) 0 (recC x im n) = false := by
    cases e : inB ((recC x im n : Int) + 1) 0 (recC x im n) with
    | false => rfl
    | true => have := inB_iff.1 e; omega
  unfold replayG
  rw [h.tape, if_neg (by simp), if_pos h1]
theorem RecFine.ans {x : Wd} {im : List Int} {n : Nat} (h : RecFine x im n) (hw : worldNo x = 0) : recA x im n = ⟨0, im, fullB (recN x im n).evs, (recC x im n : Int), (recN x im n).m⟩ := by
  have h0 : recNo x im n = 0 := by
    unfold recNo
    have h2 := h.le
    have h3 : inB (n : Int) 0 3000 = true := inB_iff.2 (by omega)
    rw [if_neg (by rw [h.im]; simp), if_neg (by rw [hw]; simp), if_neg (by rw [h3]; simp)]
    exact h.chk
  rw [recA_ok h0, Int.toNat_natCast, h.cnt.1]

end Go.Proofs.YtecpblabaelopaaGreatDoor

/- A slice of raw things. -/

namespace Go.Proofs.YtecpblabaelopaaGreatDoor
open Go.RowKit

def RawsIn (w : World) (v : Value) (n : Nat) : Prop :=
  ∃ (A : Option Addr) (c : Nat), v = .slice A n c ∧ n * 32 ≤ 140737488351232 ∧
    (0 < n → ∃ b off, A = some ⟨b, off, none⟩ ∧ b < w.heap.size ∧ ∀ j, j < n → ∃ x0 x1 x2 x3 : Int, (Lit.int .i64 x0).wf = true ∧ (Lit.int .i64 x1).wf = true ∧ (Lit.int .i64 x2).wf = true ∧ (Lit.int .i64 x3).wf = true ∧
      w.cell? ⟨b, off + j * 4, none⟩ = some (.int .i64 x0) ∧ w.cell? ⟨b, off + j * 4 + 1, none⟩ = some (.int .i64 x1) ∧ w.cell? ⟨b, off + j * 4 + 2, none⟩ = some (.int .i64 x2) ∧ w.cell? ⟨b, off + j * 4 + 3, none⟩ = some (.int .i64 x3))
theorem RawsIn.below {w w' : World} {v : Value} {n : Nat} (h : RawsIn w v n) (hb : Below w.heap.size w w') : RawsIn w' v n := by
  obtain ⟨A, c, rfl, hl, hc⟩ := h
  refine ⟨A, c, rfl, hl, fun h0 => ?_⟩
  obtain ⟨b, off, rfl, hlt, hj⟩ := hc h0
  refine ⟨b, off, rfl, Nat.lt_of_lt_of_le hlt hb.size, fun j hjl => ?_⟩
  obtain ⟨x0, x1, x2, x3, f0, f1, f2, f3, c0, c1, c2, c3⟩ := hj j hjl
  exact ⟨x0, x1, x2, x3, f0, f1, f2, f3, (hb.cell (p := ⟨b, off + j * 4, none⟩) hlt).trans c0, (hb.cell (p := ⟨b, off + j * 4 + 1, none⟩) hlt).trans c1, (hb.cell (p := ⟨b, off + j * 4 + 2, none⟩) hlt).trans c2, (hb.cell (p := ⟨b, off + j * 4 + 3, none⟩) hlt).trans c3⟩

end Go.Proofs.YtecpblabaelopaaGreatDoor

/- Contract of picked: a number from 0 to many - 1. -/

namespace Go.Proofs.YtecpblabaelopaaGreatDoor
open Go.RowKit

def pickF (n m : Int) : Int := (if n < 0 then -(n + 1) else n) % m
theorem pickF_bd (n : Int) {m : Int} (hm : 0 < m) : 0 ≤ pickF n m ∧ pickF n m < m := ⟨Int.emod_nonneg _ (by omega), Int.emod_lt_of_pos _ hm⟩
theorem wf_bd {n : Int} (h : (Lit.int .i64 n).wf = true) : -9223372036854775808 ≤ n ∧ n ≤ 9223372036854775807 := by
  simpa [Lit.wf, IntKind.min, IntKind.max, IntKind.signed, IntKind.bits] using h

set_option maxHeartbeats 400000 in
theorem picked_any (n m : Int) (w : World) (hn : (Lit.int .i64 n).wf = true) (hm : 0 < m) (hm2 : m ≤ 1000000) :
    Calls Tryz.prog 16 #[.int .i64 n, .int .i64 m] w fun e w' => e = .returned (.int .i64 (pickF n m)) ∧ w' = w := by
  obtain ⟨b1, b2⟩ := wf_bd hn
  clear hn
  have hm0 : (m == 0) = false := by simp; omega
  by_cases h : n < 0
  · have HP : Hid (pickF n m = (-(n + 1)) % m) := by show _ = _; simp [pickF, h]
    go_enter Tryz.func16, Tryz.ntmps16
    go_wp2
    go_ret
    rw [HP.out, ← Int.tmod_eq_emod_of_nonneg (by omega), Int.neg_tmod]
    exact ⟨rfl, rfl⟩
  · have HP : Hid (pickF n m = n % m) := by show _ = _; simp [pickF, h]
    go_enter Tryz.func16, Tryz.ntmps16
    go_wp2
    go_ret
    rw [HP.out]
    exact ⟨rfl, rfl⟩

end Go.Proofs.YtecpblabaelopaaGreatDoor

/- The world of raw things, plainly. -/

namespace Go.Proofs.YtecpblabaelopaaGreatDoor
open Go.RowKit
set_option maxRecDepth 100000

abbrev Raw4 := Int × Int × Int × Int
def raw0 : Raw4 := (0, 0, 0, 0)
def Raw4.wf (r : Raw4) : Prop := (Lit.int .i64 r.1).wf = true ∧ (Lit.int .i64 r.2.1).wf = true ∧ (Lit.int .i64 r.2.2.1).wf = true ∧ (Lit.int .i64 r.2.2.2).wf = true
def RawsL (w : World) (v : Value) (R : List Raw4) : Prop :=
  ∃ (A : Option Addr) (c : Nat), v = .slice A R.length c ∧ R.length * 32 ≤ 140737488351232 ∧ (∀ j, j < R.length → (R.getD j raw0).wf) ∧
    (0 < R.length → ∃ b off, A = some ⟨b, off, none⟩ ∧ b < w.heap.size ∧ ∀ j, j < R.length →
      w.cell? ⟨b, off + j * 4, none⟩ = some (.int .i64 (R.getD j raw0).1) ∧ w.cell? ⟨b, off + j * 4 + 1, none⟩ = some (.int .i64 (R.getD j raw0).2.1) ∧ w.cell? ⟨b, off + j * 4 + 2, none⟩ = some (.int .i64 (R.getD j raw0).2.2.1) ∧ w.cell? ⟨b, off + j * 4 + 3, none⟩ = some (.int .i64 (R.getD j raw0).2.2.2))
theorem RawsL.below {w w' : World} {v : Value} {R : List Raw4} (h : RawsL w v R) (hb : Below w.heap.size w w') : RawsL w' v R := by
  obtain ⟨A, c, rfl, hl, hf, hc⟩ := h
  refine ⟨A, c, rfl, hl, hf, fun h0 => ?_⟩
  obtain ⟨b, off, rfl, hlt, hj⟩ := hc h0
  refine ⟨b, off, rfl, Nat.lt_of_lt_of_le hlt hb.size, fun j hjl => ?_⟩
  obtain ⟨c0, c1, c2, c3⟩ := hj j hjl
  exact ⟨(hb.cell (p := ⟨b, off + j * 4, none⟩) hlt).trans c0, (hb.cell (p := ⟨b, off + j * 4 + 1, none⟩) hlt).trans c1, (hb.cell (p := ⟨b, off + j * 4 + 2, none⟩) hlt).trans c2, (hb.cell (p := ⟨b, off + j * 4 + 3, none⟩) hlt).trans c3⟩
theorem RawsIn.some_ {w : World} {v : Value} {n : Nat} (h : RawsIn w v n) : ∃ R, R.length = n ∧ RawsL w v R := by
  obtain ⟨A, c, rfl, hl, hc⟩ := h
  by_cases h0 : 0 < n
  · obtain ⟨b, off, rfl, hlt, hj⟩ := hc h0
    have key : ∀ j : Fin n, ∃ r : Raw4, r.wf ∧ w.cell? ⟨b, off + j.1 * 4, none⟩ = some (.int .i64 r.1) ∧ w.cell? ⟨b, off + j.1 * 4 + 1, none⟩ = some (.int .i64 r.2.1) ∧ w.cell? ⟨b, off + j.1 * 4 + 2, none⟩ = some (.int .i64 r.2.2.1) ∧ w.cell? ⟨b, off + j.1 * 4 + 3, none⟩ = some (.int .i64 r.2.2.2) := fun j => by
      obtain ⟨x0, x1, x2, x3, f0, f1, f2, f3, c0, c1, c2, c3⟩ := hj j.1 j.2
      exact ⟨(x0, x1, x2, x3), ⟨f0, f1, f2, f3⟩, c0, c1, c2, c3⟩
    have e : ∀ j (hjl : j < n), (List.ofFn fun j : Fin n => Classical.choose (key j)).getD j raw0 = Classical.choose (key ⟨j, hjl⟩) := fun j hjl => by
      simp [List.getD, hjl]
    refine ⟨List.ofFn fun j => Classical.choose (key j), by simp, _, c, by simp, by simpa using hl, fun j hjl => ?_, fun _ => ⟨b, off, rfl, hlt, fun j hjl => ?_⟩⟩
    · have hjn : j < n := by simpa using hjl
      rw [e j hjn]
      exact (Classical.choose_spec (key ⟨j, hjn⟩)).1
    · have hjn : j < n := by simpa using hjl
      rw [e j hjn]
      exact (Classical.choose_spec (key ⟨j, hjn⟩)).2
  · obtain rfl : n = 0 := by omega
    exact ⟨[], rfl, A, c, rfl, by simp, fun j hj => by simp at hj, fun h => by simp at h⟩
def blockF (c : Int) (n : Nat) : List Int := (List.range n).map fun k => pickF (c.tdiv ((k / 4 + 1 : Nat) : Int)) 9
theorem blockF_len (c : Int) (n : Nat) : (blockF c n).length = n := by simp [blockF]
theorem blockF_small (c : Int) (n : Nat) : small8 (blockF c n) := fun x hx => by
  obtain ⟨k, _, rfl⟩ := List.mem_map.1 hx
  have := pickF_bd (c.tdiv ((k / 4 + 1 : Nat) : Int)) (m := 9) (by decide)
  omega
def isB (r : Raw4) : Bool := decide (pickF r.1 3 = 0)
def worldF (R : List Raw4) : Wd :=
  { irqs := R.map fun r => pickF r.2.1 300
    values := R.map fun r => pickF r.2.2.1 100 - 50
    blocks := (R.filter isB).map fun r => blockF r.2.2.2 16
    delays := R.map fun r => pickF r.2.2.2 20 }
theorem allIn_of {lo hi : Int} {l : List Int} (h : ∀ x ∈ l, lo ≤ x ∧ x ≤ hi) : allIn lo hi l = true := by
  unfold allIn
  rw [List.all_eq_true]
  exact fun x hx => inB_iff.2 (h x hx)
theorem allB_of {l : List Int} (h : ∀ x ∈ l, -1099511627776 ≤ x ∧ x ≤ 1099511627776) : allB l = true := allB_iff.2 fun i hi => by
  have := h (l.getD i 0) (by simp [List.getD, hi])
  simpa [wordB, inB] using this
theorem blocksNo_of : ∀ {D : List (List Int)}, (∀ b ∈ D, b.length = 16 ∧ allB b = true) → blocksNo D = 0
  | [], _ => rfl
  | b :: D, h => by
    have ih := blocksNo_of (D := D) fun x hx => h x (List.mem_cons_of_mem _ hx)
    obtain ⟨h1, h2⟩ := h b (by simp)
    unfold blocksNo
    simp [h1, h2, ih]
theorem worldF_no {R : List Raw4} (hR : R.length ≤ 20) : worldNo (worldF R) = 0 := by
  have h1 : (worldF R).fits = true := by
    have := List.length_filter_le isB R
    unfold Wd.fits
    apply decide_eq_true
    simp only [worldF, List.length_map]
    omega
  have h2 : allIn 0 3000 (worldF R).irqs = true := allIn_of fun x hx => by
    obtain ⟨r, _, rfl⟩ := List.mem_map.1 hx
    have := pickF_bd r.2.1 (m := 300) (by decide)
    omega
  have h3 : allIn 0 3000 (worldF R).delays = true := allIn_of fun x hx => by
    obtain ⟨r, _, rfl⟩ := List.mem_map.1 hx
    have := pickF_bd r.2.2.2 (m := 20) (by decide)
    omega
  have h4 : allB (worldF R).values = true := allB_of fun x hx => by
    obtain ⟨r, _, rfl⟩ := List.mem_map.1 hx
    have := pickF_bd r.2.2.1 (m := 100) (by decide)
    omega
  have h5 : blocksNo (worldF R).blocks = 0 := blocksNo_of fun b hb => by
    obtain ⟨r, _, rfl⟩ := List.mem_map.1 hb
    exact ⟨blockF_len _ _, allB_of fun x hx => by have := blockF_small _ _ x hx; omega⟩
  unfold worldNo
  rw [if_pos h1, if_pos ⟨h2, h3, h4⟩, h5]
theorem worldF_small {R : List Raw4} (hR : R.length ≤ 20) : WdSmall (worldF R) :=
  ⟨worldNo_may (worldF_no hR), fun b hb => by
    obtain ⟨r, _, rfl⟩ := List.mem_map.1 hb
    exact blockF_small _ _, by show (R.map _).length ≤ 21; simp; omega⟩
theorem getD_mem4 {R : List Raw4} {j : Nat} (h : j < R.length) : R.getD j raw0 = R[j] := by simp [List.getD, h]
theorem take_snoc4 {R : List Raw4} {k : Nat} (h : k < R.length) : R.take (k + 1) = R.take k ++ [R.getD k raw0] := by
  rw [List.take_succ_eq_append_getElem h, getD_mem4 h]

end Go.Proofs.YtecpblabaelopaaGreatDoor

/- Slices of numbers of the call's own, apart from one another; a world that is being made. Plain laws. -/

namespace Go.Proofs.YtecpblabaelopaaGreatDoor
open Go.RowKit
set_option maxRecDepth 100000

def OwnAll (w : World) (lo : Nat) (L : List (Value × List Int)) : Prop := (∀ p ∈ L, OwnI w lo p.1 p.2) ∧ L.Pairwise fun p q => Apart p.1 q.1
theorem OwnAll.below {w w' : World} {lo : Nat} {L : List (Value × List Int)} (h : OwnAll w lo L) (hb : Below w.heap.size w w') : OwnAll w' lo L := ⟨fun p hp => (h.1 p hp).below hb, h.2⟩
theorem own_lt {w : World} {lo : Nat} {v : Value} {l : List Int} (h : OwnI w lo v l) {g : Nat} (hg : v.ownBlock = some g) : g < w.heap.size := (World.ownsRow.lt h g hg).2
theorem OwnAll.put {w w1 : World} {lo : Nat} {A B : List (Value × List Int)} {v v' : Value} {l l' : List Int} (h : OwnAll w lo (A ++ (v, l) :: B)) (hg : w.grownBy w1 v.ownBlock) (ho : OwnI w1 lo v' l') (ha : ∀ g, v'.ownBlock = some g → v.ownBlock = some g ∨ w.heap.size ≤ g) : OwnAll w1 lo (A ++ (v', l') :: B) := by
  obtain ⟨h1, h2⟩ := h
  obtain ⟨p1, p2, p3⟩ := List.pairwise_append.1 h2
  obtain ⟨q1, q2⟩ := List.pairwise_cons.1 p2
  have keep : ∀ p : Value × List Int, OwnI w lo p.1 p.2 → Apart p.1 v → OwnI w1 lo p.1 p.2 ∧ Apart p.1 v' := fun p hp hap => by
    refine ⟨World.ownsRow.kept hp hg ?_, fun g hg1 hg2 => ?_⟩
    · cases e : p.1.ownBlock with
      | none => exact Or.inl rfl
      | some g => exact Or.inr (fun e2 => hap g e e2.symm)
    · rcases ha g hg2 with e | e
      · exact hap g hg1 e
      · have := own_lt hp hg1; omega
  refine ⟨fun p hp => ?_, List.pairwise_append.2 ⟨p1, List.pairwise_cons.2 ⟨fun b hb => ?_, q2⟩, fun a haA b hb => ?_⟩⟩
  · rw [List.mem_append, List.mem_cons] at hp
    rcases hp with hp | hp | hp
    · exact (keep p (h1 p (by simp [hp])) (p3 p hp (v, l) (by simp))).1
    · rw [hp]; exact ho
    · exact (keep p (h1 p (by simp [hp])) (Apart.symm (q1 p hp))).1
  · exact Apart.symm (keep b (h1 b (by simp [hb])) (Apart.symm (q1 b hb))).2
  · rw [List.mem_cons] at hb
    rcases hb with hb | hb
    · rw [hb]; exact (keep a (h1 a (by simp [haA])) (p3 a haA (v, l) (by simp))).2
    · exact p3 a haA b (by simp [hb])
theorem OwnAll.snoc {w w1 : World} {lo : Nat} {L : List (Value × List Int)} {v : Value} {l : List Int} (h : OwnAll w lo L) (hb : Below w.heap.size w w1) (ho : OwnI w1 lo v l) (hn : ∀ g, v.ownBlock = some g → w.heap.size ≤ g) : OwnAll w1 lo (L ++ [(v, l)]) := by
  refine ⟨fun p hp => ?_, List.pairwise_append.2 ⟨h.2, by simp, fun a ha b hb' => ?_⟩⟩
  · rw [List.mem_append, List.mem_singleton] at hp
    rcases hp with hp | hp
    · exact (h.1 p hp).below hb
    · rw [hp]; exact ho
  · rw [List.mem_singleton] at hb'
    rw [hb']
    intro g hg e
    have := own_lt (h.1 a ha) hg
    have := hn g e
    omega
theorem OwnAll.set {w : World} {lo : Nat} {L : List (Value × List Int)} (h : OwnAll w lo L) {b j : Nat} {cur : Array Value} {t : TypeId} (hb : w.heap[b]? = some (.cells cur t (0, 0))) (ht : 3 ≠ t) (u : Value) : OwnAll (w.setCell ⟨b, j, none⟩ u) lo L :=
  ⟨fun p hp => ownsRow_setCell_other (h.1 p hp) (own_ne (h.1 p hp) hb ht) u, h.2⟩
theorem OwnAll.grown {w w1 : World} {lo : Nat} {L : List (Value × List Int)} {r : Option Nat} (h : OwnAll w lo L) (hg : w.grownBy w1 r) (hr : ∀ g, r = some g → ∃ cur t, w.heap[g]? = some (.cells cur t (0, 0)) ∧ 3 ≠ t) : OwnAll w1 lo L := by
  refine ⟨fun p hp => World.ownsRow.kept (h.1 p hp) hg ?_, h.2⟩
  cases e : p.1.ownBlock with
  | none => exact Or.inl rfl
  | some g =>
    refine Or.inr (fun e2 => ?_)
    obtain ⟨cur, t, h1, h2⟩ := hr g e2.symm
    exact own_ne (h.1 p hp) h1 h2 e

abbrev nil4 : Array Value := #[.slice none 0 0, .slice none 0 0, .slice none 0 0, .slice none 0 0]
structure WI (w wr : World) (rb : Nat) (r : Raw4) (iv vv bv dv : Value) (rows : List Value) (x : Wd) : Prop where
  res : wr.heap[w.heap.size]? = some (.cells nil4 53 (0, 0))
  box : wr.heap[w.heap.size + 1]? = some (.cells #[iv, vv, bv, dv] 53 (0, 0))
  raw : wr.heap[rb]? = some (.cells #[.int .i64 r.1, .int .i64 r.2.1, .int .i64 r.2.2.1, .int .i64 r.2.2.2] 92 (0, 0))
  ints : OwnAll wr w.heap.size ((iv, x.irqs) :: (vv, x.values) :: (dv, x.delays) :: rows.zip x.blocks)
  rl : rows.length = x.blocks.length
  top : wr.ownsRow w.heap.size 24 1 bv x.blocks.length rows
  old : Below w.heap.size w wr
structure WI0 (w wr : World) (iv vv bv dv : Value) (rows : List Value) (x : Wd) : Prop where
  res : wr.heap[w.heap.size]? = some (.cells nil4 53 (0, 0))
  box : wr.heap[w.heap.size + 1]? = some (.cells #[iv, vv, bv, dv] 53 (0, 0))
  ints : OwnAll wr w.heap.size ((iv, x.irqs) :: (vv, x.values) :: (dv, x.delays) :: rows.zip x.blocks)
  rl : rows.length = x.blocks.length
  top : wr.ownsRow w.heap.size 24 1 bv x.blocks.length rows
  old : Below w.heap.size w wr
theorem WI.start {w wr : World} {rb : Nat} {r : Raw4} {iv vv bv dv : Value} {rows : List Value} {x : Wd} (h : WI w wr rb r iv vv bv dv rows x) : WI0 w wr iv vv bv dv rows x := ⟨h.res, h.box, h.ints, h.rl, h.top, h.old⟩
theorem WI0.begin_ {w wr : World} {r : Raw4} {iv vv bv dv : Value} {rows : List Value} {x : Wd} (h : WI0 w wr iv vv bv dv rows x) : WI w (wr.alloc (.cells #[.int .i64 r.1, .int .i64 r.2.1, .int .i64 r.2.2.1, .int .i64 r.2.2.2] 92)) wr.heap.size r iv vv bv dv rows x := by
  have hb := below_alloc wr (.cells #[.int .i64 r.1, .int .i64 r.2.1, .int .i64 r.2.2.1, .int .i64 r.2.2.2] 92)
  exact ⟨by rw [hb.block _ (lt_of_block h.res)]; exact h.res, by rw [hb.block _ (lt_of_block h.box)]; exact h.box, Go.Deep.blk_alloc_new _ _, h.ints.below hb, h.rl, ownsRow_below h.top hb, h.old.trans (hb.mono h.old.size)⟩
theorem WI.below {w wr W : World} {rb : Nat} {r : Raw4} {iv vv bv dv : Value} {rows : List Value} {x : Wd} (h : WI w wr rb r iv vv bv dv rows x) (hb : Below wr.heap.size wr W) : WI w W rb r iv vv bv dv rows x :=
  ⟨by rw [hb.block _ (lt_of_block h.res)]; exact h.res, by rw [hb.block _ (lt_of_block h.box)]; exact h.box, by rw [hb.block _ (lt_of_block h.raw)]; exact h.raw, h.ints.below hb, h.rl, ownsRow_below h.top hb, h.old.trans (hb.mono h.old.size)⟩
theorem WI.apart {w wr : World} {rb : Nat} {r : Raw4} {iv vv bv dv : Value} {rows : List Value} {x : Wd} (h : WI w wr rb r iv vv bv dv rows x) : rb ≠ w.heap.size + 1 ∧ rb ≠ w.heap.size := ⟨fun e => by
    have h1 := h.raw
    rw [e, h.box] at h1
    simp at h1, fun e => by
    have h1 := h.raw
    rw [e, h.res] at h1
    simp at h1⟩
theorem WI.grow {w wr w4 : World} {rb : Nat} {r : Raw4} {iv vv bv dv : Value} {rows : List Value} {x : Wd} (h : WI w wr rb r iv vv bv dv rows x) {o : Obj} {u : Value} {l : List Int} (hu : OwnI wr w.heap.size u l) (hg : (wr.alloc o).drew.grownBy w4 u.ownBlock) :
    w4.heap[w.heap.size]? = some (.cells nil4 53 (0, 0)) ∧ w4.heap[w.heap.size + 1]? = some (.cells #[iv, vv, bv, dv] 53 (0, 0)) ∧ w4.heap[rb]? = some (.cells #[.int .i64 r.1, .int .i64 r.2.1, .int .i64 r.2.2.1, .int .i64 r.2.2.2] 92 (0, 0)) ∧ w4.ownsRow w.heap.size 24 1 bv x.blocks.length rows ∧ Below w.heap.size w w4 := by
  have hA : Below wr.heap.size wr (wr.alloc o).drew := (below_alloc wr o).drew
  have hU := hu.below hA
  have at_ : ∀ {b : Nat} {cur : Array Value} {t : TypeId}, wr.heap[b]? = some (.cells cur t (0, 0)) → 3 ≠ t → w4.heap[b]? = some (.cells cur t (0, 0)) := fun {b cur t} hb ht => by
    have h1 : (wr.alloc o).drew.heap[b]? = some (.cells cur t (0, 0)) := by rw [hA.block _ (lt_of_block hb)]; exact hb
    exact block_grown h1 hg (own_ne hU h1 ht)
  refine ⟨at_ h.res (by decide), at_ h.box (by decide), at_ h.raw (by decide), ?_, ?_⟩
  · refine World.ownsRow.kept (ownsRow_below h.top hA) hg ?_
    rcases h.top.2 with ⟨rfl, _⟩ | ⟨g, cap, cur, rfl, _, hh, _⟩
    · exact Or.inl rfl
    · refine Or.inr (fun e => ?_)
      have h1 : (wr.alloc o).drew.heap[g]? = some (.cells cur 24 (0, 0)) := by rw [hA.block _ (lt_of_block hh)]; exact hh
      exact own_ne hU h1 (by decide) (by rw [← e]; rfl)
  · exact (h.old.trans (hA.mono h.old.size)).grown hg (Nat.le_trans h.old.size hA.size) (fun k hk => (World.ownsRow.lt hU k hk).1)
theorem setCell_at {w : World} {b j : Nat} {cur : Array Value} {t : TypeId} (h : w.heap[b]? = some (.cells cur t (0, 0))) (u : Value) : (w.setCell ⟨b, j, none⟩ u).heap[b]? = some (.cells (cur.setIfInBounds j u) t (0, 0)) := by simp [World.setCell, Array.getElem?_modify, h]
theorem WI.stored {w w4 : World} {rb : Nat} {r : Raw4} {iv vv bv dv iv' vv' dv' : Value} {rows : List Value} {x' : Wd} {j : Nat} {u : Value} (hne : rb ≠ w.heap.size + 1) (h1 : w4.heap[w.heap.size]? = some (.cells nil4 53 (0, 0))) (h2 : w4.heap[w.heap.size + 1]? = some (.cells #[iv, vv, bv, dv] 53 (0, 0))) (h3 : w4.heap[rb]? = some (.cells #[.int .i64 r.1, .int .i64 r.2.1, .int .i64 r.2.2.1, .int .i64 r.2.2.2] 92 (0, 0))) (h4 : w4.ownsRow w.heap.size 24 1 bv x'.blocks.length rows) (h5 : Below w.heap.size w w4)
    (hi : OwnAll w4 w.heap.size ((iv', x'.irqs) :: (vv', x'.values) :: (dv', x'.delays) :: rows.zip x'.blocks)) (hr : rows.length = x'.blocks.length) (he : (#[iv, vv, bv, dv] : Array Value).setIfInBounds j u = #[iv', vv', bv, dv']) : WI w (w4.setCell ⟨w.heap.size + 1, j, none⟩ u) rb r iv' vv' bv dv' rows x' := by
  refine ⟨?_, ?_, ?_, hi.set h2 (by decide) u, hr, ?_, h5.setCell (by simp) _⟩
  · rw [Go.Deep.blk_setCell_other _ _ _ _ (by simp)]; exact h1
  · rw [setCell_at h2, he]
  · rw [Go.Deep.blk_setCell_other _ _ _ _ hne]; exact h3
  · exact ownsRow_setCell_other h4 (own_ne h4 h2 (by decide)) u
theorem WI.irq {w wr w4 : World} {rb : Nat} {r : Raw4} {iv vv bv dv : Value} {rows : List Value} {x : Wd} {a : Int} (h : WI w wr rb r iv vv bv dv rows x) {o : Obj} {g n cap : Nat} (hg : (wr.alloc o).drew.grownBy w4 iv.ownBlock) (ho : OwnI w4 w.heap.size (.slice (some ⟨g, 0, none⟩) n cap) (x.irqs ++ [a])) (ha : iv.ownBlock = some g ∨ g = wr.heap.size + 1) :
    w4.heap[w.heap.size + 1]? = some (.cells #[iv, vv, bv, dv] 53 (0, 0)) ∧ WI w (w4.setCell ⟨w.heap.size + 1, 0, none⟩ (.slice (some ⟨g, 0, none⟩) n cap)) rb r (.slice (some ⟨g, 0, none⟩) n cap) vv bv dv rows { x with irqs := x.irqs ++ [a] } := by
  obtain ⟨h1, h2, h3, h4, h5⟩ := h.grow (h.ints.1 (iv, x.irqs) (by simp)) hg
  have hA : Below wr.heap.size wr (wr.alloc o).drew := (below_alloc wr o).drew
  refine ⟨h2, WI.stored h.apart.1 h1 h2 h3 h4 h5 ?_ h.rl rfl⟩
  exact OwnAll.put (A := []) (h.ints.below hA) hg ho (fun g' hg' => by
    simp [Value.ownBlock] at hg'
    subst hg'
    rcases ha with e | e
    · exact Or.inl e
    · exact Or.inr (by show (wr.alloc o).heap.size ≤ _; simp; omega))
theorem WI.value {w wr w4 : World} {rb : Nat} {r : Raw4} {iv vv bv dv : Value} {rows : List Value} {x : Wd} {a : Int} (h : WI w wr rb r iv vv bv dv rows x) {o : Obj} {g n cap : Nat} (hg : (wr.alloc o).drew.grownBy w4 vv.ownBlock) (ho : OwnI w4 w.heap.size (.slice (some ⟨g, 0, none⟩) n cap) (x.values ++ [a])) (ha : vv.ownBlock = some g ∨ g = wr.heap.size + 1) :
    w4.heap[w.heap.size + 1]? = some (.cells #[iv, vv, bv, dv] 53 (0, 0)) ∧ WI w (w4.setCell ⟨w.heap.size + 1, 1, none⟩ (.slice (some ⟨g, 0, none⟩) n cap)) rb r iv (.slice (some ⟨g, 0, none⟩) n cap) bv dv rows { x with values := x.values ++ [a] } := by
  obtain ⟨h1, h2, h3, h4, h5⟩ := h.grow (h.ints.1 (vv, x.values) (by simp)) hg
  have hA : Below wr.heap.size wr (wr.alloc o).drew := (below_alloc wr o).drew
  refine ⟨h2, WI.stored h.apart.1 h1 h2 h3 h4 h5 ?_ h.rl rfl⟩
  exact OwnAll.put (A := [(iv, x.irqs)]) (h.ints.below hA) hg ho (fun g' hg' => by
    simp [Value.ownBlock] at hg'
    subst hg'
    rcases ha with e | e
    · exact Or.inl e
    · exact Or.inr (by show (wr.alloc o).heap.size ≤ _; simp; omega))
theorem WI.delay {w wr w4 : World} {rb : Nat} {r : Raw4} {iv vv bv dv : Value} {rows : List Value} {x : Wd} {a : Int} (h : WI w wr rb r iv vv bv dv rows x) {o : Obj} {g n cap : Nat} (hg : (wr.alloc o).drew.grownBy w4 dv.ownBlock) (ho : OwnI w4 w.heap.size (.slice (some ⟨g, 0, none⟩) n cap) (x.delays ++ [a])) (ha : dv.ownBlock = some g ∨ g = wr.heap.size + 1) :
    w4.heap[w.heap.size + 1]? = some (.cells #[iv, vv, bv, dv] 53 (0, 0)) ∧ WI w (w4.setCell ⟨w.heap.size + 1, 3, none⟩ (.slice (some ⟨g, 0, none⟩) n cap)) rb r iv vv bv (.slice (some ⟨g, 0, none⟩) n cap) rows { x with delays := x.delays ++ [a] } := by
  obtain ⟨h1, h2, h3, h4, h5⟩ := h.grow (h.ints.1 (dv, x.delays) (by simp)) hg
  have hA : Below wr.heap.size wr (wr.alloc o).drew := (below_alloc wr o).drew
  refine ⟨h2, WI.stored h.apart.1 h1 h2 h3 h4 h5 ?_ h.rl rfl⟩
  exact OwnAll.put (A := [(iv, x.irqs), (vv, x.values)]) (h.ints.below hA) hg ho (fun g' hg' => by
    simp [Value.ownBlock] at hg'
    subst hg'
    rcases ha with e | e
    · exact Or.inl e
    · exact Or.inr (by show (wr.alloc o).heap.size ≤ _; simp; omega))
theorem WI.block {w wr W w4 : World} {rb : Nat} {r : Raw4} {iv vv bv dv bv' d : Value} {rows : List Value} {x : Wd} {b : List Int} (h : WI w wr rb r iv vv bv dv rows x) (hb : Below wr.heap.size wr W) (hd : OwnI W w.heap.size d b) (hn : ∀ g, d.ownBlock = some g → wr.heap.size ≤ g) {o : Obj} (hg : (W.alloc o).grownBy w4 bv.ownBlock) (ho : w4.ownsRow w.heap.size 24 1 bv' (x.blocks.length + 1) (rows ++ [d])) :
    w4.heap[w.heap.size + 1]? = some (.cells #[iv, vv, bv, dv] 53 (0, 0)) ∧ WI0 w (w4.setCell ⟨w.heap.size + 1, 2, none⟩ bv') iv vv bv' dv (rows ++ [d]) { x with blocks := x.blocks ++ [b] } := by
  have hA : Below wr.heap.size wr (W.alloc o) := hb.trans ((below_alloc W o).mono hb.size)
  have hT := ownsRow_below h.top hA
  have hnb : ∀ {g : Nat} {cur : Array Value} {t : TypeId}, wr.heap[g]? = some (.cells cur t (0, 0)) → 24 ≠ t → w4.heap[g]? = some (.cells cur t (0, 0)) := fun {g cur t} hb' ht => by
    have h1 : (W.alloc o).heap[g]? = some (.cells cur t (0, 0)) := by rw [hA.block _ (lt_of_block hb')]; exact hb'
    exact block_grown h1 hg (own_ne hT h1 ht)
  have h2 := hnb h.box (by decide)
  have hI : OwnAll (W.alloc o) w.heap.size ((iv, x.irqs) :: (vv, x.values) :: (dv, x.delays) :: (rows ++ [d]).zip (x.blocks ++ [b])) := by
    have hz : (rows ++ [d]).zip (x.blocks ++ [b]) = rows.zip x.blocks ++ [(d, b)] := by
      rw [List.zip_append h.rl]; rfl
    rw [hz]
    exact OwnAll.snoc (L := (iv, x.irqs) :: (vv, x.values) :: (dv, x.delays) :: rows.zip x.blocks) h.ints hA (hd.below (below_alloc _ _)) hn
  have hI4 : OwnAll w4 w.heap.size ((iv, x.irqs) :: (vv, x.values) :: (dv, x.delays) :: (rows ++ [d]).zip (x.blocks ++ [b])) := hI.grown hg (fun g e => by
    rcases hT.2 with ⟨rfl, _⟩ | ⟨g', cap, cur, rfl, _, hh, _⟩
    · simp [Value.ownBlock] at e
    · simp [Value.ownBlock] at e
      subst e
      exact ⟨cur, _, hh, by decide⟩)
  refine ⟨h2, ?_, ?_, hI4.set h2 (by decide) _, by simp [h.rl], ?_, ?_⟩
  · rw [Go.Deep.blk_setCell_other _ _ _ _ (by simp)]; exact hnb h.res (by decide)
  · rw [setCell_at h2]; rfl
  · have : ({ x with blocks := x.blocks ++ [b] } : Wd).blocks.length = x.blocks.length + 1 := by simp
    rw [this]
    exact ownsRow_setCell_other ho (own_ne ho h2 (by decide)) _
  · exact (((h.old.trans (hA.mono h.old.size)).grown hg (Nat.le_trans h.old.size hA.size) (fun k hk => (World.ownsRow.lt hT k hk).1))).setCell (by simp) _

theorem worldF_snoc (R : List Raw4) (r : Raw4) : worldF (R ++ [r]) = { irqs := (worldF R).irqs ++ [pickF r.2.1 300], values := (worldF R).values ++ [pickF r.2.2.1 100 - 50], blocks := if pickF r.1 3 = 0 then (worldF R).blocks ++ [blockF r.2.2.2 16] else (worldF R).blocks, delays := (worldF R).delays ++ [pickF r.2.2.2 20] } := by
  unfold worldF
  rw [List.filter_append]
  by_cases h : pickF r.1 3 = 0
  · have hb : isB r = true := decide_eq_true h
    simp [h, hb]
  · have hb : isB r = false := decide_eq_false h
    simp [h, hb]

end Go.Proofs.YtecpblabaelopaaGreatDoor
