/- Facts on the type of numbers. -/
import Derived.Test.YtecpblabaelopaaDoorRunPPart
import Derived.Test.YtecpblabaelopaaDoorBasePart
import Derived.WalkSpells
import Derived.Test.YtecpblabaelopaaDoorStepMPart
import Derived.Deep.AppendLies
import Derived.Maps.AppendAt
import Derived.Laws.CopyOwn
import Derived.Deep.OwnRows
import Derived.Test.YtecpblabaelopaaDoorCloPart
namespace Go.Proofs.YtecpblabaelopaaDoor
open Go.RowKit
set_option maxRecDepth 100000

theorem infoInt : (Tryd.prog.info? 3).map (fun i => (i.zero, i.size, i.bytes)) = some (some (.int .i64 0), 1, 8) := by kernel_rfl

theorem take_snoc (l : List Int) (k : Nat) (h : k < l.length) : l.take (k + 1) = l.take k ++ [l.getD k 0] := by
  rw [List.take_succ_eq_append_getElem h]; simp [List.getD, h]

end Go.Proofs.YtecpblabaelopaaDoor

/- Contracts of cpu.in and out. -/

namespace Go.Proofs.YtecpblabaelopaaDoor
open Go.RowKit
set_option maxRecDepth 100000

/-- What In does. -/
def Mach.inned (m : Mach) (a n value : Int) : Mach := if n = 0 ∨ n = 1 then m.setReg a value else if n = 2 then m.setReg a m.ready else m.ends 3
/-- What Out does. -/
def Mach.outed (m : Mach) (a n : Int) : Mach :=
  if n = 3 then (if m.out.length < 200 then { m with out := m.out ++ [m.reg a] } else m) else if n = 4 then m.asked (m.reg a) else m.ends 3

theorem isOfWorld_any (n : Int) (b : Bool) (w : World) (h : (n == 0 || n == 1) = b) : Calls Tryd.prog 77 #[.int .i64 n] w fun e w' => e = .returned (.bool b) ∧ w' = w := by
  cases c0 : n == 0 with
  | true =>
    have HB : Hid (true = b) := by show _ = _; rw [← h, c0]; rfl
    clear h
    go_enter Tryd.func77, Tryd.ntmps77
    go_wp2_with fail
    go_ret
    exact ⟨ret_bool HB.out, rfl⟩
  | false =>
    have HB : Hid ((n == 1) = b) := by show _ = _; rw [← h, c0]; rfl
    clear h
    go_enter Tryd.func77, Tryd.ntmps77
    go_wp2_with fail
    go_ret
    exact ⟨ret_bool HB.out, rfl⟩

set_option maxHeartbeats 2000000 in
theorem in_any (lo b : Nat) (rv mv ov : Value) (m : Mach) (op a k n value : Int) (w : World) (h : AtP w lo b rv mv ov m) (hlo : lo ≤ w.heap.size) (hm : MayP m) (ha : 0 ≤ a ∧ a ≤ 7) :
    Calls Tryd.prog 64 #[ptr b, .agg #[.int .i64 op, .int .i64 a, .int .i64 k, .int .i64 n], .int .i64 value] w fun e w' => e = .returned (.tuple #[]) ∧ AtP w' lo b rv mv ov (m.inned a n value) ∧ Below lo w w' := by
  obtain ⟨g, c, rfl, hg, hreg, hfz⟩ := h.regs_at hm.regs
  have hx : (w.alloc (.cells #[.int .i64 op, .int .i64 a, .int .i64 k, .int .i64 n] 75)).heap[w.heap.size]? = some (.cells #[.int .i64 op, .int .i64 a, .int .i64 k, .int .i64 n] 75 (0, 0)) := Go.Deep.blk_alloc_new _ _
  have hb0 := below_alloc w (.cells #[.int .i64 op, .int .i64 a, .int .i64 k, .int .i64 n] 75)
  obtain ⟨W, hW⟩ : ∃ W, W = w.alloc (.cells #[.int .i64 op, .int .i64 a, .int .i64 k, .int .i64 n] 75) := ⟨_, rfl⟩
  rw [← hW] at hx hb0
  have HW : Hid (W = _) := hW
  clear hW
  have h1 := h.below hb0
  have HP : Hid (AtP W lo b (.slice (some ⟨g, 0, none⟩) m.regs.length c) mv ov m ∧ Below lo w W ∧ lo ≤ W.heap.size) := ⟨h1, hb0.mono hlo, Nat.le_trans hlo hb0.size⟩
  obtain ⟨⟨z0, z1, z2, z3, z4, z5, z6, z7, z8, z9, z10, z11⟩, zf, zl⟩ := twelve_cells h1.box
  obtain ⟨x0, x1, x2, x3, xf, xl⟩ := four_cells hx
  obtain ⟨q3, q4, q5⟩ := h1.reg_cell hm.regs ha.1 ha.2
  have ab : a < (m.regs.length : Int) := by have := hm.regs; omega
  obtain ⟨a0, a7⟩ := ha
  have HH : Hid (AtP w lo b (.slice (some ⟨g, 0, none⟩) m.regs.length c) mv ov m) := h
  have HLO : Hid (lo ≤ w.heap.size) := hlo
  clear h h1 hx hb0 hreg hm hg hfz hlo
  obtain ⟨R, eR⟩ : ∃ R, R = m.inned a n value := ⟨_, rfl⟩
  rw [← eR]
  cases c0 : n == 0 with
  | true =>
    have ci : (n == 0 || n == 1) = true := by simp [c0]
    have HR : Hid (R = { m with regs := m.regs.set a.toNat value }) := by show _ = _; rw [eR]; simp at c0; simp [Mach.inned, c0, Mach.setReg]
    clear eR
    go_enter Tryd.func64, Tryd.ntmps64
    go_wp2_with fail
    rw [← HW.out]
    go_wp2_with (go_at_call 77; refine (isOfWorld_any _ _ _ ci).mono ?_; rintro e w' ⟨rfl, hw'⟩; rw [hw']; clear hw' w')
    go_still_tail 8, (by kernel_rfl)
    go_wp2_with fail
    first | go_end0 | refine bodyPost_ret (results_none rfl _ _ _) rfl ?_
    rw [HR.out]
    exact ⟨rfl, (HP.out.1.drew.putReg a.toNat value).1, (HP.out.2.1.drew).trans (HP.out.1.drew.putReg a.toNat value).2⟩
  | false =>
  cases c1 : n == 1 with
  | true =>
    have ci : (n == 0 || n == 1) = true := by simp [c1]
    have HR : Hid (R = { m with regs := m.regs.set a.toNat value }) := by show _ = _; rw [eR]; simp at c1; simp [Mach.inned, c1, Mach.setReg]
    clear eR
    go_enter Tryd.func64, Tryd.ntmps64
    go_wp2_with fail
    rw [← HW.out]
    go_wp2_with (go_at_call 77; refine (isOfWorld_any _ _ _ ci).mono ?_; rintro e w' ⟨rfl, hw'⟩; rw [hw']; clear hw' w')
    go_still_tail 8, (by kernel_rfl)
    go_wp2_with fail
    first | go_end0 | refine bodyPost_ret (results_none rfl _ _ _) rfl ?_
    rw [HR.out]
    exact ⟨rfl, (HP.out.1.drew.putReg a.toNat value).1, (HP.out.2.1.drew).trans (HP.out.1.drew.putReg a.toNat value).2⟩
  | false =>
  have ci : (n == 0 || n == 1) = false := by simp [c0, c1]
  cases c2 : n == 2 with
  | true =>
    have HR : Hid (R = { m with regs := m.regs.set a.toNat m.ready }) := by show _ = _; rw [eR]; simp at c2; simp [Mach.inned, c2, Mach.setReg]
    clear eR
    go_enter Tryd.func64, Tryd.ntmps64
    go_wp2_with fail
    rw [← HW.out]
    go_wp2_with (go_at_call 77; refine (isOfWorld_any _ _ _ ci).mono ?_; rintro e w' ⟨rfl, hw'⟩; rw [hw']; clear hw' w')
    go_still_tail 11, (by kernel_rfl)
    go_wp2_with fail
    first | go_end0 | refine bodyPost_ret (results_none rfl _ _ _) rfl ?_
    rw [HR.out]
    exact ⟨rfl, (HP.out.1.drew.putReg a.toNat m.ready).1, (HP.out.2.1.drew).trans (HP.out.1.drew.putReg a.toNat m.ready).2⟩
  | false =>
    have HR : Hid (R = { m with fin := 3 }) := by show _ = _; rw [eR]; simp at c0 c1 c2; simp [Mach.inned, c0, c1, c2, Mach.ends]
    clear eR
    go_enter Tryd.func64, Tryd.ntmps64
    go_wp2_with fail
    rw [← HW.out]
    go_wp2_with (go_at_call 77; refine (isOfWorld_any _ _ _ ci).mono ?_; rintro e w' ⟨rfl, hw'⟩; rw [hw']; clear hw' w')
    first | go_end0 | refine bodyPost_ret (results_none rfl _ _ _) rfl ?_
    rw [HR.out]
    exact ⟨rfl, (HP.out.1.setFin 3).1, HP.out.2.1.trans (HP.out.1.setFin 3).2⟩

/-- A row that another one's growing leaves alone. -/
theorem OwnI.grown {w w1 : World} {lo : Nat} {v u : Value} {l : List Int} (h : OwnI w lo v l) (hg : w.grownBy w1 u.ownBlock) (hap : Apart v u) : OwnI w1 lo v l := by
  obtain ⟨e1, e2⟩ := h
  refine ⟨e1, ?_⟩
  rcases e2 with e2 | ⟨g', cap, cu, hv, hlo, hh, r⟩
  · exact Or.inl e2
  · exact Or.inr ⟨g', cap, cu, hv, hlo, by rw [hg.block g' (lt_of_block hh) (fun e => hap g' (by rw [hv]; rfl) e.symm)]; exact hh, r⟩

/-- A word is told, and the slice stored. -/
theorem AtP.appended {w w1 : World} {lo b : Nat} {rv mv ov ov' : Value} {m : Mach} {x : Int} {o : Obj} (h : AtP w lo b rv mv ov m) (hlo : lo ≤ w.heap.size) (hg : (w.alloc o).drew.grownBy w1 ov.ownBlock) (ho : OwnI w1 lo ov' (m.out ++ [x]))
    (hat : ov.ownBlock = ov'.ownBlock ∨ ∀ g, ov'.ownBlock = some g → w.heap.size ≤ g) :
    w1.heap[b]? = some (.cells (m.cells rv mv ov) 28 (0, 0)) ∧ AtP (w1.setCell ⟨b, 9, none⟩ ov') lo b rv mv ov' { m with out := m.out ++ [x] } ∧ Below lo w (w1.setCell ⟨b, 9, none⟩ ov') := by
  have hA : Below w.heap.size w (w.alloc o).drew := (below_alloc w o).drew
  have hP := h.below hA
  have hne : ov.ownBlock ≠ some b := own_ne hP.own.out hP.box (by decide)
  have hb1 : w1.heap[b]? = some (.cells (m.cells rv mv ov) 28 (0, 0)) := by rw [hg.block b hP.lt (fun e => hne e.symm)]; exact hP.box
  have hB : Below lo w w1 := (hA.mono hlo).grown hg (by have := hA.size; omega) (fun k hk => (World.ownsRow.lt hP.own.out k hk).1)
  have ap : ∀ {v : Value} {l : List Int}, OwnI w lo v l → Apart v ov → Apart v ov' := fun {v l} hv ha g hg' e => by
    rcases hat with hat | hat
    · exact ha g hg' (by rw [hat]; exact e)
    · have := (World.ownsRow.lt hv g hg').2
      have := hat g e
      omega
  refine ⟨hb1, ⟨⟨by rw [box_set hb1]; rfl, ?_, h.le⟩, hB.setCell (by simpa using h.le) _⟩⟩
  have hM : OwnM w1 lo rv mv ov' { m with out := m.out ++ [x] } := ⟨hP.own.regs.grown hg h.own.ro, hP.own.mem.grown hg h.own.mo, ho, h.own.rm, ap h.own.regs h.own.ro, ap h.own.mem h.own.mo⟩
  exact hM.box ⟨_, hb1⟩ 9 ov'

set_option maxRecDepth 20000 in
set_option maxHeartbeats 2000000 in
theorem out_any (lo b : Nat) (rv mv ov : Value) (m : Mach) (op a k n : Int) (w : World) (h : AtP w lo b rv mv ov m) (hlo : lo ≤ w.heap.size) (hm : MayP m) (ha : 0 ≤ a ∧ a ≤ 7) :
    Calls Tryd.prog 65 #[ptr b, .agg #[.int .i64 op, .int .i64 a, .int .i64 k, .int .i64 n]] w fun e w' => e = .returned (.tuple #[]) ∧ (∃ ov', AtP w' lo b rv mv ov' (m.outed a n)) ∧ Below lo w w' := by
  obtain ⟨C, cc, rfl⟩ := h.own.out.shape
  obtain ⟨g, c, rfl, hg, hreg, hfz⟩ := h.regs_at hm.regs
  have hx : (w.alloc (.cells #[.int .i64 op, .int .i64 a, .int .i64 k, .int .i64 n] 75)).heap[w.heap.size]? = some (.cells #[.int .i64 op, .int .i64 a, .int .i64 k, .int .i64 n] 75 (0, 0)) := Go.Deep.blk_alloc_new _ _
  have hb0 := below_alloc w (.cells #[.int .i64 op, .int .i64 a, .int .i64 k, .int .i64 n] 75)
  obtain ⟨W, hW⟩ : ∃ W, W = w.alloc (.cells #[.int .i64 op, .int .i64 a, .int .i64 k, .int .i64 n] 75) := ⟨_, rfl⟩
  rw [← hW] at hx hb0
  have HW : Hid (W = _) := hW
  clear hW
  have h1 := h.below hb0
  have HP : Hid (AtP W lo b (.slice (some ⟨g, 0, none⟩) m.regs.length c) mv (.slice C m.out.length cc) m ∧ Below lo w W ∧ lo ≤ W.heap.size) := ⟨h1, hb0.mono hlo, Nat.le_trans hlo hb0.size⟩
  obtain ⟨⟨z0, z1, z2, z3, z4, z5, z6, z7, z8, z9, z10, z11⟩, zf, zl⟩ := twelve_cells h1.box
  obtain ⟨x0, x1, x2, x3, xf, xl⟩ := four_cells hx
  obtain ⟨q3, q4, q5⟩ := h1.reg_cell hm.regs ha.1 ha.2
  have ab : a < (m.regs.length : Int) := by have := hm.regs; omega
  obtain ⟨a0, a7⟩ := ha
  have HH : Hid (AtP w lo b (.slice (some ⟨g, 0, none⟩) m.regs.length c) mv (.slice C m.out.length cc) m) := h
  have HLO : Hid (lo ≤ w.heap.size) := hlo
  have ho200 := hm.out
  have HH : Hid (AtP w lo b (.slice (some ⟨g, 0, none⟩) m.regs.length c) mv (.slice C m.out.length cc) m) := h
  have HLO : Hid (lo ≤ w.heap.size) := hlo
  obtain ⟨⟨y0, y1, y2, y3, y4, y5, y6, y7, y8, y9, y10, y11⟩, yf, yl⟩ := twelve_cells h.box
  have hne : ¬ b = w.heap.size := by omega
  clear h h1 hx hb0 hreg hm hg hfz hlo
  obtain ⟨R, eR⟩ : ∃ R, R = m.outed a n := ⟨_, rfl⟩
  rw [← eR]
  obtain ⟨x, ex⟩ : ∃ x, x = m.reg a := ⟨_, rfl⟩
  rw [← ex] at q3
  cases c0 : n == 3 with
  | true =>
    by_cases hl : m.out.length < 200
    · have HR : Hid (R = { m with out := m.out ++ [x] }) := by show _ = _; rw [eR, ex]; simp at c0; simp [Mach.outed, c0, hl]
      have d0 : (m.out.length : Int) < 200 := by omega
      have HO : Hid (W.ownsRow lo 3 1 (.slice C m.out.length cc) m.out.length (m.out.map (Value.int .i64))) := HP.out.1.own.out
      obtain ⟨i0, hi0, hz00, hz01, hz02⟩ := info_parts infoInt
      clear eR ex
      go_enter Tryd.func65, Tryd.ntmps65
      go_wp2_with fail
      rw [← HW.out]
      clear y0 y1 y2 y3 y4 y5 y6 y7 y8 y9 y10 y11 yf hne
      go_region_law ((refine step_append_lies _ (by rfl) _ _ _ (by rfl) lo 3 i0 (.int .i64 0) 1 8 Tryd.underlying23 hi0 hz00 hz01 hz02 rfl (by decide) (.slice C m.out.length cc) m.out.length (m.out.map (Value.int .i64)) (by rfl) ((HO.out.alloc _).drew) ⟨W.heap.size, 0, none⟩ 1 1 [.int .i64 x] (by rfl) (by rfl) (by exact cell_one_new _ _ _) (by intro u hu; simp at hu; subst hu; rfl) (by decide) (by unfold maxLen; omega) (by omega) (by simp; have := HP.out.2.2; omega) (W.heap.size + 1) (by simp) ?_; intro g4 cap w4 hown4 hgrow hat hlt4; obtain ⟨hb4, hA4, hB4⟩ := HP.out.1.appended HP.out.2.2 hgrow (OwnI.snoc hown4 rfl) (by rcases hat with hat | hat; exact Or.inl hat; exact Or.inr (fun g' e => by simp [Value.ownBlock] at e; omega)); have HA4 : Hid (AtP _ lo b _ _ _ _ ∧ Below lo W _) := ⟨hA4, hB4⟩; obtain ⟨⟨y0, y1, y2, y3, y4, y5, y6, y7, y8, y9, y10, y11⟩, yf, yl⟩ := twelve_cells hb4; clear hA4 hB4 hb4 hown4 hgrow hat))
      all_goals
        go_wp2_with fail
        first | go_end0 | refine bodyPost_ret (results_none rfl _ _ _) rfl ?_
        rw [HR.out]
        exact ⟨rfl, ⟨_, HA4.out.1⟩, HP.out.2.1.trans HA4.out.2⟩
    · have HR : Hid (R = m) := by show _ = _; rw [eR]; simp at c0; simp [Mach.outed, c0, hl]
      have d0 : ¬ (m.out.length : Int) < 200 := by omega
      clear eR ex
      go_enter Tryd.func65, Tryd.ntmps65
      go_wp2_with fail
      first | go_end0 | refine bodyPost_ret (results_none rfl _ _ _) rfl ?_
      rw [HR.out]
      exact ⟨rfl, ⟨_, HH.out.below (below_alloc _ _)⟩, (below_alloc _ _).mono HLO.out⟩
  | false =>
  cases c1 : n == 4 with
  | true =>
    have HR : Hid (R = m.asked x) := by show _ = _; rw [eR, ex]; simp at c0 c1; simp [Mach.outed, c1]
    clear eR ex
    go_enter Tryd.func65, Tryd.ntmps65
    go_wp2_with fail
    rw [← HW.out]
    clear y0 y1 y2 y3 y4 y5 y6 y7 y8 y9 y10 y11 yf hne
    go_still_tail 9, (by kernel_rfl)
    go_wp2_with fail
    refine (askBlock_any lo b _ _ _ m x _ HP.out.1.drew HP.out.2.2).mono ?_
    rintro e w5 ⟨rfl, hA, hB⟩
    have HA : Hid (AtP w5 lo b _ _ _ _ ∧ Below lo W w5) := ⟨hA, ((Below.refl _ W).drew).trans hB⟩
    clear hA hB
    go_wp2_with fail
    first | go_end0 | refine bodyPost_ret (results_none rfl _ _ _) rfl ?_
    rw [HR.out]
    exact ⟨rfl, ⟨_, HA.out.1⟩, HP.out.2.1.trans HA.out.2⟩
  | false =>
    have HR : Hid (R = { m with fin := 3 }) := by show _ = _; rw [eR]; simp at c0 c1; simp [Mach.outed, c0, c1, Mach.ends]
    clear eR z0 z1 z2 z3 z4 z5 z6 z7 z8 z9 z10 z11 zf zl x0 x1 x2 x3 xf xl q3 q4 q5
    go_enter Tryd.func65, Tryd.ntmps65
    go_wp2_with fail
    first | go_end0 | refine bodyPost_ret (results_none rfl _ _ _) rfl ?_
    rw [HR.out]
    exact ⟨rfl, ⟨_, (HH.out.setFin 3).1.below (below_alloc _ _)⟩, (HH.out.setFin 3).2.trans ((below_alloc _ _).mono (by simpa using HLO.out))⟩

end Go.Proofs.YtecpblabaelopaaDoor

/- Laws on copying numbers into new memory. -/

namespace Go.Proofs.YtecpblabaelopaaDoor
open Go.RowKit

theorem infoInts : (Tryd.prog.info? 23).map (fun i => (i.zero, i.size, i.bytes)) = some (some (.slice none 0 0), 1, 24) := by kernel_rfl

theorem splice_all (l : List Int) (n : Nat) (h : n = l.length) : splice (madeCells #[Value.int .i64 0] n).toList 0 (l.map (Value.int .i64)) = l.map (Value.int .i64) := by
  subst h
  simp [splice, size_madeCells]

theorem OwnI.made {w : World} {l : List Int} {lo g : Nat} (hlo : lo ≤ g) (hl : l.length * 8 ≤ 140737488351232) (h : w.heap[g]? = some (.cells (l.map (Value.int .i64)).toArray 3 (0, 0))) : OwnI w lo (.slice (some ⟨g, 0, none⟩) l.length l.length) l :=
  ⟨by simp, Or.inr ⟨g, l.length, _, rfl, hlo, h, Nat.le_refl _, by unfold maxLen; omega, by simp, by simp [List.take_of_length_le]⟩⟩

theorem copy_src {w : World} {l : List Int} {A : Option Addr} {g : Nat} (o : Obj)
    (hc : 0 < l.length → ∃ b off, A = some ⟨b, off, none⟩ ∧ b < w.heap.size ∧ ∀ j, j < l.length → w.cell? ⟨b, off + j, none⟩ = some (.int .i64 (l.getD j 0))) :
    0 < (l.map (Value.int .i64)).length → (some ⟨g, 0, none⟩ : Option Addr) = some ⟨g, 0, none⟩ ∧ ∃ ad, A = some ad ∧ ∀ j v, (l.map (Value.int .i64))[j]? = some v → (w.alloc o).cell? (ad.add j) = some v := by
  intro h0
  obtain ⟨b, off, rfl, hb, hj⟩ := hc (by simpa using h0)
  refine ⟨rfl, _, rfl, fun j v hv => ?_⟩
  have hjl : j < l.length := by
    by_cases h : j < l.length
    · exact h
    · simp [List.getElem?_eq_none (show l.length ≤ j by omega)] at hv
  rw [Go.WideShapes.add_plain]
  rw [(below_alloc w o).cell (p := ⟨b, off + j, none⟩) hb, hj j hjl]
  simp [hjl] at hv
  simp [List.getD, hjl, hv]

theorem made_at (w : World) (n : Nat) : (w.alloc (.cells (madeCells #[Value.int .i64 0] n) 3)).heap[w.heap.size]? = some (.cells (madeCells #[Value.int .i64 0] n).toList.toArray 3 (0, 0)) := by
  rw [Go.Deep.blk_alloc_new]

end Go.Proofs.YtecpblabaelopaaDoor

/- A run of words is put into a guest's memory. -/

namespace Go.Proofs.YtecpblabaelopaaDoor
open Go.RowKit

/-- A copy into a row, as one step of a region that draws: the world behind it, written out. -/
theorem step_copy_exact {P : Program} {ops : Array Oper} {o : Oper} {a : Act} {w : World} {K : Act → World → Prop} {Q : Exit → Act → World → Prop} {E : Prop} (hgd : o.guard = none) (d s : Operand) (dT sT : TypeId)
    (ho : o.op = .call { callee := .builtin .copy, args := #[d, s], argTypes := #[dT, sT] }) (elem : TypeId) (hu : P.underlying dT = some (.slice elem)) (hsz : (P.info? elem).map (·.size) = some 1)
    (g off dLen dCap : Nat) (ad : Addr) (sLen sCap : Nat) (hd : a.eval d = .slice (some ⟨g, off, none⟩) dLen dCap) (hs : a.eval s = .slice (some ad) sLen sCap)
    (cur : Array Value) (t : TypeId) (hg : w.heap[g]? = some (.cells cur t (0, 0))) (cs : List Value) (hn : cs.length = Nat.min sLen dLen)
    (hsrc : ∀ j v, cs[j]? = some v → w.cell? (ad.add j) = some v) (hfit : off + cs.length ≤ cur.size) (h1 : ∀ v ∈ cs, v.oneCell' = true)
    (h : ∀ w', w' = w.setRow g (cur.toList.take off ++ cs ++ cur.toList.drop (off + cs.length)).toArray → K (a.put o.dst (goInt cs.length)) w') :
    if Region.wanted o (yielded ops a.tmps) = true then Oper.wp P o a w K Q else E := by
  have hw : Region.wanted o (yielded ops a.tmps) = true := by simp [Region.wanted, hgd]
  rw [if_pos hw]
  have hrun := run_copy_row (P := P) w dT sT o.type elem g off dLen dCap ad sLen sCap cur t cs hu hsz hg hn hsrc hfit h1
  unfold Oper.wp
  simp [execOp, ho, resolve, invoke, builtin, hd, hs, hrun, Result.andThen]
  exact h _ (by simp)

theorem three_left {α : Type} (A B C : List α) (j : Nat) (h : j < A.length) : (A ++ B ++ C)[j]? = A[j]? := by
  rw [List.append_assoc, List.getElem?_append_left h]
theorem three_mid {α : Type} (A B C : List α) (j : Nat) (h1 : A.length ≤ j) (h2 : j < A.length + B.length) : (A ++ B ++ C)[j]? = B[j - A.length]? := by
  rw [List.append_assoc, List.getElem?_append_right h1, List.getElem?_append_left (by omega)]
theorem three_right {α : Type} (A B C : List α) (j : Nat) (h : A.length + B.length ≤ j) : (A ++ B ++ C)[j]? = C[j - (A.length + B.length)]? := by
  rw [List.append_assoc, List.getElem?_append_right (by omega), List.getElem?_append_right (by omega), Nat.sub_sub]

/-- A run of words is put into memory. -/
theorem AtP.putRun {w : World} {lo b g n c off : Nat} {rv ov : Value} {m : Mach} {blk : List Int} {cur : Array Value} (h : AtP w lo b rv (.slice (some ⟨g, 0, none⟩) n c) ov m) (hcur : w.heap[g]? = some (.cells cur 3 (0, 0))) (hoff : off + blk.length ≤ m.mem.length) :
    AtP (w.setRow g (cur.toList.take off ++ blk.map (Value.int .i64) ++ cur.toList.drop (off + (blk.map (Value.int .i64)).length)).toArray) lo b rv (.slice (some ⟨g, 0, none⟩) n c) ov { m with mem := m.mem.take off ++ blk ++ m.mem.drop (off + blk.length) } ∧
    Below lo w (w.setRow g (cur.toList.take off ++ blk.map (Value.int .i64) ++ cur.toList.drop (off + (blk.map (Value.int .i64)).length)).toArray) := by
  have hg := World.ownsRow.lt h.own.mem g rfl
  have hne : g ≠ b := fun e => by
    have := own_ne h.own.mem h.box (by decide)
    subst e
    exact this rfl
  have hB : Below lo w (w.setRow g (cur.toList.take off ++ blk.map (Value.int .i64) ++ cur.toList.drop (off + (blk.map (Value.int .i64)).length)).toArray) := below_setRow (Below.refl _ _) hg.1 _
  refine ⟨⟨by rw [setRow_other _ _ _ _ (Ne.symm hne)]; exact h.box, ⟨?_, ?_, ?_, h.own.rm, h.own.ro, h.own.mo⟩, h.le⟩, hB⟩
  · obtain ⟨e1, e2⟩ := h.own.regs
    refine ⟨e1, ?_⟩
    rcases e2 with e2 | ⟨g', cap, cu, hv, hlo, hh, r⟩
    · exact Or.inl e2
    · refine Or.inr ⟨g', cap, cu, hv, hlo, ?_, r⟩
      rw [setRow_other _ _ _ _ (fun e => h.own.rm g' (by rw [hv]; rfl) (by rw [e]; rfl))]; exact hh
  · obtain ⟨e1, e2⟩ := h.own.mem
    rcases e2 with ⟨e2, _⟩ | ⟨g', cap, cu, hv, hlo, hh, r1, r2, r3, r4⟩
    · simp at e2
    · simp only [Value.slice.injEq, Option.some.injEq, Addr.mk.injEq] at hv
      obtain ⟨⟨rfl, -, -⟩, hn', rfl⟩ := hv
      rw [hcur] at hh
      simp only [Option.some.injEq, Obj.cells.injEq, and_true] at hh
      subst hh
      have hl : (m.mem.take off ++ blk ++ m.mem.drop (off + blk.length)).length = m.mem.length := by simp; omega
      have hcs : m.mem.length ≤ cur.size := by omega
      refine ⟨by simp only [List.length_map]; omega, Or.inr ⟨g, c, _, by rw [hl, hn'], hlo, setRow_heap w g cur _ _ _ hcur, by show (m.mem.take off ++ blk ++ m.mem.drop (off + blk.length)).length ≤ c; omega, r2, by simp; omega, ?_⟩⟩
      rw [hl]
      simp only [Nat.mul_one] at r4 ⊢
      apply List.ext_getElem?
      intro j
      have hr : ∀ j, j < m.mem.length → cur.toList[j]? = (m.mem.map (Value.int .i64))[j]? := fun j hj => by rw [← r4, List.getElem?_take_of_lt hj]
      by_cases hj : j < m.mem.length
      · rw [List.getElem?_take_of_lt hj]
        have l1 : (cur.toList.take off).length = off := by simp; omega
        have l2 : ((m.mem.take off).map (Value.int .i64)).length = off := by simp; omega
        have l3 : (blk.map (Value.int .i64)).length = blk.length := by simp
        simp only [List.map_append]
        by_cases h1 : j < off
        · rw [three_left _ _ _ _ (by omega), three_left _ _ _ _ (by omega), List.getElem?_take_of_lt h1, hr j hj, List.getElem?_map, List.getElem?_map, List.getElem?_take_of_lt h1]
        · by_cases h2 : j < off + blk.length
          · rw [three_mid _ _ _ _ (by omega) (by omega), three_mid _ _ _ _ (by omega) (by omega), l1, l2]
          · rw [three_right _ _ _ _ (by omega), three_right _ _ _ _ (by omega), l1, l2, l3, List.getElem?_drop, List.getElem?_map, List.getElem?_drop, hr _ (by omega), List.getElem?_map]
      · rw [List.getElem?_eq_none (by simp; omega), List.getElem?_eq_none (by simp; omega)]
  · obtain ⟨e1, e2⟩ := h.own.out
    refine ⟨e1, ?_⟩
    rcases e2 with e2 | ⟨g', cap, cu, hv, hlo, hh, r⟩
    · exact Or.inl e2
    · refine Or.inr ⟨g', cap, cu, hv, hlo, ?_, r⟩
      rw [setRow_other _ _ _ _ (fun e => h.own.mo g rfl (by rw [hv, ← e]; rfl))]; exact hh

end Go.Proofs.YtecpblabaelopaaDoor

/- Contract of cpu.takeBlock: a block comes to the page that was wanted. -/

namespace Go.Proofs.YtecpblabaelopaaDoor
open Go.RowKit

/-- The words of a block, put one by one, are the block. -/
theorem putWords_run (l : List Int) (p : Nat) (blk : List Int) (k : Nat) (hk : k ≤ blk.length) (hp : p + k ≤ l.length) : putWords l p blk k = l.take p ++ blk.take k ++ l.drop (p + k) := by
  induction k with
  | zero => simp [putWords]
  | succ k ih =>
    have hl : (l.take p ++ blk.take k).length = p + k := by simp; omega
    have hd : l.drop (p + k) = l.getD (p + k) 0 :: l.drop (p + (k + 1)) := by
      have e := List.drop_eq_getElem_cons (show p + k < l.length by omega)
      have e2 : l.getD (p + k) 0 = l[p + k] := by simp [List.getD, show p + k < l.length by omega]
      rw [e2]
      exact e
    rw [putWords, ih (by omega) (by omega), hd, List.set_append_right _ _ (by omega), hl, Nat.sub_self, List.set_cons_zero, take_snoc blk k (by omega)]
    simp [List.append_assoc]

theorem putWords_all16 (l : List Int) (p : Nat) (blk : List Int) (hb : blk.length = 16) (hp : p + 16 ≤ l.length) : putWords l p blk 16 = l.take p ++ blk ++ l.drop (p + blk.length) := by
  rw [putWords_run l p blk 16 (by omega) hp, List.take_of_length_le (l := blk) (by omega), hb]

/-- A block has come. -/
def Mach.taken (m : Mach) (blk : List Int) : Mach := if 0 < blk.length ∧ 0 ≤ m.want then { m with mem := putWords m.mem (16 * m.want).toNat blk 16, want := -1, ready := 1, wait := true } else m
theorem told_taken (m : Mach) (irq : Bool) (blk : List Int) : m.told irq blk = ({ m with wait := m.wait || irq } : Mach).taken blk := by
  unfold Mach.told Mach.taken
  split <;> rfl

set_option maxHeartbeats 1000000 in
theorem takeBlock_any (lo b : Nat) (rv mv ov : Value) (m : Mach) (B : Option Addr) (cb : Nat) (blk : List Int) (w : World) (h : AtP w lo b rv mv ov m) (hb : IntsAt w (.slice B blk.length cb) blk)
    (hm : m.mem.length = 256) (hw : -1 ≤ m.want ∧ m.want ≤ 15) (hl : blk.length = 0 ∨ blk.length = 16) :
    Calls Tryd.prog 57 #[ptr b, .slice B blk.length cb] w fun e w' => e = .returned (.tuple #[]) ∧ AtP w' lo b rv mv ov (m.taken blk) ∧ Below lo w w' := by
  have H : Hid (AtP w lo b rv mv ov m) := h
  obtain ⟨⟨z0, z1, z2, z3, z4, z5, z6, z7, z8, z9, z10, z11⟩, zf, zl⟩ := twelve_cells h.box
  by_cases c0 : blk.length = 0
  · have HT : Hid (m.taken blk = m) := by show _ = _; simp [Mach.taken, c0]
    rw [HT.out]
    have d0 : ((blk.length : Int) == 0) = true := by simp [c0]
    clear h hb HT c0 hl
    go_enter Tryd.func57, Tryd.ntmps57
    go_wp2_with fail
    first | go_end0 | refine bodyPost_ret (results_none rfl _ _ _) rfl ?_
    exact ⟨rfl, H.out, Below.refl _ _⟩
  have d0 : ((blk.length : Int) == 0) = false := by simp [c0]
  cases c1 : m.want == -1 with
  | true =>
    have HT : Hid (m.taken blk = m) := by
      show _ = _
      have : m.want = -1 := by simpa using c1
      simp [Mach.taken, this]
    rw [HT.out]
    clear h hb HT c0 hl
    go_enter Tryd.func57, Tryd.ntmps57
    go_wp2_with fail
    first | go_end0 | refine bodyPost_ret (results_none rfl _ _ _) rfl ?_
    exact ⟨rfl, H.out, Below.refl _ _⟩
  | false =>
    have w0 : 0 ≤ m.want := by
      have : m.want ≠ -1 := by simpa using c1
      omega
    have hl16 : blk.length = 16 := by omega
    obtain ⟨g, c, rfl, hg1, hg2, hcell, -⟩ := h.own.mem.opened (by omega)
    obtain ⟨cur, hcur⟩ : ∃ cur, w.heap[g]? = some (.cells cur 3 (0, 0)) := by
      obtain ⟨_, _, e, _, _, ⟨cur, hc⟩, _⟩ := ownsRow_at h.own.mem (by omega)
      simp only [Value.slice.injEq, Option.some.injEq, Addr.mk.injEq] at e
      obtain ⟨⟨rfl, -, -⟩, -, -⟩ := e
      exact ⟨cur, hc⟩
    have hcs : m.mem.length ≤ c ∧ cur.size = c := by
      obtain ⟨_, e2⟩ := h.own.mem
      rcases e2 with ⟨e2, _⟩ | ⟨g', cap, cu, hv, _, hh, r1, _, r3, _⟩
      · simp at e2
      · simp only [Value.slice.injEq, Option.some.injEq, Addr.mk.injEq] at hv
        obtain ⟨⟨rfl, -, -⟩, -, rfl⟩ := hv
        rw [hcur] at hh
        simp only [Option.some.injEq, Obj.cells.injEq, and_true] at hh
        subst hh
        exact ⟨r1, by omega⟩
    obtain ⟨A, cA, hA, hA8, hAc⟩ := hb
    simp only [Value.slice.injEq, true_and] at hA
    obtain ⟨rfl, rfl⟩ := hA
    obtain ⟨bb, off, rfl, hbb, hbc⟩ := hAc (by omega)
    have HP : Hid (∀ w4, w4 = w.drew.setRow g (cur.toList.take (m.want * 16).toNat ++ blk.map (Value.int .i64) ++ cur.toList.drop ((m.want * 16).toNat + (blk.map (Value.int .i64)).length)).toArray →
        AtP w4 lo b rv (.slice (some ⟨g, 0, none⟩) m.mem.length c) ov { m with mem := putWords m.mem (16 * m.want).toNat blk 16 } ∧ Below lo w w4) := fun w4 e => by
      have hr := AtP.putRun (off := (m.want * 16).toNat) (blk := blk) h.drew (show w.drew.heap[g]? = some (.cells cur 3 (0, 0)) from hcur) (by omega)
      subst e
      rw [putWords_all16 _ _ _ hl16 (by omega), show (16 * m.want).toNat = (m.want * 16).toNat by omega]
      exact ⟨hr.1, ((Below.refl _ w).drew).trans hr.2⟩
    have HT : Hid (m.taken blk = { m with mem := putWords m.mem (16 * m.want).toNat blk 16, want := -1, ready := 1, wait := true }) := by show _ = _; unfold Mach.taken; rw [if_pos ⟨by omega, w0⟩]
    rw [HT.out]
    have hsi : (Tryd.prog.info? 3).map (·.size) = some 1 := by kernel_rfl
    have hcopy : ∀ j v, (blk.map (Value.int .i64))[j]? = some v → w.drew.cell? ((⟨bb, off, none⟩ : Addr).add j) = some v := fun j v hv => by
      have hjl : j < blk.length := by
        by_cases hh : j < blk.length
        · exact hh
        · simp [List.getElem?_eq_none (show blk.length ≤ j by omega)] at hv
      rw [Go.WideShapes.add_plain]
      have := hbc j hjl
      simp [hjl] at hv
      simpa [List.getD, hjl, hv] using this
    have HC : Hid (_ ∧ _ ∧ _) := ⟨hcopy, hcs, hcur⟩
    have j1 : 0 ≤ m.want * 16 := by omega
    have j2 : m.want * 16 ≤ (m.mem.length : Int) := by omega
    have HJ : Hid (m.want * 16 ≤ 240 ∧ 0 ≤ m.want ∧ m.mem.length = 256 ∧ blk.length = 16) := ⟨by omega, w0, hm, hl16⟩
    have hwr : IntKind.i64.wrap (m.want * 16) = m.want * 16 := IntWalk.i64_in _ (by omega)
    have HMIN : Hid ((blk.map (Value.int .i64)).length = Nat.min blk.length (m.mem.length - (m.want * 16).toNat)) := by show _ = _; simp only [List.length_map]; exact (Nat.min_eq_left (by omega)).symm
    have j3 : m.mem.length ≤ c := hcs.1
    have j4 : ¬ c = (m.want * 16).toNat := by omega
    clear h HT c0 hl hcopy hcur hcell hbc hAc hcs hg1 hg2 hbb hA8 hm hl16 hw w0
    go_enter Tryd.func57, Tryd.ntmps57
    go_wp2_with fail
    go_region_law ((refine step_copy_exact rfl (.tmp 23) (.tmp 24) 23 23 rfl 3 Tryd.underlying23 hsi g (m.want * 16).toNat (m.mem.length - (m.want * 16).toNat) (c - (m.want * 16).toNat) ⟨bb, off, none⟩ blk.length cb (by rfl) (by rfl) cur 3 HC.out.2.2 (blk.map (Value.int .i64)) HMIN.out HC.out.1 (by simp; have := HJ.out; have := HC.out.2.1; omega) (ints_oneCell _ _) ?_; intro w4 hw4; obtain ⟨h4, hb4⟩ := HP.out w4 hw4; have H4 : Hid (AtP w4 lo b rv (.slice (some ⟨g, 0, none⟩) m.mem.length c) ov { m with mem := putWords m.mem (16 * m.want).toNat blk 16 }) := h4; have HB4 : Hid (Below lo w w4) := hb4; obtain ⟨⟨y0, y1, y2, y3, y4, y5, y6, y7, y8, y9, y10, y11⟩, yf, yl⟩ := twelve_cells h4.box; clear h4 hb4 hw4))
    all_goals
      go_wp2_with fail
      first | go_end0 | refine bodyPost_ret (results_none rfl _ _ _) rfl ?_
      exact ⟨rfl, (((H4.out.setWant (-1)).1.setReady 1).1.setWait true).1, ((HB4.out.trans (H4.out.setWant (-1)).2).trans ((H4.out.setWant (-1)).1.setReady 1).2).trans (((H4.out.setWant (-1)).1.setReady 1).1.setWait true).2⟩

end Go.Proofs.YtecpblabaelopaaDoor
