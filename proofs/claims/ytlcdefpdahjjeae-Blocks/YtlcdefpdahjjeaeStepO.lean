/- Contracts of cpu.in and out. -/
import Derived.Test.YtlcdefpdahjjeaeStepL
import Derived.Deep.AppendLies
import Derived.Maps.AppendAt
import Derived.Test.YtlcdefpdahjjeaeInfo
namespace Go.Proofs.Ytlcdefpdahjjeae
open Go.RowKit

/-- What In does. -/
def Mach.inned (m : Mach) (a n value : Int) : Mach := if n = 0 ∨ n = 1 then m.setReg a value else if n = 2 then m.setReg a m.ready else m.ends 3
/-- What Out does. -/
def Mach.outed (m : Mach) (a n : Int) : Mach :=
  if n = 3 then (if m.out.length < 200 then { m with out := m.out ++ [m.reg a] } else m) else if n = 4 then m.asked (m.reg a) else m.ends 3

theorem isOfWorld_any (n : Int) (b : Bool) (w : World) (h : (n == 0 || n == 1) = b) : Calls Try.prog 39 #[.int .i64 n] w fun e w' => e = .returned (.bool b) ∧ w' = w := by
  cases c0 : n == 0 with
  | true =>
    have HB : Hid (true = b) := by show _ = _; rw [← h, c0]; rfl
    clear h
    go_enter Try.func39, Try.ntmps39
    go_wp2_with fail
    go_ret
    exact ⟨ret_bool HB.out, rfl⟩
  | false =>
    have HB : Hid ((n == 1) = b) := by show _ = _; rw [← h, c0]; rfl
    clear h
    go_enter Try.func39, Try.ntmps39
    go_wp2_with fail
    go_ret
    exact ⟨ret_bool HB.out, rfl⟩

set_option maxHeartbeats 2000000 in
theorem in_any (lo b : Nat) (rv mv ov : Value) (m : Mach) (op a k n value : Int) (w : World) (h : AtP w lo b rv mv ov m) (hlo : lo ≤ w.heap.size) (hm : MayP m) (ha : 0 ≤ a ∧ a ≤ 7) :
    Calls Try.prog 31 #[ptr b, .agg #[.int .i64 op, .int .i64 a, .int .i64 k, .int .i64 n], .int .i64 value] w fun e w' => e = .returned (.tuple #[]) ∧ AtP w' lo b rv mv ov (m.inned a n value) ∧ Below lo w w' := by
  obtain ⟨g, c, rfl, hg, hreg, hfz⟩ := h.regs_at hm.regs
  have hx : (w.alloc (.cells #[.int .i64 op, .int .i64 a, .int .i64 k, .int .i64 n] 24)).heap[w.heap.size]? = some (.cells #[.int .i64 op, .int .i64 a, .int .i64 k, .int .i64 n] 24 (0, 0)) := Go.Deep.blk_alloc_new _ _
  have hb0 := below_alloc w (.cells #[.int .i64 op, .int .i64 a, .int .i64 k, .int .i64 n] 24)
  obtain ⟨W, hW⟩ : ∃ W, W = w.alloc (.cells #[.int .i64 op, .int .i64 a, .int .i64 k, .int .i64 n] 24) := ⟨_, rfl⟩
  rw [← hW] at hx hb0
  have HW : Hid (W = _) := hW
  clear hW
  have h1 := h.below hb0
  have HP : Hid (AtP W lo b (.slice (some ⟨g, 0, none⟩) m.regs.length c) mv ov m ∧ Below lo w W ∧ lo ≤ W.heap.size) := ⟨h1, hb0.mono hlo, Nat.le_trans hlo hb0.size⟩
  obtain ⟨⟨z0, z1, z2, z3, z4, z5, z6, z7, z8, z9, z10, z11⟩, zf, zl⟩ := twelve_cells h1.box
  obtain ⟨x0, x1, x2, x3, xf, xl⟩ := four_cells hx
  obtain ⟨q3, q4, q5⟩ := h1.reg_cell hm.regs ha.1 ha.2
  have ab : a < (m.regs.length : Int) := by have := hm.regs; omega
  obtain ⟨a0, a7⟩ := ha
  have HH : Hid (AtP w lo b (.slice (some ⟨g, 0, none⟩) m.regs.length c) mv ov m) := h
  have HLO : Hid (lo ≤ w.heap.size) := hlo
  clear h h1 hx hb0 hreg hm hg hfz hlo
  obtain ⟨R, eR⟩ : ∃ R, R = m.inned a n value := ⟨_, rfl⟩
  rw [← eR]
  cases c0 : n == 0 with
  | true =>
    have ci : (n == 0 || n == 1) = true := by simp [c0]
    have HR : Hid (R = { m with regs := m.regs.set a.toNat value }) := by show _ = _; rw [eR]; simp at c0; simp [Mach.inned, c0, Mach.setReg]
    clear eR
    go_enter Try.func31, Try.ntmps31
    go_wp2_with fail
    rw [← HW.out]
    go_wp2_with (go_at_call 39; refine (isOfWorld_any _ _ _ ci).mono ?_; rintro e w' ⟨rfl, hw'⟩; rw [hw']; clear hw' w')
    go_still_tail 8, (by kernel_rfl)
    go_wp2_with fail
    first | go_end0 | refine bodyPost_ret (results_none rfl _ _ _) rfl ?_
    rw [HR.out]
    exact ⟨rfl, (HP.out.1.drew.putReg a.toNat value).1, (HP.out.2.1.drew).trans (HP.out.1.drew.putReg a.toNat value).2⟩
  | false =>
  cases c1 : n == 1 with
  | true =>
    have ci : (n == 0 || n == 1) = true := by simp [c1]
    have HR : Hid (R = { m with regs := m.regs.set a.toNat value }) := by show _ = _; rw [eR]; simp at c1; simp [Mach.inned, c1, Mach.setReg]
    clear eR
    go_enter Try.func31, Try.ntmps31
    go_wp2_with fail
    rw [← HW.out]
    go_wp2_with (go_at_call 39; refine (isOfWorld_any _ _ _ ci).mono ?_; rintro e w' ⟨rfl, hw'⟩; rw [hw']; clear hw' w')
    go_still_tail 8, (by kernel_rfl)
    go_wp2_with fail
    first | go_end0 | refine bodyPost_ret (results_none rfl _ _ _) rfl ?_
    rw [HR.out]
    exact ⟨rfl, (HP.out.1.drew.putReg a.toNat value).1, (HP.out.2.1.drew).trans (HP.out.1.drew.putReg a.toNat value).2⟩
  | false =>
  have ci : (n == 0 || n == 1) = false := by simp [c0, c1]
  cases c2 : n == 2 with
  | true =>
    have HR : Hid (R = { m with regs := m.regs.set a.toNat m.ready }) := by show _ = _; rw [eR]; simp at c2; simp [Mach.inned, c2, Mach.setReg]
    clear eR
    go_enter Try.func31, Try.ntmps31
    go_wp2_with fail
    rw [← HW.out]
    go_wp2_with (go_at_call 39; refine (isOfWorld_any _ _ _ ci).mono ?_; rintro e w' ⟨rfl, hw'⟩; rw [hw']; clear hw' w')
    go_still_tail 11, (by kernel_rfl)
    go_wp2_with fail
    first | go_end0 | refine bodyPost_ret (results_none rfl _ _ _) rfl ?_
    rw [HR.out]
    exact ⟨rfl, (HP.out.1.drew.putReg a.toNat m.ready).1, (HP.out.2.1.drew).trans (HP.out.1.drew.putReg a.toNat m.ready).2⟩
  | false =>
    have HR : Hid (R = { m with fin := 3 }) := by show _ = _; rw [eR]; simp at c0 c1 c2; simp [Mach.inned, c0, c1, c2, Mach.ends]
    clear eR
    go_enter Try.func31, Try.ntmps31
    go_wp2_with fail
    rw [← HW.out]
    go_wp2_with (go_at_call 39; refine (isOfWorld_any _ _ _ ci).mono ?_; rintro e w' ⟨rfl, hw'⟩; rw [hw']; clear hw' w')
    first | go_end0 | refine bodyPost_ret (results_none rfl _ _ _) rfl ?_
    rw [HR.out]
    exact ⟨rfl, (HP.out.1.setFin 3).1, HP.out.2.1.trans (HP.out.1.setFin 3).2⟩

/-- A row that another one's growing leaves alone. -/
theorem OwnI.grown {w w1 : World} {lo : Nat} {v u : Value} {l : List Int} (h : OwnI w lo v l) (hg : w.grownBy w1 u.ownBlock) (hap : Apart v u) : OwnI w1 lo v l := by
  obtain ⟨e1, e2⟩ := h
  refine ⟨e1, ?_⟩
  rcases e2 with e2 | ⟨g', cap, cu, hv, hlo, hh, r⟩
  · exact Or.inl e2
  · exact Or.inr ⟨g', cap, cu, hv, hlo, by rw [hg.block g' (lt_of_block hh) (fun e => hap g' (by rw [hv]; rfl) e.symm)]; exact hh, r⟩

/-- A word is told, and the slice stored. -/
theorem AtP.appended {w w1 : World} {lo b : Nat} {rv mv ov ov' : Value} {m : Mach} {x : Int} {o : Obj} (h : AtP w lo b rv mv ov m) (hlo : lo ≤ w.heap.size) (hg : (w.alloc o).drew.grownBy w1 ov.ownBlock) (ho : OwnI w1 lo ov' (m.out ++ [x]))
    (hat : ov.ownBlock = ov'.ownBlock ∨ ∀ g, ov'.ownBlock = some g → w.heap.size ≤ g) :
    w1.heap[b]? = some (.cells (m.cells rv mv ov) 27 (0, 0)) ∧ AtP (w1.setCell ⟨b, 9, none⟩ ov') lo b rv mv ov' { m with out := m.out ++ [x] } ∧ Below lo w (w1.setCell ⟨b, 9, none⟩ ov') := by
  have hA : Below w.heap.size w (w.alloc o).drew := (below_alloc w o).drew
  have hP := h.below hA
  have hne : ov.ownBlock ≠ some b := own_ne hP.own.out hP.box (by decide)
  have hb1 : w1.heap[b]? = some (.cells (m.cells rv mv ov) 27 (0, 0)) := by rw [hg.block b hP.lt (fun e => hne e.symm)]; exact hP.box
  have hB : Below lo w w1 := (hA.mono hlo).grown hg (by have := hA.size; omega) (fun k hk => (World.ownsRow.lt hP.own.out k hk).1)
  have ap : ∀ {v : Value} {l : List Int}, OwnI w lo v l → Apart v ov → Apart v ov' := fun {v l} hv ha g hg' e => by
    rcases hat with hat | hat
    · exact ha g hg' (by rw [hat]; exact e)
    · have := (World.ownsRow.lt hv g hg').2
      have := hat g e
      omega
  refine ⟨hb1, ⟨⟨by rw [box_set hb1]; rfl, ?_, h.le⟩, hB.setCell (by simpa using h.le) _⟩⟩
  have hM : OwnM w1 lo rv mv ov' { m with out := m.out ++ [x] } := ⟨hP.own.regs.grown hg h.own.ro, hP.own.mem.grown hg h.own.mo, ho, h.own.rm, ap h.own.regs h.own.ro, ap h.own.mem h.own.mo⟩
  exact hM.box ⟨_, hb1⟩ 9 ov'

set_option maxRecDepth 20000 in
set_option maxHeartbeats 2000000 in
theorem out_any (lo b : Nat) (rv mv ov : Value) (m : Mach) (op a k n : Int) (w : World) (h : AtP w lo b rv mv ov m) (hlo : lo ≤ w.heap.size) (hm : MayP m) (ha : 0 ≤ a ∧ a ≤ 7) :
    Calls Try.prog 32 #[ptr b, .agg #[.int .i64 op, .int .i64 a, .int .i64 k, .int .i64 n]] w fun e w' => e = .returned (.tuple #[]) ∧ (∃ ov', AtP w' lo b rv mv ov' (m.outed a n)) ∧ Below lo w w' := by
  obtain ⟨C, cc, rfl⟩ := h.own.out.shape
  obtain ⟨g, c, rfl, hg, hreg, hfz⟩ := h.regs_at hm.regs
  have hx : (w.alloc (.cells #[.int .i64 op, .int .i64 a, .int .i64 k, .int .i64 n] 24)).heap[w.heap.size]? = some (.cells #[.int .i64 op, .int .i64 a, .int .i64 k, .int .i64 n] 24 (0, 0)) := Go.Deep.blk_alloc_new _ _
  have hb0 := below_alloc w (.cells #[.int .i64 op, .int .i64 a, .int .i64 k, .int .i64 n] 24)
  obtain ⟨W, hW⟩ : ∃ W, W = w.alloc (.cells #[.int .i64 op, .int .i64 a, .int .i64 k, .int .i64 n] 24) := ⟨_, rfl⟩
  rw [← hW] at hx hb0
  have HW : Hid (W = _) := hW
  clear hW
  have h1 := h.below hb0
  have HP : Hid (AtP W lo b (.slice (some ⟨g, 0, none⟩) m.regs.length c) mv (.slice C m.out.length cc) m ∧ Below lo w W ∧ lo ≤ W.heap.size) := ⟨h1, hb0.mono hlo, Nat.le_trans hlo hb0.size⟩
  obtain ⟨⟨z0, z1, z2, z3, z4, z5, z6, z7, z8, z9, z10, z11⟩, zf, zl⟩ := twelve_cells h1.box
  obtain ⟨x0, x1, x2, x3, xf, xl⟩ := four_cells hx
  obtain ⟨q3, q4, q5⟩ := h1.reg_cell hm.regs ha.1 ha.2
  have ab : a < (m.regs.length : Int) := by have := hm.regs; omega
  obtain ⟨a0, a7⟩ := ha
  have HH : Hid (AtP w lo b (.slice (some ⟨g, 0, none⟩) m.regs.length c) mv (.slice C m.out.length cc) m) := h
  have HLO : Hid (lo ≤ w.heap.size) := hlo
  have ho200 := hm.out
  have HH : Hid (AtP w lo b (.slice (some ⟨g, 0, none⟩) m.regs.length c) mv (.slice C m.out.length cc) m) := h
  have HLO : Hid (lo ≤ w.heap.size) := hlo
  obtain ⟨⟨y0, y1, y2, y3, y4, y5, y6, y7, y8, y9, y10, y11⟩, yf, yl⟩ := twelve_cells h.box
  have hne : ¬ b = w.heap.size := by omega
  clear h h1 hx hb0 hreg hm hg hfz hlo
  obtain ⟨R, eR⟩ : ∃ R, R = m.outed a n := ⟨_, rfl⟩
  rw [← eR]
  obtain ⟨x, ex⟩ : ∃ x, x = m.reg a := ⟨_, rfl⟩
  rw [← ex] at q3
  cases c0 : n == 3 with
  | true =>
    by_cases hl : m.out.length < 200
    · have HR : Hid (R = { m with out := m.out ++ [x] }) := by show _ = _; rw [eR, ex]; simp at c0; simp [Mach.outed, c0, hl]
      have d0 : (m.out.length : Int) < 200 := by omega
      have HO : Hid (W.ownsRow lo 3 1 (.slice C m.out.length cc) m.out.length (m.out.map (Value.int .i64))) := HP.out.1.own.out
      obtain ⟨i0, hi0, hz00, hz01, hz02⟩ := info_parts infoInt
      clear eR ex
      go_enter Try.func32, Try.ntmps32
      go_wp2_with fail
      rw [← HW.out]
      clear y0 y1 y2 y3 y4 y5 y6 y7 y8 y9 y10 y11 yf hne
      go_region_law ((refine step_append_lies _ (by rfl) _ _ _ (by rfl) lo 3 i0 (.int .i64 0) 1 8 Try.underlying25 hi0 hz00 hz01 hz02 rfl (by decide) (.slice C m.out.length cc) m.out.length (m.out.map (Value.int .i64)) (by rfl) ((HO.out.alloc _).drew) ⟨W.heap.size, 0, none⟩ 1 1 [.int .i64 x] (by rfl) (by rfl) (by exact cell_one_new _ _ _) (by intro u hu; simp at hu; subst hu; rfl) (by decide) (by unfold maxLen; omega) (by omega) (by simp; have := HP.out.2.2; omega) (W.heap.size + 1) (by simp) ?_; intro g4 cap w4 hown4 hgrow hat hlt4; obtain ⟨hb4, hA4, hB4⟩ := HP.out.1.appended HP.out.2.2 hgrow (OwnI.snoc hown4 rfl) (by rcases hat with hat | hat; exact Or.inl hat; exact Or.inr (fun g' e => by simp [Value.ownBlock] at e; omega)); have HA4 : Hid (AtP _ lo b _ _ _ _ ∧ Below lo W _) := ⟨hA4, hB4⟩; obtain ⟨⟨y0, y1, y2, y3, y4, y5, y6, y7, y8, y9, y10, y11⟩, yf, yl⟩ := twelve_cells hb4; clear hA4 hB4 hb4 hown4 hgrow hat))
      all_goals
        go_wp2_with fail
        first | go_end0 | refine bodyPost_ret (results_none rfl _ _ _) rfl ?_
        rw [HR.out]
        exact ⟨rfl, ⟨_, HA4.out.1⟩, HP.out.2.1.trans HA4.out.2⟩
    · have HR : Hid (R = m) := by show _ = _; rw [eR]; simp at c0; simp [Mach.outed, c0, hl]
      have d0 : ¬ (m.out.length : Int) < 200 := by omega
      clear eR ex
      go_enter Try.func32, Try.ntmps32
      go_wp2_with fail
      first | go_end0 | refine bodyPost_ret (results_none rfl _ _ _) rfl ?_
      rw [HR.out]
      exact ⟨rfl, ⟨_, HH.out.below (below_alloc _ _)⟩, (below_alloc _ _).mono HLO.out⟩
  | false =>
  cases c1 : n == 4 with
  | true =>
    have HR : Hid (R = m.asked x) := by show _ = _; rw [eR, ex]; simp at c0 c1; simp [Mach.outed, c1]
    clear eR ex
    go_enter Try.func32, Try.ntmps32
    go_wp2_with fail
    rw [← HW.out]
    clear y0 y1 y2 y3 y4 y5 y6 y7 y8 y9 y10 y11 yf hne
    go_still_tail 9, (by kernel_rfl)
    go_wp2_with fail
    refine (askBlock_any lo b _ _ _ m x _ HP.out.1.drew HP.out.2.2).mono ?_
    rintro e w5 ⟨rfl, hA, hB⟩
    have HA : Hid (AtP w5 lo b _ _ _ _ ∧ Below lo W w5) := ⟨hA, ((Below.refl _ W).drew).trans hB⟩
    clear hA hB
    go_wp2_with fail
    first | go_end0 | refine bodyPost_ret (results_none rfl _ _ _) rfl ?_
    rw [HR.out]
    exact ⟨rfl, ⟨_, HA.out.1⟩, HP.out.2.1.trans HA.out.2⟩
  | false =>
    have HR : Hid (R = { m with fin := 3 }) := by show _ = _; rw [eR]; simp at c0 c1; simp [Mach.outed, c0, c1, Mach.ends]
    clear eR z0 z1 z2 z3 z4 z5 z6 z7 z8 z9 z10 z11 zf zl x0 x1 x2 x3 xf xl q3 q4 q5
    go_enter Try.func32, Try.ntmps32
    go_wp2_with fail
    first | go_end0 | refine bodyPost_ret (results_none rfl _ _ _) rfl ?_
    rw [HR.out]
    exact ⟨rfl, ⟨_, (HH.out.setFin 3).1.below (below_alloc _ _)⟩, (HH.out.setFin 3).2.trans ((below_alloc _ _).mono (by simpa using HLO.out))⟩

end Go.Proofs.Ytlcdefpdahjjeae
