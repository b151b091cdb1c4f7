/- Contract of cpu.doNext: Map. -/
import Derived.Test.YtecpblabaelopaaDoorInfoPart
import Derived.Test.YtecpblabaelopaaDoorDoCPart
import Derived.Test.YtecpblabaelopaaDoorDoAPart
import Derived.Test.YtecpblabaelopaaDoorCloPart
import Derived.Test.YtecpblabaelopaaDoorRunPPart
namespace Go.Proofs.YtecpblabaelopaaDoor
open Go.RowKit
set_option maxRecDepth 100000
set_option linter.unusedVariables false

set_option maxRecDepth 100000 in
set_option maxHeartbeats 4000000 in
theorem doNext_14 (lo b : Nat) (rv mv ov : Value) (m : Mach) (a k n value : Int) (w : World) (h : AtP w lo b rv mv ov m) (hlo : lo ≤ w.heap.size) (hm : MayP m) (hf : m.fin = 0) (ha : 0 ≤ a ∧ a ≤ 7) (hk : 0 ≤ k ∧ k ≤ 7) (hn : -1048576 ≤ n ∧ n ≤ 1048575)
    (hnr : 14 = (2 : Int) ∨ 14 = (3 : Int) → 0 ≤ n ∧ n ≤ 7)
    (hx : Calls Tryd.prog 59 #[ptr b] w fun e w' => e = .returned (.tuple #[.agg #[.int .i64 14, .int .i64 a, .int .i64 k, .int .i64 n], .int .i64 0]) ∧ Below w.heap.size w w') :
    Calls Tryd.prog 35 #[ptr b, .int .i64 value] w fun e w' => e = .returned (.int .i64 (m.exec 14 a k n value).2) ∧ (∃ ov', AtP w' lo b rv mv ov' (m.exec 14 a k n value).1) ∧ Below lo w w' := by
  obtain ⟨R, eR⟩ : ∃ R, R = m.exec 14 a k n value := ⟨_, rfl⟩
  rw [← eR]
  obtain ⟨g, c, rfl, -, -, -⟩ := h.regs_at hm.regs
  obtain ⟨p1, p2⟩ := wordB_iff.1 hm.pc
  have HX : Hid (Calls Tryd.prog 59 #[ptr b] w fun e w' => e = .returned (.tuple #[.agg #[.int .i64 14, .int .i64 a, .int .i64 k, .int .i64 n], .int .i64 0]) ∧ Below w.heap.size w w') := hx
  have HM : Hid (MayP m) := hm
  have HF : Hid (m.fin = 0) := hf
  have HH : Hid (AtP w lo b (.slice (some ⟨g, 0, none⟩) m.regs.length c) mv ov m ∧ lo ≤ w.heap.size) := ⟨h, hlo⟩
  have HBD : Hid ((0 ≤ a ∧ a ≤ 7) ∧ (0 ≤ k ∧ k ≤ 7) ∧ (-1048576 ≤ n ∧ n ≤ 1048575)) := ⟨ha, hk, hn⟩
  have HNR : Hid (14 = (2 : Int) ∨ 14 = (3 : Int) → 0 ≤ n ∧ n ≤ 7) := hnr
  have ER : Hid (R = m.exec 14 a k n value) := eR
  obtain ⟨a0, a7⟩ := ha
  obtain ⟨k0, k7⟩ := hk
  obtain ⟨n0, n7⟩ := hn
  have ab : a < (m.regs.length : Int) := by have := hm.regs; omega
  have kb : k < (m.regs.length : Int) := by have := hm.regs; omega
  clear hx h hm eR hnr
  go_enter Tryd.func35, Tryd.ntmps35
  go_wp2_with fail
  refine HX.out.mono ?_
  rintro e w1 ⟨rfl, hb1⟩
  clear HX
  have h1 := HH.out.1.below hb1
  have H1 : Hid (AtP w1 lo b (.slice (some ⟨g, 0, none⟩) m.regs.length c) mv ov m ∧ Below lo w w1 ∧ lo ≤ w1.heap.size) := ⟨h1, hb1.mono HH.out.2, Nat.le_trans HH.out.2 hb1.size⟩
  obtain ⟨⟨z0, z1, z2, z3, z4, z5, z6, z7, z8, z9, z10, z11⟩, zf, zl⟩ := twelve_cells h1.box
  rw [hf] at z7
  have hne : ¬ b = w1.heap.size := by omega
  clear hf HH hb1 h1
  have HC := exec_Map (m := m) HF.out a k n value
  rw [← ER.out] at HC
  have HC : Hid (((m.tabled (m.reg a)).fin = 0 ∧ R = ({ m.tabled (m.reg a) with pc := foldF (m.pc + 1) }, -1)) ∨ ((m.tabled (m.reg a)).fin ≠ 0 ∧ R = (m.tabled (m.reg a), -1))) := HC
  go_wp2_with fail
  rw [show w1.alloc (.cells #[.int .i64 14, .int .i64 a, .int .i64 k, .int .i64 n] 75) = w1.alloc (.cells #[.int .i64 14, .int .i64 a, .int .i64 k, .int .i64 n] 75) from rfl]
  have hx := Go.Deep.blk_alloc_new w1 (.cells #[.int .i64 14, .int .i64 a, .int .i64 k, .int .i64 n] 75)
  have hb2 := below_alloc w1 (.cells #[.int .i64 14, .int .i64 a, .int .i64 k, .int .i64 n] 75)
  have h2 := H1.out.1.below hb2
  have H2 : Hid (AtP _ lo b (.slice (some ⟨g, 0, none⟩) m.regs.length c) mv ov m ∧ Below lo w _ ∧ lo ≤ _) := ⟨h2, H1.out.2.1.trans (hb2.mono H1.out.2.2), Nat.le_trans H1.out.2.2 hb2.size⟩
  generalize w1.alloc (.cells #[.int .i64 14, .int .i64 a, .int .i64 k, .int .i64 n] 75) = W at hx hb2 h2 H2 ⊢
  clear z0 z1 z2 z3 z4 z5 z6 z7 z8 z9 z10 z11 zf zl hne
  obtain ⟨⟨z0, z1, z2, z3, z4, z5, z6, z7, z8, z9, z10, z11⟩, zf, zl⟩ := twelve_cells h2.box
  rw [HF.out] at z7
  obtain ⟨x0, x1, x2, x3, xf, xl⟩ := four_cells hx
  obtain ⟨q3, q4, q5⟩ := h2.reg_cell HM.out.regs a0 a7
  have gb : ¬ b = g := h2.ne_regs
  have gb2 : ¬ g = b := fun e => gb e.symm
  clear hx hb2 h2
  obtain ⟨x, ex⟩ : ∃ x, x = m.reg a := ⟨_, rfl⟩
  rw [← ex] at q3 HC
  clear ex
  go_still_tail 9, (by kernel_rfl)
  go_wp2_with fail
  refine (setTable_any lo b _ _ _ m x _ H2.out.1.drew H2.out.2.2).mono ?_
  rintro e w5 ⟨rfl, hA, hB⟩
  have HA : Hid (AtP w5 lo b (.slice (some ⟨g, 0, none⟩) m.regs.length c) mv ov (m.tabled x) ∧ Below lo w w5) := ⟨hA, H2.out.2.1.trans (((Below.refl _ _).drew).trans hB)⟩
  clear z0 z1 z2 z3 z4 z5 z6 z7 z8 z9 z10 z11 zf zl hA hB x0 x1 x2 x3 xf xl q3 q4 q5
  obtain ⟨M2, e2⟩ : ∃ M2, M2 = m.tabled x := ⟨_, rfl⟩
  rw [← e2] at HA HC
  clear e2
  obtain ⟨⟨z0, z1, z2, z3, z4, z5, z6, z7, z8, z9, z10, z11⟩, zf, zl⟩ := twelve_cells HA.out.1.box
  by_cases hf2 : M2.fin = 0
  · rw [hf2] at z7
    have HR : Hid (R = ({ M2 with pc := foldF (m.pc + 1) }, -1)) := by
      rcases HC.out with ⟨_, e⟩ | ⟨e, _⟩
      · exact e
      · exact absurd hf2 e
    clear hf2 HC
    go_wp2_with fail
    refine (Fold_same _ _ (by omega) (by omega)).mono ?_
    rintro e w9 ⟨rfl, rfl⟩
    go_wp2_with fail
    go_ret
    rw [HR.out]
    exact ⟨rfl, ⟨_, (HA.out.1.setPc (foldF (m.pc + 1))).1⟩, HA.out.2.trans (HA.out.1.setPc (foldF (m.pc + 1))).2⟩
  · have HR : Hid (R = (M2, -1)) := by
      rcases HC.out with ⟨e, _⟩ | ⟨_, e⟩
      · exact absurd e hf2
      · exact e
    have d2 : (M2.fin == 0) = false := by simpa using hf2
    clear hf2 HC
    go_wp2_with fail
    go_ret
    rw [HR.out]
    exact ⟨rfl, ⟨_, HA.out.1⟩, HA.out.2⟩

end Go.Proofs.YtecpblabaelopaaDoor

/- Contract of cpu.doNext: the guest does what comes next. -/

namespace Go.Proofs.YtecpblabaelopaaDoor
open Go.RowKit
set_option maxRecDepth 100000

set_option maxRecDepth 100000 in
set_option maxHeartbeats 1000000 in
/-- No instruction comes next: the guest ends. -/
theorem doNext_end (lo b : Nat) (rv mv ov : Value) (m : Mach) (value E : Int) (w : World) (h : AtP w lo b rv mv ov m) (hlo : lo ≤ w.heap.size) (hE : E ≠ 0)
    (hx : Calls Tryd.prog 59 #[ptr b] w fun e w' => e = .returned (.tuple #[.agg zeroI, .int .i64 E]) ∧ Below w.heap.size w w') :
    Calls Tryd.prog 35 #[ptr b, .int .i64 value] w fun e w' => e = .returned (.int .i64 (-1)) ∧ (∃ ov', AtP w' lo b rv mv ov' (m.ends E)) ∧ Below lo w w' := by
  have HX : Hid (Calls Tryd.prog 59 #[ptr b] w fun e w' => e = .returned (.tuple #[.agg zeroI, .int .i64 E]) ∧ Below w.heap.size w w') := hx
  have HH : Hid (AtP w lo b rv mv ov m ∧ lo ≤ w.heap.size) := ⟨h, hlo⟩
  have d0 : (E != 0) = true := by simpa using hE
  clear hx h hE
  go_enter Tryd.func35, Tryd.ntmps35
  go_wp2_with fail
  refine HX.out.mono ?_
  rintro e w1 ⟨rfl, hb1⟩
  clear HX
  have h1 := HH.out.1.below hb1
  have H1 : Hid (AtP w1 lo b rv mv ov m ∧ Below lo w w1 ∧ lo ≤ w1.heap.size) := ⟨h1, hb1.mono HH.out.2, Nat.le_trans HH.out.2 hb1.size⟩
  obtain ⟨⟨z0, z1, z2, z3, z4, z5, z6, z7, z8, z9, z10, z11⟩, zf, zl⟩ := twelve_cells h1.box
  have hne : ¬ b = w1.heap.size := by omega
  clear HH hb1 h1
  go_wp2_with fail
  go_ret
  exact ⟨rfl, ⟨_, (H1.out.1.setFin E).1.below (below_alloc _ _)⟩, H1.out.2.1.trans ((H1.out.1.setFin E).2.trans ((below_alloc _ _).mono (by simpa using H1.out.2.2)))⟩

theorem doNext_any (lo b : Nat) (rv mv ov : Value) (m : Mach) (value : Int) (w : World) (h : AtP w lo b rv mv ov m) (hlo : lo ≤ w.heap.size) (hm : MayP m) (hf : m.fin = 0) :
    Calls Tryd.prog 35 #[ptr b, .int .i64 value] w fun e w' => e = .returned (.int .i64 (m.run1 value).2) ∧ (∃ ov', AtP w' lo b rv mv ov' (m.run1 value).1) ∧ Below lo w w' := by
  by_cases hE : m.meantE m.pc false = 0
  · by_cases hD : decNo m.nextX = 0
    · have hx := next_ok lo b rv mv ov m w h hm hE hD
      have hr : m.run1 value = m.exec (m.nextX % 16) (m.nextX / 16 % 8) (m.nextX / 128 % 8) (m.nextX / 1024) value := by simp [Mach.run1, Mach.nextE, hE, hD]
      rw [hr]
      obtain ⟨b0, b1, b2, b3⟩ := instrNo_bd hD
      have b4 : m.nextX % 16 = 2 ∨ m.nextX % 16 = 3 → 0 ≤ m.nextX / 1024 ∧ m.nextX / 1024 ≤ 7 := fun ho => instrNo_reg hD ho
      unfold instrA at hx
      revert hx b4 b0
      generalize m.nextX % 16 = op
      intro hx b0 b4
      rcases (by omega : op = 0 ∨ op = 1 ∨ op = 2 ∨ op = 3 ∨ op = 4 ∨ op = 5 ∨ op = 6 ∨ op = 7 ∨ op = 8 ∨ op = 9 ∨ op = 10 ∨ op = 11 ∨ op = 12 ∨ op = 13 ∨ op = 14 ∨ op = 15) with rfl | rfl | rfl | rfl | rfl | rfl | rfl | rfl | rfl | rfl | rfl | rfl | rfl | rfl | rfl | rfl
      · exact doNext_0 lo b rv mv ov m _ _ _ value w h hlo hm hf b1 b2 b3 b4 hx
      · exact doNext_1 lo b rv mv ov m _ _ _ value w h hlo hm hf b1 b2 b3 b4 hx
      · exact doNext_2 lo b rv mv ov m _ _ _ value w h hlo hm hf b1 b2 b3 b4 hx
      · exact doNext_3 lo b rv mv ov m _ _ _ value w h hlo hm hf b1 b2 b3 b4 hx
      · exact doNext_4 lo b rv mv ov m _ _ _ value w h hlo hm hf b1 b2 b3 b4 hx
      · exact doNext_5 lo b rv mv ov m _ _ _ value w h hlo hm hf b1 b2 b3 b4 hx
      · exact doNext_6 lo b rv mv ov m _ _ _ value w h hlo hm hf b1 b2 b3 b4 hx
      · exact doNext_7 lo b rv mv ov m _ _ _ value w h hlo hm hf b1 b2 b3 b4 hx
      · exact doNext_8 lo b rv mv ov m _ _ _ value w h hlo hm hf b1 b2 b3 b4 hx
      · exact doNext_9 lo b rv mv ov m _ _ _ value w h hlo hm hf b1 b2 b3 b4 hx
      · exact doNext_10 lo b rv mv ov m _ _ _ value w h hlo hm hf b1 b2 b3 b4 hx
      · exact doNext_11 lo b rv mv ov m _ _ _ value w h hlo hm hf b1 b2 b3 b4 hx
      · exact doNext_12 lo b rv mv ov m _ _ _ value w h hlo hm hf b1 b2 b3 b4 hx
      · exact doNext_13 lo b rv mv ov m _ _ _ value w h hlo hm hf b1 b2 b3 b4 hx
      · exact doNext_14 lo b rv mv ov m _ _ _ value w h hlo hm hf b1 b2 b3 b4 hx
      · exact doNext_15 lo b rv mv ov m _ _ _ value w h hlo hm hf b1 b2 b3 b4 hx
    · have hr : m.run1 value = (m.ends 2, -1) := by simp [Mach.run1, Mach.nextE, hE, hD]
      rw [hr]
      exact doNext_end lo b rv mv ov m value 2 w h hlo (by decide) (next_code lo b rv mv ov m w h hm hE hD)
  · have hN : m.nextE = m.meantE m.pc false := by simp [Mach.nextE, hE]
    have hr : m.run1 value = (m.ends m.nextE, -1) := by simp [Mach.run1, hN, hE]
    rw [hr]
    exact doNext_end lo b rv mv ov m value m.nextE w h hlo (by rw [hN]; exact hE) (next_at lo b rv mv ov m w h hm hE)

end Go.Proofs.YtecpblabaelopaaDoor

/- Contracts of cpu.isNoWord, haveNoWord and of what they call: is one of these no word? -/

namespace Go.Proofs.YtecpblabaelopaaDoor
open Go.RowKit

theorem isNoWord_any (w : World) : Calls Tryd.prog 45 #[] w fun e w' => ∃ p q, e = .returned (clo p q) ∧ CloAt w' p q (-1099511627776) 1099511627776 ∧ Below w.heap.size w w' := by
  go_enter Tryd.func45, Tryd.ntmps45
  go_wp2_with (go_at_call 23; refine (outside_any _ _ _).mono ?_; rintro e w' ⟨p, q, rfl, hc, hb⟩)
  go_ret
  exact ⟨p, q, rfl, hc, hb⟩

theorem word_clo (x : Int) (p q : Nat) (w : World) (h : CloAt w p q (-1099511627776) 1099511627776) :
    Calls Tryd.prog 43 #[.int .i64 x, .pointer (some ⟨p, 0, none⟩), .pointer (some ⟨q, 0, none⟩)] w fun e w' => e = .returned (.bool (!wordB x)) ∧ w' = w := clo_any x _ _ p q w h

set_option maxHeartbeats 400000 in
theorem IndexFunc_word (v : Value) (l : List Int) (p q : Nat) (w : World) (h : IntsAt w v l) (hq : CloAt w p q (-1099511627776) 1099511627776) :
    Calls Tryd.prog 73 #[v, clo p q] w fun e w' => ∃ r : Int, e = .returned (.int .i64 r) ∧ decide (0 ≤ r) = !allB l ∧ w' = w := by
  obtain ⟨A, c, rfl, hl, hc⟩ := h
  have HQ : Hid (CloAt w p q (-1099511627776) 1099511627776) := hq
  clear hq
  go_enter Tryd.func73, Tryd.ntmps73
  go_wp2
  go_loopw [8] (fun i wr => ∃ k : Nat, k ≤ l.length ∧ i = .int .i64 k ∧ Hid (∀ i, i < k → wordB (l.getD i 0) = true) ∧ wr = w) (fun i _ => l.length - (intOf i).toNat)
  case atStart => exact ⟨0, Nat.zero_le _, rfl, fun i hi => absurd hi (Nat.not_lt_zero _), rfl⟩
  case round =>
    obtain ⟨k, hk, rfl, ht, hw⟩ := hrel
    subst wr
    by_cases hlt : k < l.length
    · obtain ⟨b, off, rfl, hbs, hcell⟩ := hc (by omega)
      have h1 := hcell k hlt
      cases hw : wordB (l.getD k 0) with
      | false =>
        have HN : Hid (true = !allB l) := by show _ = _; rw [allB_no hlt hw]; rfl
        clear hcell hc
        revert h1 hw
        generalize l.getD k 0 = x
        intro h1 hw
        go_wp2_with (go_at_call 43; refine (word_clo _ p q _ HQ.out).mono ?_; rintro e w' ⟨rfl, rfl⟩)
        go_ret
        exact ⟨k, rfl, by rw [← HN.out]; simp, rfl⟩
      | true =>
        have HN : Hid (∀ i, i < k + 1 → wordB (l.getD i 0) = true) := allB_step ht.out hw
        clear hcell hc
        revert h1 hw
        generalize l.getD k 0 = x
        intro h1 hw
        go_wp2_with (go_at_call 43; refine (word_clo _ p q _ HQ.out).mono ?_; rintro e w' ⟨rfl, rfl⟩)
        refine ⟨⟨k + 1, by omega, by go_num, HN, trivial⟩, ?_⟩
        simp [intOf]; omega
    · have HN : Hid (false = !allB l) := by show _ = _; rw [allB_iff.2 fun i hi => ht.out i (by omega)]; rfl
      clear hc
      go_wp2
      go_ret
      exact ⟨-1, rfl, by rw [← HN.out]; rfl, rfl⟩

theorem ContainsFunc_word (v : Value) (l : List Int) (p q : Nat) (w : World) (h : IntsAt w v l) (hq : CloAt w p q (-1099511627776) 1099511627776) :
    Calls Tryd.prog 44 #[v, clo p q] w fun e w' => e = .returned (.bool (!allB l)) ∧ w' = w := by
  go_enter Tryd.func44, Tryd.ntmps44
  go_wp2_with (go_at_call 73; refine (IndexFunc_word v l p q _ h hq).mono ?_; rintro e w' ⟨r, rfl, hr, rfl⟩)
  go_ret
  exact ⟨rfl, rfl⟩

theorem haveNoWord_any (v : Value) (l : List Int) (w : World) (h : IntsAt w v l) :
    Calls Tryd.prog 24 #[v] w fun e w' => e = .returned (.bool (!allB l)) ∧ Below w.heap.size w w' := by
  have H : Hid (IntsAt w v l) := h
  clear h
  go_enter Tryd.func24, Tryd.ntmps24
  go_wp2_with fail
  refine (isNoWord_any _).mono ?_
  rintro e w1 ⟨p, q, rfl, hc, hb⟩
  have HC : Hid (CloAt w1 p q (-1099511627776) 1099511627776) := hc
  have HB : Hid (Below w.heap.size w w1) := hb
  clear hc hb
  go_wp2_with fail
  refine (ContainsFunc_word v l p q _ (H.out.below HB.out) HC.out).mono ?_
  rintro e w2 ⟨rfl, rfl⟩
  go_wp2_with fail
  go_ret
  exact ⟨rfl, HB.out⟩

end Go.Proofs.YtecpblabaelopaaDoor

/- Contract of cpu.CheckMachine. -/

namespace Go.Proofs.YtecpblabaelopaaDoor
open Go.RowKit
set_option linter.unusedVariables false

/-- What CheckMachine answers. -/
def mayNoM (m : Mach) : Int := if m.may then 0 else 8

theorem ints_two {w : World} (x y : Int) : IntsAt (w.alloc (.cells #[.int .i64 x, .int .i64 y] 3)) (.slice (some ⟨w.heap.size, 0, none⟩) 2 2) [x, y] := by
  have hb := Go.Deep.blk_alloc_new w (.cells #[.int .i64 x, .int .i64 y] 3)
  obtain ⟨h0, h1, -, -⟩ := two_cells hb
  refine ⟨_, _, rfl, by simp, fun _ => ⟨w.heap.size, 0, rfl, by simp, fun j hj => ?_⟩⟩
  rcases j with _ | _ | j
  · exact h0
  · exact h1
  · simp at hj; omega

theorem box_below {w W w1 : World} {b : Nat} {o : Obj} (hx : W.heap[b]? = some o) (hb : Below w.heap.size w W) (h1 : Below W.heap.size W w1) : w1.heap[b]? = some o ∧ Below w.heap.size w w1 :=
  ⟨by rw [h1.block _ (lt_of_block hx)]; exact hx, hb.trans (h1.mono hb.size)⟩

set_option maxHeartbeats 4000000 in
theorem CheckMachine_no (m : Mach) (rv mv ov : Value) (w : World) (ha : MachAt w rv mv ov m) :
    Calls Tryd.prog 11 #[.agg (m.cells rv mv ov)] w fun e w' => e = .returned (.int .i64 (mayNoM m)) ∧ Below w.heap.size w w' := by
  have H1 : Hid (IntsAt w rv m.regs) := ha.regs
  have H2 : Hid (IntsAt w mv m.mem) := ha.mem
  have H3 : Hid (IntsAt w ov m.out) := ha.out
  obtain ⟨A1, c1, A2, c2, A3, c3, rfl, rfl, rfl⟩ := ha.shape
  clear ha
  obtain ⟨N, hN⟩ : ∃ N, N = mayNoM m := ⟨_, rfl⟩
  have HN : Hid (N = mayNoM m) := hN
  rw [← hN]
  clear hN
  obtain ⟨regs, pc, back, ints, wait, table, count, fin, mem, out, ready, want⟩ := m
  simp only [Mach.cells] at *
  have hx : (w.alloc (.cells #[.slice A1 regs.length c1, .int .i64 pc, .int .i64 back, .bool ints, .bool wait, .int .i64 table, .int .i64 count, .int .i64 fin, .slice A2 mem.length c2, .slice A3 out.length c3, .int .i64 ready, .int .i64 want] 28)).heap[w.heap.size]? = some (.cells #[.slice A1 regs.length c1, .int .i64 pc, .int .i64 back, .bool ints, .bool wait, .int .i64 table, .int .i64 count, .int .i64 fin, .slice A2 mem.length c2, .slice A3 out.length c3, .int .i64 ready, .int .i64 want] 28 (0, 0)) := Go.Deep.blk_alloc_new _ _
  have hb0 : Below w.heap.size w (w.alloc (.cells #[.slice A1 regs.length c1, .int .i64 pc, .int .i64 back, .bool ints, .bool wait, .int .i64 table, .int .i64 count, .int .i64 fin, .slice A2 mem.length c2, .slice A3 out.length c3, .int .i64 ready, .int .i64 want] 28)) := below_alloc _ _
  obtain ⟨W, hW⟩ : ∃ W, W = w.alloc (.cells #[.slice A1 regs.length c1, .int .i64 pc, .int .i64 back, .bool ints, .bool wait, .int .i64 table, .int .i64 count, .int .i64 fin, .slice A2 mem.length c2, .slice A3 out.length c3, .int .i64 ready, .int .i64 want] 28) := ⟨_, rfl⟩
  rw [← hW] at hx hb0
  have HW : Hid (W = _) := hW
  clear hW
  have HX : Hid (W.heap[w.heap.size]? = some (.cells #[.slice A1 regs.length c1, .int .i64 pc, .int .i64 back, .bool ints, .bool wait, .int .i64 table, .int .i64 count, .int .i64 fin, .slice A2 mem.length c2, .slice A3 out.length c3, .int .i64 ready, .int .i64 want] 28 (0, 0))) := hx
  have HB : Hid (Below w.heap.size w W) := hb0
  clear hx hb0
  go_enter Tryd.func11, Tryd.ntmps11
  go_wp2_with fail
  rw [← HW.out]
  clear HW
  refine (outside_any _ _ _).mono ?_
  rintro e w1 ⟨p1, q1, rfl, hc1, hb1⟩
  have HC : Hid (CloAt w1 p1 q1 (-1) 15) := hc1
  obtain ⟨hx, hb⟩ := box_below HX.out HB.out hb1
  clear HX HB hc1 hb1
  have HX : Hid (w1.heap[w.heap.size]? = some (.cells #[.slice A1 regs.length c1, .int .i64 pc, .int .i64 back, .bool ints, .bool wait, .int .i64 table, .int .i64 count, .int .i64 fin, .slice A2 mem.length c2, .slice A3 out.length c3, .int .i64 ready, .int .i64 want] 28 (0, 0))) := hx
  have HB : Hid (Below w.heap.size w w1) := hb
  obtain ⟨⟨z0, z1, z2, z3, z4, z5, z6, z7, z8, z9, z10, z11⟩, zf, zl⟩ := twelve_cells hx
  clear hx hb
  by_cases g0 : regs.length = 8
  case neg =>
    have d0 : ((regs.length : Int) != 8) = true := by simp; omega
    have G : Hid (¬ regs.length = 8) := g0
    clear g0
    go_wp2_with fail
    go_ret
    exact ⟨ret_int (by rw [HN.out]; simp [mayNoM, Mach.may, G.out]), HB.out⟩
  by_cases g1 : mem.length = 256
  case neg =>
    have d0 : ((regs.length : Int) != 8) = false := by simp [g0]
    have d1 : ((mem.length : Int) != 256) = true := by simp; omega
    have G : Hid (¬ mem.length = 256) := g1
    clear g0 g1
    go_wp2_with fail
    go_ret
    exact ⟨ret_int (by rw [HN.out]; simp [mayNoM, Mach.may, G.out]), HB.out⟩
  by_cases g2 : out.length ≤ 200
  case neg =>
    have d0 : ((regs.length : Int) != 8) = false := by simp [g0]
    have d1 : ((mem.length : Int) != 256) = false := by simp [g1]
    have d2 : decide (200 < (out.length : Int)) = true := by simp; omega
    have G : Hid (¬ out.length ≤ 200) := g2
    clear g0 g1 g2
    go_wp2_with fail
    go_ret
    exact ⟨ret_int (by rw [HN.out]; simp [mayNoM, Mach.may, G.out]), HB.out⟩
  have d0 : ((regs.length : Int) != 8) = false := by simp [g0]
  have d1 : ((mem.length : Int) != 256) = false := by simp [g1]
  have d2 : decide (200 < (out.length : Int)) = false := by simp; omega
  have HM : Hid (mayNoM ⟨regs, pc, back, ints, wait, table, count, fin, mem, out, ready, want⟩ = if (allB regs && allB mem && allB out && wordB pc && wordB back && inB table (-1) 15 && inB count 0 1099511627776 && inB fin 0 4 && inB ready 0 1 && inB want (-1) 15) then 0 else 8) := by show _ = _; simp [mayNoM, Mach.may, g0, g1, g2]
  clear g0 g1 g2
  rw [HM.out] at HN
  clear HM
  go_wp2_with fail
  clear z0 z1 z2 z3 z4 z5 z6 z7 z8 z9 z10 z11 zf zl
  refine (haveNoWord_any (.slice A1 regs.length c1) regs _ (H1.out.below HB.out)).mono ?_
  rintro e w2 ⟨rfl, hbn⟩
  obtain ⟨hx, hb⟩ := box_below HX.out HB.out hbn
  have HC' : Hid (CloAt w2 p1 q1 (-1) 15) := HC.out.below hbn
  clear HX HB HC hbn
  have HC : Hid (CloAt w2 p1 q1 (-1) 15) := HC'.out
  clear HC'
  have HX : Hid (w2.heap[w.heap.size]? = some (.cells #[.slice A1 regs.length c1, .int .i64 pc, .int .i64 back, .bool ints, .bool wait, .int .i64 table, .int .i64 count, .int .i64 fin, .slice A2 mem.length c2, .slice A3 out.length c3, .int .i64 ready, .int .i64 want] 28 (0, 0))) := hx
  have HB : Hid (Below w.heap.size w w2) := hb
  obtain ⟨⟨z0, z1, z2, z3, z4, z5, z6, z7, z8, z9, z10, z11⟩, zf, zl⟩ := twelve_cells hx
  clear hx hb
  cases a1 : allB regs with
  | false =>
    have G : Hid (allB regs = false) := a1
    clear a1
    go_wp2_with fail
    go_ret
    exact ⟨ret_int (by rw [HN.out, G.out]; simp), HB.out⟩
  | true =>
  have Ga1 : Hid (allB regs = true) := a1
  go_wp2_with fail
  clear z0 z1 z2 z3 z4 z5 z6 z7 z8 z9 z10 z11 zf zl
  clear a1
  refine (haveNoWord_any (.slice A2 mem.length c2) mem _ (H2.out.below HB.out)).mono ?_
  rintro e w3 ⟨rfl, hbn⟩
  obtain ⟨hx, hb⟩ := box_below HX.out HB.out hbn
  have HC' : Hid (CloAt w3 p1 q1 (-1) 15) := HC.out.below hbn
  clear HX HB HC hbn
  have HC : Hid (CloAt w3 p1 q1 (-1) 15) := HC'.out
  clear HC'
  have HX : Hid (w3.heap[w.heap.size]? = some (.cells #[.slice A1 regs.length c1, .int .i64 pc, .int .i64 back, .bool ints, .bool wait, .int .i64 table, .int .i64 count, .int .i64 fin, .slice A2 mem.length c2, .slice A3 out.length c3, .int .i64 ready, .int .i64 want] 28 (0, 0))) := hx
  have HB : Hid (Below w.heap.size w w3) := hb
  obtain ⟨⟨z0, z1, z2, z3, z4, z5, z6, z7, z8, z9, z10, z11⟩, zf, zl⟩ := twelve_cells hx
  clear hx hb
  cases a2 : allB mem with
  | false =>
    have G : Hid (allB mem = false) := a2
    clear a2
    go_wp2_with fail
    go_ret
    exact ⟨ret_int (by rw [HN.out, G.out]; simp), HB.out⟩
  | true =>
  have Ga2 : Hid (allB mem = true) := a2
  go_wp2_with fail
  clear z0 z1 z2 z3 z4 z5 z6 z7 z8 z9 z10 z11 zf zl
  clear a2
  refine (haveNoWord_any (.slice A3 out.length c3) out _ (H3.out.below HB.out)).mono ?_
  rintro e w4 ⟨rfl, hbn⟩
  obtain ⟨hx, hb⟩ := box_below HX.out HB.out hbn
  have HC' : Hid (CloAt w4 p1 q1 (-1) 15) := HC.out.below hbn
  clear HX HB HC hbn
  have HC : Hid (CloAt w4 p1 q1 (-1) 15) := HC'.out
  clear HC'
  have HX : Hid (w4.heap[w.heap.size]? = some (.cells #[.slice A1 regs.length c1, .int .i64 pc, .int .i64 back, .bool ints, .bool wait, .int .i64 table, .int .i64 count, .int .i64 fin, .slice A2 mem.length c2, .slice A3 out.length c3, .int .i64 ready, .int .i64 want] 28 (0, 0))) := hx
  have HB : Hid (Below w.heap.size w w4) := hb
  obtain ⟨⟨z0, z1, z2, z3, z4, z5, z6, z7, z8, z9, z10, z11⟩, zf, zl⟩ := twelve_cells hx
  clear hx hb
  cases a3 : allB out with
  | false =>
    have G : Hid (allB out = false) := a3
    clear a3
    go_wp2_with fail
    go_ret
    exact ⟨ret_int (by rw [HN.out, G.out]; simp), HB.out⟩
  | true =>
  have Ga3 : Hid (allB out = true) := a3
  go_wp2_with fail
  clear z0 z1 z2 z3 z4 z5 z6 z7 z8 z9 z10 z11 zf zl
  clear a3
  refine (haveNoWord_any _ [pc, back] _ (ints_two pc back)).mono ?_
  rintro e w5 ⟨rfl, hbm⟩
  have hbn : Below w4.heap.size w4 w5 := (below_alloc _ _).trans (hbm.mono (by simp))
  rw [show allB [pc, back] = (wordB pc && wordB back) by simp [allB]]
  obtain ⟨hx, hb⟩ := box_below HX.out HB.out hbn
  clear hbm
  have HC' : Hid (CloAt w5 p1 q1 (-1) 15) := HC.out.below hbn
  clear HX HB HC hbn
  have HC : Hid (CloAt w5 p1 q1 (-1) 15) := HC'.out
  clear HC'
  have HX : Hid (w5.heap[w.heap.size]? = some (.cells #[.slice A1 regs.length c1, .int .i64 pc, .int .i64 back, .bool ints, .bool wait, .int .i64 table, .int .i64 count, .int .i64 fin, .slice A2 mem.length c2, .slice A3 out.length c3, .int .i64 ready, .int .i64 want] 28 (0, 0))) := hx
  have HB : Hid (Below w.heap.size w w5) := hb
  obtain ⟨⟨z0, z1, z2, z3, z4, z5, z6, z7, z8, z9, z10, z11⟩, zf, zl⟩ := twelve_cells hx
  clear hx hb
  cases a4 : (wordB pc && wordB back) with
  | false =>
    have G : Hid ((wordB pc && wordB back) = false) := a4
    clear a4
    go_wp2_with fail
    go_ret
    exact ⟨ret_int (by
      have hg := G.out
      rw [HN.out]
      cases e1 : wordB pc with
      | false => simp
      | true =>
        cases e2 : wordB back with
        | false => simp
        | true => rw [e1, e2] at hg; exact absurd hg (by decide)), HB.out⟩
  | true =>
  have Ga4 : Hid (wordB pc = true ∧ wordB back = true) := by
    show _ ∧ _
    simpa using a4
  clear a4
  go_wp2_with fail
  refine (clo_any _ (-1) 15 _ _ _ HC.out).mono ?_
  cases a5 : inB table (-1) 15 with
  | false =>
    rintro e w6 ⟨rfl, rfl⟩
    have G : Hid (inB table (-1) 15 = false) := a5
    clear a5
    go_wp2_with fail
    go_ret
    exact ⟨ret_int (by rw [HN.out, G.out]; simp), HB.out⟩
  | true =>
  rintro e w6 ⟨rfl, rfl⟩
  have Ga5 : Hid (inB table (-1) 15 = true) := a5
  clear a5
  go_wp2_with fail
  refine (clo_any _ (-1) 15 _ _ _ HC.out).mono ?_
  cases a6 : inB want (-1) 15 with
  | false =>
    rintro e w6 ⟨rfl, rfl⟩
    have G : Hid (inB want (-1) 15 = false) := a6
    clear a6
    go_wp2_with fail
    go_ret
    exact ⟨ret_int (by rw [HN.out, G.out]; simp), HB.out⟩
  | true =>
  rintro e w6 ⟨rfl, rfl⟩
  have Ga6 : Hid (inB want (-1) 15 = true) := a6
  clear a6 HC
  go_wp2_with fail
  cases a7 : inB count 0 1099511627776 with
  | false =>
    have G : Hid (inB count 0 1099511627776 = false) := a7
    go_region_held3 (fun w' => w'.cell? ⟨w.heap.size, 6, none⟩ = some (.int .i64 count)) (go_keep)
      (first
        | (go_at_call 23; refine (outside_any _ _ _).mono ?_; rintro e w7 ⟨pw7, qw7, rfl, hc, hb⟩; have HCw7 : Hid (CloAt w7 pw7 qw7 0 1099511627776) := hc; have hb' : Below w6.heap.size w6 w7 := ((Below.refl _ w6).drew).trans hb; have HBw7 : Hid (Below w6.heap.size w6 w7) := hb'; have s6 := (hb'.cell (p := ⟨w.heap.size, 6, none⟩) zl).trans z6; clear hc hb hb')
        | (go_at_call 43; refine (clo_any _ 0 1099511627776 _ _ _ HCw7.out).mono ?_; rw [a7]; rintro e w7 ⟨rfl, rfl⟩))
    all_goals
      go_wp2_with fail
      go_ret
      exact ⟨ret_int (by rw [HN.out, G.out]; simp), HB.out.trans (HBw7.out.mono HB.out.size)⟩
  | true =>
  have Ga7 : Hid (inB count 0 1099511627776 = true) := a7
  go_region_held3 (fun w' => w'.cell? ⟨w.heap.size, 6, none⟩ = some (.int .i64 count)) (go_keep)
      (first
        | (go_at_call 23; refine (outside_any _ _ _).mono ?_; rintro e w7 ⟨pw7, qw7, rfl, hc, hb⟩; have HCw7 : Hid (CloAt w7 pw7 qw7 0 1099511627776) := hc; have hb' : Below w6.heap.size w6 w7 := ((Below.refl _ w6).drew).trans hb; have HBw7 : Hid (Below w6.heap.size w6 w7) := hb'; have s6 := (hb'.cell (p := ⟨w.heap.size, 6, none⟩) zl).trans z6; clear hc hb hb')
        | (go_at_call 43; refine (clo_any _ 0 1099511627776 _ _ _ HCw7.out).mono ?_; rw [a7]; rintro e w7 ⟨rfl, rfl⟩))
  clear a7 s6 HCw7
  obtain ⟨hx, hb⟩ := box_below HX.out HB.out HBw7.out
  clear HX HB HBw7
  clear z0 z1 z2 z3 z4 z5 z6 z7 z8 z9 z10 z11 zf zl
  have HX : Hid (w7.heap[w.heap.size]? = some (.cells #[.slice A1 regs.length c1, .int .i64 pc, .int .i64 back, .bool ints, .bool wait, .int .i64 table, .int .i64 count, .int .i64 fin, .slice A2 mem.length c2, .slice A3 out.length c3, .int .i64 ready, .int .i64 want] 28 (0, 0))) := hx
  have HB : Hid (Below w.heap.size w w7) := hb
  obtain ⟨⟨z0, z1, z2, z3, z4, z5, z6, z7, z8, z9, z10, z11⟩, zf, zl⟩ := twelve_cells hx
  clear hx hb
  go_wp2_with fail
  cases a8 : inB fin 0 4 with
  | false =>
    have G : Hid (inB fin 0 4 = false) := a8
    go_region_held3 (fun w' => w'.cell? ⟨w.heap.size, 7, none⟩ = some (.int .i64 fin)) (go_keep)
      (first
        | (go_at_call 23; refine (outside_any _ _ _).mono ?_; rintro e w8 ⟨pw8, qw8, rfl, hc, hb⟩; have HCw8 : Hid (CloAt w8 pw8 qw8 0 4) := hc; have hb' : Below w7.heap.size w7 w8 := ((Below.refl _ w7).drew).trans hb; have HBw8 : Hid (Below w7.heap.size w7 w8) := hb'; have s7 := (hb'.cell (p := ⟨w.heap.size, 7, none⟩) zl).trans z7; clear hc hb hb')
        | (go_at_call 43; refine (clo_any _ 0 4 _ _ _ HCw8.out).mono ?_; rw [a8]; rintro e w8 ⟨rfl, rfl⟩))
    all_goals
      go_wp2_with fail
      go_ret
      exact ⟨ret_int (by rw [HN.out, G.out]; simp), HB.out.trans (HBw8.out.mono HB.out.size)⟩
  | true =>
  have Ga8 : Hid (inB fin 0 4 = true) := a8
  go_region_held3 (fun w' => w'.cell? ⟨w.heap.size, 7, none⟩ = some (.int .i64 fin)) (go_keep)
      (first
        | (go_at_call 23; refine (outside_any _ _ _).mono ?_; rintro e w8 ⟨pw8, qw8, rfl, hc, hb⟩; have HCw8 : Hid (CloAt w8 pw8 qw8 0 4) := hc; have hb' : Below w7.heap.size w7 w8 := ((Below.refl _ w7).drew).trans hb; have HBw8 : Hid (Below w7.heap.size w7 w8) := hb'; have s7 := (hb'.cell (p := ⟨w.heap.size, 7, none⟩) zl).trans z7; clear hc hb hb')
        | (go_at_call 43; refine (clo_any _ 0 4 _ _ _ HCw8.out).mono ?_; rw [a8]; rintro e w8 ⟨rfl, rfl⟩))
  clear a8 s7 HCw8
  obtain ⟨hx, hb⟩ := box_below HX.out HB.out HBw8.out
  clear HX HB HBw8
  clear z0 z1 z2 z3 z4 z5 z6 z7 z8 z9 z10 z11 zf zl
  have HX : Hid (w8.heap[w.heap.size]? = some (.cells #[.slice A1 regs.length c1, .int .i64 pc, .int .i64 back, .bool ints, .bool wait, .int .i64 table, .int .i64 count, .int .i64 fin, .slice A2 mem.length c2, .slice A3 out.length c3, .int .i64 ready, .int .i64 want] 28 (0, 0))) := hx
  have HB : Hid (Below w.heap.size w w8) := hb
  obtain ⟨⟨z0, z1, z2, z3, z4, z5, z6, z7, z8, z9, z10, z11⟩, zf, zl⟩ := twelve_cells hx
  clear hx hb
  go_wp2_with fail
  cases a9 : inB ready 0 1 with
  | false =>
    have G : Hid (inB ready 0 1 = false) := a9
    go_region_held3 (fun w' => w'.cell? ⟨w.heap.size, 10, none⟩ = some (.int .i64 ready)) (go_keep)
      (first
        | (go_at_call 23; refine (outside_any _ _ _).mono ?_; rintro e w9 ⟨pw9, qw9, rfl, hc, hb⟩; have HCw9 : Hid (CloAt w9 pw9 qw9 0 1) := hc; have hb' : Below w8.heap.size w8 w9 := ((Below.refl _ w8).drew).trans hb; have HBw9 : Hid (Below w8.heap.size w8 w9) := hb'; have s10 := (hb'.cell (p := ⟨w.heap.size, 10, none⟩) zl).trans z10; clear hc hb hb')
        | (go_at_call 43; refine (clo_any _ 0 1 _ _ _ HCw9.out).mono ?_; rw [a9]; rintro e w9 ⟨rfl, rfl⟩))
    all_goals
      go_wp2_with fail
      go_ret
      exact ⟨ret_int (by rw [HN.out, G.out]; simp), HB.out.trans (HBw9.out.mono HB.out.size)⟩
  | true =>
  have Ga9 : Hid (inB ready 0 1 = true) := a9
  go_region_held3 (fun w' => w'.cell? ⟨w.heap.size, 10, none⟩ = some (.int .i64 ready)) (go_keep)
      (first
        | (go_at_call 23; refine (outside_any _ _ _).mono ?_; rintro e w9 ⟨pw9, qw9, rfl, hc, hb⟩; have HCw9 : Hid (CloAt w9 pw9 qw9 0 1) := hc; have hb' : Below w8.heap.size w8 w9 := ((Below.refl _ w8).drew).trans hb; have HBw9 : Hid (Below w8.heap.size w8 w9) := hb'; have s10 := (hb'.cell (p := ⟨w.heap.size, 10, none⟩) zl).trans z10; clear hc hb hb')
        | (go_at_call 43; refine (clo_any _ 0 1 _ _ _ HCw9.out).mono ?_; rw [a9]; rintro e w9 ⟨rfl, rfl⟩))
  clear a9 s10 HCw9
  go_wp2_with fail
  go_ret
  exact ⟨ret_int (by rw [HN.out, Ga1.out, Ga2.out, Ga3.out, Ga4.out.1, Ga4.out.2, Ga5.out, Ga6.out, Ga7.out, Ga8.out, Ga9.out]; rfl), HB.out.trans (HBw9.out.mono HB.out.size)⟩

theorem CpuCheckMachine_any (m : Mach) (rv mv ov : Value) (w : World) (ha : MachAt w rv mv ov m) :
    Calls Tryd.prog 11 #[.agg (m.cells rv mv ov)] w fun e w' => e = .returned (.int .i64 (if m.may then 0 else 8)) ∧ Below w.heap.size w w' := CheckMachine_no m rv mv ov w ha

end Go.Proofs.YtecpblabaelopaaDoor
