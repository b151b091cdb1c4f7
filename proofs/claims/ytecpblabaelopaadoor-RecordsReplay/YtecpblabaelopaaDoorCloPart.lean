/- Contracts of cpu.outside, of the closure that it makes, and of what is no word. -/
import Derived.Test.YtecpblabaelopaaDoorBasePart
import Derived.Deep.RegionHeld3
import Derived.Deep.RegionLaw
import Derived.Deep.RegionWith
import Derived.Deep.DeepCutAuto
import Derived.Test.YtecpblabaelopaaDoorRunPPart
namespace Go.Proofs.YtecpblabaelopaaDoor
open Go.RowKit

/-- A closure that finds what is not from lo to hi. -/
abbrev clo (p q : Nat) : Value := .func (.func 43) #[] #[.pointer (some ⟨p, 0, none⟩), .pointer (some ⟨q, 0, none⟩)]
/-- What such a closure holds. -/
structure CloAt (w : World) (p q : Nat) (lo hi : Int) : Prop where
  c1 : w.cell? ⟨p, 0, none⟩ = some (.int .i64 lo)
  c2 : w.cell? ⟨q, 0, none⟩ = some (.int .i64 hi)
  l1 : p < w.heap.size
  l2 : q < w.heap.size
theorem CloAt.below {w w' : World} {p q : Nat} {lo hi : Int} (h : CloAt w p q lo hi) (hb : Below w.heap.size w w') : CloAt w' p q lo hi :=
  ⟨(hb.cell (p := ⟨p, 0, none⟩) h.l1).trans h.c1, (hb.cell (p := ⟨q, 0, none⟩) h.l2).trans h.c2, Nat.lt_of_lt_of_le h.l1 hb.size, Nat.lt_of_lt_of_le h.l2 hb.size⟩
theorem CloAt.drew {w : World} {p q : Nat} {lo hi : Int} (h : CloAt w p q lo hi) : CloAt w.drew p q lo hi := h.below ((Below.refl _ w).drew)

theorem one_cell {w : World} {b : Nat} {x : Value} {t : TypeId} (h : w.heap[b]? = some (.cells #[x] t (0, 0))) : w.cell? ⟨b, 0, none⟩ = some x := by simp [World.cell?, h]

theorem outside_any (lo hi : Int) (w : World) : Calls Tryd.prog 23 #[.int .i64 lo, .int .i64 hi] w fun e w' => ∃ p q, e = .returned (clo p q) ∧ CloAt w' p q lo hi ∧ Below w.heap.size w w' := by
  go_enter Tryd.func23, Tryd.ntmps23
  go_wp2
  go_ret
  obtain ⟨b0, b1, b2⟩ := two_boxes (Below.refl ((w.alloc (.cells #[.int .i64 lo] 3)).alloc (.cells #[.int .i64 hi] 3)).heap.size ((w.alloc (.cells #[.int .i64 lo] 3)).alloc (.cells #[.int .i64 hi] 3)))
  exact ⟨_, _, rfl, ⟨one_cell b0, one_cell b1, by simp; omega, by simp⟩, b2⟩

theorem clo_any (x lo hi : Int) (p q : Nat) (w : World) (h : CloAt w p q lo hi) :
    Calls Tryd.prog 43 #[.int .i64 x, .pointer (some ⟨p, 0, none⟩), .pointer (some ⟨q, 0, none⟩)] w fun e w' => e = .returned (.bool (!inB x lo hi)) ∧ w' = w := by
  obtain ⟨c1, c2, -, -⟩ := h
  by_cases h1 : x < lo
  · have hI : (!inB x lo hi) = true := by simp [inB]; omega
    rw [hI]
    go_enter Tryd.func43, Tryd.ntmps43
    go_wp2
    go_ret
    exact ⟨rfl, rfl⟩
  · by_cases h2 : hi < x
    · have hI : (!inB x lo hi) = true := by simp [inB]; omega
      rw [hI]
      go_enter Tryd.func43, Tryd.ntmps43
      go_wp2
      go_ret
      exact ⟨rfl, rfl⟩
    · have hI : (!inB x lo hi) = false := by simp [inB]; omega
      rw [hI]
      go_enter Tryd.func43, Tryd.ntmps43
      go_wp2
      go_ret
      exact ⟨rfl, rfl⟩

end Go.Proofs.YtecpblabaelopaaDoor

/- A guest in a variable that a pointer leads to. -/

namespace Go.Proofs.YtecpblabaelopaaDoor
open Go.RowKit

/-- A guest in block b, its slices of the call's own (from lo on). -/
structure AtP (w : World) (lo b : Nat) (rv mv ov : Value) (m : Mach) : Prop where
  box : w.heap[b]? = some (.cells (m.cells rv mv ov) 28 (0, 0))
  own : OwnM w lo rv mv ov m
  le : lo ≤ b
theorem AtP.lt {w : World} {lo b : Nat} {rv mv ov : Value} {m : Mach} (h : AtP w lo b rv mv ov m) : b < w.heap.size := lt_of_block h.box
theorem AtP.below {w w' : World} {lo b : Nat} {rv mv ov : Value} {m : Mach} (h : AtP w lo b rv mv ov m) (hb : Below w.heap.size w w') : AtP w' lo b rv mv ov m :=
  ⟨by rw [hb.block _ h.lt]; exact h.box, h.own.below hb, h.le⟩
theorem AtP.drew {w : World} {lo b : Nat} {rv mv ov : Value} {m : Mach} (h : AtP w lo b rv mv ov m) : AtP w.drew lo b rv mv ov m := h.below ((Below.refl _ w).drew)
/-- A field is stored. -/
theorem AtP.set {w : World} {lo b : Nat} {rv mv ov : Value} {m m' : Mach} (h : AtP w lo b rv mv ov m) (i : Nat) (x : Value) (e : (m.cells rv mv ov).setIfInBounds i x = m'.cells rv mv ov) (h1 : m'.regs = m.regs) (h2 : m'.mem = m.mem) (h3 : m'.out = m.out) :
    AtP (w.setCell ⟨b, i, none⟩ x) lo b rv mv ov m' ∧ Below lo w (w.setCell ⟨b, i, none⟩ x) :=
  ⟨⟨by rw [box_set h.box, e], (h.own.box ⟨_, h.box⟩ i x).of h1 h2 h3, h.le⟩, (Below.refl _ _).setCell (by simpa using h.le) _⟩
theorem AtP.setFin {w : World} {lo b : Nat} {rv mv ov : Value} {m : Mach} (h : AtP w lo b rv mv ov m) (x : Int) : AtP (w.setCell ⟨b, 7, none⟩ (.int .i64 x)) lo b rv mv ov { m with fin := x } ∧ Below lo w (w.setCell ⟨b, 7, none⟩ (.int .i64 x)) := h.set 7 _ rfl rfl rfl rfl
theorem AtP.setPc {w : World} {lo b : Nat} {rv mv ov : Value} {m : Mach} (h : AtP w lo b rv mv ov m) (x : Int) : AtP (w.setCell ⟨b, 1, none⟩ (.int .i64 x)) lo b rv mv ov { m with pc := x } ∧ Below lo w (w.setCell ⟨b, 1, none⟩ (.int .i64 x)) := h.set 1 _ rfl rfl rfl rfl
theorem AtP.setBack {w : World} {lo b : Nat} {rv mv ov : Value} {m : Mach} (h : AtP w lo b rv mv ov m) (x : Int) : AtP (w.setCell ⟨b, 2, none⟩ (.int .i64 x)) lo b rv mv ov { m with back := x } ∧ Below lo w (w.setCell ⟨b, 2, none⟩ (.int .i64 x)) := h.set 2 _ rfl rfl rfl rfl
theorem AtP.setInts {w : World} {lo b : Nat} {rv mv ov : Value} {m : Mach} (h : AtP w lo b rv mv ov m) (x : Bool) : AtP (w.setCell ⟨b, 3, none⟩ (.bool x)) lo b rv mv ov { m with ints := x } ∧ Below lo w (w.setCell ⟨b, 3, none⟩ (.bool x)) := h.set 3 _ rfl rfl rfl rfl
theorem AtP.setWait {w : World} {lo b : Nat} {rv mv ov : Value} {m : Mach} (h : AtP w lo b rv mv ov m) (x : Bool) : AtP (w.setCell ⟨b, 4, none⟩ (.bool x)) lo b rv mv ov { m with wait := x } ∧ Below lo w (w.setCell ⟨b, 4, none⟩ (.bool x)) := h.set 4 _ rfl rfl rfl rfl
theorem AtP.setTab {w : World} {lo b : Nat} {rv mv ov : Value} {m : Mach} (h : AtP w lo b rv mv ov m) (x : Int) : AtP (w.setCell ⟨b, 5, none⟩ (.int .i64 x)) lo b rv mv ov { m with table := x } ∧ Below lo w (w.setCell ⟨b, 5, none⟩ (.int .i64 x)) := h.set 5 _ rfl rfl rfl rfl
theorem AtP.setCount {w : World} {lo b : Nat} {rv mv ov : Value} {m : Mach} (h : AtP w lo b rv mv ov m) (x : Int) : AtP (w.setCell ⟨b, 6, none⟩ (.int .i64 x)) lo b rv mv ov { m with count := x } ∧ Below lo w (w.setCell ⟨b, 6, none⟩ (.int .i64 x)) := h.set 6 _ rfl rfl rfl rfl
theorem AtP.setReady {w : World} {lo b : Nat} {rv mv ov : Value} {m : Mach} (h : AtP w lo b rv mv ov m) (x : Int) : AtP (w.setCell ⟨b, 10, none⟩ (.int .i64 x)) lo b rv mv ov { m with ready := x } ∧ Below lo w (w.setCell ⟨b, 10, none⟩ (.int .i64 x)) := h.set 10 _ rfl rfl rfl rfl
theorem AtP.setWant {w : World} {lo b : Nat} {rv mv ov : Value} {m : Mach} (h : AtP w lo b rv mv ov m) (x : Int) : AtP (w.setCell ⟨b, 11, none⟩ (.int .i64 x)) lo b rv mv ov { m with want := x } ∧ Below lo w (w.setCell ⟨b, 11, none⟩ (.int .i64 x)) := h.set 11 _ rfl rfl rfl rfl
/-- A register is stored. -/
theorem AtP.putReg {w : World} {lo b g n c : Nat} {mv ov : Value} {m : Mach} (h : AtP w lo b (.slice (some ⟨g, 0, none⟩) n c) mv ov m) (i : Nat) (x : Int) :
    AtP (w.setCell ⟨g, i, none⟩ (.int .i64 x)) lo b (.slice (some ⟨g, 0, none⟩) n c) mv ov { m with regs := m.regs.set i x } ∧ Below lo w (w.setCell ⟨g, i, none⟩ (.int .i64 x)) := by
  have hg := World.ownsRow.lt h.own.regs g rfl
  have hne : g ≠ b := fun e => by
    have := own_ne h.own.regs h.box (by decide)
    subst e
    exact this rfl
  exact ⟨⟨box_other h.box (Ne.symm hne) _, h.own.putReg x, h.le⟩, (Below.refl _ _).setCell (by simpa using hg.1) _⟩
/-- A word is stored. -/
theorem AtP.putMem {w : World} {lo b g n c : Nat} {rv ov : Value} {m : Mach} (h : AtP w lo b rv (.slice (some ⟨g, 0, none⟩) n c) ov m) (i : Nat) (x : Int) :
    AtP (w.setCell ⟨g, i, none⟩ (.int .i64 x)) lo b rv (.slice (some ⟨g, 0, none⟩) n c) ov { m with mem := m.mem.set i x } ∧ Below lo w (w.setCell ⟨g, i, none⟩ (.int .i64 x)) := by
  have hg := World.ownsRow.lt h.own.mem g rfl
  have hne : g ≠ b := fun e => by
    have := own_ne h.own.mem h.box (by decide)
    subst e
    exact this rfl
  exact ⟨⟨box_other h.box (Ne.symm hne) _, h.own.putMem x, h.le⟩, (Below.refl _ _).setCell (by simpa using hg.1) _⟩

theorem AtP.ne_regs {w : World} {lo b g n c : Nat} {mv ov : Value} {m : Mach} (h : AtP w lo b (.slice (some ⟨g, 0, none⟩) n c) mv ov m) : ¬ b = g := fun e => by
  have := own_ne h.own.regs h.box (by decide)
  subst e
  exact this rfl

/-- What is asked of a pointer to a guest. -/
abbrev ptr (b : Nat) : Value := .pointer (some ⟨b, 0, none⟩)
theorem ret_mach {w w' : World} {lo b : Nat} {m m' : Mach} (e : m = m') (h : ∃ rv mv ov, AtP w' lo b rv mv ov m) (hb : Below lo w w') : (∃ rv mv ov, AtP w' lo b rv mv ov m') ∧ Below lo w w' := ⟨e ▸ h, hb⟩

end Go.Proofs.YtecpblabaelopaaDoor

/- Contracts of cpu.setTable, askBlock, jumps, letIn. -/

namespace Go.Proofs.YtecpblabaelopaaDoor
open Go.RowKit

/-- What Map does with a word. -/
def Mach.tabled (m : Mach) (x : Int) : Mach := if inB x (-1) 15 then { m with table := x } else { m with fin := 3 }
/-- What Disk does with a word. -/
def Mach.asked (m : Mach) (x : Int) : Mach := if inB x 0 15 then (if m.want == -1 then { m with want := x, ready := 0 } else m) else { m with fin := 3 }
/-- Does an operator go on elsewhere? -/
def jumpB (op x : Int) : Bool := if op == 7 then x == 0 else if op == 8 then decide (x < 0) else true

set_option maxHeartbeats 400000 in
theorem setTable_any (lo b : Nat) (rv mv ov : Value) (m : Mach) (x : Int) (w : World) (h : AtP w lo b rv mv ov m) (hlo : lo ≤ w.heap.size) :
    Calls Tryd.prog 66 #[ptr b, .int .i64 x] w fun e w' => e = .returned (.tuple #[]) ∧ AtP w' lo b rv mv ov (m.tabled x) ∧ Below lo w w' := by
  have H : Hid (AtP w lo b rv mv ov m) := h
  cases c : inB x (-1) 15 with
  | false =>
    have HT : Hid (m.tabled x = { m with fin := 3 }) := by show _ = _; simp [Mach.tabled, c]
    rw [HT.out]
    clear h HT
    go_enter Tryd.func66, Tryd.ntmps66
    go_wp2_with fail
    refine (outside_any _ _ _).mono ?_
    rintro e w1 ⟨p, q, rfl, hc, hb⟩
    have HC : Hid (CloAt w1 p q (-1) 15) := hc
    have h1 := H.out.below hb
    have HB : Hid (Below lo w w1) := hb.mono hlo
    obtain ⟨⟨z0, z1, z2, z3, z4, z5, z6, z7, z8, z9, z10, z11⟩, zf, zl⟩ := twelve_cells h1.box
    have H1 : Hid (AtP w1 lo b rv mv ov m) := h1
    clear hc hb h1
    go_wp2_with (go_at_call 43; refine (clo_any _ (-1) 15 _ _ _ HC.out).mono ?_; rw [c]; rintro e w1 ⟨rfl, rfl⟩)
    first | go_end0 | refine bodyPost_ret (results_none rfl _ _ _) rfl ?_
    exact ⟨rfl, (H1.out.setFin 3).1, HB.out.trans ((H1.out.setFin 3).2.mono (Nat.le_refl _))⟩
  | true =>
    have HT : Hid (m.tabled x = { m with table := x }) := by show _ = _; simp [Mach.tabled, c]
    rw [HT.out]
    clear h HT
    go_enter Tryd.func66, Tryd.ntmps66
    go_wp2_with fail
    refine (outside_any _ _ _).mono ?_
    rintro e w1 ⟨p, q, rfl, hc, hb⟩
    have HC : Hid (CloAt w1 p q (-1) 15) := hc
    have h1 := H.out.below hb
    have HB : Hid (Below lo w w1) := hb.mono hlo
    obtain ⟨⟨z0, z1, z2, z3, z4, z5, z6, z7, z8, z9, z10, z11⟩, zf, zl⟩ := twelve_cells h1.box
    have H1 : Hid (AtP w1 lo b rv mv ov m) := h1
    clear hc hb h1
    go_wp2_with (go_at_call 43; refine (clo_any _ (-1) 15 _ _ _ HC.out).mono ?_; rw [c]; rintro e w1 ⟨rfl, rfl⟩)
    first | go_end0 | refine bodyPost_ret (results_none rfl _ _ _) rfl ?_
    exact ⟨rfl, (H1.out.setTab x).1, HB.out.trans ((H1.out.setTab x).2.mono (Nat.le_refl _))⟩

theorem jumps_any (op x : Int) (w : World) : Calls Tryd.prog 63 #[.int .i64 op, .int .i64 x] w fun e w' => e = .returned (.bool (jumpB op x)) ∧ w' = w := by
  cases c1 : op == 7 with
  | true =>
    have HJ : Hid ((x == 0) = jumpB op x) := by show _ = _; simp [jumpB, c1]
    go_enter Tryd.func63, Tryd.ntmps63
    go_wp2
    go_ret
    exact ⟨ret_bool HJ.out, rfl⟩
  | false =>
  cases c2 : op == 8 with
  | true =>
    have HJ : Hid (decide (x < 0) = jumpB op x) := by show _ = _; simp [jumpB, c1, c2]
    go_enter Tryd.func63, Tryd.ntmps63
    go_wp2
    go_ret
    exact ⟨ret_bool HJ.out, rfl⟩
  | false =>
    have HJ : Hid (true = jumpB op x) := by show _ = _; simp [jumpB, c1, c2]
    go_enter Tryd.func63, Tryd.ntmps63
    go_wp2
    go_ret
    exact ⟨ret_bool HJ.out, rfl⟩

end Go.Proofs.YtecpblabaelopaaDoor

/- Contract of cpu.Check. -/

namespace Go.Proofs.YtecpblabaelopaaDoor
open Go.RowKit

set_option maxHeartbeats 2000000 in
theorem CpuCheck_any (op a b n : Int) (w : World) :
    Calls Tryd.prog 80 #[.agg #[.int .i64 op, .int .i64 a, .int .i64 b, .int .i64 n]] w fun e w' => e = .returned (.int .i64 (instrNo op a b n)) ∧ Below w.heap.size w w' := by
  obtain ⟨hx, hb0⟩ : (w.alloc (.cells #[.int .i64 op, .int .i64 a, .int .i64 b, .int .i64 n] 75)).heap[w.heap.size]? = some (.cells #[.int .i64 op, .int .i64 a, .int .i64 b, .int .i64 n] 75 (0, 0)) ∧ Below w.heap.size w (w.alloc (.cells #[.int .i64 op, .int .i64 a, .int .i64 b, .int .i64 n] 75)) := ⟨Go.Deep.blk_alloc_new _ _, below_alloc _ _⟩
  obtain ⟨W, hW⟩ : ∃ W, W = w.alloc (.cells #[.int .i64 op, .int .i64 a, .int .i64 b, .int .i64 n] 75) := ⟨_, rfl⟩
  rw [← hW] at hx hb0
  have HW : Hid (W = _) := hW
  clear hW
  have HB0 : Hid (Below w.heap.size w W) := hb0
  clear hb0
  obtain ⟨x0, x1, x2, x3, xf, xl⟩ := four_cells hx
  clear hx
  go_enter Tryd.func80, Tryd.ntmps80
  go_wp2_with fail
  rw [← HW.out]
  clear HW
  cases c0 : inB op 0 15 with
  | false =>
    have HN : Hid (3 = instrNo op a b n) := by show _ = _; simp [instrNo, c0]
    go_region_held3 (fun w' => w'.cell? ⟨w.heap.size, 0, none⟩ = some (.int .i64 op)) (go_keep)
      (first
        | (go_at_call 23; refine (outside_any _ _ _).mono ?_; rintro e w1 ⟨p, q, rfl, hc, hb⟩; have HC : Hid (CloAt w1 p q 0 15) := hc; have hb' : Below W.heap.size W w1 := ((Below.refl _ W).drew).trans hb; have HB : Hid (Below W.heap.size W w1) := hb'; have s0 := (hb'.cell (p := ⟨w.heap.size, 0, none⟩) xl).trans x0; clear hc hb hb')
        | (go_at_call 43; refine (clo_any _ 0 15 _ _ _ HC.out).mono ?_; rw [c0]; rintro e w2 ⟨rfl, rfl⟩))
    all_goals
      go_wp2_with fail
      go_ret
      exact ⟨ret_int HN.out, HB0.out.trans (HB.out.mono HB0.out.size)⟩
  | true =>
    go_region_held3 (fun w' => w'.cell? ⟨w.heap.size, 0, none⟩ = some (.int .i64 op)) (go_keep)
      (first
        | (go_at_call 23; refine (outside_any _ _ _).mono ?_; rintro e w1 ⟨p, q, rfl, hc, hb⟩; have HC : Hid (CloAt w1 p q 0 15) := hc; have hb' : Below W.heap.size W w1 := ((Below.refl _ W).drew).trans hb; have HB : Hid (Below W.heap.size W w1) := hb'; have s0 := (hb'.cell (p := ⟨w.heap.size, 0, none⟩) xl).trans x0; clear hc hb hb')
        | (go_at_call 43; refine (clo_any _ 0 15 _ _ _ HC.out).mono ?_; rw [c0]; rintro e w2 ⟨rfl, rfl⟩))
    all_goals
      clear HC s0
      go_wp2_with fail
      refine (outside_any _ _ _).mono ?_
      rintro e w3 ⟨p3, q3, rfl, hc3, hb3⟩
      have hb4 : Below W.heap.size W w3 := HB.out.trans (hb3.mono HB.out.size)
      have HC3 : Hid (CloAt w3 p3 q3 0 7) := hc3
      have HB3 : Hid (Below W.heap.size W w3) := hb4
      have y0 := (hb4.cell (p := ⟨w.heap.size, 0, none⟩) xl).trans x0
      have y1 := (hb4.cell (p := ⟨w.heap.size, 1, none⟩) xl).trans x1
      have y2 := (hb4.cell (p := ⟨w.heap.size, 2, none⟩) xl).trans x2
      have y3 := (hb4.cell (p := ⟨w.heap.size, 3, none⟩) xl).trans x3
      have yl : w.heap.size < w3.heap.size := Nat.lt_of_lt_of_le xl hb4.size
      clear hc3 hb3 hb4 x0 x1 x2 x3 xf xl HB
      go_upto_region 4 with fail
      go_cut [24] (fun c wx => c = .bool (!inB a 0 7 || !inB b 0 7 || !inB n (-1048576) 1048575) ∧ Below w3.heap.size w3 wx)
      case first =>
        have HA : Hid (∀ x, Calls Tryd.prog 43 #[.int .i64 a, .pointer (some ⟨p3, 0, none⟩), .pointer (some ⟨q3, 0, none⟩)] (w3.drewN x) fun e w' => e = .returned (.bool (!inB a 0 7)) ∧ w' = w3.drewN x) := fun x => clo_any a 0 7 p3 q3 _ (HC3.out.below (below_drewN (Below.refl _ _) _))
        have HBB : Hid (∀ x, Calls Tryd.prog 43 #[.int .i64 b, .pointer (some ⟨p3, 0, none⟩), .pointer (some ⟨q3, 0, none⟩)] (w3.drewN x) fun e w' => e = .returned (.bool (!inB b 0 7)) ∧ w' = w3.drewN x) := fun x => clo_any b 0 7 p3 q3 _ (HC3.out.below (below_drewN (Below.refl _ _) _))
        cases c1 : inB a 0 7 with
        | false =>
          rw [c1] at HA
          go_quiet (exact Calls.quiet_of_same (HA.out _))
          go_wp2_with fail
          go_meet
          exact ⟨by rw [c1]; rfl, below_drewN (Below.refl _ _) _⟩
        | true =>
        rw [c1] at HA
        cases c2 : inB b 0 7 with
        | false =>
          rw [c2] at HBB
          go_quiet (first | (go_at_call_of 43 (Value.int IntKind.i64 a); exact Calls.quiet_of_same (HA.out _)) | (go_at_call_of 43 (Value.int IntKind.i64 b); exact Calls.quiet_of_same (HBB.out _)))
          go_wp2_with fail
          go_meet
          exact ⟨by rw [c1, c2]; rfl, below_drewN (Below.refl _ _) _⟩
        | true =>
        clear HA HBB
        go_region_law
          (first
            | (go_simp; go_at_call_of 43 (Value.int IntKind.i64 a); refine (clo_any a 0 7 _ _ _ HC3.out.drew).mono ?_; rw [c1]; rintro e w2 ⟨rfl, rfl⟩)
            | (go_simp; go_at_call_of 43 (Value.int IntKind.i64 b); refine (clo_any b 0 7 _ _ _ HC3.out.drew).mono ?_; rw [c2]; rintro e w2 ⟨rfl, rfl⟩)
            | (go_simp; go_at_call_of 43 (Value.int IntKind.i64 n); refine (clo_any n (-1048576) 1048575 _ _ _ HC5.out).mono ?_; rintro e w2 ⟨rfl, rfl⟩)
            | (go_simp; go_at_call 23; refine (outside_any _ _ _).mono ?_; rintro e w5 ⟨p5, q5, rfl, hc, hb⟩; have HC5 : Hid (CloAt w5 p5 q5 (-1048576) 1048575) := hc; have hb' : Below w3.heap.size w3 w5 := ((Below.refl _ w3).drew).trans hb; have HB5 : Hid (Below w3.heap.size w3 w5) := hb'; have s1 := (hb'.cell (p := ⟨w.heap.size, 1, none⟩) yl).trans y1; have s2 := (hb'.cell (p := ⟨w.heap.size, 2, none⟩) yl).trans y2; have s3 := (hb'.cell (p := ⟨w.heap.size, 3, none⟩) yl).trans y3; clear hc hb hb'))
        all_goals
          go_wp2_with fail
          go_meet
          exact ⟨by rw [c1, c2]; rfl, HB5.out⟩
      case rest =>
        obtain ⟨hc5, hb5⟩ := hcut
        cases c3 : (!inB a 0 7 || !inB b 0 7 || !inB n (-1048576) 1048575) with
        | true =>
          have HN : Hid (2 = instrNo op a b n) := by show _ = _; simp only [instrNo, c0, c3]; rfl
          rw [c3] at hc5
          subst hc5
          have HB5 : Hid (Below w3.heap.size w3 wc) := hb5
          clear hb5
          go_wp2_with fail
          go_ret
          exact ⟨ret_int HN.out, (HB0.out.trans (HB3.out.mono HB0.out.size)).trans (HB5.out.mono (HB0.out.trans (HB3.out.mono HB0.out.size)).size)⟩
        | false =>
          rw [c3] at hc5
          subst hc5
          have HC7 : Hid (CloAt wc p3 q3 0 7) := HC3.out.below hb5
          have HB7 : Hid (Below w.heap.size w wc) := (HB0.out.trans (HB3.out.mono HB0.out.size)).trans (hb5.mono (HB0.out.trans (HB3.out.mono HB0.out.size)).size)
          have s0 := (hb5.cell (p := ⟨w.heap.size, 0, none⟩) yl).trans y0
          have s3 := (hb5.cell (p := ⟨w.heap.size, 3, none⟩) yl).trans y3
          have sl : w.heap.size < wc.heap.size := Nat.lt_of_lt_of_le yl hb5.size
          have HI : Hid (instrNo op a b n = if (op == 2 || op == 3) && !inB n 0 7 then 4 else if op == 12 && !inB n 0 1 then 4 else 0) := by show _ = _; simp only [instrNo, c0, c3]; rfl
          clear HC3 HB3 HB0 hb5 y0 y1 y2 y3 yl c3 c0
          cases c4 : op == 2 with
          | true =>
            have c6 : (op == 12) = false := by simp at c4; simp [c4]
            cases c5 : inB n 0 7 with
            | _ =>
              go_wp2_with (go_at_call 43; refine (clo_any _ 0 7 _ _ _ HC7.out).mono ?_; rw [c5]; rintro e w2 ⟨rfl, rfl⟩)
              go_ret
              exact ⟨ret_int (by rw [HI.out, c4, c6, c5]; rfl), HB7.out⟩
          | false =>
          cases c7 : op == 3 with
          | true =>
            have c6 : (op == 12) = false := by simp at c7; simp [c7]
            cases c5 : inB n 0 7 with
            | _ =>
              go_wp2_with (go_at_call 43; refine (clo_any _ 0 7 _ _ _ HC7.out).mono ?_; rw [c5]; rintro e w2 ⟨rfl, rfl⟩)
              go_ret
              exact ⟨ret_int (by rw [HI.out, c4, c7, c6, c5]; rfl), HB7.out⟩
          | false =>
          cases c6 : op == 12 with
          | false =>
            go_wp2_with fail
            go_ret
            exact ⟨ret_int (by rw [HI.out, c4, c7, c6]; rfl), HB7.out⟩
          | true =>
            go_wp2_with fail
            cases c8 : inB n 0 1 with
            | _ =>
              go_region_held3 (fun w' => w'.cell? ⟨w.heap.size, 3, none⟩ = some (.int .i64 n)) (go_keep)
                (first
                  | (go_at_call 23; refine (outside_any _ _ _).mono ?_; rintro e w8 ⟨p8, q8, rfl, hc, hb⟩; have HC8 : Hid (CloAt w8 p8 q8 0 1) := hc; have hb' : Below wc.heap.size wc w8 := ((Below.refl _ wc).drew).trans hb; have HB8 : Hid (Below wc.heap.size wc w8) := hb'; have s7 := (hb'.cell (p := ⟨w.heap.size, 3, none⟩) sl).trans s3; clear hc hb hb')
                  | (go_at_call 43; refine (clo_any _ 0 1 _ _ _ HC8.out).mono ?_; rw [c8]; rintro e w2 ⟨rfl, rfl⟩))
              all_goals
                go_wp2_with fail
                go_ret
                exact ⟨ret_int (by rw [HI.out, c4, c7, c6, c8]; rfl), HB7.out.trans (HB8.out.mono HB7.out.size)⟩

end Go.Proofs.YtecpblabaelopaaDoor

/- Contracts of cpu.Encode, floorDivide, Decode. -/

namespace Go.Proofs.YtecpblabaelopaaDoor
open Go.RowKit

set_option maxHeartbeats 400000 in
theorem CpuEncode_any (op a b n : Int) (w : World) :
    Calls Tryd.prog 55 #[.agg #[.int .i64 op, .int .i64 a, .int .i64 b, .int .i64 n]] w fun e w' => e = .returned (.tuple #[.int .i64 (wordNo op a b n), .int .i64 (instrNo op a b n)]) ∧ Below w.heap.size w w' := by
  have HC : Hid (∀ w1, Below (w.alloc (.cells #[.int .i64 op, .int .i64 a, .int .i64 b, .int .i64 n] 75)).heap.size (w.alloc (.cells #[.int .i64 op, .int .i64 a, .int .i64 b, .int .i64 n] 75)) w1 → w1.heap[w.heap.size]? = some (.cells #[.int .i64 op, .int .i64 a, .int .i64 b, .int .i64 n] 75) ∧ Below w.heap.size w w1) :=
    fun w1 hb => ⟨box_kept hb, (below_alloc _ _).trans (hb.mono (by simp))⟩
  by_cases h : instrNo op a b n = 0
  · have HW : Hid (n * 1024 + b * 128 + a * 16 + op = wordNo op a b n) := by show _ = _; simp [wordNo, h, wordF]; omega
    obtain ⟨⟨o1, o2⟩, ⟨a1, a2⟩, ⟨b1, b2⟩, n1, n2⟩ := instrNo_bd h
    have HN : Hid (instrNo op a b n = 0) := h
    clear h
    go_enter Tryd.func55, Tryd.ntmps55
    go_wp2_with fail
    refine (CpuCheck_any op a b n _).mono ?_
    rw [HN.out]
    rintro e w1 ⟨rfl, hb1⟩
    obtain ⟨hbx, hb⟩ := HC.out w1 hb1
    obtain ⟨hx0, hx1, hx2, hx3, hxf, hxl⟩ := four_cells hbx
    clear hbx hb1
    go_wp2
    go_ret2
    exact ⟨ret_two HW.out HN.out.symm, hb⟩
  · have HW : Hid (wordNo op a b n = 0) := by show _ = _; simp [wordNo, h]
    have hne : (instrNo op a b n != 0) = true := by simpa using h
    revert hne HW
    generalize wordNo op a b n = x
    generalize hg : instrNo op a b n = y
    intro HW hne
    have HG : Hid (instrNo op a b n = y) := hg
    clear hg h
    go_enter Tryd.func55, Tryd.ntmps55
    go_wp2_with fail
    refine (CpuCheck_any op a b n _).mono ?_
    rw [HG.out]
    rintro e w1 ⟨rfl, hb1⟩
    obtain ⟨hbx, hb⟩ := HC.out w1 hb1
    clear hbx hb1
    go_wp2
    go_ret2
    exact ⟨ret_two HW.out.symm rfl, hb⟩

set_option maxHeartbeats 400000 in
theorem floorDivide_any (n : Int) (w : World) (hn : -9223372036854775808 ≤ n ∧ n ≤ 9223372036854775807) :
    Calls Tryd.prog 89 #[.int .i64 n, .int .i64 1024] w fun e w' => e = .returned (.tuple #[.int .i64 (n / 1024), .int .i64 (n % 1024)]) ∧ Below w.heap.size w w' := by
  obtain ⟨n1, n2⟩ := hn
  have HD := tdiv_sign n 1024
  have HM := tmod_sign n 1024
  by_cases h : n.tmod 1024 < 0
  · have HE : Hid (n.tdiv 1024 - 1 = n / 1024) := by show _ = _; omega
    have HF : Hid (n.tmod 1024 + 1024 = n % 1024) := by show _ = _; omega
    have h1 : n.tdiv 1024 ≤ 9007199254740992 := by omega
    have h2 : -9007199254740992 ≤ n.tdiv 1024 := by omega
    have h3 : -1024 ≤ n.tmod 1024 := by omega
    clear HD HM
    go_enter Tryd.func89, Tryd.ntmps89
    go_wp2
    go_quiet (fail)
    go_wp2
    go_ret2
    exact ⟨ret_two HE.out HF.out, below_drewN (Below.refl _ _) _⟩
  · have HE : Hid (n.tdiv 1024 = n / 1024) := by show _ = _; omega
    have HF : Hid (n.tmod 1024 = n % 1024) := by show _ = _; omega
    clear HD HM
    go_enter Tryd.func89, Tryd.ntmps89
    go_wp2
    go_quiet (fail)
    go_wp2
    go_ret2
    exact ⟨ret_two HE.out HF.out, below_drewN (Below.refl _ _) _⟩

theorem decI_four (x : Int) : ∃ p q r s : Int, decI x = .agg #[.int .i64 p, .int .i64 q, .int .i64 r, .int .i64 s] ∧ (decNo x = 0 → p = x % 16 ∧ q = x / 16 % 8 ∧ r = x / 128 % 8 ∧ s = x / 1024) ∧ (decNo x ≠ 0 → p = 0 ∧ q = 0 ∧ r = 0 ∧ s = 0) := by
  unfold decI
  split
  · next h => exact ⟨_, _, _, _, rfl, fun _ => ⟨rfl, rfl, rfl, rfl⟩, fun h' => absurd h h'⟩
  · next h => exact ⟨_, _, _, _, rfl, fun h' => absurd h' h, fun _ => ⟨rfl, rfl, rfl, rfl⟩⟩
theorem rest_parts (x : Int) : (x % 1024) % 16 = x % 16 ∧ (x % 1024) / 16 % 8 = x / 16 % 8 ∧ (x % 1024) / 128 = x / 128 % 8 := by omega

/-- A block that was there, and a new one: both are kept. -/
theorem old_box {w w1 w2 : World} {o o1 : Obj} (h1 : Below (w.alloc o).heap.size (w.alloc o) w1) (h2 : Below (w1.alloc o1).heap.size (w1.alloc o1) w2) :
    w2.heap[w.heap.size]? = some o ∧ w2.heap[w1.heap.size]? = some o1 ∧ Below w.heap.size w w2 ∧ w.heap.size < w1.heap.size := by
  have hk := box_kept h1
  have hlt : w.heap.size < w1.heap.size := by have := h1.size; simp at this; omega
  have hb : Below w.heap.size w w1 := (below_alloc _ _).trans (h1.mono (by simp))
  have hb2 : Below w1.heap.size w1 w2 := (below_alloc _ _).trans (h2.mono (by simp))
  exact ⟨by rw [hb2.block _ hlt]; exact hk, box_kept h2, hb.trans (hb2.mono hb.size), hlt⟩

set_option maxHeartbeats 1000000 in
theorem CpuDecode_any (x : Int) (w : World) (h : -9223372036854775808 ≤ x ∧ x ≤ 9223372036854775807) :
    Calls Tryd.prog 82 #[.int .i64 x] w fun e w' => e = .returned (.tuple #[decI x, .int .i64 (decNo x)]) ∧ Below w.heap.size w w' := by
  have HF : Hid (∀ W, Calls Tryd.prog 89 #[.int .i64 x, .int .i64 1024] W fun e w' => e = .returned (.tuple #[.int .i64 (x / 1024), .int .i64 (x % 1024)]) ∧ Below W.heap.size W w') := fun W => floorDivide_any x W h
  obtain ⟨e1, e2, e3⟩ := rest_parts x
  have HE : Hid ((x % 1024) % 16 = x % 16 ∧ (x % 1024) / 16 % 8 = x / 16 % 8 ∧ (x % 1024) / 128 = x / 128 % 8) := ⟨e1, e2, e3⟩
  have r1 : 0 ≤ x % 1024 := by omega
  have r2 : x % 1024 ≤ 1023 := by omega
  have HC : Hid (∀ W, Calls Tryd.prog 80 #[.agg #[.int .i64 (x % 16), .int .i64 (x / 16 % 8), .int .i64 (x / 128 % 8), .int .i64 (x / 1024)]] W fun e w' => e = .returned (.int .i64 (decNo x)) ∧ Below W.heap.size W w') := fun W => CpuCheck_any _ _ _ _ W
  obtain ⟨p, q, r, s, hI, hy, hn⟩ := decI_four x
  rw [hI]
  by_cases hd : decNo x = 0
  · obtain ⟨rfl, rfl, rfl, rfl⟩ := hy hd
    rw [hd] at HC ⊢
    clear hI hy hn hd h e1 e2 e3
    go_enter Tryd.func82, Tryd.ntmps82
    go_wp2_with fail
    refine (HF.out _).mono ?_
    rintro e w1 ⟨rfl, hb1⟩
    have HB1 : Hid (_) := hb1
    clear hb1
    go_wp2_with fail
    rw [HE.out.1, HE.out.2.1, HE.out.2.2]
    refine (HC.out _).mono ?_
    rintro e w2 ⟨rfl, hb2⟩
    obtain ⟨hz, hy, hb, hlt⟩ := old_box HB1.out hb2
    obtain ⟨z0, z1, z2, z3, zf, zl⟩ := four_cells hz
    obtain ⟨y0, y1, y2, y3, yf, yl⟩ := four_cells hy
    clear hz hy hb2 HB1 HC HF HE
    go_wp2_with fail
    refine bodyPost_ret (v := .tuple #[.agg #[.int .i64 (x % 16), .int .i64 (x / 16 % 8), .int .i64 (x / 128 % 8), .int .i64 (x / 1024)], .int .i64 0]) (by simp [results, Tryd.results82, go_sem, z0, z1, z2, z3]) rfl ?_
    exact ⟨rfl, (((hb.setCell (by simp) _).setCell (by simp) _).setCell (by simp) _).setCell (by simp) _⟩
  · obtain ⟨rfl, rfl, rfl, rfl⟩ := hn hd
    have hne : (decNo x != 0) = true := by simpa using hd
    clear hI hy hn hd h e1 e2 e3
    revert hne HC
    generalize decNo x = y
    intro HC hne
    go_enter Tryd.func82, Tryd.ntmps82
    go_wp2_with fail
    refine (HF.out _).mono ?_
    rintro e w1 ⟨rfl, hb1⟩
    have HB1 : Hid (_) := hb1
    clear hb1
    go_wp2_with fail
    rw [HE.out.1, HE.out.2.1, HE.out.2.2]
    refine (HC.out _).mono ?_
    rintro e w2 ⟨rfl, hb2⟩
    obtain ⟨hz, hy, hb, hlt⟩ := old_box HB1.out hb2
    obtain ⟨z0, z1, z2, z3, zf, zl⟩ := four_cells hz
    clear hz hy hb2 HB1 HC HF HE
    go_wp2_with fail
    refine bodyPost_ret (v := .tuple #[.agg #[.int .i64 0, .int .i64 0, .int .i64 0, .int .i64 0], .int .i64 y]) (by simp [results, Tryd.results82, go_sem, z0, z1, z2, z3]) rfl ?_
    first
      | exact ⟨rfl, hb⟩
      | exact ⟨rfl, (((hb.setCell (by simp) _).setCell (by simp) _).setCell (by simp) _).setCell (by simp) _⟩

end Go.Proofs.YtecpblabaelopaaDoor
