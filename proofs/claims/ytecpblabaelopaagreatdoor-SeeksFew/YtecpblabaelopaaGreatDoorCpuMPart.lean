/- Contract of cpu.CheckMachine. -/
import Derived.Test.YtecpblabaelopaaGreatDoorPtPart
import Derived.Test.YtecpblabaelopaaGreatDoorSpcFPart
import Derived.Test.YtecpblabaelopaaGreatDoorHoBPart
import Derived.Test.YtecpblabaelopaaGreatDoorOwnPart
namespace Go.Proofs.YtecpblabaelopaaGreatDoor
open Go.RowKit
set_option linter.unusedVariables false

def mayNoM (m : Mach) : Int := if m.may then 0 else 8

theorem ints_two {w : World} (x y : Int) : IntsAt (w.alloc (.cells #[.int .i64 x, .int .i64 y] 3)) (.slice (some ⟨w.heap.size, 0, none⟩) 2 2) [x, y] := by
  have hb := Go.Deep.blk_alloc_new w (.cells #[.int .i64 x, .int .i64 y] 3)
  obtain ⟨h0, h1, -, -⟩ := two_cells hb
  refine ⟨_, _, rfl, by simp, fun _ => ⟨w.heap.size, 0, rfl, by simp, fun j hj => ?_⟩⟩
  rcases j with _ | _ | j
  · exact h0
  · exact h1
  · simp at hj; omega

theorem box_below {w W w1 : World} {b : Nat} {o : Obj} (hx : W.heap[b]? = some o) (hb : Below w.heap.size w W) (h1 : Below W.heap.size W w1) : w1.heap[b]? = some o ∧ Below w.heap.size w w1 :=
  ⟨by rw [h1.block _ (lt_of_block hx)]; exact hx, hb.trans (h1.mono hb.size)⟩

set_option maxHeartbeats 4000000 in
theorem CheckMachine_no (m : Mach) (rv mv ov : Value) (w : World) (ha : MachAt w rv mv ov m) :
    Calls Tryz.prog 109 #[.agg (m.cells rv mv ov)] w fun e w' => e = .returned (.int .i64 (mayNoM m)) ∧ Below w.heap.size w w' := by
  have H1 : Hid (IntsAt w rv m.regs) := ha.regs
  have H2 : Hid (IntsAt w mv m.mem) := ha.mem
  have H3 : Hid (IntsAt w ov m.out) := ha.out
  obtain ⟨A1, c1, A2, c2, A3, c3, rfl, rfl, rfl⟩ := ha.shape
  clear ha
  obtain ⟨N, hN⟩ : ∃ N, N = mayNoM m := ⟨_, rfl⟩
  have HN : Hid (N = mayNoM m) := hN
  rw [← hN]
  clear hN
  obtain ⟨regs, pc, back, ints, wait, table, count, fin, mem, out, ready, want⟩ := m
  simp only [Mach.cells] at *
  have hx : (w.alloc (.cells #[.slice A1 regs.length c1, .int .i64 pc, .int .i64 back, .bool ints, .bool wait, .int .i64 table, .int .i64 count, .int .i64 fin, .slice A2 mem.length c2, .slice A3 out.length c3, .int .i64 ready, .int .i64 want] 37)).heap[w.heap.size]? = some (.cells #[.slice A1 regs.length c1, .int .i64 pc, .int .i64 back, .bool ints, .bool wait, .int .i64 table, .int .i64 count, .int .i64 fin, .slice A2 mem.length c2, .slice A3 out.length c3, .int .i64 ready, .int .i64 want] 37 (0, 0)) := Go.Deep.blk_alloc_new _ _
  have hb0 : Below w.heap.size w (w.alloc (.cells #[.slice A1 regs.length c1, .int .i64 pc, .int .i64 back, .bool ints, .bool wait, .int .i64 table, .int .i64 count, .int .i64 fin, .slice A2 mem.length c2, .slice A3 out.length c3, .int .i64 ready, .int .i64 want] 37)) := below_alloc _ _
  obtain ⟨W, hW⟩ : ∃ W, W = w.alloc (.cells #[.slice A1 regs.length c1, .int .i64 pc, .int .i64 back, .bool ints, .bool wait, .int .i64 table, .int .i64 count, .int .i64 fin, .slice A2 mem.length c2, .slice A3 out.length c3, .int .i64 ready, .int .i64 want] 37) := ⟨_, rfl⟩
  rw [← hW] at hx hb0
  have HW : Hid (W = _) := hW
  clear hW
  have HX : Hid (W.heap[w.heap.size]? = some (.cells #[.slice A1 regs.length c1, .int .i64 pc, .int .i64 back, .bool ints, .bool wait, .int .i64 table, .int .i64 count, .int .i64 fin, .slice A2 mem.length c2, .slice A3 out.length c3, .int .i64 ready, .int .i64 want] 37 (0, 0))) := hx
  have HB : Hid (Below w.heap.size w W) := hb0
  clear hx hb0
  go_enter Tryz.func109, Tryz.ntmps109
  go_wp2_with fail
  rw [← HW.out]
  clear HW
  refine (outside_any _ _ _).mono ?_
  rintro e w1 ⟨p1, q1, rfl, hc1, hb1⟩
  have HC : Hid (CloAt w1 p1 q1 (-1) 15) := hc1
  obtain ⟨hx, hb⟩ := box_below HX.out HB.out hb1
  clear HX HB hc1 hb1
  have HX : Hid (w1.heap[w.heap.size]? = some (.cells #[.slice A1 regs.length c1, .int .i64 pc, .int .i64 back, .bool ints, .bool wait, .int .i64 table, .int .i64 count, .int .i64 fin, .slice A2 mem.length c2, .slice A3 out.length c3, .int .i64 ready, .int .i64 want] 37 (0, 0))) := hx
  have HB : Hid (Below w.heap.size w w1) := hb
  obtain ⟨⟨z0, z1, z2, z3, z4, z5, z6, z7, z8, z9, z10, z11⟩, zf, zl⟩ := twelve_cells hx
  clear hx hb
  by_cases g0 : regs.length = 8
  case neg =>
    have d0 : ((regs.length : Int) != 8) = true := by simp; omega
    have G : Hid (¬ regs.length = 8) := g0
    clear g0
    go_wp2_with fail
    go_ret
    exact ⟨ret_int (by rw [HN.out]; simp [mayNoM, Mach.may, G.out]), HB.out⟩
  by_cases g1 : mem.length = 256
  case neg =>
    have d0 : ((regs.length : Int) != 8) = false := by simp [g0]
    have d1 : ((mem.length : Int) != 256) = true := by simp; omega
    have G : Hid (¬ mem.length = 256) := g1
    clear g0 g1
    go_wp2_with fail
    go_ret
    exact ⟨ret_int (by rw [HN.out]; simp [mayNoM, Mach.may, G.out]), HB.out⟩
  by_cases g2 : out.length ≤ 200
  case neg =>
    have d0 : ((regs.length : Int) != 8) = false := by simp [g0]
    have d1 : ((mem.length : Int) != 256) = false := by simp [g1]
    have d2 : decide (200 < (out.length : Int)) = true := by simp; omega
    have G : Hid (¬ out.length ≤ 200) := g2
    clear g0 g1 g2
    go_wp2_with fail
    go_ret
    exact ⟨ret_int (by rw [HN.out]; simp [mayNoM, Mach.may, G.out]), HB.out⟩
  have d0 : ((regs.length : Int) != 8) = false := by simp [g0]
  have d1 : ((mem.length : Int) != 256) = false := by simp [g1]
  have d2 : decide (200 < (out.length : Int)) = false := by simp; omega
  have HM : Hid (mayNoM ⟨regs, pc, back, ints, wait, table, count, fin, mem, out, ready, want⟩ = if (allB regs && allB mem && allB out && wordB pc && wordB back && inB table (-1) 15 && inB count 0 1099511627776 && inB fin 0 4 && inB ready 0 1 && inB want (-1) 15) then 0 else 8) := by show _ = _; simp [mayNoM, Mach.may, g0, g1, g2]
  clear g0 g1 g2
  rw [HM.out] at HN
  clear HM
  go_wp2_with fail
  clear z0 z1 z2 z3 z4 z5 z6 z7 z8 z9 z10 z11 zf zl
  refine (haveNoWord_any (.slice A1 regs.length c1) regs _ (H1.out.below HB.out)).mono ?_
  rintro e w2 ⟨rfl, hbn⟩
  obtain ⟨hx, hb⟩ := box_below HX.out HB.out hbn
  have HC' : Hid (CloAt w2 p1 q1 (-1) 15) := HC.out.below hbn
  clear HX HB HC hbn
  have HC : Hid (CloAt w2 p1 q1 (-1) 15) := HC'.out
  clear HC'
  have HX : Hid (w2.heap[w.heap.size]? = some (.cells #[.slice A1 regs.length c1, .int .i64 pc, .int .i64 back, .bool ints, .bool wait, .int .i64 table, .int .i64 count, .int .i64 fin, .slice A2 mem.length c2, .slice A3 out.length c3, .int .i64 ready, .int .i64 want] 37 (0, 0))) := hx
  have HB : Hid (Below w.heap.size w w2) := hb
  obtain ⟨⟨z0, z1, z2, z3, z4, z5, z6, z7, z8, z9, z10, z11⟩, zf, zl⟩ := twelve_cells hx
  clear hx hb
  cases a1 : allB regs with
  | false =>
    have G : Hid (allB regs = false) := a1
    clear a1
    go_wp2_with fail
    go_ret
    exact ⟨ret_int (by rw [HN.out, G.out]; simp), HB.out⟩
  | true =>
  have Ga1 : Hid (allB regs = true) := a1
  go_wp2_with fail
  clear z0 z1 z2 z3 z4 z5 z6 z7 z8 z9 z10 z11 zf zl
  clear a1
  refine (haveNoWord_any (.slice A2 mem.length c2) mem _ (H2.out.below HB.out)).mono ?_
  rintro e w3 ⟨rfl, hbn⟩
  obtain ⟨hx, hb⟩ := box_below HX.out HB.out hbn
  have HC' : Hid (CloAt w3 p1 q1 (-1) 15) := HC.out.below hbn
  clear HX HB HC hbn
  have HC : Hid (CloAt w3 p1 q1 (-1) 15) := HC'.out
  clear HC'
  have HX : Hid (w3.heap[w.heap.size]? = some (.cells #[.slice A1 regs.length c1, .int .i64 pc, .int .i64 back, .bool ints, .bool wait, .int .i64 table, .int .i64 count, .int .i64 fin, .slice A2 mem.length c2, .slice A3 out.length c3, .int .i64 ready, .int .i64 want] 37 (0, 0))) := hx
  have HB : Hid (Below w.heap.size w w3) := hb
  obtain ⟨⟨z0, z1, z2, z3, z4, z5, z6, z7, z8, z9, z10, z11⟩, zf, zl⟩ := twelve_cells hx
  clear hx hb
  cases a2 : allB mem with
  | false =>
    have G : Hid (allB mem = false) := a2
    clear a2
    go_wp2_with fail
    go_ret
    exact ⟨ret_int (by rw [HN.out, G.out]; simp), HB.out⟩
  | true =>
  have Ga2 : Hid (allB mem = true) := a2
  go_wp2_with fail
  clear z0 z1 z2 z3 z4 z5 z6 z7 z8 z9 z10 z11 zf zl
  clear a2
  refine (haveNoWord_any (.slice A3 out.length c3) out _ (H3.out.below HB.out)).mono ?_
  rintro e w4 ⟨rfl, hbn⟩
  obtain ⟨hx, hb⟩ := box_below HX.out HB.out hbn
  have HC' : Hid (CloAt w4 p1 q1 (-1) 15) := HC.out.below hbn
  clear HX HB HC hbn
  have HC : Hid (CloAt w4 p1 q1 (-1) 15) := HC'.out
  clear HC'
  have HX : Hid (w4.heap[w.heap.size]? = some (.cells #[.slice A1 regs.length c1, .int .i64 pc, .int .i64 back, .bool ints, .bool wait, .int .i64 table, .int .i64 count, .int .i64 fin, .slice A2 mem.length c2, .slice A3 out.length c3, .int .i64 ready, .int .i64 want] 37 (0, 0))) := hx
  have HB : Hid (Below w.heap.size w w4) := hb
  obtain ⟨⟨z0, z1, z2, z3, z4, z5, z6, z7, z8, z9, z10, z11⟩, zf, zl⟩ := twelve_cells hx
  clear hx hb
  cases a3 : allB out with
  | false =>
    have G : Hid (allB out = false) := a3
    clear a3
    go_wp2_with fail
    go_ret
    exact ⟨ret_int (by rw [HN.out, G.out]; simp), HB.out⟩
  | true =>
  have Ga3 : Hid (allB out = true) := a3
  go_wp2_with fail
  clear z0 z1 z2 z3 z4 z5 z6 z7 z8 z9 z10 z11 zf zl
  clear a3
  refine (haveNoWord_any _ [pc, back] _ (ints_two pc back)).mono ?_
  rintro e w5 ⟨rfl, hbm⟩
  have hbn : Below w4.heap.size w4 w5 := (below_alloc _ _).trans (hbm.mono (by simp))
  rw [show allB [pc, back] = (wordB pc && wordB back) by simp [allB]]
  obtain ⟨hx, hb⟩ := box_below HX.out HB.out hbn
  clear hbm
  have HC' : Hid (CloAt w5 p1 q1 (-1) 15) := HC.out.below hbn
  clear HX HB HC hbn
  have HC : Hid (CloAt w5 p1 q1 (-1) 15) := HC'.out
  clear HC'
  have HX : Hid (w5.heap[w.heap.size]? = some (.cells #[.slice A1 regs.length c1, .int .i64 pc, .int .i64 back, .bool ints, .bool wait, .int .i64 table, .int .i64 count, .int .i64 fin, .slice A2 mem.length c2, .slice A3 out.length c3, .int .i64 ready, .int .i64 want] 37 (0, 0))) := hx
  have HB : Hid (Below w.heap.size w w5) := hb
  obtain ⟨⟨z0, z1, z2, z3, z4, z5, z6, z7, z8, z9, z10, z11⟩, zf, zl⟩ := twelve_cells hx
  clear hx hb
  cases a4 : (wordB pc && wordB back) with
  | false =>
    have G : Hid ((wordB pc && wordB back) = false) := a4
    clear a4
    go_wp2_with fail
    go_ret
    exact ⟨ret_int (by
      have hg := G.out
      rw [HN.out]
      cases e1 : wordB pc with
      | false => simp
      | true =>
        cases e2 : wordB back with
        | false => simp
        | true => rw [e1, e2] at hg; exact absurd hg (by decide)), HB.out⟩
  | true =>
  have Ga4 : Hid (wordB pc = true ∧ wordB back = true) := by
    show _ ∧ _
    simpa using a4
  clear a4
  go_wp2_with fail
  refine (clo_any _ (-1) 15 _ _ _ HC.out).mono ?_
  cases a5 : inB table (-1) 15 with
  | false =>
    rintro e w6 ⟨rfl, rfl⟩
    have G : Hid (inB table (-1) 15 = false) := a5
    clear a5
    go_wp2_with fail
    go_ret
    exact ⟨ret_int (by rw [HN.out, G.out]; simp), HB.out⟩
  | true =>
  rintro e w6 ⟨rfl, rfl⟩
  have Ga5 : Hid (inB table (-1) 15 = true) := a5
  clear a5
  go_wp2_with fail
  refine (clo_any _ (-1) 15 _ _ _ HC.out).mono ?_
  cases a6 : inB want (-1) 15 with
  | false =>
    rintro e w6 ⟨rfl, rfl⟩
    have G : Hid (inB want (-1) 15 = false) := a6
    clear a6
    go_wp2_with fail
    go_ret
    exact ⟨ret_int (by rw [HN.out, G.out]; simp), HB.out⟩
  | true =>
  rintro e w6 ⟨rfl, rfl⟩
  have Ga6 : Hid (inB want (-1) 15 = true) := a6
  clear a6 HC
  go_wp2_with fail
  cases a7 : inB count 0 1099511627776 with
  | false =>
    have G : Hid (inB count 0 1099511627776 = false) := a7
    go_region_held3 (fun w' => w'.cell? ⟨w.heap.size, 6, none⟩ = some (.int .i64 count)) (go_keep)
      (first
        | (go_at_call 145; refine (outside_any _ _ _).mono ?_; rintro e w7 ⟨pw7, qw7, rfl, hc, hb⟩; have HCw7 : Hid (CloAt w7 pw7 qw7 0 1099511627776) := hc; have hb' : Below w6.heap.size w6 w7 := ((Below.refl _ w6).drew).trans hb; have HBw7 : Hid (Below w6.heap.size w6 w7) := hb'; have s6 := (hb'.cell (p := ⟨w.heap.size, 6, none⟩) zl).trans z6; clear hc hb hb')
        | (go_at_call 162; refine (clo_any _ 0 1099511627776 _ _ _ HCw7.out).mono ?_; rw [a7]; rintro e w7 ⟨rfl, rfl⟩))
    all_goals
      go_wp2_with fail
      go_ret
      exact ⟨ret_int (by rw [HN.out, G.out]; simp), HB.out.trans (HBw7.out.mono HB.out.size)⟩
  | true =>
  have Ga7 : Hid (inB count 0 1099511627776 = true) := a7
  go_region_held3 (fun w' => w'.cell? ⟨w.heap.size, 6, none⟩ = some (.int .i64 count)) (go_keep)
      (first
        | (go_at_call 145; refine (outside_any _ _ _).mono ?_; rintro e w7 ⟨pw7, qw7, rfl, hc, hb⟩; have HCw7 : Hid (CloAt w7 pw7 qw7 0 1099511627776) := hc; have hb' : Below w6.heap.size w6 w7 := ((Below.refl _ w6).drew).trans hb; have HBw7 : Hid (Below w6.heap.size w6 w7) := hb'; have s6 := (hb'.cell (p := ⟨w.heap.size, 6, none⟩) zl).trans z6; clear hc hb hb')
        | (go_at_call 162; refine (clo_any _ 0 1099511627776 _ _ _ HCw7.out).mono ?_; rw [a7]; rintro e w7 ⟨rfl, rfl⟩))
  clear a7 s6 HCw7
  obtain ⟨hx, hb⟩ := box_below HX.out HB.out HBw7.out
  clear HX HB HBw7
  clear z0 z1 z2 z3 z4 z5 z6 z7 z8 z9 z10 z11 zf zl
  have HX : Hid (w7.heap[w.heap.size]? = some (.cells #[.slice A1 regs.length c1, .int .i64 pc, .int .i64 back, .bool ints, .bool wait, .int .i64 table, .int .i64 count, .int .i64 fin, .slice A2 mem.length c2, .slice A3 out.length c3, .int .i64 ready, .int .i64 want] 37 (0, 0))) := hx
  have HB : Hid (Below w.heap.size w w7) := hb
  obtain ⟨⟨z0, z1, z2, z3, z4, z5, z6, z7, z8, z9, z10, z11⟩, zf, zl⟩ := twelve_cells hx
  clear hx hb
  go_wp2_with fail
  cases a8 : inB fin 0 4 with
  | false =>
    have G : Hid (inB fin 0 4 = false) := a8
    go_region_held3 (fun w' => w'.cell? ⟨w.heap.size, 7, none⟩ = some (.int .i64 fin)) (go_keep)
      (first
        | (go_at_call 145; refine (outside_any _ _ _).mono ?_; rintro e w8 ⟨pw8, qw8, rfl, hc, hb⟩; have HCw8 : Hid (CloAt w8 pw8 qw8 0 4) := hc; have hb' : Below w7.heap.size w7 w8 := ((Below.refl _ w7).drew).trans hb; have HBw8 : Hid (Below w7.heap.size w7 w8) := hb'; have s7 := (hb'.cell (p := ⟨w.heap.size, 7, none⟩) zl).trans z7; clear hc hb hb')
        | (go_at_call 162; refine (clo_any _ 0 4 _ _ _ HCw8.out).mono ?_; rw [a8]; rintro e w8 ⟨rfl, rfl⟩))
    all_goals
      go_wp2_with fail
      go_ret
      exact ⟨ret_int (by rw [HN.out, G.out]; simp), HB.out.trans (HBw8.out.mono HB.out.size)⟩
  | true =>
  have Ga8 : Hid (inB fin 0 4 = true) := a8
  go_region_held3 (fun w' => w'.cell? ⟨w.heap.size, 7, none⟩ = some (.int .i64 fin)) (go_keep)
      (first
        | (go_at_call 145; refine (outside_any _ _ _).mono ?_; rintro e w8 ⟨pw8, qw8, rfl, hc, hb⟩; have HCw8 : Hid (CloAt w8 pw8 qw8 0 4) := hc; have hb' : Below w7.heap.size w7 w8 := ((Below.refl _ w7).drew).trans hb; have HBw8 : Hid (Below w7.heap.size w7 w8) := hb'; have s7 := (hb'.cell (p := ⟨w.heap.size, 7, none⟩) zl).trans z7; clear hc hb hb')
        | (go_at_call 162; refine (clo_any _ 0 4 _ _ _ HCw8.out).mono ?_; rw [a8]; rintro e w8 ⟨rfl, rfl⟩))
  clear a8 s7 HCw8
  obtain ⟨hx, hb⟩ := box_below HX.out HB.out HBw8.out
  clear HX HB HBw8
  clear z0 z1 z2 z3 z4 z5 z6 z7 z8 z9 z10 z11 zf zl
  have HX : Hid (w8.heap[w.heap.size]? = some (.cells #[.slice A1 regs.length c1, .int .i64 pc, .int .i64 back, .bool ints, .bool wait, .int .i64 table, .int .i64 count, .int .i64 fin, .slice A2 mem.length c2, .slice A3 out.length c3, .int .i64 ready, .int .i64 want] 37 (0, 0))) := hx
  have HB : Hid (Below w.heap.size w w8) := hb
  obtain ⟨⟨z0, z1, z2, z3, z4, z5, z6, z7, z8, z9, z10, z11⟩, zf, zl⟩ := twelve_cells hx
  clear hx hb
  go_wp2_with fail
  cases a9 : inB ready 0 1 with
  | false =>
    have G : Hid (inB ready 0 1 = false) := a9
    go_region_held3 (fun w' => w'.cell? ⟨w.heap.size, 10, none⟩ = some (.int .i64 ready)) (go_keep)
      (first
        | (go_at_call 145; refine (outside_any _ _ _).mono ?_; rintro e w9 ⟨pw9, qw9, rfl, hc, hb⟩; have HCw9 : Hid (CloAt w9 pw9 qw9 0 1) := hc; have hb' : Below w8.heap.size w8 w9 := ((Below.refl _ w8).drew).trans hb; have HBw9 : Hid (Below w8.heap.size w8 w9) := hb'; have s10 := (hb'.cell (p := ⟨w.heap.size, 10, none⟩) zl).trans z10; clear hc hb hb')
        | (go_at_call 162; refine (clo_any _ 0 1 _ _ _ HCw9.out).mono ?_; rw [a9]; rintro e w9 ⟨rfl, rfl⟩))
    all_goals
      go_wp2_with fail
      go_ret
      exact ⟨ret_int (by rw [HN.out, G.out]; simp), HB.out.trans (HBw9.out.mono HB.out.size)⟩
  | true =>
  have Ga9 : Hid (inB ready 0 1 = true) := a9
  go_region_held3 (fun w' => w'.cell? ⟨w.heap.size, 10, none⟩ = some (.int .i64 ready)) (go_keep)
      (first
        | (go_at_call 145; refine (outside_any _ _ _).mono ?_; rintro e w9 ⟨pw9, qw9, rfl, hc, hb⟩; have HCw9 : Hid (CloAt w9 pw9 qw9 0 1) := hc; have hb' : Below w8.heap.size w8 w9 := ((Below.refl _ w8).drew).trans hb; have HBw9 : Hid (Below w8.heap.size w8 w9) := hb'; have s10 := (hb'.cell (p := ⟨w.heap.size, 10, none⟩) zl).trans z10; clear hc hb hb')
        | (go_at_call 162; refine (clo_any _ 0 1 _ _ _ HCw9.out).mono ?_; rw [a9]; rintro e w9 ⟨rfl, rfl⟩))
  clear a9 s10 HCw9
  go_wp2_with fail
  go_ret
  exact ⟨ret_int (by rw [HN.out, Ga1.out, Ga2.out, Ga3.out, Ga4.out.1, Ga4.out.2, Ga5.out, Ga6.out, Ga7.out, Ga8.out, Ga9.out]; rfl), HB.out.trans (HBw9.out.mono HB.out.size)⟩

end Go.Proofs.YtecpblabaelopaaGreatDoor

/- A guest in a variable that a pointer leads to. -/

namespace Go.Proofs.YtecpblabaelopaaGreatDoor
open Go.RowKit

structure AtP (w : World) (lo b : Nat) (rv mv ov : Value) (m : Mach) : Prop where
  box : w.heap[b]? = some (.cells (m.cells rv mv ov) 37 (0, 0))
  own : OwnM w lo rv mv ov m
  le : lo ≤ b
theorem AtP.lt {w : World} {lo b : Nat} {rv mv ov : Value} {m : Mach} (h : AtP w lo b rv mv ov m) : b < w.heap.size := lt_of_block h.box
theorem AtP.below {w w' : World} {lo b : Nat} {rv mv ov : Value} {m : Mach} (h : AtP w lo b rv mv ov m) (hb : Below w.heap.size w w') : AtP w' lo b rv mv ov m :=
  ⟨by rw [hb.block _ h.lt]; exact h.box, h.own.below hb, h.le⟩
theorem AtP.drew {w : World} {lo b : Nat} {rv mv ov : Value} {m : Mach} (h : AtP w lo b rv mv ov m) : AtP w.drew lo b rv mv ov m := h.below ((Below.refl _ w).drew)
theorem AtP.set {w : World} {lo b : Nat} {rv mv ov : Value} {m m' : Mach} (h : AtP w lo b rv mv ov m) (i : Nat) (x : Value) (e : (m.cells rv mv ov).setIfInBounds i x = m'.cells rv mv ov) (h1 : m'.regs = m.regs) (h2 : m'.mem = m.mem) (h3 : m'.out = m.out) :
    AtP (w.setCell ⟨b, i, none⟩ x) lo b rv mv ov m' ∧ Below lo w (w.setCell ⟨b, i, none⟩ x) :=
  ⟨⟨by rw [box_set h.box, e], (h.own.box ⟨_, h.box⟩ i x).of h1 h2 h3, h.le⟩, (Below.refl _ _).setCell (by simpa using h.le) _⟩
theorem AtP.setFin {w : World} {lo b : Nat} {rv mv ov : Value} {m : Mach} (h : AtP w lo b rv mv ov m) (x : Int) : AtP (w.setCell ⟨b, 7, none⟩ (.int .i64 x)) lo b rv mv ov { m with fin := x } ∧ Below lo w (w.setCell ⟨b, 7, none⟩ (.int .i64 x)) := h.set 7 _ rfl rfl rfl rfl
theorem AtP.setPc {w : World} {lo b : Nat} {rv mv ov : Value} {m : Mach} (h : AtP w lo b rv mv ov m) (x : Int) : AtP (w.setCell ⟨b, 1, none⟩ (.int .i64 x)) lo b rv mv ov { m with pc := x } ∧ Below lo w (w.setCell ⟨b, 1, none⟩ (.int .i64 x)) := h.set 1 _ rfl rfl rfl rfl
theorem AtP.setBack {w : World} {lo b : Nat} {rv mv ov : Value} {m : Mach} (h : AtP w lo b rv mv ov m) (x : Int) : AtP (w.setCell ⟨b, 2, none⟩ (.int .i64 x)) lo b rv mv ov { m with back := x } ∧ Below lo w (w.setCell ⟨b, 2, none⟩ (.int .i64 x)) := h.set 2 _ rfl rfl rfl rfl
theorem AtP.setInts {w : World} {lo b : Nat} {rv mv ov : Value} {m : Mach} (h : AtP w lo b rv mv ov m) (x : Bool) : AtP (w.setCell ⟨b, 3, none⟩ (.bool x)) lo b rv mv ov { m with ints := x } ∧ Below lo w (w.setCell ⟨b, 3, none⟩ (.bool x)) := h.set 3 _ rfl rfl rfl rfl
theorem AtP.setWait {w : World} {lo b : Nat} {rv mv ov : Value} {m : Mach} (h : AtP w lo b rv mv ov m) (x : Bool) : AtP (w.setCell ⟨b, 4, none⟩ (.bool x)) lo b rv mv ov { m with wait := x } ∧ Below lo w (w.setCell ⟨b, 4, none⟩ (.bool x)) := h.set 4 _ rfl rfl rfl rfl
theorem AtP.setTab {w : World} {lo b : Nat} {rv mv ov : Value} {m : Mach} (h : AtP w lo b rv mv ov m) (x : Int) : AtP (w.setCell ⟨b, 5, none⟩ (.int .i64 x)) lo b rv mv ov { m with table := x } ∧ Below lo w (w.setCell ⟨b, 5, none⟩ (.int .i64 x)) := h.set 5 _ rfl rfl rfl rfl
theorem AtP.setCount {w : World} {lo b : Nat} {rv mv ov : Value} {m : Mach} (h : AtP w lo b rv mv ov m) (x : Int) : AtP (w.setCell ⟨b, 6, none⟩ (.int .i64 x)) lo b rv mv ov { m with count := x } ∧ Below lo w (w.setCell ⟨b, 6, none⟩ (.int .i64 x)) := h.set 6 _ rfl rfl rfl rfl
theorem AtP.setReady {w : World} {lo b : Nat} {rv mv ov : Value} {m : Mach} (h : AtP w lo b rv mv ov m) (x : Int) : AtP (w.setCell ⟨b, 10, none⟩ (.int .i64 x)) lo b rv mv ov { m with ready := x } ∧ Below lo w (w.setCell ⟨b, 10, none⟩ (.int .i64 x)) := h.set 10 _ rfl rfl rfl rfl
theorem AtP.setWant {w : World} {lo b : Nat} {rv mv ov : Value} {m : Mach} (h : AtP w lo b rv mv ov m) (x : Int) : AtP (w.setCell ⟨b, 11, none⟩ (.int .i64 x)) lo b rv mv ov { m with want := x } ∧ Below lo w (w.setCell ⟨b, 11, none⟩ (.int .i64 x)) := h.set 11 _ rfl rfl rfl rfl
theorem AtP.putReg {w : World} {lo b g n c : Nat} {mv ov : Value} {m : Mach} (h : AtP w lo b (.slice (some ⟨g, 0, none⟩) n c) mv ov m) (i : Nat) (x : Int) :
    AtP (w.setCell ⟨g, i, none⟩ (.int .i64 x)) lo b (.slice (some ⟨g, 0, none⟩) n c) mv ov { m with regs := m.regs.set i x } ∧ Below lo w (w.setCell ⟨g, i, none⟩ (.int .i64 x)) := by
  have hg := World.ownsRow.lt h.own.regs g rfl
  have hne : g ≠ b := fun e => by
    have := own_ne h.own.regs h.box (by decide)
    subst e
    exact this rfl
  exact ⟨⟨box_other h.box (Ne.symm hne) _, h.own.putReg x, h.le⟩, (Below.refl _ _).setCell (by simpa using hg.1) _⟩
theorem AtP.putMem {w : World} {lo b g n c : Nat} {rv ov : Value} {m : Mach} (h : AtP w lo b rv (.slice (some ⟨g, 0, none⟩) n c) ov m) (i : Nat) (x : Int) :
    AtP (w.setCell ⟨g, i, none⟩ (.int .i64 x)) lo b rv (.slice (some ⟨g, 0, none⟩) n c) ov { m with mem := m.mem.set i x } ∧ Below lo w (w.setCell ⟨g, i, none⟩ (.int .i64 x)) := by
  have hg := World.ownsRow.lt h.own.mem g rfl
  have hne : g ≠ b := fun e => by
    have := own_ne h.own.mem h.box (by decide)
    subst e
    exact this rfl
  exact ⟨⟨box_other h.box (Ne.symm hne) _, h.own.putMem x, h.le⟩, (Below.refl _ _).setCell (by simpa using hg.1) _⟩

theorem AtP.ne_regs {w : World} {lo b g n c : Nat} {mv ov : Value} {m : Mach} (h : AtP w lo b (.slice (some ⟨g, 0, none⟩) n c) mv ov m) : ¬ b = g := fun e => by
  have := own_ne h.own.regs h.box (by decide)
  subst e
  exact this rfl

abbrev ptr (b : Nat) : Value := .pointer (some ⟨b, 0, none⟩)
end Go.Proofs.YtecpblabaelopaaGreatDoor

/- A run of words is put into a guest's memory. -/

namespace Go.Proofs.YtecpblabaelopaaGreatDoor
open Go.RowKit

theorem step_copy_exact {P : Program} {ops : Array Oper} {o : Oper} {a : Act} {w : World} {K : Act → World → Prop} {Q : Exit → Act → World → Prop} {E : Prop} (hgd : o.guard = none) (d s : Operand) (dT sT : TypeId)
    (ho : o.op = .call { callee := .builtin .copy, args := #[d, s], argTypes := #[dT, sT] }) (elem : TypeId) (hu : P.underlying dT = some (.slice elem)) (hsz : (P.info? elem).map (·.size) = some 1)
    (g off dLen dCap : Nat) (ad : Addr) (sLen sCap : Nat) (hd : a.eval d = .slice (some ⟨g, off, none⟩) dLen dCap) (hs : a.eval s = .slice (some ad) sLen sCap)
    (cur : Array Value) (t : TypeId) (hg : w.heap[g]? = some (.cells cur t (0, 0))) (cs : List Value) (hn : cs.length = Nat.min sLen dLen)
    (hsrc : ∀ j v, cs[j]? = some v → w.cell? (ad.add j) = some v) (hfit : off + cs.length ≤ cur.size) (h1 : ∀ v ∈ cs, v.oneCell' = true)
    (h : ∀ w', w' = w.setRow g (cur.toList.take off ++ cs ++ cur.toList.drop (off + cs.length)).toArray → K (a.put o.dst (goInt cs.length)) w') :
    if Region.wanted o (yielded ops a.tmps) = true then Oper.wp P o a w K Q else E := by
  have hw : Region.wanted o (yielded ops a.tmps) = true := by simp [Region.wanted, hgd]
  rw [if_pos hw]
  have hrun := run_copy_row (P := P) w dT sT o.type elem g off dLen dCap ad sLen sCap cur t cs hu hsz hg hn hsrc hfit h1
  unfold Oper.wp
  simp [execOp, ho, resolve, invoke, builtin, hd, hs, hrun, Result.andThen]
  exact h _ (by simp)

theorem three_left {α : Type} (A B C : List α) (j : Nat) (h : j < A.length) : (A ++ B ++ C)[j]? = A[j]? := by
  rw [List.append_assoc, List.getElem?_append_left h]
theorem three_mid {α : Type} (A B C : List α) (j : Nat) (h1 : A.length ≤ j) (h2 : j < A.length + B.length) : (A ++ B ++ C)[j]? = B[j - A.length]? := by
  rw [List.append_assoc, List.getElem?_append_right h1, List.getElem?_append_left (by omega)]
theorem three_right {α : Type} (A B C : List α) (j : Nat) (h : A.length + B.length ≤ j) : (A ++ B ++ C)[j]? = C[j - (A.length + B.length)]? := by
  rw [List.append_assoc, List.getElem?_append_right (by omega), List.getElem?_append_right (by omega), Nat.sub_sub]

theorem AtP.putRun {w : World} {lo b g n c off : Nat} {rv ov : Value} {m : Mach} {blk : List Int} {cur : Array Value} (h : AtP w lo b rv (.slice (some ⟨g, 0, none⟩) n c) ov m) (hcur : w.heap[g]? = some (.cells cur 3 (0, 0))) (hoff : off + blk.length ≤ m.mem.length) :
    AtP (w.setRow g (cur.toList.take off ++ blk.map (Value.int .i64) ++ cur.toList.drop (off + (blk.map (Value.int .i64)).length)).toArray) lo b rv (.slice (some ⟨g, 0, none⟩) n c) ov { m with mem := m.mem.take off ++ blk ++ m.mem.drop (off + blk.length) } ∧
    Below lo w (w.setRow g (cur.toList.take off ++ blk.map (Value.int .i64) ++ cur.toList.drop (off + (blk.map (Value.int .i64)).length)).toArray) := by
  have hg := World.ownsRow.lt h.own.mem g rfl
  have hne : g ≠ b := fun e => by
    have := own_ne h.own.mem h.box (by decide)
    subst e
    exact this rfl
  have hB : Below lo w (w.setRow g (cur.toList.take off ++ blk.map (Value.int .i64) ++ cur.toList.drop (off + (blk.map (Value.int .i64)).length)).toArray) := below_setRow (Below.refl _ _) hg.1 _
  refine ⟨⟨by rw [setRow_other _ _ _ _ (Ne.symm hne)]; exact h.box, ⟨?_, ?_, ?_, h.own.rm, h.own.ro, h.own.mo⟩, h.le⟩, hB⟩
  · obtain ⟨e1, e2⟩ := h.own.regs
    refine ⟨e1, ?_⟩
    rcases e2 with e2 | ⟨g', cap, cu, hv, hlo, hh, r⟩
    · exact Or.inl e2
    · refine Or.inr ⟨g', cap, cu, hv, hlo, ?_, r⟩
      rw [setRow_other _ _ _ _ (fun e => h.own.rm g' (by rw [hv]; rfl) (by rw [e]; rfl))]; exact hh
  · obtain ⟨e1, e2⟩ := h.own.mem
    rcases e2 with ⟨e2, _⟩ | ⟨g', cap, cu, hv, hlo, hh, r1, r2, r3, r4⟩
    · simp at e2
    · simp only [Value.slice.injEq, Option.some.injEq, Addr.mk.injEq] at hv
      obtain ⟨⟨rfl, -, -⟩, hn', rfl⟩ := hv
      rw [hcur] at hh
      simp only [Option.some.injEq, Obj.cells.injEq, and_true] at hh
      subst hh
      have hl : (m.mem.take off ++ blk ++ m.mem.drop (off + blk.length)).length = m.mem.length := by simp; omega
      have hcs : m.mem.length ≤ cur.size := by omega
      refine ⟨by simp only [List.length_map]; omega, Or.inr ⟨g, c, _, by rw [hl, hn'], hlo, setRow_heap w g cur _ _ _ hcur, by show (m.mem.take off ++ blk ++ m.mem.drop (off + blk.length)).length ≤ c; omega, r2, by simp; omega, ?_⟩⟩
      rw [hl]
      simp only [Nat.mul_one] at r4 ⊢
      apply List.ext_getElem?
      intro j
      have hr : ∀ j, j < m.mem.length → cur.toList[j]? = (m.mem.map (Value.int .i64))[j]? := fun j hj => by rw [← r4, List.getElem?_take_of_lt hj]
      by_cases hj : j < m.mem.length
      · rw [List.getElem?_take_of_lt hj]
        have l1 : (cur.toList.take off).length = off := by simp; omega
        have l2 : ((m.mem.take off).map (Value.int .i64)).length = off := by simp; omega
        have l3 : (blk.map (Value.int .i64)).length = blk.length := by simp
        simp only [List.map_append]
        by_cases h1 : j < off
        · rw [three_left _ _ _ _ (by omega), three_left _ _ _ _ (by omega), List.getElem?_take_of_lt h1, hr j hj, List.getElem?_map, List.getElem?_map, List.getElem?_take_of_lt h1]
        · by_cases h2 : j < off + blk.length
          · rw [three_mid _ _ _ _ (by omega) (by omega), three_mid _ _ _ _ (by omega) (by omega), l1, l2]
          · rw [three_right _ _ _ _ (by omega), three_right _ _ _ _ (by omega), l1, l2, l3, List.getElem?_drop, List.getElem?_map, List.getElem?_drop, hr _ (by omega), List.getElem?_map]
      · rw [List.getElem?_eq_none (by simp; omega), List.getElem?_eq_none (by simp; omega)]
  · obtain ⟨e1, e2⟩ := h.own.out
    refine ⟨e1, ?_⟩
    rcases e2 with e2 | ⟨g', cap, cu, hv, hlo, hh, r⟩
    · exact Or.inl e2
    · refine Or.inr ⟨g', cap, cu, hv, hlo, ?_, r⟩
      rw [setRow_other _ _ _ _ (fun e => h.own.mo g rfl (by rw [hv, ← e]; rfl))]; exact hh

end Go.Proofs.YtecpblabaelopaaGreatDoor

/- Contract of cpu.New. -/

namespace Go.Proofs.YtecpblabaelopaaGreatDoor
open Go.RowKit

def newM (l : List Int) : Mach := ⟨List.replicate 8 0, 0, 0, false, false, -1, 0, 0, l ++ List.replicate (256 - l.length) 0, [], 0, -1⟩
def newNo (l : List Int) : Int := if 256 < l.length then 1 else if !allB l then 2 else 0

set_option maxHeartbeats 2000000 in
theorem New_no (v : Value) (l : List Int) (w : World) (h : IntsAt w v l) (hn : newNo l ≠ 0) :
    Calls Tryz.prog 46 #[v] w fun e w' => e = .returned (.tuple #[.agg zeroM, .int .i64 (newNo l)]) ∧ Below w.heap.size w w' := by
  have H : Hid (IntsAt w v l) := h
  obtain ⟨A, c, rfl, hl, hc⟩ := h
  clear hc
  by_cases h1 : 256 < l.length
  · rw [show newNo l = 1 by simp [newNo, h1]]
    have d0 : decide (256 < (l.length : Int)) = true := by simp; omega
    obtain ⟨⟨y0, y1, y2, y3, y4, y5, y6, y7, y8, y9, y10, y11⟩, yf, yl⟩ := twelve_cells (Go.Deep.blk_alloc_new w (.cells zeroM 37))
    clear hn h1
    go_enter Tryz.func46, Tryz.ntmps46
    go_wp2_with fail
    refine bodyPost_ret (v := .tuple #[.agg zeroM, .int .i64 1]) (by simp [results, Tryz.results46, go_sem, y0, y1, y2, y3, y4, y5, y6, y7, y8, y9, y10, y11]) rfl ?_
    exact ⟨rfl, below_alloc _ _⟩
  · have h2 : allB l = false := by
      cases e : allB l with
      | false => rfl
      | true => exact absurd (by simp [newNo, h1, e]) hn
    rw [show newNo l = 2 by simp [newNo, h1, h2]]
    have d0 : decide (256 < (l.length : Int)) = false := by simp; omega
    clear hn h1
    go_enter Tryz.func46, Tryz.ntmps46
    go_wp2_with fail
    refine (haveNoWord_any _ l _ (H.out.below (below_alloc _ _))).mono ?_
    rw [h2]
    rintro e w1 ⟨rfl, hb1⟩
    obtain ⟨⟨y0, y1, y2, y3, y4, y5, y6, y7, y8, y9, y10, y11⟩, yf, yl⟩ := twelve_cells (box_kept hb1)
    have HB : Hid (Below w.heap.size w w1) := (below_alloc _ _).trans (hb1.mono (by simp))
    clear hb1
    go_wp2_with fail
    refine bodyPost_ret (v := .tuple #[.agg zeroM, .int .i64 2]) (by simp [results, Tryz.results46, go_sem, y0, y1, y2, y3, y4, y5, y6, y7, y8, y9, y10, y11]) rfl ?_
    exact ⟨rfl, below_set12 HB.out (Nat.le_refl _) _ _ _ _ _ _ _ _ _ _ _ _⟩

theorem new_three (w : World) (o1 o2 o3 : Obj) : (((w.alloc o1).alloc o2).alloc o3).drew.heap[w.heap.size]? = some o1 ∧ (((w.alloc o1).alloc o2).alloc o3).drew.heap[w.heap.size + 1]? = some o2 ∧ (((w.alloc o1).alloc o2).alloc o3).drew.heap[w.heap.size + 1 + 1]? = some o3 ∧ Below w.heap.size w (((w.alloc o1).alloc o2).alloc o3).drew := by
  refine ⟨?_, ?_, ?_, (((below_alloc _ _).alloc (by simp) _).alloc (by simp; omega) _).drew⟩
  · show (((w.alloc o1).alloc o2).alloc o3).heap[w.heap.size]? = some o1
    rw [Go.Deep.blk_alloc_lt _ _ _ (by simp; omega), Go.Deep.blk_alloc_lt _ _ _ (by simp), Go.Deep.blk_alloc_new]
  · show (((w.alloc o1).alloc o2).alloc o3).heap[w.heap.size + 1]? = some o2
    rw [Go.Deep.blk_alloc_lt _ _ _ (by simp)]
    have := Go.Deep.blk_alloc_new (w.alloc o1) o2
    rwa [show (w.alloc o1).heap.size = w.heap.size + 1 by simp] at this
  · show (((w.alloc o1).alloc o2).alloc o3).heap[w.heap.size + 1 + 1]? = some o3
    have := Go.Deep.blk_alloc_new ((w.alloc o1).alloc o2) o3
    rwa [show ((w.alloc o1).alloc o2).heap.size = w.heap.size + 1 + 1 by simp] at this

def zeroG : Mach := ⟨List.replicate 8 0, 0, 0, false, false, -1, 0, 0, List.replicate 256 0, [], 0, -1⟩
structure NewInv (w wx : World) (b g1 g2 : Nat) : Prop where
  box : wx.heap[b]? = some (.cells (zeroG.cells (.slice (some ⟨g1, 0, none⟩) 8 8) (.slice (some ⟨g2, 0, none⟩) 256 256) (.slice none 0 0)) 37 (0, 0))
  r1 : wx.heap[g1]? = some (.cells (madeCells #[.int .i64 0] 8) 3 (0, 0))
  r2 : wx.heap[g2]? = some (.cells (madeCells #[.int .i64 0] 256) 3 (0, 0))
  lb : w.heap.size ≤ b
  l1 : w.heap.size ≤ g1
  l2 : w.heap.size ≤ g2
  ne : g1 ≠ g2
  old : Below w.heap.size w wx
theorem NewInv.at {w wx : World} {b g1 g2 : Nat} (h : NewInv w wx b g1 g2) : AtP wx w.heap.size b (.slice (some ⟨g1, 0, none⟩) 8 8) (.slice (some ⟨g2, 0, none⟩) 256 256) (.slice none 0 0) zeroG :=
  ⟨h.box, ⟨OwnI.madeZ h.l1 (by unfold maxLen; omega) h.r1, OwnI.madeZ h.l2 (by unfold maxLen; omega) h.r2, World.ownsRow_nil _ _ _ _, fun g e e2 => by simp [Value.ownBlock] at e e2; exact h.ne (e.trans e2.symm), fun g e e2 => by simp [Value.ownBlock] at e2, fun g e e2 => by simp [Value.ownBlock] at e2⟩, h.lb⟩

theorem AtP.image {w : World} {lo b g1 g2 : Nat} {l : List Int} (h : AtP w lo b (.slice (some ⟨g1, 0, none⟩) 8 8) (.slice (some ⟨g2, 0, none⟩) 256 256) (.slice none 0 0) zeroG) (hr : w.heap[g2]? = some (.cells (madeCells #[.int .i64 0] 256) 3 (0, 0))) (hl : l.length ≤ 256) :
    ∀ w', w' = w.setRow g2 ((madeCells #[.int .i64 0] 256).toList.take 0 ++ (l.map (Value.int .i64) ++ (madeCells #[.int .i64 0] 256).toList.drop (0 + (l.map (Value.int .i64)).length))).toArray → AtP w' lo b (.slice (some ⟨g1, 0, none⟩) 8 8) (.slice (some ⟨g2, 0, none⟩) 256 256) (.slice none 0 0) (newM l) ∧ Below lo w w' := fun w' e => by
  have hr' := AtP.putRun (off := 0) (blk := l) h hr (by show 0 + l.length ≤ (List.replicate 256 (0 : Int)).length; rw [List.length_replicate]; omega)
  subst e
  rw [← List.append_assoc]
  have e1 : zeroG.mem.take 0 ++ l ++ zeroG.mem.drop (0 + l.length) = l ++ List.replicate (256 - l.length) 0 := by
    show List.take 0 (List.replicate 256 (0 : Int)) ++ l ++ List.drop (0 + l.length) (List.replicate 256 0) = _
    rw [List.take_zero, List.nil_append, Nat.zero_add, List.drop_replicate]
  have he : ({ zeroG with mem := zeroG.mem.take 0 ++ l ++ zeroG.mem.drop (0 + l.length) } : Mach) = newM l := by rw [e1]; rfl
  rw [he] at hr'
  exact hr'
theorem newM_nil (l : List Int) (h : l.length = 0) : newM l = zeroG := by
  obtain rfl : l = [] := List.eq_nil_of_length_eq_zero h
  rfl

theorem wpList_copy_exact {P : Program} {w : World} {ops : Array Oper} {rest : List Oper} {o : Oper} {a : Act} {Q : Exit → Act → World → Prop} (hgd : o.guard = none) (d s : Operand) (dT sT : TypeId)
    (ho : o.op = .call { callee := .builtin .copy, args := #[d, s], argTypes := #[dT, sT] }) (elem : TypeId) (hu : P.underlying dT = some (.slice elem)) (hsz : (P.info? elem).map (·.size) = some 1)
    (g off dLen dCap : Nat) (ad : Addr) (sLen sCap : Nat) (hd : a.eval d = .slice (some ⟨g, off, none⟩) dLen dCap) (hs : a.eval s = .slice (some ad) sLen sCap)
    (cur : Array Value) (t : TypeId) (hg : w.heap[g]? = some (.cells cur t (0, 0))) (cs : List Value) (hn : cs.length = Nat.min sLen dLen)
    (hsrc : ∀ j v, cs[j]? = some v → w.cell? (ad.add j) = some v) (hfit : off + cs.length ≤ cur.size) (h1 : ∀ v ∈ cs, v.oneCell' = true)
    (h : ∀ w', w' = w.setRow g (cur.toList.take off ++ (cs ++ cur.toList.drop (off + cs.length))).toArray → wpList P ops Q rest (a.put o.dst (goInt cs.length)) w') : wpList P ops Q (o :: rest) a w :=
  wpList_copy_own hgd d s dT sT ho elem hu hsz g off dLen dCap ad sLen sCap hd hs cur t hg cs hn hsrc hfit h1 (h _ rfl)

set_option maxHeartbeats 2000000 in
theorem New_ok (v : Value) (l : List Int) (w : World) (h : IntsAt w v l) (hn : newNo l = 0) :
    Calls Tryz.prog 46 #[v] w fun e w' => ∃ rv' mv' ov', e = .returned (.tuple #[.agg ((newM l).cells rv' mv' ov'), .int .i64 0]) ∧ OwnM w' w.heap.size rv' mv' ov' (newM l) ∧ Below w.heap.size w w' := by
  have H : Hid (IntsAt w v l) := h
  have h1 : ¬ 256 < l.length := fun e => by simp [newNo, e] at hn
  have h2 : allB l = true := by
    cases e : allB l with
    | true => rfl
    | false => simp [newNo, h1, e] at hn
  obtain ⟨A, c, rfl, hl, hc⟩ := h
  have d0 : decide (256 < (l.length : Int)) = false := by simp; omega
  have hm8 : ∀ W : World, (Instr.makeSlice 24 (.int .i64 8) (.int .i64 8)).run Tryz.prog W = .ok (.slice (some ⟨W.heap.size, 0, none⟩) 8 8) (W.alloc (.cells (madeCells #[.int .i64 0] 8) 3)) := fun W => run_make_row' (P := Tryz.prog) 24 3 (.int .i64 0) 8 Tryz.underlying24 infoInt rfl .i64 .i64 8 (by omega) (by omega) W
  have hm256 : ∀ W : World, (Instr.makeSlice 24 (.int .i64 256) (.int .i64 256)).run Tryz.prog W = .ok (.slice (some ⟨W.heap.size, 0, none⟩) 256 256) (W.alloc (.cells (madeCells #[.int .i64 0] 256) 3)) := fun W => run_make_row' (P := Tryz.prog) 24 3 (.int .i64 0) 8 Tryz.underlying24 infoInt rfl .i64 .i64 256 (by omega) (by omega) W
  clear hn h1 hc
  go_enter Tryz.func46, Tryz.ntmps46
  go_wp2_with fail
  refine (haveNoWord_any _ l _ (H.out.below (below_alloc _ _))).mono ?_
  rw [h2]
  rintro e w1 ⟨rfl, hb1⟩
  have HX : Hid (w1.heap[w.heap.size]? = some (.cells zeroM 37 (0, 0)) ∧ Below w.heap.size w w1) := ⟨box_kept hb1, (below_alloc _ _).trans (hb1.mono (by simp))⟩
  clear hb1
  go_upto_region 5 with fail
  go_cut [4, 12, 13] (fun p s1 s2 wx => ∃ b g1 g2, p = .pointer (some ⟨b, 0, none⟩) ∧ s1 = .slice (some ⟨g1, 0, none⟩) 8 8 ∧ s2 = .slice (some ⟨g2, 0, none⟩) 256 256 ∧ NewInv w1 wx b g1 g2)
  case first =>
    go_region
    all_goals
      go_wp2_with fail
      go_meet
      refine ⟨_, _, _, rfl, rfl, rfl, ?_⟩
      refine ⟨?_, ?_, ?_, by omega, by omega, by omega, by omega, (new_three _ _ _ _).2.2.2⟩
      all_goals first
        | exact (new_three _ _ _ _).1
        | exact (new_three _ _ _ _).2.1
        | exact (new_three _ _ _ _).2.2.1
  case rest =>
    obtain ⟨b, g1, g2, rfl, rfl, rfl, hN⟩ := hcut
    have HN : Hid (NewInv w1 wc b g1 g2) := hN
    obtain ⟨⟨z0, z1, z2, z3, z4, z5, z6, z7, z8, z9, z10, z11⟩, zf, zl⟩ := twelve_cells hN.box
    have hsi : (Tryz.prog.info? 3).map (·.size) = some 1 := by kernel_rfl
    obtain ⟨A', c', hA, -, hcell⟩ := H.out
    simp only [Value.slice.injEq] at hA
    obtain ⟨rfl, -, rfl⟩ := hA
    have hbw : Below w.heap.size w wc := HX.out.2.trans (hN.old.mono HX.out.2.size)
    by_cases hl0 : l.length = 0
    · have hy : wc.heap[w.heap.size]? = some (.cells zeroM 37 (0, 0)) := by rw [hN.old.block _ (lt_of_block HX.out.1)]; exact HX.out.1
      obtain ⟨⟨y0, y1, y2, y3, y4, y5, y6, y7, y8, y9, y10, y11⟩, yf, yl⟩ := twelve_cells hy
      have H4 : Hid (OwnM wc w.heap.size (.slice (some ⟨g1, 0, none⟩) 8 8) (.slice (some ⟨g2, 0, none⟩) 256 256) (.slice none 0 0) (newM l) ∧ IsBox wc w.heap.size ∧ Below w.heap.size w wc) := ⟨by rw [newM_nil l hl0]; exact hN.at.own.mono HX.out.2.size, ⟨_, hy⟩, hbw⟩
      simp only [zeroG] at z0 z1 z2 z3 z4 z5 z6 z7 z8 z9 z10 z11
      clear hN hy hbw hcell HN HX d0 h2
      go_wp2_with (refine wpList_copy_nothing rfl (.tmp 16) (.tmp 17) 24 24 rfl 3 Tryz.underlying24 hsi (some ⟨g2, 0, none⟩) A 256 256 l.length c rfl rfl (by rw [hl0]; rfl) ?_)
      refine bodyPost_ret (v := .tuple #[.agg #[.slice (some ⟨g1, 0, none⟩) 8 8, .int .i64 0, .int .i64 0, .bool false, .bool false, .int .i64 (-1), .int .i64 0, .int .i64 0, .slice (some ⟨g2, 0, none⟩) 256 256, .slice none 0 0, .int .i64 0, .int .i64 (-1)], .int .i64 0]) (by simp [results, Tryz.results46, go_sem, y0, y1, y2, y3, y4, y5, y6, y7, y8, y9, y10, y11]) rfl ?_
      exact ⟨.slice (some ⟨g1, 0, none⟩) 8 8, .slice (some ⟨g2, 0, none⟩) 256 256, .slice none 0 0, rfl, H4.out.1.set12 H4.out.2.1 _ _ _ _ _ _ _ _ _ _ _ _, below_set12 H4.out.2.2 (Nat.le_refl _) _ _ _ _ _ _ _ _ _ _ _ _⟩
    · obtain ⟨bb, off, rfl, hbb, hbc⟩ := hcell (by omega)
      have hcopy : ∀ j v, (l.map (Value.int .i64))[j]? = some v → wc.cell? ((⟨bb, off, none⟩ : Addr).add j) = some v := fun j v hv => by
        have hjl : j < l.length := by
          by_cases hh : j < l.length
          · exact hh
          · simp [List.getElem?_eq_none (show l.length ≤ j by omega)] at hv
        rw [Go.WideShapes.add_plain]
        have := (hbw.cell (p := ⟨bb, off + j, none⟩) hbb).trans (hbc j hjl)
        simp [hjl] at hv
        simpa [List.getD, hjl, hv] using this
      have hl256 : l.length ≤ 256 := by simp at d0; omega
      have HC : Hid ((∀ j v, (l.map (Value.int .i64))[j]? = some v → wc.cell? ((⟨bb, off, none⟩ : Addr).add j) = some v) ∧ (l.map (Value.int .i64)).length = Nat.min l.length 256 ∧ 0 + (l.map (Value.int .i64)).length ≤ (madeCells #[Value.int .i64 0] 256).size) :=
        ⟨hcopy, by simp only [List.length_map]; exact (Nat.min_eq_left hl256).symm, by simp only [List.length_map, size_madeCells]; simp; omega⟩
      have HI : Hid (∀ w', w' = wc.setRow g2 ((madeCells #[.int .i64 0] 256).toList.take 0 ++ (l.map (Value.int .i64) ++ (madeCells #[.int .i64 0] 256).toList.drop (0 + (l.map (Value.int .i64)).length))).toArray → w'.heap[b]? = some (.cells ((newM l).cells (.slice (some ⟨g1, 0, none⟩) 8 8) (.slice (some ⟨g2, 0, none⟩) 256 256) (.slice none 0 0)) 37 (0, 0)) ∧ w'.heap[w.heap.size]? = some (.cells zeroM 37 (0, 0)) ∧ OwnM w' w.heap.size (.slice (some ⟨g1, 0, none⟩) 8 8) (.slice (some ⟨g2, 0, none⟩) 256 256) (.slice none 0 0) (newM l) ∧ Below w.heap.size w w') := fun w' e => by
        obtain ⟨a1, a2⟩ := hN.at.image hN.r2 hl256 w' e
        have hB : Below w1.heap.size w1 w' := hN.old.trans a2
        exact ⟨a1.box, by rw [hB.block _ (lt_of_block HX.out.1)]; exact HX.out.1, a1.own.mono HX.out.2.size, HX.out.2.trans (hB.mono HX.out.2.size)⟩
      simp only [zeroG] at z0 z1 z2 z3 z4 z5 z6 z7 z8 z9 z10 z11
      clear hN hbw hcell HX d0 h2 hbc hcopy
      go_wp2_with (refine wpList_copy_exact rfl (.tmp 16) (.tmp 17) 24 24 rfl 3 Tryz.underlying24 hsi g2 0 256 256 ⟨bb, off, none⟩ l.length c rfl rfl (madeCells #[.int .i64 0] 256) 3 HN.out.r2 (l.map (Value.int .i64)) HC.out.2.1 HC.out.1 HC.out.2.2 (ints_oneCell _ _) ?_; intro w4 hw4; obtain ⟨h4, hy, ho4, hb4⟩ := HI.out w4 hw4; have H4 : Hid (OwnM w4 w.heap.size (.slice (some ⟨g1, 0, none⟩) 8 8) (.slice (some ⟨g2, 0, none⟩) 256 256) (.slice none 0 0) (newM l) ∧ IsBox w4 w.heap.size ∧ Below w.heap.size w w4) := ⟨ho4, ⟨_, hy⟩, hb4⟩; obtain ⟨⟨y0, y1, y2, y3, y4, y5, y6, y7, y8, y9, y10, y11⟩, yf, yl⟩ := twelve_cells hy; obtain ⟨⟨x0, x1, x2, x3, x4, x5, x6, x7, x8, x9, x10, x11⟩, xf, xl⟩ := twelve_cells h4; simp only [newM] at x0 x1 x2 x3 x4 x5 x6 x7 x8 x9 x10 x11; clear h4 hy ho4 hb4 hw4 z0 z1 z2 z3 z4 z5 z6 z7 z8 z9 z10 z11 zf zl)
      refine bodyPost_ret (v := .tuple #[.agg #[.slice (some ⟨g1, 0, none⟩) 8 8, .int .i64 0, .int .i64 0, .bool false, .bool false, .int .i64 (-1), .int .i64 0, .int .i64 0, .slice (some ⟨g2, 0, none⟩) 256 256, .slice none 0 0, .int .i64 0, .int .i64 (-1)], .int .i64 0]) (by simp [results, Tryz.results46, go_sem, y0, y1, y2, y3, y4, y5, y6, y7, y8, y9, y10, y11]) rfl ?_
      exact ⟨.slice (some ⟨g1, 0, none⟩) 8 8, .slice (some ⟨g2, 0, none⟩) 256 256, .slice none 0 0, rfl, H4.out.1.set12 H4.out.2.1 _ _ _ _ _ _ _ _ _ _ _ _, below_set12 H4.out.2.2 (Nat.le_refl _) _ _ _ _ _ _ _ _ _ _ _ _⟩

end Go.Proofs.YtecpblabaelopaaGreatDoor
