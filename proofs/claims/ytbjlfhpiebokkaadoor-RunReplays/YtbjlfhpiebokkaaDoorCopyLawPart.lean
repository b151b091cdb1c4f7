/- Laws on copying numbers into new memory. -/
import Derived.Test.YtbjlfhpiebokkaaDoorInfoPart
import Derived.Laws.CopyOwn
import Derived.Deep.OwnRows
import Derived.Test.YtbjlfhpiebokkaaDoorCloPart
namespace Go.Proofs.YtbjlfhpiebokkaaDoor
open Go.RowKit

theorem infoInts : (Tryd.prog.info? 22).map (fun i => (i.zero, i.size, i.bytes)) = some (some (.slice none 0 0), 1, 24) := by kernel_rfl

theorem splice_all (l : List Int) (n : Nat) (h : n = l.length) : splice (madeCells #[Value.int .i64 0] n).toList 0 (l.map (Value.int .i64)) = l.map (Value.int .i64) := by
  subst h
  simp [splice, size_madeCells]

theorem OwnI.made {w : World} {l : List Int} {lo g : Nat} (hlo : lo ≤ g) (hl : l.length * 8 ≤ 140737488351232) (h : w.heap[g]? = some (.cells (l.map (Value.int .i64)).toArray 3 (0, 0))) : OwnI w lo (.slice (some ⟨g, 0, none⟩) l.length l.length) l :=
  ⟨by simp, Or.inr ⟨g, l.length, _, rfl, hlo, h, Nat.le_refl _, by unfold maxLen; omega, by simp, by simp [List.take_of_length_le]⟩⟩

theorem copy_src {w : World} {l : List Int} {A : Option Addr} {g : Nat} (o : Obj)
    (hc : 0 < l.length → ∃ b off, A = some ⟨b, off, none⟩ ∧ b < w.heap.size ∧ ∀ j, j < l.length → w.cell? ⟨b, off + j, none⟩ = some (.int .i64 (l.getD j 0))) :
    0 < (l.map (Value.int .i64)).length → (some ⟨g, 0, none⟩ : Option Addr) = some ⟨g, 0, none⟩ ∧ ∃ ad, A = some ad ∧ ∀ j v, (l.map (Value.int .i64))[j]? = some v → (w.alloc o).cell? (ad.add j) = some v := by
  intro h0
  obtain ⟨b, off, rfl, hb, hj⟩ := hc (by simpa using h0)
  refine ⟨rfl, _, rfl, fun j v hv => ?_⟩
  have hjl : j < l.length := by
    by_cases h : j < l.length
    · exact h
    · simp [List.getElem?_eq_none (show l.length ≤ j by omega)] at hv
  rw [Go.WideShapes.add_plain]
  rw [(below_alloc w o).cell (p := ⟨b, off + j, none⟩) hb, hj j hjl]
  simp [hjl] at hv
  simp [List.getD, hjl, hv]

theorem made_at (w : World) (n : Nat) : (w.alloc (.cells (madeCells #[Value.int .i64 0] n) 3)).heap[w.heap.size]? = some (.cells (madeCells #[Value.int .i64 0] n).toList.toArray 3 (0, 0)) := by
  rw [Go.Deep.blk_alloc_new]

end Go.Proofs.YtbjlfhpiebokkaaDoor

/- Contract of cpu.CheckMachine. -/

namespace Go.Proofs.YtbjlfhpiebokkaaDoor
open Go.RowKit
set_option linter.unusedVariables false

def mayNoM (m : Mach) : Int := if m.may then 0 else 8

theorem ints_two {w : World} (x y : Int) : IntsAt (w.alloc (.cells #[.int .i64 x, .int .i64 y] 3)) (.slice (some ⟨w.heap.size, 0, none⟩) 2 2) [x, y] := by
  have hb := Go.Deep.blk_alloc_new w (.cells #[.int .i64 x, .int .i64 y] 3)
  obtain ⟨h0, h1, -, -⟩ := two_cells hb
  refine ⟨_, _, rfl, by simp, fun _ => ⟨w.heap.size, 0, rfl, by simp, fun j hj => ?_⟩⟩
  rcases j with _ | _ | j
  · exact h0
  · exact h1
  · simp at hj; omega

theorem box_below {w W w1 : World} {b : Nat} {o : Obj} (hx : W.heap[b]? = some o) (hb : Below w.heap.size w W) (h1 : Below W.heap.size W w1) : w1.heap[b]? = some o ∧ Below w.heap.size w w1 :=
  ⟨by rw [h1.block _ (lt_of_block hx)]; exact hx, hb.trans (h1.mono hb.size)⟩

set_option maxHeartbeats 4000000 in
theorem CheckMachine_no (m : Mach) (rv mv ov : Value) (w : World) (ha : MachAt w rv mv ov m) :
    Calls Tryd.prog 18 #[.agg (m.cells rv mv ov)] w fun e w' => e = .returned (.int .i64 (mayNoM m)) ∧ Below w.heap.size w w' := by
  have H1 : Hid (IntsAt w rv m.regs) := ha.regs
  have H2 : Hid (IntsAt w mv m.mem) := ha.mem
  have H3 : Hid (IntsAt w ov m.out) := ha.out
  obtain ⟨A1, c1, A2, c2, A3, c3, rfl, rfl, rfl⟩ := ha.shape
  clear ha
  obtain ⟨N, hN⟩ : ∃ N, N = mayNoM m := ⟨_, rfl⟩
  have HN : Hid (N = mayNoM m) := hN
  rw [← hN]
  clear hN
  obtain ⟨regs, pc, back, ints, wait, table, count, fin, mem, out, ready, want⟩ := m
  simp only [Mach.cells] at *
  have hx : (w.alloc (.cells #[.slice A1 regs.length c1, .int .i64 pc, .int .i64 back, .bool ints, .bool wait, .int .i64 table, .int .i64 count, .int .i64 fin, .slice A2 mem.length c2, .slice A3 out.length c3, .int .i64 ready, .int .i64 want] 30)).heap[w.heap.size]? = some (.cells #[.slice A1 regs.length c1, .int .i64 pc, .int .i64 back, .bool ints, .bool wait, .int .i64 table, .int .i64 count, .int .i64 fin, .slice A2 mem.length c2, .slice A3 out.length c3, .int .i64 ready, .int .i64 want] 30 (0, 0)) := Go.Deep.blk_alloc_new _ _
  have hb0 : Below w.heap.size w (w.alloc (.cells #[.slice A1 regs.length c1, .int .i64 pc, .int .i64 back, .bool ints, .bool wait, .int .i64 table, .int .i64 count, .int .i64 fin, .slice A2 mem.length c2, .slice A3 out.length c3, .int .i64 ready, .int .i64 want] 30)) := below_alloc _ _
  obtain ⟨W, hW⟩ : ∃ W, W = w.alloc (.cells #[.slice A1 regs.length c1, .int .i64 pc, .int .i64 back, .bool ints, .bool wait, .int .i64 table, .int .i64 count, .int .i64 fin, .slice A2 mem.length c2, .slice A3 out.length c3, .int .i64 ready, .int .i64 want] 30) := ⟨_, rfl⟩
  rw [← hW] at hx hb0
  have HW : Hid (W = _) := hW
  clear hW
  have HX : Hid (W.heap[w.heap.size]? = some (.cells #[.slice A1 regs.length c1, .int .i64 pc, .int .i64 back, .bool ints, .bool wait, .int .i64 table, .int .i64 count, .int .i64 fin, .slice A2 mem.length c2, .slice A3 out.length c3, .int .i64 ready, .int .i64 want] 30 (0, 0))) := hx
  have HB : Hid (Below w.heap.size w W) := hb0
  clear hx hb0
  go_enter Tryd.func18, Tryd.ntmps18
  go_wp2_with fail
  rw [← HW.out]
  clear HW
  refine (outside_any _ _ _).mono ?_
  rintro e w1 ⟨p1, q1, rfl, hc1, hb1⟩
  have HC : Hid (CloAt w1 p1 q1 (-1) 15) := hc1
  obtain ⟨hx, hb⟩ := box_below HX.out HB.out hb1
  clear HX HB hc1 hb1
  have HX : Hid (w1.heap[w.heap.size]? = some (.cells #[.slice A1 regs.length c1, .int .i64 pc, .int .i64 back, .bool ints, .bool wait, .int .i64 table, .int .i64 count, .int .i64 fin, .slice A2 mem.length c2, .slice A3 out.length c3, .int .i64 ready, .int .i64 want] 30 (0, 0))) := hx
  have HB : Hid (Below w.heap.size w w1) := hb
  obtain ⟨⟨z0, z1, z2, z3, z4, z5, z6, z7, z8, z9, z10, z11⟩, zf, zl⟩ := twelve_cells hx
  clear hx hb
  by_cases g0 : regs.length = 8
  case neg =>
    have d0 : ((regs.length : Int) != 8) = true := by simp; omega
    have G : Hid (¬ regs.length = 8) := g0
    clear g0
    go_wp2_with fail
    go_ret
    exact ⟨ret_int (by rw [HN.out]; simp [mayNoM, Mach.may, G.out]), HB.out⟩
  by_cases g1 : mem.length = 256
  case neg =>
    have d0 : ((regs.length : Int) != 8) = false := by simp [g0]
    have d1 : ((mem.length : Int) != 256) = true := by simp; omega
    have G : Hid (¬ mem.length = 256) := g1
    clear g0 g1
    go_wp2_with fail
    go_ret
    exact ⟨ret_int (by rw [HN.out]; simp [mayNoM, Mach.may, G.out]), HB.out⟩
  by_cases g2 : out.length ≤ 200
  case neg =>
    have d0 : ((regs.length : Int) != 8) = false := by simp [g0]
    have d1 : ((mem.length : Int) != 256) = false := by simp [g1]
    have d2 : decide (200 < (out.length : Int)) = true := by simp; omega
    have G : Hid (¬ out.length ≤ 200) := g2
    clear g0 g1 g2
    go_wp2_with fail
    go_ret
    exact ⟨ret_int (by rw [HN.out]; simp [mayNoM, Mach.may, G.out]), HB.out⟩
  have d0 : ((regs.length : Int) != 8) = false := by simp [g0]
  have d1 : ((mem.length : Int) != 256) = false := by simp [g1]
  have d2 : decide (200 < (out.length : Int)) = false := by simp; omega
  have HM : Hid (mayNoM ⟨regs, pc, back, ints, wait, table, count, fin, mem, out, ready, want⟩ = if (allB regs && allB mem && allB out && wordB pc && wordB back && inB table (-1) 15 && inB count 0 1099511627776 && inB fin 0 4 && inB ready 0 1 && inB want (-1) 15) then 0 else 8) := by show _ = _; simp [mayNoM, Mach.may, g0, g1, g2]
  clear g0 g1 g2
  rw [HM.out] at HN
  clear HM
  go_wp2_with fail
  clear z0 z1 z2 z3 z4 z5 z6 z7 z8 z9 z10 z11 zf zl
  refine (haveNoWord_any (.slice A1 regs.length c1) regs _ (H1.out.below HB.out)).mono ?_
  rintro e w2 ⟨rfl, hbn⟩
  obtain ⟨hx, hb⟩ := box_below HX.out HB.out hbn
  have HC' : Hid (CloAt w2 p1 q1 (-1) 15) := HC.out.below hbn
  clear HX HB HC hbn
  have HC : Hid (CloAt w2 p1 q1 (-1) 15) := HC'.out
  clear HC'
  have HX : Hid (w2.heap[w.heap.size]? = some (.cells #[.slice A1 regs.length c1, .int .i64 pc, .int .i64 back, .bool ints, .bool wait, .int .i64 table, .int .i64 count, .int .i64 fin, .slice A2 mem.length c2, .slice A3 out.length c3, .int .i64 ready, .int .i64 want] 30 (0, 0))) := hx
  have HB : Hid (Below w.heap.size w w2) := hb
  obtain ⟨⟨z0, z1, z2, z3, z4, z5, z6, z7, z8, z9, z10, z11⟩, zf, zl⟩ := twelve_cells hx
  clear hx hb
  cases a1 : allB regs with
  | false =>
    have G : Hid (allB regs = false) := a1
    clear a1
    go_wp2_with fail
    go_ret
    exact ⟨ret_int (by rw [HN.out, G.out]; simp), HB.out⟩
  | true =>
  have Ga1 : Hid (allB regs = true) := a1
  go_wp2_with fail
  clear z0 z1 z2 z3 z4 z5 z6 z7 z8 z9 z10 z11 zf zl
  clear a1
  refine (haveNoWord_any (.slice A2 mem.length c2) mem _ (H2.out.below HB.out)).mono ?_
  rintro e w3 ⟨rfl, hbn⟩
  obtain ⟨hx, hb⟩ := box_below HX.out HB.out hbn
  have HC' : Hid (CloAt w3 p1 q1 (-1) 15) := HC.out.below hbn
  clear HX HB HC hbn
  have HC : Hid (CloAt w3 p1 q1 (-1) 15) := HC'.out
  clear HC'
  have HX : Hid (w3.heap[w.heap.size]? = some (.cells #[.slice A1 regs.length c1, .int .i64 pc, .int .i64 back, .bool ints, .bool wait, .int .i64 table, .int .i64 count, .int .i64 fin, .slice A2 mem.length c2, .slice A3 out.length c3, .int .i64 ready, .int .i64 want] 30 (0, 0))) := hx
  have HB : Hid (Below w.heap.size w w3) := hb
  obtain ⟨⟨z0, z1, z2, z3, z4, z5, z6, z7, z8, z9, z10, z11⟩, zf, zl⟩ := twelve_cells hx
  clear hx hb
  cases a2 : allB mem with
  | false =>
    have G : Hid (allB mem = false) := a2
    clear a2
    go_wp2_with fail
    go_ret
    exact ⟨ret_int (by rw [HN.out, G.out]; simp), HB.out⟩
  | true =>
  have Ga2 : Hid (allB mem = true) := a2
  go_wp2_with fail
  clear z0 z1 z2 z3 z4 z5 z6 z7 z8 z9 z10 z11 zf zl
  clear a2
  refine (haveNoWord_any (.slice A3 out.length c3) out _ (H3.out.below HB.out)).mono ?_
  rintro e w4 ⟨rfl, hbn⟩
  obtain ⟨hx, hb⟩ := box_below HX.out HB.out hbn
  have HC' : Hid (CloAt w4 p1 q1 (-1) 15) := HC.out.below hbn
  clear HX HB HC hbn
  have HC : Hid (CloAt w4 p1 q1 (-1) 15) := HC'.out
  clear HC'
  have HX : Hid (w4.heap[w.heap.size]? = some (.cells #[.slice A1 regs.length c1, .int .i64 pc, .int .i64 back, .bool ints, .bool wait, .int .i64 table, .int .i64 count, .int .i64 fin, .slice A2 mem.length c2, .slice A3 out.length c3, .int .i64 ready, .int .i64 want] 30 (0, 0))) := hx
  have HB : Hid (Below w.heap.size w w4) := hb
  obtain ⟨⟨z0, z1, z2, z3, z4, z5, z6, z7, z8, z9, z10, z11⟩, zf, zl⟩ := twelve_cells hx
  clear hx hb
  cases a3 : allB out with
  | false =>
    have G : Hid (allB out = false) := a3
    clear a3
    go_wp2_with fail
    go_ret
    exact ⟨ret_int (by rw [HN.out, G.out]; simp), HB.out⟩
  | true =>
  have Ga3 : Hid (allB out = true) := a3
  go_wp2_with fail
  clear z0 z1 z2 z3 z4 z5 z6 z7 z8 z9 z10 z11 zf zl
  clear a3
  refine (haveNoWord_any _ [pc, back] _ (ints_two pc back)).mono ?_
  rintro e w5 ⟨rfl, hbm⟩
  have hbn : Below w4.heap.size w4 w5 := (below_alloc _ _).trans (hbm.mono (by simp))
  rw [show allB [pc, back] = (wordB pc && wordB back) by simp [allB]]
  obtain ⟨hx, hb⟩ := box_below HX.out HB.out hbn
  clear hbm
  have HC' : Hid (CloAt w5 p1 q1 (-1) 15) := HC.out.below hbn
  clear HX HB HC hbn
  have HC : Hid (CloAt w5 p1 q1 (-1) 15) := HC'.out
  clear HC'
  have HX : Hid (w5.heap[w.heap.size]? = some (.cells #[.slice A1 regs.length c1, .int .i64 pc, .int .i64 back, .bool ints, .bool wait, .int .i64 table, .int .i64 count, .int .i64 fin, .slice A2 mem.length c2, .slice A3 out.length c3, .int .i64 ready, .int .i64 want] 30 (0, 0))) := hx
  have HB : Hid (Below w.heap.size w w5) := hb
  obtain ⟨⟨z0, z1, z2, z3, z4, z5, z6, z7, z8, z9, z10, z11⟩, zf, zl⟩ := twelve_cells hx
  clear hx hb
  cases a4 : (wordB pc && wordB back) with
  | false =>
    have G : Hid ((wordB pc && wordB back) = false) := a4
    clear a4
    go_wp2_with fail
    go_ret
    exact ⟨ret_int (by
      have hg := G.out
      rw [HN.out]
      cases e1 : wordB pc with
      | false => simp
      | true =>
        cases e2 : wordB back with
        | false => simp
        | true => rw [e1, e2] at hg; exact absurd hg (by decide)), HB.out⟩
  | true =>
  have Ga4 : Hid (wordB pc = true ∧ wordB back = true) := by
    show _ ∧ _
    simpa using a4
  clear a4
  go_wp2_with fail
  refine (clo_any _ (-1) 15 _ _ _ HC.out).mono ?_
  cases a5 : inB table (-1) 15 with
  | false =>
    rintro e w6 ⟨rfl, rfl⟩
    have G : Hid (inB table (-1) 15 = false) := a5
    clear a5
    go_wp2_with fail
    go_ret
    exact ⟨ret_int (by rw [HN.out, G.out]; simp), HB.out⟩
  | true =>
  rintro e w6 ⟨rfl, rfl⟩
  have Ga5 : Hid (inB table (-1) 15 = true) := a5
  clear a5
  go_wp2_with fail
  refine (clo_any _ (-1) 15 _ _ _ HC.out).mono ?_
  cases a6 : inB want (-1) 15 with
  | false =>
    rintro e w6 ⟨rfl, rfl⟩
    have G : Hid (inB want (-1) 15 = false) := a6
    clear a6
    go_wp2_with fail
    go_ret
    exact ⟨ret_int (by rw [HN.out, G.out]; simp), HB.out⟩
  | true =>
  rintro e w6 ⟨rfl, rfl⟩
  have Ga6 : Hid (inB want (-1) 15 = true) := a6
  clear a6 HC
  go_wp2_with fail
  cases a7 : inB count 0 1099511627776 with
  | false =>
    have G : Hid (inB count 0 1099511627776 = false) := a7
    go_region_held3 (fun w' => w'.cell? ⟨w.heap.size, 6, none⟩ = some (.int .i64 count)) (go_keep)
      (first
        | (go_at_call 44; refine (outside_any _ _ _).mono ?_; rintro e w7 ⟨pw7, qw7, rfl, hc, hb⟩; have HCw7 : Hid (CloAt w7 pw7 qw7 0 1099511627776) := hc; have hb' : Below w6.heap.size w6 w7 := ((Below.refl _ w6).drew).trans hb; have HBw7 : Hid (Below w6.heap.size w6 w7) := hb'; have s6 := (hb'.cell (p := ⟨w.heap.size, 6, none⟩) zl).trans z6; clear hc hb hb')
        | (go_at_call 78; refine (clo_any _ 0 1099511627776 _ _ _ HCw7.out).mono ?_; rw [a7]; rintro e w7 ⟨rfl, rfl⟩))
    all_goals
      go_wp2_with fail
      go_ret
      exact ⟨ret_int (by rw [HN.out, G.out]; simp), HB.out.trans (HBw7.out.mono HB.out.size)⟩
  | true =>
  have Ga7 : Hid (inB count 0 1099511627776 = true) := a7
  go_region_held3 (fun w' => w'.cell? ⟨w.heap.size, 6, none⟩ = some (.int .i64 count)) (go_keep)
      (first
        | (go_at_call 44; refine (outside_any _ _ _).mono ?_; rintro e w7 ⟨pw7, qw7, rfl, hc, hb⟩; have HCw7 : Hid (CloAt w7 pw7 qw7 0 1099511627776) := hc; have hb' : Below w6.heap.size w6 w7 := ((Below.refl _ w6).drew).trans hb; have HBw7 : Hid (Below w6.heap.size w6 w7) := hb'; have s6 := (hb'.cell (p := ⟨w.heap.size, 6, none⟩) zl).trans z6; clear hc hb hb')
        | (go_at_call 78; refine (clo_any _ 0 1099511627776 _ _ _ HCw7.out).mono ?_; rw [a7]; rintro e w7 ⟨rfl, rfl⟩))
  clear a7 s6 HCw7
  obtain ⟨hx, hb⟩ := box_below HX.out HB.out HBw7.out
  clear HX HB HBw7
  clear z0 z1 z2 z3 z4 z5 z6 z7 z8 z9 z10 z11 zf zl
  have HX : Hid (w7.heap[w.heap.size]? = some (.cells #[.slice A1 regs.length c1, .int .i64 pc, .int .i64 back, .bool ints, .bool wait, .int .i64 table, .int .i64 count, .int .i64 fin, .slice A2 mem.length c2, .slice A3 out.length c3, .int .i64 ready, .int .i64 want] 30 (0, 0))) := hx
  have HB : Hid (Below w.heap.size w w7) := hb
  obtain ⟨⟨z0, z1, z2, z3, z4, z5, z6, z7, z8, z9, z10, z11⟩, zf, zl⟩ := twelve_cells hx
  clear hx hb
  go_wp2_with fail
  cases a8 : inB fin 0 4 with
  | false =>
    have G : Hid (inB fin 0 4 = false) := a8
    go_region_held3 (fun w' => w'.cell? ⟨w.heap.size, 7, none⟩ = some (.int .i64 fin)) (go_keep)
      (first
        | (go_at_call 44; refine (outside_any _ _ _).mono ?_; rintro e w8 ⟨pw8, qw8, rfl, hc, hb⟩; have HCw8 : Hid (CloAt w8 pw8 qw8 0 4) := hc; have hb' : Below w7.heap.size w7 w8 := ((Below.refl _ w7).drew).trans hb; have HBw8 : Hid (Below w7.heap.size w7 w8) := hb'; have s7 := (hb'.cell (p := ⟨w.heap.size, 7, none⟩) zl).trans z7; clear hc hb hb')
        | (go_at_call 78; refine (clo_any _ 0 4 _ _ _ HCw8.out).mono ?_; rw [a8]; rintro e w8 ⟨rfl, rfl⟩))
    all_goals
      go_wp2_with fail
      go_ret
      exact ⟨ret_int (by rw [HN.out, G.out]; simp), HB.out.trans (HBw8.out.mono HB.out.size)⟩
  | true =>
  have Ga8 : Hid (inB fin 0 4 = true) := a8
  go_region_held3 (fun w' => w'.cell? ⟨w.heap.size, 7, none⟩ = some (.int .i64 fin)) (go_keep)
      (first
        | (go_at_call 44; refine (outside_any _ _ _).mono ?_; rintro e w8 ⟨pw8, qw8, rfl, hc, hb⟩; have HCw8 : Hid (CloAt w8 pw8 qw8 0 4) := hc; have hb' : Below w7.heap.size w7 w8 := ((Below.refl _ w7).drew).trans hb; have HBw8 : Hid (Below w7.heap.size w7 w8) := hb'; have s7 := (hb'.cell (p := ⟨w.heap.size, 7, none⟩) zl).trans z7; clear hc hb hb')
        | (go_at_call 78; refine (clo_any _ 0 4 _ _ _ HCw8.out).mono ?_; rw [a8]; rintro e w8 ⟨rfl, rfl⟩))
  clear a8 s7 HCw8
  obtain ⟨hx, hb⟩ := box_below HX.out HB.out HBw8.out
  clear HX HB HBw8
  clear z0 z1 z2 z3 z4 z5 z6 z7 z8 z9 z10 z11 zf zl
  have HX : Hid (w8.heap[w.heap.size]? = some (.cells #[.slice A1 regs.length c1, .int .i64 pc, .int .i64 back, .bool ints, .bool wait, .int .i64 table, .int .i64 count, .int .i64 fin, .slice A2 mem.length c2, .slice A3 out.length c3, .int .i64 ready, .int .i64 want] 30 (0, 0))) := hx
  have HB : Hid (Below w.heap.size w w8) := hb
  obtain ⟨⟨z0, z1, z2, z3, z4, z5, z6, z7, z8, z9, z10, z11⟩, zf, zl⟩ := twelve_cells hx
  clear hx hb
  go_wp2_with fail
  cases a9 : inB ready 0 1 with
  | false =>
    have G : Hid (inB ready 0 1 = false) := a9
    go_region_held3 (fun w' => w'.cell? ⟨w.heap.size, 10, none⟩ = some (.int .i64 ready)) (go_keep)
      (first
        | (go_at_call 44; refine (outside_any _ _ _).mono ?_; rintro e w9 ⟨pw9, qw9, rfl, hc, hb⟩; have HCw9 : Hid (CloAt w9 pw9 qw9 0 1) := hc; have hb' : Below w8.heap.size w8 w9 := ((Below.refl _ w8).drew).trans hb; have HBw9 : Hid (Below w8.heap.size w8 w9) := hb'; have s10 := (hb'.cell (p := ⟨w.heap.size, 10, none⟩) zl).trans z10; clear hc hb hb')
        | (go_at_call 78; refine (clo_any _ 0 1 _ _ _ HCw9.out).mono ?_; rw [a9]; rintro e w9 ⟨rfl, rfl⟩))
    all_goals
      go_wp2_with fail
      go_ret
      exact ⟨ret_int (by rw [HN.out, G.out]; simp), HB.out.trans (HBw9.out.mono HB.out.size)⟩
  | true =>
  have Ga9 : Hid (inB ready 0 1 = true) := a9
  go_region_held3 (fun w' => w'.cell? ⟨w.heap.size, 10, none⟩ = some (.int .i64 ready)) (go_keep)
      (first
        | (go_at_call 44; refine (outside_any _ _ _).mono ?_; rintro e w9 ⟨pw9, qw9, rfl, hc, hb⟩; have HCw9 : Hid (CloAt w9 pw9 qw9 0 1) := hc; have hb' : Below w8.heap.size w8 w9 := ((Below.refl _ w8).drew).trans hb; have HBw9 : Hid (Below w8.heap.size w8 w9) := hb'; have s10 := (hb'.cell (p := ⟨w.heap.size, 10, none⟩) zl).trans z10; clear hc hb hb')
        | (go_at_call 78; refine (clo_any _ 0 1 _ _ _ HCw9.out).mono ?_; rw [a9]; rintro e w9 ⟨rfl, rfl⟩))
  clear a9 s10 HCw9
  go_wp2_with fail
  go_ret
  exact ⟨ret_int (by rw [HN.out, Ga1.out, Ga2.out, Ga3.out, Ga4.out.1, Ga4.out.2, Ga5.out, Ga6.out, Ga7.out, Ga8.out, Ga9.out]; rfl), HB.out.trans (HBw9.out.mono HB.out.size)⟩

theorem CpuCheckMachine_any (m : Mach) (rv mv ov : Value) (w : World) (ha : MachAt w rv mv ov m) :
    Calls Tryd.prog 18 #[.agg (m.cells rv mv ov)] w fun e w' => e = .returned (.int .i64 (if m.may then 0 else 8)) ∧ Below w.heap.size w w' := CheckMachine_no m rv mv ov w ha

end Go.Proofs.YtbjlfhpiebokkaaDoor
