/- Contract of hourglasskeep.instr: sums. -/
import Derived.Test.YtecpblabaelopaaGreatDoorKWordsPart
import Derived.Test.YtecpblabaelopaaGreatDoorCpuMPart
import Derived.Test.YtecpblabaelopaaGreatDoorStepIPart
import Derived.Test.YtecpblabaelopaaGreatDoorMaySPart
import Derived.Test.YtecpblabaelopaaGreatDoorRawsPart
namespace Go.Proofs.YtecpblabaelopaaGreatDoor
open Go.RowKit
set_option linter.unusedVariables false
attribute [local go_sem ↓] Go.wp_at_zero Go.wp_at_succ

set_option maxRecDepth 100000 in
set_option maxHeartbeats 8000000 in
theorem instr_sum0 (K A B C : Int) (w : World) (hK : (Lit.int .i64 K).wf = true) (hA : (Lit.int .i64 A).wf = true) (hB : (Lit.int .i64 B).wf = true) (hC : (Lit.int .i64 C).wf = true) (h34 : pickF K 24 = 3 ∨ pickF K 24 = 4) (hd8 : pickF (C.tdiv 8) 2 = 0) :
    Calls Tryz.prog 55 #[.agg #[.int .i64 K, .int .i64 A, .int .i64 B, .int .i64 C]] w fun e w' => ∃ op a b n, e = .returned (.agg #[.int .i64 op, .int .i64 a, .int .i64 b, .int .i64 n]) ∧ instrNo op a b n = 0 ∧ Below w.heap.size w w' ∧ (op, a, b, n) = insF (K, A, B, C) := by
  obtain ⟨pa, a0, a5, HEA, HPA⟩ : ∃ x : Int, 0 ≤ x ∧ x < 6 ∧ Hid (x = pickF A 6) ∧ Hid (∀ W, Calls Tryz.prog 16 #[.int .i64 A, .int .i64 6] W fun e w' => e = .returned (.int .i64 x) ∧ w' = W) := ⟨_, (pickF_bd A (m := 6) (by decide)).1, (pickF_bd A (m := 6) (by decide)).2, Eq.refl (pickF A 6), fun W => picked_any A 6 W hA (by decide) (by decide)⟩
  obtain ⟨pb, b0, b5, HEB, HPB⟩ : ∃ x : Int, 0 ≤ x ∧ x < 6 ∧ Hid (x = pickF B 6) ∧ Hid (∀ W, Calls Tryz.prog 16 #[.int .i64 B, .int .i64 6] W fun e w' => e = .returned (.int .i64 x) ∧ w' = W) := ⟨_, (pickF_bd B (m := 6) (by decide)).1, (pickF_bd B (m := 6) (by decide)).2, Eq.refl (pickF B 6), fun W => picked_any B 6 W hB (by decide) (by decide)⟩
  obtain ⟨kk, hkk, k0, k23, HPK⟩ : ∃ x : Int, x = pickF K 24 ∧ 0 ≤ x ∧ x < 24 ∧ Hid (∀ W, Calls Tryz.prog 16 #[.int .i64 K, .int .i64 24] W fun e w' => e = .returned (.int .i64 x) ∧ w' = W) := ⟨_, rfl, (pickF_bd K (m := 24) (by decide)).1, (pickF_bd K (m := 24) (by decide)).2, fun W => picked_any K 24 W hK (by decide) (by decide)⟩
  have HPC : Hid (∀ m : Int, 0 < m → m ≤ 1000000 → ∃ x : Int, x = pickF C m ∧ 0 ≤ x ∧ x < m ∧ ∀ W, Calls Tryz.prog 16 #[.int .i64 C, .int .i64 m] W fun e w' => e = .returned (.int .i64 x) ∧ w' = W) := fun m h0 h1 => ⟨_, rfl, (pickF_bd C h0).1, (pickF_bd C h0).2, fun W => picked_any C m W hC h0 h1⟩
  have HPD : Hid (∃ x : Int, x = pickF (C.tdiv 8) 2 ∧ 0 ≤ x ∧ x < 2 ∧ ∀ W, Calls Tryz.prog 16 #[.int .i64 (C.tdiv 8), .int .i64 2] W fun e w' => e = .returned (.int .i64 x) ∧ w' = W) := by
    have hd := tdiv_sign C 8
    have hb := i64_bd hC
    have hwf : (Lit.int .i64 (C.tdiv 8)).wf = true := by
      have : -9223372036854775808 ≤ C.tdiv 8 ∧ C.tdiv 8 ≤ 9223372036854775807 := by omega
      simpa [Lit.wf, IntKind.min, IntKind.max, IntKind.signed, IntKind.bits] using this
    exact ⟨_, rfl, (pickF_bd _ (m := 2) (by decide)).1, (pickF_bd _ (m := 2) (by decide)).2, fun W => picked_any _ 2 W hwf (by decide) (by decide)⟩
  have hkr : kk = 3 ∨ kk = 4 := by rw [hkk]; exact h34
  have HEK : Hid (kk = pickF K 24) := hkk
  clear hkk h34
  obtain ⟨cb1, cb2⟩ := i64_bd hC
  have hbx := two_boxes (Below.refl (((w.alloc (.cells #[.int .i64 K, .int .i64 A, .int .i64 B, .int .i64 C] 92)).alloc (.cells #[.int .i64 0, .int .i64 0, .int .i64 0, .int .i64 0] 103)).heap.size) ((w.alloc (.cells #[.int .i64 K, .int .i64 A, .int .i64 B, .int .i64 C] 92)).alloc (.cells #[.int .i64 0, .int .i64 0, .int .i64 0, .int .i64 0] 103)))
  obtain ⟨W, hW⟩ : ∃ W, W = (w.alloc (.cells #[.int .i64 K, .int .i64 A, .int .i64 B, .int .i64 C] 92)).alloc (.cells #[.int .i64 0, .int .i64 0, .int .i64 0, .int .i64 0] 103) := ⟨_, rfl⟩
  have hsz : W.heap.size = w.heap.size + 1 + 1 := by rw [hW]; simp
  rw [← hW] at hbx
  have HW : Hid (W = _) := hW
  have HX : Hid (W.heap[w.heap.size]? = some (.cells #[.int .i64 K, .int .i64 A, .int .i64 B, .int .i64 C] 92 (0, 0)) ∧ W.heap[w.heap.size + 1]? = some (.cells #[.int .i64 0, .int .i64 0, .int .i64 0, .int .i64 0] 103 (0, 0)) ∧ Below w.heap.size w W ∧ W.heap.size = w.heap.size + 1 + 1) := ⟨hbx.1, hbx.2.1, hbx.2.2, hsz⟩
  clear hbx hW hK hA hB hC hsz
  go_enter Tryz.func55, Tryz.ntmps55
  go_upto_region 1 with fail
  rw [← HW.out]
  clear HW
  go_cut [3] (fun p wx => ∃ b, p = .pointer (some ⟨b, 0, none⟩) ∧ InsInv w wx b K A B C pa pb)
  case first =>
    obtain ⟨x0, x1, x2, x3, xf, xl⟩ := four_cells HX.out.1
    go_region_held3 (fun w' => w'.cell? ⟨w.heap.size, 1, none⟩ = some (.int .i64 A) ∧ w'.cell? ⟨w.heap.size, 2, none⟩ = some (.int .i64 B)) (go_keep)
      (first
        | (go_at_call_of 16 (Value.int IntKind.i64 A); refine (HPA.out _).mono ?_; rintro e w2 ⟨rfl, rfl⟩)
        | (go_at_call_of 16 (Value.int IntKind.i64 B); refine (HPB.out _).mono ?_; rintro e w2 ⟨rfl, rfl⟩))
    all_goals
      go_wp2_with fail
      go_meet
      exact ⟨_, rfl, insInv_new HX.out⟩
  case rest =>
    obtain ⟨b, rfl, hI⟩ := hcut
    obtain ⟨y0, y1, y2, y3, yf, yl⟩ := four_cells hI.box
    obtain ⟨x0, x1, x2, x3, xf, xl⟩ := four_cells hI.raw
    obtain ⟨r0, r1, r2, r3, rf, rl⟩ := four_cells hI.res
    have n1 : ¬ b = w.heap.size := by have := hI.lt; omega
    have n2 : ¬ b = w.heap.size + 1 := by have := hI.lt; omega
    have n3 : ¬ w.heap.size + 1 = b := by have := hI.lt; omega
    have n4 : ¬ w.heap.size = b := by have := hI.lt; omega
    have hbw : w.heap.size ≤ b := by have := hI.lt; omega
    have HI : Hid (InsInv w wc b K A B C pa pb) := hI
    clear hI HX
    have HIO : Hid (InsOut w wc b 0 pa pb 0) := HI.out.out
    clear HI
    go_upto_block 0 with (first | (go_at_call 16; refine (HPK.out _).mono ?_; rintro e w2 ⟨rfl, hw2⟩; subst w2))
    clear HPK HPA HPB
    go_cut [4, 14] (fun _ _ wx => ∃ op a b' n, InsOut w wx b op a b' n ∧ instrNo op a b' n = 0 ∧ (op, a, b', n) = insF (K, A, B, C))
    case rest =>
      obtain ⟨op, a, b', n, ho, hno, heq⟩ := hcut
      clear y0 y1 y2 y3 yf yl x0 x1 x2 x3 xf xl r0 r1 r2 r3 rf rl
      obtain ⟨y0, y1, y2, y3, yf, yl⟩ := four_cells ho.box
      obtain ⟨r0, r1, r2, r3, rf, rl⟩ := four_cells ho.res
      have HO : Hid (Below w.heap.size w wc ∧ instrNo op a b' n = 0 ∧ (op, a, b', n) = insF (K, A, B, C)) := ⟨ho.old, hno, heq⟩
      clear ho hno heq HIO
      go_wp2_with fail
      refine bodyPost_ret (v := .agg #[.int .i64 op, .int .i64 a, .int .i64 b', .int .i64 n]) (by simp [results, Tryz.results55, go_sem, r0, r1, r2, r3]) rfl ?_
      exact ⟨_, _, _, _, rfl, HO.out.2.1, (((HO.out.1.setCell (by simp) _).setCell (by simp) _).setCell (by simp) _).setCell (by simp) _, HO.out.2.2⟩
    case first =>
      have kq1 : ¬ kk < 3 := by omega
      have kq2 : kk < 5 := by omega
      obtain ⟨cc, hcq, c0, c9, hpc⟩ := HPC.out 6 (by decide) (by decide)
      have HCC : Hid (cc = pickF C 6) := hcq
      clear hcq
      have HPCC : Hid (∀ W, Calls Tryz.prog 16 #[.int .i64 C, .int .i64 6] W fun e w' => e = .returned (.int .i64 cc) ∧ w' = W) := hpc
      clear hpc
      obtain ⟨d, hdd, d0, d1, hpd⟩ := HPD.out
      obtain rfl : d = 0 := by omega
      have HPDD : Hid (∀ W, Calls Tryz.prog 16 #[.int .i64 (C.tdiv 8), .int .i64 2] W fun e w' => e = .returned (.int .i64 0) ∧ w' = W) := hpd
      clear hpd HPC HPD hdd
      have hw8 : IntKind.i64.wrap (C.tdiv 8) = C.tdiv 8 := IntWalk.i64_in _ (by have := tdiv_sign C 8; omega)
      go_wp2_with fail
      go_region_law (first
        | (go_simp; go_at_call_of 16 (Value.int IntKind.i64 C); refine (HPCC.out _).mono ?_; rintro e w2 ⟨rfl, hw2⟩; subst w2)
        | (go_simp; go_at_call_of 16 (Value.int IntKind.i64 (C.tdiv 8)); refine (HPDD.out _).mono ?_; rintro e w2 ⟨rfl, hw2⟩; subst w2))
      all_goals
        go_wp2_with fail
        go_meet
        exact ⟨_, _, _, _, ((HIO.out.put0 _).put3 _).grow ((below_alloc _ _).drew), instrNo_ok (by omega) (by omega) (by omega) (by omega) (by omega) (by omega), (by (show _ = insG (pickF K 24) (pickF A 6) (pickF B 6) C); rw [← HEK.out, ← HEA.out, ← HEB.out]; unfold insG; (repeat (first | rw [if_pos (by omega)] | rw [if_neg (by omega)])); all_goals (first | rfl | (rw [← HCC.out]; done) | (rw [← HCC.out]; rfl) | (simp [← HCC.out]; done) | (simp [← HCC.out]; omega)))⟩

end Go.Proofs.YtecpblabaelopaaGreatDoor

/- Contract of hourglasskeep.instr: differences. -/

namespace Go.Proofs.YtecpblabaelopaaGreatDoor
open Go.RowKit
set_option linter.unusedVariables false
attribute [local go_sem ↓] Go.wp_at_zero Go.wp_at_succ

set_option maxRecDepth 100000 in
set_option maxHeartbeats 8000000 in
theorem instr_sum1 (K A B C : Int) (w : World) (hK : (Lit.int .i64 K).wf = true) (hA : (Lit.int .i64 A).wf = true) (hB : (Lit.int .i64 B).wf = true) (hC : (Lit.int .i64 C).wf = true) (h34 : pickF K 24 = 3 ∨ pickF K 24 = 4) (hd8 : pickF (C.tdiv 8) 2 = 1) :
    Calls Tryz.prog 55 #[.agg #[.int .i64 K, .int .i64 A, .int .i64 B, .int .i64 C]] w fun e w' => ∃ op a b n, e = .returned (.agg #[.int .i64 op, .int .i64 a, .int .i64 b, .int .i64 n]) ∧ instrNo op a b n = 0 ∧ Below w.heap.size w w' ∧ (op, a, b, n) = insF (K, A, B, C) := by
  obtain ⟨pa, a0, a5, HEA, HPA⟩ : ∃ x : Int, 0 ≤ x ∧ x < 6 ∧ Hid (x = pickF A 6) ∧ Hid (∀ W, Calls Tryz.prog 16 #[.int .i64 A, .int .i64 6] W fun e w' => e = .returned (.int .i64 x) ∧ w' = W) := ⟨_, (pickF_bd A (m := 6) (by decide)).1, (pickF_bd A (m := 6) (by decide)).2, Eq.refl (pickF A 6), fun W => picked_any A 6 W hA (by decide) (by decide)⟩
  obtain ⟨pb, b0, b5, HEB, HPB⟩ : ∃ x : Int, 0 ≤ x ∧ x < 6 ∧ Hid (x = pickF B 6) ∧ Hid (∀ W, Calls Tryz.prog 16 #[.int .i64 B, .int .i64 6] W fun e w' => e = .returned (.int .i64 x) ∧ w' = W) := ⟨_, (pickF_bd B (m := 6) (by decide)).1, (pickF_bd B (m := 6) (by decide)).2, Eq.refl (pickF B 6), fun W => picked_any B 6 W hB (by decide) (by decide)⟩
  obtain ⟨kk, hkk, k0, k23, HPK⟩ : ∃ x : Int, x = pickF K 24 ∧ 0 ≤ x ∧ x < 24 ∧ Hid (∀ W, Calls Tryz.prog 16 #[.int .i64 K, .int .i64 24] W fun e w' => e = .returned (.int .i64 x) ∧ w' = W) := ⟨_, rfl, (pickF_bd K (m := 24) (by decide)).1, (pickF_bd K (m := 24) (by decide)).2, fun W => picked_any K 24 W hK (by decide) (by decide)⟩
  have HPC : Hid (∀ m : Int, 0 < m → m ≤ 1000000 → ∃ x : Int, x = pickF C m ∧ 0 ≤ x ∧ x < m ∧ ∀ W, Calls Tryz.prog 16 #[.int .i64 C, .int .i64 m] W fun e w' => e = .returned (.int .i64 x) ∧ w' = W) := fun m h0 h1 => ⟨_, rfl, (pickF_bd C h0).1, (pickF_bd C h0).2, fun W => picked_any C m W hC h0 h1⟩
  have HPD : Hid (∃ x : Int, x = pickF (C.tdiv 8) 2 ∧ 0 ≤ x ∧ x < 2 ∧ ∀ W, Calls Tryz.prog 16 #[.int .i64 (C.tdiv 8), .int .i64 2] W fun e w' => e = .returned (.int .i64 x) ∧ w' = W) := by
    have hd := tdiv_sign C 8
    have hb := i64_bd hC
    have hwf : (Lit.int .i64 (C.tdiv 8)).wf = true := by
      have : -9223372036854775808 ≤ C.tdiv 8 ∧ C.tdiv 8 ≤ 9223372036854775807 := by omega
      simpa [Lit.wf, IntKind.min, IntKind.max, IntKind.signed, IntKind.bits] using this
    exact ⟨_, rfl, (pickF_bd _ (m := 2) (by decide)).1, (pickF_bd _ (m := 2) (by decide)).2, fun W => picked_any _ 2 W hwf (by decide) (by decide)⟩
  have hkr : kk = 3 ∨ kk = 4 := by rw [hkk]; exact h34
  have HEK : Hid (kk = pickF K 24) := hkk
  clear hkk h34
  obtain ⟨cb1, cb2⟩ := i64_bd hC
  have hbx := two_boxes (Below.refl (((w.alloc (.cells #[.int .i64 K, .int .i64 A, .int .i64 B, .int .i64 C] 92)).alloc (.cells #[.int .i64 0, .int .i64 0, .int .i64 0, .int .i64 0] 103)).heap.size) ((w.alloc (.cells #[.int .i64 K, .int .i64 A, .int .i64 B, .int .i64 C] 92)).alloc (.cells #[.int .i64 0, .int .i64 0, .int .i64 0, .int .i64 0] 103)))
  obtain ⟨W, hW⟩ : ∃ W, W = (w.alloc (.cells #[.int .i64 K, .int .i64 A, .int .i64 B, .int .i64 C] 92)).alloc (.cells #[.int .i64 0, .int .i64 0, .int .i64 0, .int .i64 0] 103) := ⟨_, rfl⟩
  have hsz : W.heap.size = w.heap.size + 1 + 1 := by rw [hW]; simp
  rw [← hW] at hbx
  have HW : Hid (W = _) := hW
  have HX : Hid (W.heap[w.heap.size]? = some (.cells #[.int .i64 K, .int .i64 A, .int .i64 B, .int .i64 C] 92 (0, 0)) ∧ W.heap[w.heap.size + 1]? = some (.cells #[.int .i64 0, .int .i64 0, .int .i64 0, .int .i64 0] 103 (0, 0)) ∧ Below w.heap.size w W ∧ W.heap.size = w.heap.size + 1 + 1) := ⟨hbx.1, hbx.2.1, hbx.2.2, hsz⟩
  clear hbx hW hK hA hB hC hsz
  go_enter Tryz.func55, Tryz.ntmps55
  go_upto_region 1 with fail
  rw [← HW.out]
  clear HW
  go_cut [3] (fun p wx => ∃ b, p = .pointer (some ⟨b, 0, none⟩) ∧ InsInv w wx b K A B C pa pb)
  case first =>
    obtain ⟨x0, x1, x2, x3, xf, xl⟩ := four_cells HX.out.1
    go_region_held3 (fun w' => w'.cell? ⟨w.heap.size, 1, none⟩ = some (.int .i64 A) ∧ w'.cell? ⟨w.heap.size, 2, none⟩ = some (.int .i64 B)) (go_keep)
      (first
        | (go_at_call_of 16 (Value.int IntKind.i64 A); refine (HPA.out _).mono ?_; rintro e w2 ⟨rfl, rfl⟩)
        | (go_at_call_of 16 (Value.int IntKind.i64 B); refine (HPB.out _).mono ?_; rintro e w2 ⟨rfl, rfl⟩))
    all_goals
      go_wp2_with fail
      go_meet
      exact ⟨_, rfl, insInv_new HX.out⟩
  case rest =>
    obtain ⟨b, rfl, hI⟩ := hcut
    obtain ⟨y0, y1, y2, y3, yf, yl⟩ := four_cells hI.box
    obtain ⟨x0, x1, x2, x3, xf, xl⟩ := four_cells hI.raw
    obtain ⟨r0, r1, r2, r3, rf, rl⟩ := four_cells hI.res
    have n1 : ¬ b = w.heap.size := by have := hI.lt; omega
    have n2 : ¬ b = w.heap.size + 1 := by have := hI.lt; omega
    have n3 : ¬ w.heap.size + 1 = b := by have := hI.lt; omega
    have n4 : ¬ w.heap.size = b := by have := hI.lt; omega
    have hbw : w.heap.size ≤ b := by have := hI.lt; omega
    have HI : Hid (InsInv w wc b K A B C pa pb) := hI
    clear hI HX
    have HIO : Hid (InsOut w wc b 0 pa pb 0) := HI.out.out
    clear HI
    go_upto_block 0 with (first | (go_at_call 16; refine (HPK.out _).mono ?_; rintro e w2 ⟨rfl, hw2⟩; subst w2))
    clear HPK HPA HPB
    go_cut [4, 14] (fun _ _ wx => ∃ op a b' n, InsOut w wx b op a b' n ∧ instrNo op a b' n = 0 ∧ (op, a, b', n) = insF (K, A, B, C))
    case rest =>
      obtain ⟨op, a, b', n, ho, hno, heq⟩ := hcut
      clear y0 y1 y2 y3 yf yl x0 x1 x2 x3 xf xl r0 r1 r2 r3 rf rl
      obtain ⟨y0, y1, y2, y3, yf, yl⟩ := four_cells ho.box
      obtain ⟨r0, r1, r2, r3, rf, rl⟩ := four_cells ho.res
      have HO : Hid (Below w.heap.size w wc ∧ instrNo op a b' n = 0 ∧ (op, a, b', n) = insF (K, A, B, C)) := ⟨ho.old, hno, heq⟩
      clear ho hno heq HIO
      go_wp2_with fail
      refine bodyPost_ret (v := .agg #[.int .i64 op, .int .i64 a, .int .i64 b', .int .i64 n]) (by simp [results, Tryz.results55, go_sem, r0, r1, r2, r3]) rfl ?_
      exact ⟨_, _, _, _, rfl, HO.out.2.1, (((HO.out.1.setCell (by simp) _).setCell (by simp) _).setCell (by simp) _).setCell (by simp) _, HO.out.2.2⟩
    case first =>
      have kq1 : ¬ kk < 3 := by omega
      have kq2 : kk < 5 := by omega
      obtain ⟨cc, hcq, c0, c9, hpc⟩ := HPC.out 6 (by decide) (by decide)
      have HCC : Hid (cc = pickF C 6) := hcq
      clear hcq
      have HPCC : Hid (∀ W, Calls Tryz.prog 16 #[.int .i64 C, .int .i64 6] W fun e w' => e = .returned (.int .i64 cc) ∧ w' = W) := hpc
      clear hpc
      obtain ⟨d, hdd, d0, d1, hpd⟩ := HPD.out
      obtain rfl : d = 1 := by omega
      have HPDD : Hid (∀ W, Calls Tryz.prog 16 #[.int .i64 (C.tdiv 8), .int .i64 2] W fun e w' => e = .returned (.int .i64 1) ∧ w' = W) := hpd
      clear hpd HPC HPD hdd
      have hw8 : IntKind.i64.wrap (C.tdiv 8) = C.tdiv 8 := IntWalk.i64_in _ (by have := tdiv_sign C 8; omega)
      go_wp2_with fail
      go_region_law (first
        | (go_simp; go_at_call_of 16 (Value.int IntKind.i64 C); refine (HPCC.out _).mono ?_; rintro e w2 ⟨rfl, hw2⟩; subst w2)
        | (go_simp; go_at_call_of 16 (Value.int IntKind.i64 (C.tdiv 8)); refine (HPDD.out _).mono ?_; rintro e w2 ⟨rfl, hw2⟩; subst w2))
      all_goals
        go_wp2_with fail
        go_meet
        exact ⟨_, _, _, _, ((HIO.out.put0 _).put3 _).grow ((below_alloc _ _).drew), instrNo_ok (by omega) (by omega) (by omega) (by omega) (by omega) (by omega), (by (show _ = insG (pickF K 24) (pickF A 6) (pickF B 6) C); rw [← HEK.out, ← HEA.out, ← HEB.out]; unfold insG; (repeat (first | rw [if_pos (by omega)] | rw [if_neg (by omega)])); all_goals (first | rfl | (rw [← HCC.out]; done) | (rw [← HCC.out]; rfl) | (simp [← HCC.out]; done) | (simp [← HCC.out]; omega)))⟩

end Go.Proofs.YtecpblabaelopaaGreatDoor

/- Contract of hourglasskeep.instr: an instruction of a raw thing may be. -/

namespace Go.Proofs.YtecpblabaelopaaGreatDoor
open Go.RowKit

theorem instrF_any (K A B C : Int) (w : World) (hK : (Lit.int .i64 K).wf = true) (hA : (Lit.int .i64 A).wf = true) (hB : (Lit.int .i64 B).wf = true) (hC : (Lit.int .i64 C).wf = true) :
    Calls Tryz.prog 55 #[.agg #[.int .i64 K, .int .i64 A, .int .i64 B, .int .i64 C]] w fun e w' => ∃ op a b n, e = .returned (.agg #[.int .i64 op, .int .i64 a, .int .i64 b, .int .i64 n]) ∧ instrNo op a b n = 0 ∧ Below w.heap.size w w' ∧ (op, a, b, n) = insF (K, A, B, C) := by
  by_cases h1 : pickF K 24 = 3 ∨ pickF K 24 = 4
  · have hb := pickF_bd (C.tdiv 8) (m := 2) (by decide)
    by_cases h2 : pickF (C.tdiv 8) 2 = 0
    · exact instr_sum0 K A B C w hK hA hB hC h1 h2
    · exact instr_sum1 K A B C w hK hA hB hC h1 (by omega)
  · by_cases h2 : pickF K 24 = 13 ∨ pickF K 24 = 14 ∨ pickF K 24 = 15 ∨ pickF K 24 = 19
    · exact instr_slices K A B C w hK hA hB hC h2
    · exact instr_plain K A B C w hK hA hB hC (by omega)
end Go.Proofs.YtecpblabaelopaaGreatDoor

/- Contracts of hourglasskeep.cpuTells and guest: a guest of instructions, with registers. -/

namespace Go.Proofs.YtecpblabaelopaaGreatDoor
open Go.RowKit

end Go.Proofs.YtecpblabaelopaaGreatDoor

/- What the laws over single steps lean on: a step as plain things; instructions in new memory; a guest in a variable. -/

namespace Go.Proofs.YtecpblabaelopaaGreatDoor
open Go.RowKit

def insCells : List Ins → List Value
  | [] => []
  | i :: L => .int .i64 i.1 :: .int .i64 i.2.1 :: .int .i64 i.2.2.1 :: .int .i64 i.2.2.2 :: insCells L
theorem insCells_at (L : List Ins) (j : Nat) (h : j < L.length) : (insCells L)[j * 4]? = some (.int .i64 (L.getD j (0, 0, 0, 0)).1) ∧ (insCells L)[j * 4 + 1]? = some (.int .i64 (L.getD j (0, 0, 0, 0)).2.1) ∧ (insCells L)[j * 4 + 2]? = some (.int .i64 (L.getD j (0, 0, 0, 0)).2.2.1) ∧ (insCells L)[j * 4 + 3]? = some (.int .i64 (L.getD j (0, 0, 0, 0)).2.2.2) := by
  induction L generalizing j with
  | nil => simp at h
  | cons i L ih =>
    cases j with
    | zero => exact ⟨rfl, rfl, rfl, rfl⟩
    | succ j =>
      have := ih j (by simpa using h)
      rw [show (j + 1) * 4 = j * 4 + 1 + 1 + 1 + 1 by omega]
      simpa [insCells, Nat.add_assoc] using this
theorem InsAt.of {w : World} {b c : Nat} {t : TypeId} (L : List Ins) (h : w.heap[b]? = some (.cells (insCells L).toArray t (0, 0))) (hl : L.length ≤ 1000) : InsAt w (.slice (some ⟨b, 0, none⟩) L.length c) L := by
  refine ⟨_, c, rfl, hl, fun _ => ⟨b, 0, rfl, lt_of_block h, fun j hj => ?_⟩⟩
  obtain ⟨c0, c1, c2, c3⟩ := insCells_at L j hj
  simp only [World.cell?, h, Nat.zero_add]
  refine ⟨?_, ?_, ?_, ?_⟩ <;> simpa using ‹_›
theorem IntsAt.of {w : World} {b c : Nat} (l : List Int) (h : w.heap[b]? = some (.cells (l.map (Value.int .i64)).toArray 3 (0, 0))) (hl : l.length ≤ 1000) : IntsAt w (.slice (some ⟨b, 0, none⟩) l.length c) l := by
  refine ⟨_, c, rfl, by omega, fun _ => ⟨b, 0, rfl, lt_of_block h, fun j hj => ?_⟩⟩
  simp only [World.cell?, h, Nat.zero_add]
  simp [hj, List.getD]

end Go.Proofs.YtecpblabaelopaaGreatDoor

/- Contract of hourglasskeep.Image: the words of a program of raw things. -/

namespace Go.Proofs.YtecpblabaelopaaGreatDoor
open Go.RowKit

def imgL : List Ins := [(9, 0, 0, 12), (15, 0, 0, 0), (15, 0, 0, 0), (15, 0, 0, 0), (15, 0, 0, 0), (15, 0, 0, 0), (15, 0, 0, 0), (15, 0, 0, 0), (4, 7, 7, 1), (11, 7, 0, 3), (13, 0, 0, 0), (15, 0, 0, 0), (12, 0, 0, 1)]
theorem insWord_bd (i : Ins) : -1099511627776 ≤ insWord i ∧ insWord i ≤ 1099511627776 := by
  obtain ⟨op, a, b, n⟩ := i
  unfold insWord wordNo
  split
  · rename_i h
    have := instrNo_bd h
    unfold wordF
    simp only at *
    omega
  · omega
theorem OwnI.src {w : World} {lo : Nat} {v : Value} {l : List Int} (h : OwnI w lo v l) (h0 : 0 < l.length) : ∃ g cap, v = .slice (some ⟨g, 0, none⟩) l.length cap ∧ (∀ j u, (l.map (Value.int .i64))[j]? = some u → w.cell? ((⟨g, 0, none⟩ : Addr).add j) = some u) := by
  obtain ⟨g, cap, rfl, hlo, hlt, _, hc, _⟩ := ownsRow_at h h0
  refine ⟨g, cap, rfl, fun j u hu => ?_⟩
  have hjl : j < l.length := by
    by_cases hh : j < l.length
    · exact hh
    · simp [List.getElem?_eq_none (show l.length ≤ j by omega)] at hu
  rw [Go.WideShapes.add_plain, Nat.zero_add, hc j hjl, hu]
theorem ints_one (x : Int) : ∀ u ∈ [x].map (Value.int .i64), u.oneCell' = true := by
  intro u hu
  simp at hu
  subst hu
  rfl

structure ImgI (w wr : World) (o : Value) (k : Nat) (L : List Int) : Prop where
  own : OwnI wr w.heap.size o L
  len : L.length = 13 + k
  word : ∀ x ∈ L, -1099511627776 ≤ x ∧ x ≤ 1099511627776
  old : Below w.heap.size w wr
theorem ImgI.snoc {w wr W w2 : World} {o o' : Value} {k : Nat} {L : List Int} {x : Int} (h : ImgI w wr o k L) (hB : Below wr.heap.size wr W) (hx : -1099511627776 ≤ x ∧ x ≤ 1099511627776) (hg : W.grownBy w2 o.ownBlock) (ho : OwnI w2 w.heap.size o' (L ++ [x])) : ImgI w w2 o' (k + 1) (L ++ [x]) := by
  refine ⟨ho, by simp [h.len]; omega, fun y hy => ?_, ?_⟩
  · rcases List.mem_append.1 hy with hy | hy
    · exact h.word y hy
    · simp at hy
      subst hy
      exact hx
  · exact (h.old.trans (hB.mono h.old.size)).grown hg (Nat.le_trans h.old.size hB.size) (fun g e => (World.ownsRow.lt h.own g e).1)

end Go.Proofs.YtecpblabaelopaaGreatDoor

/- Contract of hourglasskeep.Image, to the word: the words of a program of raw things. -/

namespace Go.Proofs.YtecpblabaelopaaGreatDoor
open Go.RowKit

def imgP (R : List Raw4) (k : Nat) : List Int := imgL.map insWord ++ (R.take k).map fun r => insWord (insF r)
def imageF (R : List Raw4) : List Int := imgP R (min R.length 50) ++ [insWord (9, 0, 0, -((min R.length 50 : Nat) : Int))]
theorem imgP_zero (R : List Raw4) : imgP R 0 = imgL.map insWord := by unfold imgP; simp
theorem imgP_snoc {R : List Raw4} {k : Nat} (h : k < R.length) : imgP R (k + 1) = imgP R k ++ [insWord (insF (R.getD k raw0))] := by
  unfold imgP
  rw [take_snoc4 h, List.map_append, List.append_assoc]
  rfl
theorem imageF_at {R : List Raw4} {k : Nat} (h1 : k ≤ R.length) (h2 : k ≤ 50) (h3 : ¬ (k < R.length ∧ k < 50)) : imageF R = imgP R k ++ [insWord (9, 0, 0, -(k : Int))] := by
  have e : min R.length 50 = k := by omega
  unfold imageF
  rw [e]
theorem imageF_len (R : List Raw4) : (imageF R).length ≤ 64 := by
  unfold imageF imgP
  have h : imgL.length = 13 := rfl
  simp only [List.length_append, List.length_map, List.length_take, List.length_cons, List.length_nil, h]
  omega
theorem imageF_all (R : List Raw4) : allB (imageF R) = true := allB_of fun x hx => by
  unfold imageF imgP at hx
  simp only [List.mem_append, List.mem_map, List.mem_singleton] at hx
  rcases hx with (⟨i, _, rfl⟩ | ⟨i, _, rfl⟩) | rfl
  all_goals exact insWord_bd _
theorem imageF_new (R : List Raw4) : newNo (imageF R) = 0 := by
  have h1 := imageF_len R
  have h2 := imageF_all R
  unfold newNo
  rw [if_neg (by omega), if_neg (by simp [h2])]

set_option maxRecDepth 100000 in
set_option maxHeartbeats 4000000 in
theorem ImageF_any (v : Value) (R : List Raw4) (w : World) (h : RawsL w v R) :
    Calls Tryz.prog 28 #[v] w fun e w' => ∃ v', e = .returned v' ∧ OwnI w' w.heap.size v' (imageF R) ∧ Below w.heap.size w w' := by
  obtain ⟨A, c, rfl, hl, hwf, hc⟩ := h
  have HIF : Hid (∀ k : Nat, k ≤ R.length → k ≤ 50 → ¬ (k < R.length ∧ k < 50) → imageF R = imgP R k ++ [insWord (9, 0, 0, -(k : Int))]) := fun k h1 h2 h3 => imageF_at h1 h2 h3
  have HIM : Hid (∀ k : Nat, k < R.length → imgP R (k + 1) = imgP R k ++ [insWord (insF (R.getD k raw0))]) := fun k hk => imgP_snoc hk
  have HWF : Hid (∀ j, j < R.length → (R.getD j raw0).wf) := hwf
  clear hwf
  obtain ⟨n, hn⟩ : ∃ n, n = R.length := ⟨_, rfl⟩
  rw [← hn] at hl hc HIF HIM HWF ⊢
  clear hn
  obtain ⟨i0, hi, hz0, hz1, hz2⟩ := info_parts infoInt
  go_enter Tryz.func28, Tryz.ntmps28
  go_wp2_with fail
  have hbx := Go.Deep.blk_alloc_new ((w.alloc (.cells #[.int .i64 9, .int .i64 0, .int .i64 0, .int .i64 12] 103)).alloc (.cells #[.int .i64 15, .int .i64 0, .int .i64 0, .int .i64 0] 103)) (.cells (insCells imgL).toArray 103)
  rw [show ((w.alloc (.cells #[.int .i64 9, .int .i64 0, .int .i64 0, .int .i64 12] 103)).alloc (.cells #[.int .i64 15, .int .i64 0, .int .i64 0, .int .i64 0] 103)).heap.size = w.heap.size + 1 + 1 by simp] at hbx
  refine (kwords_any _ imgL _ (InsAt.of imgL hbx (by decide))).mono ?_
  rintro e w1 ⟨v1, rfl, ho1, hb1⟩
  have HI0 : Hid (ImgI w w1 v1 0 (imgL.map insWord)) := by
    refine ⟨ownsRow_mono ho1 (by simp; omega), rfl, fun x hx => ?_, (((below_alloc _ _).alloc (by simp) _).alloc (by simp; omega) _).trans (hb1.mono (by simp; omega))⟩
    obtain ⟨i, _, rfl⟩ := List.mem_map.1 hx
    exact insWord_bd i
  clear ho1 hb1 hbx
  obtain ⟨L0, hL0⟩ : ∃ L, L = imgL.map insWord := ⟨_, rfl⟩
  rw [← hL0] at HI0
  have HL0 : Hid (L0 = imgP R 0) := by rw [hL0]; exact (imgP_zero R).symm
  clear hL0
  go_wp2_with fail
  go_loopw [5, 6] (fun o i wr => ∃ (k : Nat) (L : List Int), k ≤ n ∧ k ≤ 50 ∧ i = .int .i64 k ∧ Hid (L = imgP R k) ∧ Hid (ImgI w wr o k L)) (fun _ i _ => n - (intOf i).toNat)
  case atStart => exact ⟨0, L0, Nat.zero_le _, by omega, rfl, HL0, HI0⟩
  case round =>
    obtain ⟨k, L, hk, hk50, rfl, HL, HI⟩ := hrel
    clear HI0 HL0
    have hLl : L.length ≤ 63 := by have := HI.out.len; omega
    by_cases hlt : k < n ∧ k < 50
    · obtain ⟨hkn, hk5⟩ := hlt
      have hki : (k : Int) < (n : Int) := by omega
      have hki2 : (k : Int) < 50 := by omega
      obtain ⟨b, off, rfl, hbs, hcell⟩ := hc (by omega)
      obtain ⟨r0, r1, r2, r3⟩ := hcell k hkn
      obtain ⟨f0, f1, f2, f3⟩ := HWF.out k hkn
      have HIK : Hid (imgP R (k + 1) = imgP R k ++ [insWord (insF (R.getD k raw0))]) := HIM.out k hkn
      clear HIM HWF
      obtain ⟨r, hr⟩ : ∃ r, r = R.getD k raw0 := ⟨_, rfl⟩
      rw [← hr] at r0 r1 r2 r3 f0 f1 f2 f3 HIK
      clear hr
      obtain ⟨x0, x1, x2, x3⟩ := r
      simp only at r0 r1 r2 r3 f0 f1 f2 f3
      have y0 := (HI.out.old.cell (p := ⟨b, off + k * 4, none⟩) hbs).trans r0
      have y1 := (HI.out.old.cell (p := ⟨b, off + k * 4 + 1, none⟩) hbs).trans r1
      have y2 := (HI.out.old.cell (p := ⟨b, off + k * 4 + 2, none⟩) hbs).trans r2
      have y3 := (HI.out.old.cell (p := ⟨b, off + k * 4 + 3, none⟩) hbs).trans r3
      have HS : Hid (∀ W, Calls Tryz.prog 55 #[.agg #[.int .i64 x0, .int .i64 x1, .int .i64 x2, .int .i64 x3]] W fun e w' => ∃ op a b n, e = .returned (.agg #[.int .i64 op, .int .i64 a, .int .i64 b, .int .i64 n]) ∧ instrNo op a b n = 0 ∧ Below W.heap.size W w' ∧ (op, a, b, n) = insF (x0, x1, x2, x3)) := fun W => instrF_any x0 x1 x2 x3 W f0 f1 f2 f3
      clear r0 r1 r2 r3 f0 f1 f2 f3 hcell hc
      go_wp2_with fail
      refine (HS.out _).mono ?_
      rintro e w1 ⟨op, a, bb, nn, rfl, hno, hb1, heq⟩
      have HQ : Hid (insWord (op, a, bb, nn) = insWord (insF (x0, x1, x2, x3))) := by show _ = _; rw [heq]
      clear heq
      have HB1 : Hid (Below wr.heap.size wr w1) := hb1
      clear hno hb1 HS y0 y1 y2 y3
      go_wp2_with fail
      have hbx := Go.Deep.blk_alloc_new w1 (.cells (insCells [(op, a, bb, nn)]).toArray 103)
      refine (kwords_any _ [(op, a, bb, nn)] _ (InsAt.of [(op, a, bb, nn)] hbx (by simp))).mono ?_
      rintro e w2 ⟨v2, rfl, ho2, hb2⟩
      obtain ⟨g, cap, hv2, hsrc⟩ := ho2.src (by simp)
      subst hv2
      have hB2 : Below wr.heap.size wr w2 := HB1.out.trans (((below_alloc _ _).trans (hb2.mono (by simp))).mono HB1.out.size)
      have HB2 : Hid (Below wr.heap.size wr w2) := hB2
      have HSRC : Hid (∀ j u, ([insWord (op, a, bb, nn)].map (Value.int .i64))[j]? = some u → w2.cell? ((⟨g, 0, none⟩ : Addr).add j) = some u) := hsrc
      have hxb := insWord_bd (op, a, bb, nn)
      have HO2 : Hid (OwnI w2 w.heap.size u5 L) := HI.out.own.below hB2
      have hsz := HI.out.old.size
      have hsz2 := hB2.size
      clear ho2 hb2 hbx hB2 hsrc HB1
      simp only [List.map_cons, List.map_nil] at HSRC ⊢
      obtain ⟨y, hy⟩ : ∃ y, y = insWord (op, a, bb, nn) := ⟨_, rfl⟩
      rw [← hy] at hxb HQ HSRC
      clear hy
      obtain ⟨A5, c5, rfl⟩ := HO2.out.shape
      simp only [List.length_singleton]
      go_wp2_with (first
        | (at_builtin; refine wpList_append_own_at _ rfl _ _ 24 rfl w.heap.size 3 i0 (.int .i64 0) 1 8 Tryz.underlying24 hi hz0 hz1 hz2 rfl (by decide) (.slice A5 L.length c5) L.length (L.map (Value.int .i64)) rfl HO2.out ⟨g, 0, none⟩ 1 cap ([y].map (Value.int .i64)) rfl rfl HSRC.out (ints_one y) ?c3 ?c4 ?c5 ?_))
      case c3 => unfold maxLen; omega
      case c4 => omega
      case c5 => omega
      intro v3 w3 hown hgrow _ _
      have HI3 : Hid (ImgI w w3 v3 (k + 1) (L ++ [y])) := HI.out.snoc HB2.out hxb hgrow (OwnI.snoc (by simpa using hown) rfl)
      clear hown hgrow
      go_wp2_with fail
      have HLN : Hid (L ++ [y] = imgP R (k + 1)) := by show _ = _; rw [HIK.out, HL.out, HQ.out]
      refine ⟨⟨k + 1, _, by omega, by omega, by go_num, HLN, HI3⟩, ?_⟩
      simp [intOf]; omega
    · have HO : Hid (OwnI wr w.heap.size u5 L) := HI.out.own
      have hsz := HI.out.old.size
      obtain ⟨A5, c5, rfl⟩ := HO.out.shape
      have hn0 : (0 : Int) ≤ (n : Int) := by omega
      clear hc
      by_cases h1 : k < n
      · have hki : (k : Int) < (n : Int) := by omega
        have hki2 : ¬ (k : Int) < 50 := by omega
        have hn50 : (50 : Int) ≤ (n : Int) := by omega
        go_wp2_with fail
        have hbx := Go.Deep.blk_alloc_new wr (.cells (insCells [(9, 0, 0, -50)]).toArray 103)
        refine (kwords_any _ [(9, 0, 0, -50)] _ (InsAt.of [(9, 0, 0, -50)] hbx (by simp))).mono ?_
        rintro e w2 ⟨v2, rfl, ho2, hb2⟩
        obtain ⟨g, cap, hv2, hsrc⟩ := ho2.src (by simp)
        subst hv2
        have HB2 : Hid (Below wr.heap.size wr w2) := (below_alloc _ _).trans (hb2.mono (by simp))
        have hxb := insWord_bd (9, 0, 0, -50)
        have HO2 : Hid (OwnI w2 w.heap.size (.slice A5 L.length c5) L) := HO.out.below HB2.out
        have hsz2 := HB2.out.size
        clear ho2 hb2 hbx
        simp only [List.map_cons, List.map_nil, List.length_singleton] at hsrc ⊢
        obtain ⟨y, hy⟩ : ∃ y, y = insWord (9, 0, 0, -50) := ⟨_, rfl⟩
        have HQ : Hid (L ++ [y] = imageF R) := by show _ = _; obtain rfl : k = 50 := (by omega); rw [HIF.out 50 hk hk50 (by omega), HL.out, hy]; rfl
        rw [← hy] at hxb
        simp only [← hy] at hsrc
        have HSRC : Hid (∀ j u, ([y].map (Value.int .i64))[j]? = some u → w2.cell? ((⟨g, 0, none⟩ : Addr).add j) = some u) := hsrc
        clear hsrc hy HO
        go_wp2_with (first
          | (at_builtin; refine wpList_append_own_at _ rfl _ _ 24 rfl w.heap.size 3 i0 (.int .i64 0) 1 8 Tryz.underlying24 hi hz0 hz1 hz2 rfl (by decide) (.slice A5 L.length c5) L.length (L.map (Value.int .i64)) rfl HO2.out ⟨g, 0, none⟩ 1 cap ([y].map (Value.int .i64)) rfl rfl HSRC.out (ints_one y) ?c3 ?c4 ?c5 ?_))
        case c3 => unfold maxLen; omega
        case c4 => omega
        case c5 => omega
        intro v3 w3 hown hgrow _ _
        have HI3 : Hid (ImgI w w3 v3 (k + 1) (L ++ [y])) := HI.out.snoc HB2.out hxb hgrow (OwnI.snoc (by simpa using hown) rfl)
        clear hown hgrow
        go_wp2_with fail
        go_ret
        exact ⟨v3, rfl, by rw [← HQ.out]; exact HI3.out.own, HI3.out.old⟩
      · have hki : ¬ (k : Int) < (n : Int) := by omega
        have hn50 : (n : Int) ≤ 50 := by omega
        go_wp2_with fail
        have hbx := Go.Deep.blk_alloc_new wr (.cells (insCells [(9, 0, 0, -(n : Int))]).toArray 103)
        refine (kwords_any _ [(9, 0, 0, -(n : Int))] _ (InsAt.of [(9, 0, 0, -(n : Int))] hbx (by simp))).mono ?_
        rintro e w2 ⟨v2, rfl, ho2, hb2⟩
        obtain ⟨g, cap, hv2, hsrc⟩ := ho2.src (by simp)
        subst hv2
        have HB2 : Hid (Below wr.heap.size wr w2) := (below_alloc _ _).trans (hb2.mono (by simp))
        have hxb := insWord_bd (9, 0, 0, -(n : Int))
        have HO2 : Hid (OwnI w2 w.heap.size (.slice A5 L.length c5) L) := HO.out.below HB2.out
        have hsz2 := HB2.out.size
        clear ho2 hb2 hbx
        simp only [List.map_cons, List.map_nil, List.length_singleton] at hsrc ⊢
        obtain ⟨y, hy⟩ : ∃ y, y = insWord (9, 0, 0, -(n : Int)) := ⟨_, rfl⟩
        have HQ : Hid (L ++ [y] = imageF R) := by show _ = _; obtain rfl : k = n := (by omega); rw [HIF.out k hk hk50 (by omega), HL.out, hy]
        rw [← hy] at hxb
        simp only [← hy] at hsrc
        have HSRC : Hid (∀ j u, ([y].map (Value.int .i64))[j]? = some u → w2.cell? ((⟨g, 0, none⟩ : Addr).add j) = some u) := hsrc
        clear hsrc hy HO
        go_wp2_with (first
          | (at_builtin; refine wpList_append_own_at _ rfl _ _ 24 rfl w.heap.size 3 i0 (.int .i64 0) 1 8 Tryz.underlying24 hi hz0 hz1 hz2 rfl (by decide) (.slice A5 L.length c5) L.length (L.map (Value.int .i64)) rfl HO2.out ⟨g, 0, none⟩ 1 cap ([y].map (Value.int .i64)) rfl rfl HSRC.out (ints_one y) ?c3 ?c4 ?c5 ?_))
        case c3 => unfold maxLen; omega
        case c4 => omega
        case c5 => omega
        intro v3 w3 hown hgrow _ _
        have HI3 : Hid (ImgI w w3 v3 (k + 1) (L ++ [y])) := HI.out.snoc HB2.out hxb hgrow (OwnI.snoc (by simpa using hown) rfl)
        clear hown hgrow
        go_wp2_with fail
        go_ret
        exact ⟨v3, rfl, by rw [← HQ.out]; exact HI3.out.own, HI3.out.old⟩

end Go.Proofs.YtecpblabaelopaaGreatDoor
