/- Contract of hourglasskeep.instr: statements without a slice, and the last one. -/
import Derived.Test.YtlcdefpdahjjeaeKIns
namespace Go.Proofs.Ytlcdefpdahjjeae
open Go.RowKit
set_option linter.unusedVariables false

set_option maxRecDepth 100000 in
set_option maxHeartbeats 8000000 in
theorem instr_plain (K A B C : Int) (w : World) (hK : (Lit.int .i64 K).wf = true) (hA : (Lit.int .i64 A).wf = true) (hB : (Lit.int .i64 B).wf = true) (hC : (Lit.int .i64 C).wf = true) (hr : ¬ pickF K 24 = 3 ∧ ¬ pickF K 24 = 4 ∧ ¬ pickF K 24 = 13 ∧ ¬ pickF K 24 = 14 ∧ ¬ pickF K 24 = 15 ∧ ¬ pickF K 24 = 19) :
    Calls Try.prog 20 #[.agg #[.int .i64 K, .int .i64 A, .int .i64 B, .int .i64 C]] w fun e w' => ∃ op a b n, e = .returned (.agg #[.int .i64 op, .int .i64 a, .int .i64 b, .int .i64 n]) ∧ instrNo op a b n = 0 ∧ Below w.heap.size w w' := by
  obtain ⟨pa, a0, a5, HPA⟩ : ∃ x : Int, 0 ≤ x ∧ x < 6 ∧ Hid (∀ W, Calls Try.prog 6 #[.int .i64 A, .int .i64 6] W fun e w' => e = .returned (.int .i64 x) ∧ w' = W) := ⟨_, (pickF_bd A (m := 6) (by decide)).1, (pickF_bd A (m := 6) (by decide)).2, fun W => picked_any A 6 W hA (by decide) (by decide)⟩
  obtain ⟨pb, b0, b5, HPB⟩ : ∃ x : Int, 0 ≤ x ∧ x < 6 ∧ Hid (∀ W, Calls Try.prog 6 #[.int .i64 B, .int .i64 6] W fun e w' => e = .returned (.int .i64 x) ∧ w' = W) := ⟨_, (pickF_bd B (m := 6) (by decide)).1, (pickF_bd B (m := 6) (by decide)).2, fun W => picked_any B 6 W hB (by decide) (by decide)⟩
  obtain ⟨kk, hkk, k0, k23, HPK⟩ : ∃ x : Int, x = pickF K 24 ∧ 0 ≤ x ∧ x < 24 ∧ Hid (∀ W, Calls Try.prog 6 #[.int .i64 K, .int .i64 24] W fun e w' => e = .returned (.int .i64 x) ∧ w' = W) := ⟨_, rfl, (pickF_bd K (m := 24) (by decide)).1, (pickF_bd K (m := 24) (by decide)).2, fun W => picked_any K 24 W hK (by decide) (by decide)⟩
  have HPC : Hid (∀ m : Int, 0 < m → m ≤ 1000000 → ∃ x : Int, 0 ≤ x ∧ x < m ∧ ∀ W, Calls Try.prog 6 #[.int .i64 C, .int .i64 m] W fun e w' => e = .returned (.int .i64 x) ∧ w' = W) := fun m h0 h1 => ⟨_, (pickF_bd C h0).1, (pickF_bd C h0).2, fun W => picked_any C m W hC h0 h1⟩
  have HPD : Hid (∃ x : Int, x = pickF (C.tdiv 8) 2 ∧ 0 ≤ x ∧ x < 2 ∧ ∀ W, Calls Try.prog 6 #[.int .i64 (C.tdiv 8), .int .i64 2] W fun e w' => e = .returned (.int .i64 x) ∧ w' = W) := by
    have hd := tdiv_sign C 8
    have hb := i64_bd hC
    have hwf : (Lit.int .i64 (C.tdiv 8)).wf = true := by
      have : -9223372036854775808 ≤ C.tdiv 8 ∧ C.tdiv 8 ≤ 9223372036854775807 := by omega
      simpa [Lit.wf, IntKind.min, IntKind.max, IntKind.signed, IntKind.bits] using this
    exact ⟨_, rfl, (pickF_bd _ (m := 2) (by decide)).1, (pickF_bd _ (m := 2) (by decide)).2, fun W => picked_any _ 2 W hwf (by decide) (by decide)⟩
  rw [← hkk] at hr
  clear hkk
  obtain ⟨cb1, cb2⟩ := i64_bd hC
  have hbx := two_boxes (Below.refl (((w.alloc (.cells #[.int .i64 K, .int .i64 A, .int .i64 B, .int .i64 C] 53)).alloc (.cells #[.int .i64 0, .int .i64 0, .int .i64 0, .int .i64 0] 24)).heap.size) ((w.alloc (.cells #[.int .i64 K, .int .i64 A, .int .i64 B, .int .i64 C] 53)).alloc (.cells #[.int .i64 0, .int .i64 0, .int .i64 0, .int .i64 0] 24)))
  obtain ⟨W, hW⟩ : ∃ W, W = (w.alloc (.cells #[.int .i64 K, .int .i64 A, .int .i64 B, .int .i64 C] 53)).alloc (.cells #[.int .i64 0, .int .i64 0, .int .i64 0, .int .i64 0] 24) := ⟨_, rfl⟩
  have hsz : W.heap.size = w.heap.size + 1 + 1 := by rw [hW]; simp
  rw [← hW] at hbx
  have HW : Hid (W = _) := hW
  have HX : Hid (W.heap[w.heap.size]? = some (.cells #[.int .i64 K, .int .i64 A, .int .i64 B, .int .i64 C] 53 (0, 0)) ∧ W.heap[w.heap.size + 1]? = some (.cells #[.int .i64 0, .int .i64 0, .int .i64 0, .int .i64 0] 24 (0, 0)) ∧ Below w.heap.size w W ∧ W.heap.size = w.heap.size + 1 + 1) := ⟨hbx.1, hbx.2.1, hbx.2.2, hsz⟩
  clear hbx hW hK hA hB hC hsz
  go_enter Try.func20, Try.ntmps20
  go_upto_region 1 with fail
  rw [← HW.out]
  clear HW
  go_cut [3] (fun p wx => ∃ b, p = .pointer (some ⟨b, 0, none⟩) ∧ InsInv w wx b K A B C pa pb)
  case first =>
    obtain ⟨x0, x1, x2, x3, xf, xl⟩ := four_cells HX.out.1
    go_region_held3 (fun w' => w'.cell? ⟨w.heap.size, 1, none⟩ = some (.int .i64 A) ∧ w'.cell? ⟨w.heap.size, 2, none⟩ = some (.int .i64 B)) (go_keep)
      (first
        | (go_at_call_of 6 (Value.int IntKind.i64 A); refine (HPA.out _).mono ?_; rintro e w2 ⟨rfl, rfl⟩)
        | (go_at_call_of 6 (Value.int IntKind.i64 B); refine (HPB.out _).mono ?_; rintro e w2 ⟨rfl, rfl⟩))
    all_goals
      go_wp2_with fail
      go_meet
      exact ⟨_, rfl, insInv_new HX.out⟩
  case rest =>
    obtain ⟨b, rfl, hI⟩ := hcut
    obtain ⟨y0, y1, y2, y3, yf, yl⟩ := four_cells hI.box
    obtain ⟨x0, x1, x2, x3, xf, xl⟩ := four_cells hI.raw
    obtain ⟨r0, r1, r2, r3, rf, rl⟩ := four_cells hI.res
    have n1 : ¬ b = w.heap.size := by have := hI.lt; omega
    have n2 : ¬ b = w.heap.size + 1 := by have := hI.lt; omega
    have n3 : ¬ w.heap.size + 1 = b := by have := hI.lt; omega
    have n4 : ¬ w.heap.size = b := by have := hI.lt; omega
    have hbw : w.heap.size ≤ b := by have := hI.lt; omega
    have HI : Hid (InsInv w wc b K A B C pa pb) := hI
    clear hI HX
    have HIO : Hid (InsOut w wc b 0 pa pb 0) := HI.out.out
    clear HI
    go_upto_block 0 with (first | (go_at_call 6; refine (HPK.out _).mono ?_; rintro e w2 ⟨rfl, hw2⟩; subst w2))
    clear HPK HPA HPB
    go_cut [4, 14] (fun _ _ wx => ∃ op a b' n, InsOut w wx b op a b' n ∧ instrNo op a b' n = 0)
    case rest =>
      obtain ⟨op, a, b', n, ho, hno⟩ := hcut
      clear y0 y1 y2 y3 yf yl x0 x1 x2 x3 xf xl r0 r1 r2 r3 rf rl
      obtain ⟨y0, y1, y2, y3, yf, yl⟩ := four_cells ho.box
      obtain ⟨r0, r1, r2, r3, rf, rl⟩ := four_cells ho.res
      have HO : Hid (Below w.heap.size w wc ∧ instrNo op a b' n = 0) := ⟨ho.old, hno⟩
      clear ho hno HIO
      go_wp2_with fail
      refine bodyPost_ret (v := .agg #[.int .i64 op, .int .i64 a, .int .i64 b', .int .i64 n]) (by simp [results, Try.results20, go_sem, r0, r1, r2, r3]) rfl ?_
      exact ⟨_, _, _, _, rfl, HO.out.2, (((HO.out.1.setCell (by simp) _).setCell (by simp) _).setCell (by simp) _).setCell (by simp) _⟩
    case first =>
      by_cases k3 : kk < 3
      · obtain ⟨cc, c0, c9, hpc⟩ := HPC.out 60 (by decide) (by decide)
        have HPCC : Hid (∀ W, Calls Try.prog 6 #[.int .i64 C, .int .i64 60] W fun e w' => e = .returned (.int .i64 cc) ∧ w' = W) := hpc
        clear hpc
        go_wp2_with (first | (go_at_call 6; refine (HPCC.out _).mono ?_; rintro e w2 ⟨rfl, hw2⟩; subst w2))
        go_meet
        exact ⟨_, _, _, _, (HIO.out.put0 _).put3 _, instrNo_ok (by omega) (by omega) (by omega) (by omega) (by omega) (by omega)⟩
      have k5 : ¬ kk < 5 := by omega
      by_cases k8 : kk < 8
      · obtain ⟨cc, c0, c9, hpc⟩ := HPC.out 9 (by decide) (by decide)
        have HPCC : Hid (∀ W, Calls Try.prog 6 #[.int .i64 C, .int .i64 9] W fun e w' => e = .returned (.int .i64 cc) ∧ w' = W) := hpc
        clear hpc
        go_wp2_with (first | (go_at_call 6; refine (HPCC.out _).mono ?_; rintro e w2 ⟨rfl, hw2⟩; subst w2))
        go_meet
        exact ⟨_, _, _, _, (HIO.out.put0 _).put3 _, instrNo_ok (by omega) (by omega) (by omega) (by omega) (by omega) (by omega)⟩
      by_cases k11 : kk < 11
      · obtain ⟨cc, c0, c9, hpc⟩ := HPC.out 120 (by decide) (by decide)
        have HPCC : Hid (∀ W, Calls Try.prog 6 #[.int .i64 C, .int .i64 120] W fun e w' => e = .returned (.int .i64 cc) ∧ w' = W) := hpc
        clear hpc
        go_wp2_with (first | (go_at_call 6; refine (HPCC.out _).mono ?_; rintro e w2 ⟨rfl, hw2⟩; subst w2))
        go_meet
        exact ⟨_, _, _, _, ((HIO.out.put0 _).put2 _).put3 _, instrNo_ok (by omega) (by omega) (by omega) (by omega) (by omega) (by omega)⟩
      by_cases k13 : kk < 13
      · obtain ⟨cc, c0, c9, hpc⟩ := HPC.out 120 (by decide) (by decide)
        have HPCC : Hid (∀ W, Calls Try.prog 6 #[.int .i64 C, .int .i64 120] W fun e w' => e = .returned (.int .i64 cc) ∧ w' = W) := hpc
        clear hpc
        go_wp2_with (first | (go_at_call 6; refine (HPCC.out _).mono ?_; rintro e w2 ⟨rfl, hw2⟩; subst w2))
        go_meet
        exact ⟨_, _, _, _, ((HIO.out.put0 _).put2 _).put3 _, instrNo_ok (by omega) (by omega) (by omega) (by omega) (by omega) (by omega)⟩
      have k16 : ¬ kk < 16 := by omega
      by_cases k18 : kk < 18
      · obtain ⟨cc, c0, c9, hpc⟩ := HPC.out 3 (by decide) (by decide)
        have HPCC : Hid (∀ W, Calls Try.prog 6 #[.int .i64 C, .int .i64 3] W fun e w' => e = .returned (.int .i64 cc) ∧ w' = W) := hpc
        clear hpc
        go_wp2_with (first | (go_at_call 6; refine (HPCC.out _).mono ?_; rintro e w2 ⟨rfl, hw2⟩; subst w2))
        go_meet
        exact ⟨_, _, _, _, (HIO.out.put0 _).put3 _, instrNo_ok (by omega) (by omega) (by omega) (by omega) (by omega) (by omega)⟩
      by_cases e18 : kk = 18
      · go_wp2_with fail
        go_meet
        exact ⟨_, _, _, _, (HIO.out.put0 _).put3 _, instrNo_ok (by omega) (by omega) (by omega) (by omega) (by omega) (by omega)⟩
      have e19 : ¬ kk = 19 := by omega
      by_cases e20 : kk = 20
      · obtain ⟨cc, c0, c9, hpc⟩ := HPC.out 3 (by decide) (by decide)
        have HPCC : Hid (∀ W, Calls Try.prog 6 #[.int .i64 C, .int .i64 3] W fun e w' => e = .returned (.int .i64 cc) ∧ w' = W) := hpc
        clear hpc
        go_wp2_with (first | (go_at_call 6; refine (HPCC.out _).mono ?_; rintro e w2 ⟨rfl, hw2⟩; subst w2))
        go_meet
        exact ⟨_, _, _, _, (HIO.out.put0 _).put3 _, instrNo_ok (by omega) (by omega) (by omega) (by omega) (by omega) (by omega)⟩
      by_cases e21 : kk = 21
      · go_wp2_with fail
        go_meet
        exact ⟨_, _, _, _, HIO.out.put0 _, instrNo_ok (by omega) (by omega) (by omega) (by omega) (by omega) (by omega)⟩
      by_cases e22 : kk = 22
      · go_wp2_with fail
        go_meet
        exact ⟨_, _, _, _, (HIO.out.put0 _).put3 _, instrNo_ok (by omega) (by omega) (by omega) (by omega) (by omega) (by omega)⟩
      obtain ⟨cc, c0, c9, hpc⟩ := HPC.out 5 (by decide) (by decide)
      have HPCC : Hid (∀ W, Calls Try.prog 6 #[.int .i64 C, .int .i64 5] W fun e w' => e = .returned (.int .i64 cc) ∧ w' = W) := hpc
      clear hpc
      rcases (by omega : cc = 0 ∨ cc = 1 ∨ cc = 2 ∨ cc = 3 ∨ cc = 4) with rfl | rfl | rfl | rfl | rfl
      all_goals
        go_wp2_with (first | (go_at_call 6; refine (HPCC.out _).mono ?_; rintro e w2 ⟨rfl, hw2⟩; subst w2))
        go_meet
        exact ⟨_, _, _, _, (HIO.out.put0 _).grow (below_alloc _ _), instrNo_ok (by omega) (by omega) (by omega) (by omega) (by omega) (by omega)⟩

end Go.Proofs.Ytlcdefpdahjjeae
