/- The walk of the law CpuNew. -/
import Derived.Test.YtniedmoiklkigacGuestNewOk
import Derived.Test.YtniedmoiklkigacSameM
import Derived.Laws.AppendOwnNone
namespace Go.Proofs.Ytniedmoiklkigac
open Go.RowKit

theorem newM_fits {l : List Int} (h : newNo l = 0) : MachFits (newM l) := by
  have h1 : ¬ 256 < l.length := fun e => by simp [newNo, e] at h
  exact ⟨by simp [newM], by simp [newM]; omega, by simp [newM]⟩
theorem noInts (w : World) : IntsAt w (.slice none 0 0) [] := ⟨none, 0, rfl, by simp, fun h => by simp at h⟩
theorem noMach (w : World) : MachAt w (.slice none 0 0) (.slice none 0 0) (.slice none 0 0) ⟨[], 0, 0, false, false, 0, 0, 0, [], [], 0, 0⟩ := ⟨noInts w, noInts w, noInts w⟩

theorem newM_shape {w : World} {lo : Nat} {rv mv ov : Value} {l : List Int} (hn : newNo l = 0) (h : OwnM w lo rv mv ov (newM l)) : ∃ A c B c' C c'', rv = .slice A 8 c ∧ mv = .slice B 256 c' ∧ ov = .slice C 0 c'' := by
  have h1 : ¬ 256 < l.length := fun e => by simp [newNo, e] at hn
  obtain ⟨A, c, h1'⟩ := h.regs.shape
  obtain ⟨B, c', h2⟩ := h.mem.shape
  obtain ⟨C, c'', h3⟩ := h.out.shape
  have e2 : (newM l).mem.length = 256 := by simp [newM]; omega
  rw [e2] at h2
  exact ⟨A, c, B, c', C, c'', h1', h2, h3⟩

set_option maxRecDepth 20000 in
set_option maxHeartbeats 4000000 in
theorem CpuNew_any (v : Value) (l : List Int) (w : World) (h : IntsAt w v l) (_ : ∀ n ∈ l, (Lit.int .i64 n).wf = true) (hv : v = .slice none 0 0 ∨ ∃ a n c, v = .slice (some a) n c) :
    Calls Try.prog 7 #[v] w fun e w' => e = .returned (.bool true) ∧ Below w.heap.size w w' := by
  have H : Hid (IntsAt w v l) := h
  obtain ⟨i0, hi, hz0, hz1, hz2⟩ := info_parts infoInt
  rcases hv with rfl | ⟨a, n, c, rfl⟩
  · obtain rfl : l = [] := by
      obtain ⟨A, c, e, _, _⟩ := h
      simp at e
      exact List.eq_nil_of_length_eq_zero e.2.1.symm
    clear h
    go_enter Try.func7, Try.ntmps7
    go_wp2_with (first
      | (at_builtin; refine wpList_append_own_none rfl _ _ 32 rfl w.heap.size 3 i0 1 Try.underlying32 hi (.slice none 0 0) 0 [] rfl (World.ownsRow_nil _ _ _ _) rfl ?_))
    have HV : Hid (IntsAt w (.slice none 0 0) [] ∧ Below w.heap.size w w) := ⟨noInts w, Below.refl _ _⟩
    cases hno : (newNo [] == 0) with
    | true =>
      have h0 : newNo [] = 0 := by simpa using hno
      have HF : Hid (∀ W, Below w.heap.size w W → Calls Try.prog 17 #[.slice none 0 0] W fun e w' => ∃ rv mv ov, e = .returned (.tuple #[.agg #[rv, .int .i64 0, .int .i64 0, .bool false, .bool false, .int .i64 (-1), .int .i64 0, .int .i64 0, mv, ov, .int .i64 0, .int .i64 (-1)], .int .i64 0]) ∧ OwnM w' W.heap.size rv mv ov (newM []) ∧ Below W.heap.size W w') := fun W hb => New_ok _ [] W (HV.out.1.below hb) h0
      have HG : Hid (∀ W, Below w.heap.size w W → Calls Try.prog 18 #[.slice none 0 0] W fun e w' => ∃ rv mv ov, e = .returned (.tuple #[.agg #[rv, .int .i64 0, .int .i64 0, .bool false, .bool false, .int .i64 (-1), .int .i64 0, .int .i64 0, mv, ov, .int .i64 0, .int .i64 (-1)], .int .i64 0]) ∧ OwnM w' W.heap.size rv mv ov (newM []) ∧ Below W.heap.size W w') := fun W hb => GuestNew_ok _ [] W (H.out.below hb) h0
      have HS : Hid (∀ W rv mv ov rv' mv' ov', MachAt W rv mv ov (newM []) → MachAt W rv' mv' ov' (newM []) → Calls Try.prog 19 #[.agg #[rv, .int .i64 0, .int .i64 0, .bool false, .bool false, .int .i64 (-1), .int .i64 0, .int .i64 0, mv, ov, .int .i64 0, .int .i64 (-1)], .agg #[rv', .int .i64 0, .int .i64 0, .bool false, .bool false, .int .i64 (-1), .int .i64 0, .int .i64 0, mv', ov', .int .i64 0, .int .i64 (-1)]] W fun e w' => e = .returned (.bool true) ∧ Below W.heap.size W w') := fun W rv mv ov rv' mv' ov' h1 h2 => sameMachine_same (newM []) rv mv ov rv' mv' ov' W h1 h2
      have HT : Hid (MachFits (newM [])) := newM_fits h0
      have HH : Hid (∀ W lo rv mv ov, OwnM W lo rv mv ov (newM []) → ∃ A c B c' C c'', rv = .slice A 8 c ∧ mv = .slice B 256 c' ∧ ov = .slice C 0 c'') := fun W lo rv mv ov h => newM_shape h0 h
      clear hno h0
      refine (HF.out _ (Below.refl _ _)).mono ?_
      rintro e w2 ⟨rv, mv, ov, rfl, ho, hb⟩
      obtain ⟨A1, c1, B1, d1, C1, e1, rfl, rfl, rfl⟩ := HH.out _ _ _ _ _ ho
      have HA : Hid (MachAt w2 (.slice A1 8 c1) (.slice B1 256 d1) (.slice C1 0 e1) (newM []) ∧ Below w.heap.size w w2) := ⟨ho.at HT.out, HV.out.2.trans (hb.mono HV.out.2.size)⟩
      clear ho hb HF HV
      go_wp2_with fail
      refine (HG.out _ (HA.out.2.alloc HA.out.2.size _)).mono ?_
      rintro e w3 ⟨rv', mv', ov', rfl, ho, hb⟩
      obtain ⟨A2, c2, B2, d2, C2, e2, rfl, rfl, rfl⟩ := HH.out _ _ _ _ _ ho
      obtain ⟨⟨z0, z1, z2, z3, z4, z5, z6, z7, z8, z9, z10, z11⟩, zf, zl⟩ := twelve_cells (box_kept hb)
      have HA3 : Hid (MachAt w3 (.slice A1 8 c1) (.slice B1 256 d1) (.slice C1 0 e1) (newM []) ∧ MachAt w3 (.slice A2 8 c2) (.slice B2 256 d2) (.slice C2 0 e2) (newM []) ∧ Below w.heap.size w w3) := ⟨(HA.out.1.below (below_alloc _ _)).below hb, ho.at HT.out, (HA.out.2.alloc HA.out.2.size _).trans (hb.mono (by simp; have := HA.out.2.size; omega))⟩
      have zn : ¬ w2.heap.size = w3.heap.size := by omega
      clear ho hb HG HA HT
      go_wp2_with fail
      refine (HS.out _ _ _ _ _ _ _ (HA3.out.1.below (below_alloc _ _)) (HA3.out.2.1.below (below_alloc _ _))).mono ?_
      rintro e w4 ⟨rfl, hb⟩
      have HB : Hid (Below w.heap.size w w4) := (HA3.out.2.2.alloc HA3.out.2.2.size _).trans (hb.mono (by simp; have := HA3.out.2.2.size; omega))
      clear hb
      go_wp2_with fail
      go_ret
      exact ⟨rfl, HB.out⟩
    | false =>
      have h0 : newNo [] ≠ 0 := by simpa using hno
      have HF : Hid (∀ W, Below w.heap.size w W → Calls Try.prog 17 #[.slice none 0 0] W fun e w' => e = .returned (.tuple #[.agg #[.slice none 0 0, .int .i64 0, .int .i64 0, .bool false, .bool false, .int .i64 0, .int .i64 0, .int .i64 0, .slice none 0 0, .slice none 0 0, .int .i64 0, .int .i64 0], .int .i64 (newNo [])]) ∧ Below W.heap.size W w') := fun W hb => New_no _ [] W (HV.out.1.below hb) h0
      have HG : Hid (∀ W, Below w.heap.size w W → Calls Try.prog 18 #[.slice none 0 0] W fun e w' => e = .returned (.tuple #[.agg #[.slice none 0 0, .int .i64 0, .int .i64 0, .bool false, .bool false, .int .i64 0, .int .i64 0, .int .i64 0, .slice none 0 0, .slice none 0 0, .int .i64 0, .int .i64 0], .int .i64 (newNo [])]) ∧ Below W.heap.size W w') := fun W hb => GuestNew_no _ [] W (H.out.below hb) h0
      have HS : Hid (∀ W, Calls Try.prog 19 #[.agg #[.slice none 0 0, .int .i64 0, .int .i64 0, .bool false, .bool false, .int .i64 0, .int .i64 0, .int .i64 0, .slice none 0 0, .slice none 0 0, .int .i64 0, .int .i64 0], .agg #[.slice none 0 0, .int .i64 0, .int .i64 0, .bool false, .bool false, .int .i64 0, .int .i64 0, .int .i64 0, .slice none 0 0, .slice none 0 0, .int .i64 0, .int .i64 0]] W fun e w' => e = .returned (.bool true) ∧ Below W.heap.size W w') := fun W => sameMachine_same ⟨[], 0, 0, false, false, 0, 0, 0, [], [], 0, 0⟩ _ _ _ _ _ _ W (noMach W) (noMach W)
      clear hno h0
      revert HF HG
      generalize newNo [] = en
      intro HF HG
      refine (HF.out _ (Below.refl _ _)).mono ?_
      rintro e w2 ⟨rfl, hb⟩
      have HA : Hid (Below w.heap.size w w2) := HV.out.2.trans (hb.mono HV.out.2.size)
      clear hb HF HV
      go_wp2_with fail
      refine (HG.out _ (HA.out.alloc HA.out.size _)).mono ?_
      rintro e w3 ⟨rfl, hb⟩
      obtain ⟨⟨z0, z1, z2, z3, z4, z5, z6, z7, z8, z9, z10, z11⟩, zf, zl⟩ := twelve_cells (box_kept hb)
      have HA3 : Hid (Below w.heap.size w w3) := (HA.out.alloc HA.out.size _).trans (hb.mono (by simp; have := HA.out.size; omega))
      have zn : ¬ w2.heap.size = w3.heap.size := by omega
      clear hb HG HA
      go_wp2_with fail
      refine (HS.out _).mono ?_
      rintro e w4 ⟨rfl, hb⟩
      have HB : Hid (Below w.heap.size w w4) := (HA3.out.alloc HA3.out.size _).trans (hb.mono (by simp; have := HA3.out.size; omega))
      clear hb
      go_wp2_with fail
      go_ret
      exact ⟨rfl, HB.out⟩
  · obtain ⟨A, c', e, hl, hc⟩ := h
    simp only [Value.slice.injEq] at e
    obtain ⟨rfl, rfl, rfl⟩ := e
    have HN : Hid (∀ j u, (l.map (Value.int .i64))[j]? = some u → w.cell? (a.add j) = some u) := by
      intro j u hu
      have hjl : j < l.length := by
        by_cases hh : j < l.length
        · exact hh
        · simp [List.getElem?_eq_none (show l.length ≤ j by omega)] at hu
      obtain ⟨b, off, ea, hb, hj⟩ := hc (by omega)
      simp only [Option.some.injEq] at ea
      subst ea
      rw [Go.WideShapes.add_plain, hj j hjl]
      simp [hjl] at hu
      simp [List.getD, hjl, hu]
    clear hc
    go_enter Try.func7, Try.ntmps7
    go_wp2_with (first
      | (at_builtin; refine wpList_append_own_at _ rfl _ _ 32 rfl w.heap.size 3 i0 (.int .i64 0) 1 8 Try.underlying32 hi hz0 hz1 hz2 rfl (by decide) (.slice none 0 0) 0 [] rfl (World.ownsRow_nil _ _ _ _) a l.length c (l.map (Value.int .i64)) rfl (by simp) HN.out (ints_oneCell _ _) (by unfold maxLen; omega) (by omega) (Nat.le_refl _) ?_))
    intro v1 w1 hown hgrow _ _
    have HV : Hid (IntsAt w1 v1 l ∧ Below w.heap.size w w1) := by
      have ho : OwnI w1 w.heap.size v1 l := by
        show w1.ownsRow w.heap.size 3 1 v1 l.length (l.map (Value.int .i64))
        simpa using hown
      exact ⟨ho.at hl, (Below.refl _ w).grown hgrow (Nat.le_refl _) (fun k hk => by simp [Value.ownBlock] at hk)⟩
    clear hown hgrow HN
    go_wp2_with fail
    cases hno : (newNo l == 0) with
    | true =>
      have h0 : newNo l = 0 := by simpa using hno
      have HF : Hid (∀ W, Below w1.heap.size w1 W → Calls Try.prog 17 #[v1] W fun e w' => ∃ rv mv ov, e = .returned (.tuple #[.agg #[rv, .int .i64 0, .int .i64 0, .bool false, .bool false, .int .i64 (-1), .int .i64 0, .int .i64 0, mv, ov, .int .i64 0, .int .i64 (-1)], .int .i64 0]) ∧ OwnM w' W.heap.size rv mv ov (newM l) ∧ Below W.heap.size W w') := fun W hb => New_ok v1 l W (HV.out.1.below hb) h0
      have HG : Hid (∀ W, Below w.heap.size w W → Calls Try.prog 18 #[.slice (some a) l.length c] W fun e w' => ∃ rv mv ov, e = .returned (.tuple #[.agg #[rv, .int .i64 0, .int .i64 0, .bool false, .bool false, .int .i64 (-1), .int .i64 0, .int .i64 0, mv, ov, .int .i64 0, .int .i64 (-1)], .int .i64 0]) ∧ OwnM w' W.heap.size rv mv ov (newM l) ∧ Below W.heap.size W w') := fun W hb => GuestNew_ok _ l W (H.out.below hb) h0
      have HS : Hid (∀ W rv mv ov rv' mv' ov', MachAt W rv mv ov (newM l) → MachAt W rv' mv' ov' (newM l) → Calls Try.prog 19 #[.agg #[rv, .int .i64 0, .int .i64 0, .bool false, .bool false, .int .i64 (-1), .int .i64 0, .int .i64 0, mv, ov, .int .i64 0, .int .i64 (-1)], .agg #[rv', .int .i64 0, .int .i64 0, .bool false, .bool false, .int .i64 (-1), .int .i64 0, .int .i64 0, mv', ov', .int .i64 0, .int .i64 (-1)]] W fun e w' => e = .returned (.bool true) ∧ Below W.heap.size W w') := fun W rv mv ov rv' mv' ov' h1 h2 => sameMachine_same (newM l) rv mv ov rv' mv' ov' W h1 h2
      have HT : Hid (MachFits (newM l)) := newM_fits h0
      have HH : Hid (∀ W lo rv mv ov, OwnM W lo rv mv ov (newM l) → ∃ A c B c' C c'', rv = .slice A 8 c ∧ mv = .slice B 256 c' ∧ ov = .slice C 0 c'') := fun W lo rv mv ov h => newM_shape h0 h
      clear hno h0
      refine (HF.out _ (Below.refl _ _)).mono ?_
      rintro e w2 ⟨rv, mv, ov, rfl, ho, hb⟩
      obtain ⟨A1, c1, B1, d1, C1, e1, rfl, rfl, rfl⟩ := HH.out _ _ _ _ _ ho
      have HA : Hid (MachAt w2 (.slice A1 8 c1) (.slice B1 256 d1) (.slice C1 0 e1) (newM l) ∧ Below w.heap.size w w2) := ⟨ho.at HT.out, HV.out.2.trans (hb.mono HV.out.2.size)⟩
      clear ho hb HF HV
      go_wp2_with fail
      refine (HG.out _ (HA.out.2.alloc HA.out.2.size _)).mono ?_
      rintro e w3 ⟨rv', mv', ov', rfl, ho, hb⟩
      obtain ⟨A2, c2, B2, d2, C2, e2, rfl, rfl, rfl⟩ := HH.out _ _ _ _ _ ho
      obtain ⟨⟨z0, z1, z2, z3, z4, z5, z6, z7, z8, z9, z10, z11⟩, zf, zl⟩ := twelve_cells (box_kept hb)
      have HA3 : Hid (MachAt w3 (.slice A1 8 c1) (.slice B1 256 d1) (.slice C1 0 e1) (newM l) ∧ MachAt w3 (.slice A2 8 c2) (.slice B2 256 d2) (.slice C2 0 e2) (newM l) ∧ Below w.heap.size w w3) := ⟨(HA.out.1.below (below_alloc _ _)).below hb, ho.at HT.out, (HA.out.2.alloc HA.out.2.size _).trans (hb.mono (by simp; have := HA.out.2.size; omega))⟩
      have zn : ¬ w2.heap.size = w3.heap.size := by omega
      clear ho hb HG HA HT
      go_wp2_with fail
      refine (HS.out _ _ _ _ _ _ _ (HA3.out.1.below (below_alloc _ _)) (HA3.out.2.1.below (below_alloc _ _))).mono ?_
      rintro e w4 ⟨rfl, hb⟩
      have HB : Hid (Below w.heap.size w w4) := (HA3.out.2.2.alloc HA3.out.2.2.size _).trans (hb.mono (by simp; have := HA3.out.2.2.size; omega))
      clear hb
      go_wp2_with fail
      go_ret
      exact ⟨rfl, HB.out⟩
    | false =>
      have h0 : newNo l ≠ 0 := by simpa using hno
      have HF : Hid (∀ W, Below w1.heap.size w1 W → Calls Try.prog 17 #[v1] W fun e w' => e = .returned (.tuple #[.agg #[.slice none 0 0, .int .i64 0, .int .i64 0, .bool false, .bool false, .int .i64 0, .int .i64 0, .int .i64 0, .slice none 0 0, .slice none 0 0, .int .i64 0, .int .i64 0], .int .i64 (newNo l)]) ∧ Below W.heap.size W w') := fun W hb => New_no v1 l W (HV.out.1.below hb) h0
      have HG : Hid (∀ W, Below w.heap.size w W → Calls Try.prog 18 #[.slice (some a) l.length c] W fun e w' => e = .returned (.tuple #[.agg #[.slice none 0 0, .int .i64 0, .int .i64 0, .bool false, .bool false, .int .i64 0, .int .i64 0, .int .i64 0, .slice none 0 0, .slice none 0 0, .int .i64 0, .int .i64 0], .int .i64 (newNo l)]) ∧ Below W.heap.size W w') := fun W hb => GuestNew_no _ l W (H.out.below hb) h0
      have HS : Hid (∀ W, Calls Try.prog 19 #[.agg #[.slice none 0 0, .int .i64 0, .int .i64 0, .bool false, .bool false, .int .i64 0, .int .i64 0, .int .i64 0, .slice none 0 0, .slice none 0 0, .int .i64 0, .int .i64 0], .agg #[.slice none 0 0, .int .i64 0, .int .i64 0, .bool false, .bool false, .int .i64 0, .int .i64 0, .int .i64 0, .slice none 0 0, .slice none 0 0, .int .i64 0, .int .i64 0]] W fun e w' => e = .returned (.bool true) ∧ Below W.heap.size W w') := fun W => sameMachine_same ⟨[], 0, 0, false, false, 0, 0, 0, [], [], 0, 0⟩ _ _ _ _ _ _ W (noMach W) (noMach W)
      clear hno h0
      revert HF HG
      generalize newNo l = en
      intro HF HG
      refine (HF.out _ (Below.refl _ _)).mono ?_
      rintro e w2 ⟨rfl, hb⟩
      have HA : Hid (Below w.heap.size w w2) := HV.out.2.trans (hb.mono HV.out.2.size)
      clear hb HF HV
      go_wp2_with fail
      refine (HG.out _ (HA.out.alloc HA.out.size _)).mono ?_
      rintro e w3 ⟨rfl, hb⟩
      obtain ⟨⟨z0, z1, z2, z3, z4, z5, z6, z7, z8, z9, z10, z11⟩, zf, zl⟩ := twelve_cells (box_kept hb)
      have HA3 : Hid (Below w.heap.size w w3) := (HA.out.alloc HA.out.size _).trans (hb.mono (by simp; have := HA.out.size; omega))
      have zn : ¬ w2.heap.size = w3.heap.size := by omega
      clear hb HG HA
      go_wp2_with fail
      refine (HS.out _).mono ?_
      rintro e w4 ⟨rfl, hb⟩
      have HB : Hid (Below w.heap.size w w4) := (HA3.out.alloc HA3.out.size _).trans (hb.mono (by simp; have := HA3.out.size; omega))
      clear hb
      go_wp2_with fail
      go_ret
      exact ⟨rfl, HB.out⟩

end Go.Proofs.Ytniedmoiklkigac
