/- The walk of hourglasskeep.GuestsEnd: a guest that has ended stays as it is. -/
import Derived.Test.YtlcdefpdahjjeaeKImage
import Derived.Test.YtlcdefpdahjjeaeCpuNew
import Derived.Test.YtlcdefpdahjjeaeSlEq
import Derived.Test.YtlcdefpdahjjeaeMadeZ
namespace Go.Proofs.Ytlcdefpdahjjeae
open Go.RowKit

/-- The guest of an image, ended. -/
def endM (L : List Int) (f : Int) : Mach := ⟨List.replicate 8 0, 0, 0, false, false, -1, 0, f, L ++ List.replicate (256 - L.length) 0, [], 0, 3⟩
theorem allB_of {l : List Int} (h : ∀ x ∈ l, -1099511627776 ≤ x ∧ x ≤ 1099511627776) : allB l = true := allB_iff.2 fun i hi => by
  have := h (l.getD i 0) (by simp [List.getD, hi])
  simp only [wordB, inB, decide_eq_true_eq]
  exact this
theorem endM_may {L : List Int} {f : Int} (hl : L.length ≤ 64) (hw : ∀ x ∈ L, -1099511627776 ≤ x ∧ x ≤ 1099511627776) (hf : 1 ≤ f ∧ f ≤ 4) : MayP (endM L f) := by
  refine ⟨by simp [endM], by simp [endM]; omega, by simp [endM], allB_of fun x hx => ?_, allB_of fun x hx => ?_, rfl, rfl, rfl, by simp [endM], by simp [endM], by simp only [endM]; omega, by simp [endM], by simp [endM]⟩
  · simp [endM] at hx
    omega
  · simp only [endM, List.mem_append] at hx
    rcases hx with hx | hx
    · exact hw x hx
    · simp at hx
      omega
theorem endM_step {L : List Int} {f v : Int} {irq : Bool} {blk : List Int} (hf : 1 ≤ f) : (endM L f).step irq blk v = (endM L f, -1) := by
  unfold Mach.step
  rw [if_neg (by simp only [endM]; omega)]

set_option maxRecDepth 100000 in
set_option maxHeartbeats 4000000 in
theorem GuestsEnd_any (v : Value) (n : Nat) (x : Int) (w : World) (h : RawsIn w v n) (hx : (Lit.int .i64 x).wf = true) :
    Calls Try.prog 5 #[v, .int .i64 x] w fun e w' => e = .returned (.bool true) ∧ Below w.heap.size w w' := by
  obtain ⟨p, hp0, hp4, HP⟩ : ∃ p : Int, 0 ≤ p ∧ p < 4 ∧ Hid (∀ W, Calls Try.prog 6 #[.int .i64 x, .int .i64 4] W fun e w' => e = .returned (.int .i64 p) ∧ w' = W) := ⟨_, (pickF_bd x (m := 4) (by decide)).1, (pickF_bd x (m := 4) (by decide)).2, fun W => picked_any x 4 W hx (by decide) (by decide)⟩
  have HM : Hid (Calls Try.prog 13 #[v] w fun e w' => ∃ v' L, e = .returned v' ∧ OwnI w' w.heap.size v' L ∧ L.length ≤ 64 ∧ (∀ x ∈ L, -1099511627776 ≤ x ∧ x ≤ 1099511627776) ∧ Below w.heap.size w w') := Image_any v n w h
  clear h hx
  have hw1 : IntKind.i64.wrap (1 + p) = 1 + p := IntWalk.i64_in _ (by omega)
  have hm16 : ∀ W : World, (Instr.makeSlice 25 (.int .i64 16) (.int .i64 16)).run Try.prog W = .ok (.slice (some ⟨W.heap.size, 0, none⟩) 16 16) (W.alloc (.cells (madeCells #[.int .i64 0] 16) 3)) := fun W => run_make_row' (P := Try.prog) 25 3 (.int .i64 0) 8 Try.underlying25 infoInt rfl .i64 .i64 16 (by omega) (by omega) W
  go_enter Try.func5, Try.ntmps5
  go_wp2_with fail
  refine HM.out.mono ?_
  rintro e w1 ⟨v1, L, rfl, ho1, hl, hwd, hb1⟩
  have HB1 : Hid (Below w.heap.size w w1) := hb1
  have hno : newNo L = 0 := by
    unfold newNo
    rw [if_neg (by omega), allB_of hwd]
    rfl
  have HN : Hid (Calls Try.prog 12 #[v1] w1 fun e w' => ∃ rv mv ov, e = .returned (.tuple #[.agg #[rv, .int .i64 0, .int .i64 0, .bool false, .bool false, .int .i64 (-1), .int .i64 0, .int .i64 0, mv, ov, .int .i64 0, .int .i64 (-1)], .int .i64 0]) ∧ OwnM w' w1.heap.size rv mv ov (newM L) ∧ Below w1.heap.size w1 w') := New_ok v1 L w1 (ho1.at (by omega)) hno
  have HMAY : Hid (MayP (endM L (1 + p))) := endM_may hl hwd (by omega)
  have HL : Hid (L.length ≤ 64) := hl
  obtain ⟨A0, c0, rfl⟩ := ho1.shape
  clear ho1 hb1 hno HM hwd
  go_wp2_with fail
  refine HN.out.mono ?_
  rintro e w2 ⟨rv, mv, ov, rfl, ho2, hb2⟩
  have HB2 : Hid (Below w.heap.size w w2) := HB1.out.trans (hb2.mono HB1.out.size)
  obtain ⟨A1, c1, hr⟩ := ho2.regs.shape
  obtain ⟨B1, d1, hm⟩ := ho2.mem.shape
  obtain ⟨C1, e1, ho⟩ := ho2.out.shape
  have e2 : (newM L).mem.length = 256 := by simp [newM]; omega
  rw [e2] at hm
  have hr' : rv = .slice A1 8 c1 := hr
  have ho' : ov = .slice C1 0 e1 := ho
  subst hr' hm ho'
  have HO : Hid (OwnM w2 w1.heap.size (.slice A1 8 c1) (.slice B1 256 d1) (.slice C1 0 e1) (newM L)) := ho2
  clear hb2 ho2 HN hr ho e2 HB1
  go_wp2_with fail
  refine (HP.out _).mono ?_
  rintro e w3 ⟨rfl, hw3⟩
  subst w3
  go_wp2_with fail
  obtain ⟨W0, hW0⟩ : ∃ W0, W0 = (w2.alloc (.cells #[.slice A1 8 c1, .int .i64 0, .int .i64 0, .bool false, .bool false, .int .i64 (-1), .int .i64 0, .int .i64 (1 + p), .slice B1 256 d1, .slice C1 0 e1, .int .i64 0, .int .i64 3] 27)).alloc (.cells (madeCells #[.int .i64 0] 16) 3) := ⟨_, rfl⟩
  have hbx := two_boxes (Below.refl W0.heap.size W0 |> fun h => by rw [hW0] at h; exact h)
  rw [← hW0] at hbx
  rw [← hW0]
  clear hW0
  have hsz0 := hbx.2.2.size
  have HB0 : Hid (Below w.heap.size w W0) := HB2.out.trans (hbx.2.2.mono HB2.out.size)
  have HBX : Hid (W0.heap[w2.heap.size]? = some (.cells #[.slice A1 8 c1, .int .i64 0, .int .i64 0, .bool false, .bool false, .int .i64 (-1), .int .i64 0, .int .i64 (1 + p), .slice B1 256 d1, .slice C1 0 e1, .int .i64 0, .int .i64 3] 27 (0, 0))) := hbx.1
  have HO0 := HO.out.below hbx.2.2
  have hlen : (newM L).mem.length = 256 := by have := HL.out; simp [newM]; omega
  have HMEM : Hid (IntsAt W0 (.slice B1 256 d1) (newM L).mem) := HO0.mem.at (by omega)
  have HZ : Hid (IntsAt W0 (.slice (some ⟨w2.heap.size + 1, 0, none⟩) 16 16) (List.replicate 16 0)) := (OwnI.madeZ (lo := 0) (n := 16) (Nat.zero_le _) (by unfold maxLen; omega) hbx.2.1).at (by simp)
  have HS : Hid (Calls Try.prog 8 #[.agg #[.slice A1 8 c1, .int .i64 0, .int .i64 0, .bool false, .bool false, .int .i64 (-1), .int .i64 0, .int .i64 (1 + p), .slice B1 256 d1, .slice C1 0 e1, .int .i64 0, .int .i64 3], .bool true, .slice (some ⟨w2.heap.size + 1, 0, none⟩) 16 16, .int .i64 5] W0 fun e w' => ∃ A c B c' C c'', e = .returned (.tuple #[.agg #[.slice A 8 c, .int .i64 0, .int .i64 0, .bool false, .bool false, .int .i64 (-1), .int .i64 0, .int .i64 (1 + p), .slice B 256 c', .slice C 0 c'', .int .i64 0, .int .i64 3], .int .i64 (-1), .int .i64 0]) ∧ IntsAt w' (.slice B 256 c') (newM L).mem ∧ Below W0.heap.size W0 w') := by
    have hno : stepNo (endM L (1 + p)) (List.replicate 16 0) 5 = 0 := by
      have h1 : allB (List.replicate 16 0) = true := by decide
      have h2 : wordB 5 = true := by decide
      have h3 : ((endM L (1 + p)).count == 1099511627776) = false := rfl
      unfold stepNo
      rw [mayP_iff.2 HMAY.out, h1, h2, h3]
      rfl
    have := Step_ok (endM L (1 + p)) (.slice A1 8 c1) (.slice B1 256 d1) (.slice C1 0 e1) true (some ⟨w2.heap.size + 1, 0, none⟩) 16 (List.replicate 16 0) 5 W0 ⟨HO0.regs.at (by simp [newM]), HMEM.out, HO0.out.at (by simp [newM])⟩ HZ.out HMAY.out (by decide) (Or.inr rfl) (by simp [endM]) hno
    rw [endM_step (by omega)] at this
    refine this.mono fun e w' ⟨rv', mv', ov', he, ho, hb⟩ => ?_
    obtain ⟨A, c, B, c', C, c'', h1, h2, h3⟩ := ho.shape
    have e2 : (endM L (1 + p)).mem.length = 256 := hlen
    rw [e2] at h2
    have h1' : rv' = .slice A 8 c := h1
    have h3' : ov' = .slice C 0 c'' := h3
    subst h1' h2 h3'
    exact ⟨A, c, B, c', C, c'', he, ho.mem.at (by rw [e2]; omega), hb⟩
  clear hbx HO HO0 HB2 HMAY HL HZ
  refine HS.out.mono ?_
  rintro e w3 ⟨A, c, B, c', C, c'', rfl, hm3, hb3⟩
  have HM3 : Hid (IntsAt w3 (.slice B 256 c') (newM L).mem) := hm3
  have HM0 : Hid (IntsAt w3 (.slice B1 256 d1) (newM L).mem) := HMEM.out.below hb3
  have HB3 : Hid (Below w.heap.size w w3) := HB0.out.trans (hb3.mono HB0.out.size)
  have hbx3 : w3.heap[w2.heap.size]? = some (.cells #[.slice A1 8 c1, .int .i64 0, .int .i64 0, .bool false, .bool false, .int .i64 (-1), .int .i64 0, .int .i64 (1 + p), .slice B1 256 d1, .slice C1 0 e1, .int .i64 0, .int .i64 3] 27 (0, 0)) := by
    rw [hb3.block _ (lt_of_block HBX.out)]
    exact HBX.out
  obtain ⟨⟨z0, z1, z2, z3, z4, z5, z6, z7, z8, z9, z10, z11⟩, zf, zl⟩ := twelve_cells hbx3
  have zn : ¬ w2.heap.size = w3.heap.size := by omega
  clear hm3 hb3 hbx3 HS HMEM HBX HB0 hlen
  go_wp2_with fail
  refine (slicesEqual_same _ _ (newM L).mem _ (HM3.out.below (below_alloc _ _)) (HM0.out.below (below_alloc _ _))).mono ?_
  rintro e w4 ⟨rfl, hb4⟩
  have HB4 : Hid (Below w.heap.size w w4) := (HB3.out.alloc HB3.out.size _).trans (hb4.mono (by simp; have := HB3.out.size; omega))
  clear hb4
  go_wp2_with fail
  go_ret
  exact ⟨rfl, HB4.out⟩

end Go.Proofs.Ytlcdefpdahjjeae
