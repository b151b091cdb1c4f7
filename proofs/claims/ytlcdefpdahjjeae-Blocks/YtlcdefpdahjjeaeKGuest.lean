/- Contracts of hourglasskeep.cpuTells and guest: a guest of instructions, with registers. -/
import Derived.Test.YtlcdefpdahjjeaeKWords
import Derived.Test.YtlcdefpdahjjeaeCpuNew
import Derived.Test.YtlcdefpdahjjeaeStepL
namespace Go.Proofs.Ytlcdefpdahjjeae
open Go.RowKit

/-- What a register is set to. -/
def regF (x : Int) : Int := foldF (x.tmod 2199023255552)
/-- The first k registers are set. -/
def setRegs (l : List Int) (rs : List Int) : Nat → List Int
  | 0 => l
  | k + 1 => (setRegs l rs k).set k (regF (rs.getD k 0))
theorem setRegs_len (l rs : List Int) (k : Nat) : (setRegs l rs k).length = l.length := by
  induction k with
  | zero => rfl
  | succ k ih => simp [setRegs, ih]
/-- A guest of words, with registers. -/
def guestM (rs ws : List Int) (k : Nat) : Mach := { newM ws with regs := setRegs (List.replicate 8 0) rs k }

theorem newNo_len {l : List Int} (h : newNo l = 0) : l.length ≤ 256 := by
  by_cases e : 256 < l.length
  · simp [newNo, e] at h
  · omega
theorem newM_mem (l : List Int) (h : l.length ≤ 256) : (newM l).mem.length = 256 := by
  simp only [newM, List.length_append, List.length_replicate]; omega
theorem newM_regs (l : List Int) : (newM l).regs.length = 8 := by simp only [newM, List.length_replicate]

set_option maxHeartbeats 1000000 in
theorem cpuTells_any (w : World) : Calls Try.prog 9 #[] w fun e w' => e = .returned (.bool true) ∧ Below w.heap.size w w' := by
  have HN : Hid (∀ W, Calls Try.prog 12 #[.slice none 0 0] W fun e w' => ∃ rv' mv' ov', e = .returned (.tuple #[.agg ((newM []).cells rv' mv' ov'), .int .i64 0]) ∧ OwnM w' W.heap.size rv' mv' ov' (newM []) ∧ Below W.heap.size W w') := fun W => New_ok (.slice none 0 0) [] W ⟨none, 0, rfl, by simp, fun h => absurd h (by simp)⟩ (by decide)
  go_enter Try.func9, Try.ntmps9
  go_wp2_with fail
  refine (HN.out _).mono ?_
  rintro e w1 ⟨rv, mv, ov, rfl, ho, hb⟩
  obtain ⟨A, c, B, c', C, c'', rfl, rfl, rfl⟩ := ho.shape
  have hl : (newM []).mem.length = 256 := newM_mem [] (by simp)
  have HB : Hid (Below w.heap.size w w1) := hb
  rw [hl]
  clear ho hb hl HN
  simp only [Mach.cells]
  go_wp2_with fail
  go_ret
  exact ⟨rfl, HB.out.alloc HB.out.size _⟩

set_option maxHeartbeats 2000000 in
theorem guest_any (rv iv : Value) (rs : List Int) (L : List Ins) (w : World) (hr : IntsAt w rv rs) (hi : InsAt w iv L) (hrl : rs.length ≤ 8) (hwf : ∀ i, i < rs.length → -9223372036854775808 ≤ rs.getD i 0 ∧ rs.getD i 0 ≤ 9223372036854775807) (hno : newNo (L.map insWord) = 0) :
    Calls Try.prog 7 #[rv, iv] w fun e w' => ∃ rv' mv' ov', e = .returned (.tuple #[.agg ((guestM rs (L.map insWord) rs.length).cells rv' mv' ov'), .bool true]) ∧ OwnM w' w.heap.size rv' mv' ov' (guestM rs (L.map insWord) rs.length) ∧ Below w.heap.size w w' := by
  have HW : Hid (∀ W, Below w.heap.size w W → Calls Try.prog 14 #[iv] W fun e w' => ∃ v', e = .returned v' ∧ OwnI w' W.heap.size v' (L.map insWord) ∧ Below W.heap.size W w') := fun W hb => by
    refine kwords_any iv L W ?_
    obtain ⟨A, c, rfl, h1, h2⟩ := hi
    refine ⟨A, c, rfl, h1, fun h0 => ?_⟩
    obtain ⟨b, off, rfl, hb', hc⟩ := h2 h0
    refine ⟨b, off, rfl, Nat.lt_of_lt_of_le hb' hb.size, fun j hj => ?_⟩
    obtain ⟨c0, c1, c2, c3⟩ := hc j hj
    exact ⟨(hb.cell (p := ⟨b, off + j * 4, none⟩) hb').trans c0, (hb.cell (p := ⟨b, off + j * 4 + 1, none⟩) hb').trans c1, (hb.cell (p := ⟨b, off + j * 4 + 2, none⟩) hb').trans c2, (hb.cell (p := ⟨b, off + j * 4 + 3, none⟩) hb').trans c3⟩
  have hl : (L.map insWord).length ≤ 256 := newNo_len hno
  obtain ⟨ws, ew⟩ : ∃ ws, ws = L.map insWord := ⟨_, rfl⟩
  rw [← ew] at HW hno hl ⊢
  have HR : Hid (IntsAt w rv rs) := hr
  have HNO : Hid (newNo ws = 0 ∧ ws.length ≤ 256) := ⟨hno, hl⟩
  have HWF : Hid (∀ i, i < rs.length → -9223372036854775808 ≤ rs.getD i 0 ∧ rs.getD i 0 ≤ 9223372036854775807) := hwf
  obtain ⟨RA, rc, rfl, hr8, hrc⟩ := hr
  clear hi ew hno hl hrc hwf
  go_enter Try.func7, Try.ntmps7
  go_wp2_with fail
  refine (HW.out _ (below_alloc _ _)).mono ?_
  rintro e w1 ⟨v', rfl, ho1, hb1⟩
  have HX : Hid (w1.heap[w.heap.size]? = some (.cells zeroM 27 (0, 0)) ∧ Below w.heap.size w w1) := ⟨box_kept hb1, (below_alloc _ _).trans (hb1.mono (by simp))⟩
  have HI : Hid (IntsAt w1 v' ws) := ho1.at (by have := HNO.out.2; omega)
  obtain ⟨VA, vc, rfl⟩ := ho1.shape
  clear ho1 hb1 HW
  go_wp2_with fail
  refine (New_ok _ ws _ HI.out HNO.out.1).mono ?_
  rintro e w2 ⟨rv2, mv2, ov2, rfl, ho2, hb2⟩
  obtain ⟨g, c, rfl, -, -, -, -⟩ := ho2.regs.opened (by rw [newM_regs]; decide)
  obtain ⟨B, c', rfl⟩ := ho2.mem.shape
  obtain ⟨C, c'', rfl⟩ := ho2.out.shape
  rw [newM_regs, newM_mem ws HNO.out.2, show (newM ws).out.length = 0 from rfl] at *
  have HX2 : Hid (w2.heap[w.heap.size]? = some (.cells zeroM 27 (0, 0)) ∧ Below w.heap.size w w2 ∧ w.heap.size < w1.heap.size ∧ w1.heap.size ≤ w2.heap.size ∧ w.heap.size ≤ w1.heap.size) := ⟨by rw [hb2.block _ (lt_of_block HX.out.1)]; exact HX.out.1, HX.out.2.trans (hb2.mono HX.out.2.size), lt_of_block HX.out.1, hb2.size, HX.out.2.size⟩
  have hP : AtP (w2.alloc (.cells ((newM ws).cells (.slice (some ⟨g, 0, none⟩) 8 c) (.slice B 256 c') (.slice C 0 c'')) 27)) w1.heap.size w2.heap.size (.slice (some ⟨g, 0, none⟩) 8 c) (.slice B 256 c') (.slice C 0 c'') (guestM rs ws 0) := ⟨Go.Deep.blk_alloc_new _ _, ho2.below (below_alloc _ _), hb2.size⟩
  have hB : Below w1.heap.size w1 (w2.alloc (.cells ((newM ws).cells (.slice (some ⟨g, 0, none⟩) 8 c) (.slice B 256 c') (.slice C 0 c'')) 27)) := hb2.alloc hb2.size _
  have HP : Hid (_ ∧ _) := ⟨hP, hB⟩
  clear hb2 ho2 HI hP hB
  simp only [newM, Mach.cells]
  go_wp2_with fail
  go_loopw [18] (fun i wr => ∃ k : Nat, k ≤ rs.length ∧ i = .int .i64 k ∧ Hid (AtP wr w1.heap.size w2.heap.size (.slice (some ⟨g, 0, none⟩) 8 c) (.slice B 256 c') (.slice C 0 c'') (guestM rs ws k)) ∧ Hid (Below w1.heap.size w1 wr)) (fun i _ => rs.length - (intOf i).toNat)
  case atStart => exact ⟨0, Nat.zero_le _, rfl, HP.out.1, HP.out.2⟩
  case round =>
    clear HP
    obtain ⟨k, hk, rfl, hA, hB⟩ := hrel
    obtain ⟨⟨z0, z1, z2, z3, z4, z5, z6, z7, z8, z9, z10, z11⟩, zf, zl⟩ := twelve_cells hA.out.box
    have hBw : Below w.heap.size w wr := HX.out.2.trans (hB.out.mono HX.out.2.size)
    have hreg8 : (guestM rs ws k).regs.length = 8 := by show (setRegs _ _ _).length = 8; rw [setRegs_len]; simp
    by_cases hlt : k < rs.length
    · obtain ⟨RA', rc', hRA, -, hcell⟩ := HR.out
      simp only [Value.slice.injEq] at hRA
      obtain ⟨rfl, -, rfl⟩ := hRA
      obtain ⟨rb, ro, rfl, hrb, hcc⟩ := hcell (by omega)
      have s0 := (hBw.cell (p := ⟨rb, ro + k, none⟩) hrb).trans (hcc k hlt)
      obtain ⟨q3, q4, q5⟩ := hA.out.reg_cell hreg8 (k := (k : Int)) (by omega) (by omega)
      rw [Int.toNat_natCast] at q3
      obtain ⟨x1, x2⟩ := HWF.out k hlt
      have HG : Hid (guestM rs ws (k + 1) = { guestM rs ws k with regs := (guestM rs ws k).regs.set k (regF (rs.getD k 0)) }) := rfl
      have hk8 : (k : Int) < 8 := by omega
      clear hcell hcc hBw hreg8 z1 z2 z3 z4 z5 z6 z7 z8 z9 z10 z11
      unfold regF at HG
      revert s0 HG x1 x2
      generalize rs.getD k 0 = x
      intro s0 x1 x2 HG
      have HM := tmod_sign x 2199023255552
      have b1 : -2199023255552 ≤ x.tmod 2199023255552 := by omega
      have b2 : x.tmod 2199023255552 ≤ 2199023255552 := by omega
      clear HM
      go_wp2_with fail
      go_still_tail 7, (by kernel_rfl)
      still_call (Fold_same _ _ (by omega) (by omega))
      repeat still_step
      refine wpStill_nil ?_
      go_wp2_with fail
      have r1 := hA.out.drew.putReg k (foldF (x.tmod 2199023255552))
      rw [← HG.out] at r1
      refine ⟨⟨k + 1, by omega, by go_num, r1.1, (hB.out.drew).trans r1.2⟩, ?_⟩
      simp [intOf]; omega
    · obtain rfl : k = rs.length := by omega
      have hy : wr.heap[w.heap.size]? = some (.cells zeroM 27 (0, 0)) := by rw [hB.out.block _ (lt_of_block HX.out.1)]; exact HX.out.1
      obtain ⟨⟨y0, y1, y2, y3, y4, y5, y6, y7, y8, y9, y10, y11⟩, yf, yl⟩ := twelve_cells hy
      have H4 : Hid (OwnM wr w.heap.size (.slice (some ⟨g, 0, none⟩) 8 c) (.slice B 256 c') (.slice C 0 c'') (guestM rs ws rs.length) ∧ IsBox wr w.heap.size ∧ Below w.heap.size w wr) := ⟨hA.out.own.mono HX.out.2.size, ⟨_, hy⟩, hBw⟩
      clear hA hB hBw hreg8 hy HX HX2
      go_wp2_with fail
      refine bodyPost_ret (v := .tuple #[.agg ((guestM rs ws rs.length).cells (.slice (some ⟨g, 0, none⟩) 8 c) (.slice B 256 c') (.slice C 0 c'')), .bool true]) (by simp [results, Try.results7, go_sem, Mach.cells, y0, y1, y2, y3, y4, y5, y6, y7, y8, y9, y10, y11]) rfl ?_
      exact ⟨_, _, _, rfl, H4.out.1.set12 H4.out.2.1 _ _ _ _ _ _ _ _ _ _ _ _, below_set12 H4.out.2.2 (Nat.le_refl _) _ _ _ _ _ _ _ _ _ _ _ _⟩

end Go.Proofs.Ytlcdefpdahjjeae
