/- Contract of cpu.takeBlock: a block comes to the page that was wanted. -/
import Derived.Test.YtlcdefpdahjjeaeStepI
import Derived.Test.YtlcdefpdahjjeaeRun
namespace Go.Proofs.Ytlcdefpdahjjeae
open Go.RowKit

/-- The words of a block, put one by one, are the block. -/
theorem putWords_run (l : List Int) (p : Nat) (blk : List Int) (k : Nat) (hk : k ≤ blk.length) (hp : p + k ≤ l.length) : putWords l p blk k = l.take p ++ blk.take k ++ l.drop (p + k) := by
  induction k with
  | zero => simp [putWords]
  | succ k ih =>
    have hl : (l.take p ++ blk.take k).length = p + k := by simp; omega
    have hd : l.drop (p + k) = l.getD (p + k) 0 :: l.drop (p + (k + 1)) := by
      have e := List.drop_eq_getElem_cons (show p + k < l.length by omega)
      have e2 : l.getD (p + k) 0 = l[p + k] := by simp [List.getD, show p + k < l.length by omega]
      rw [e2]
      exact e
    rw [putWords, ih (by omega) (by omega), hd, List.set_append_right _ _ (by omega), hl, Nat.sub_self, List.set_cons_zero, take_snoc blk k (by omega)]
    simp [List.append_assoc]

theorem putWords_all16 (l : List Int) (p : Nat) (blk : List Int) (hb : blk.length = 16) (hp : p + 16 ≤ l.length) : putWords l p blk 16 = l.take p ++ blk ++ l.drop (p + blk.length) := by
  rw [putWords_run l p blk 16 (by omega) hp, List.take_of_length_le (l := blk) (by omega), hb]

/-- A block has come. -/
def Mach.taken (m : Mach) (blk : List Int) : Mach := if 0 < blk.length ∧ 0 ≤ m.want then { m with mem := putWords m.mem (16 * m.want).toNat blk 16, want := -1, ready := 1, wait := true } else m
theorem told_taken (m : Mach) (irq : Bool) (blk : List Int) : m.told irq blk = ({ m with wait := m.wait || irq } : Mach).taken blk := by
  unfold Mach.told Mach.taken
  split <;> rfl

set_option maxHeartbeats 1000000 in
theorem takeBlock_any (lo b : Nat) (rv mv ov : Value) (m : Mach) (B : Option Addr) (cb : Nat) (blk : List Int) (w : World) (h : AtP w lo b rv mv ov m) (hb : IntsAt w (.slice B blk.length cb) blk)
    (hm : m.mem.length = 256) (hw : -1 ≤ m.want ∧ m.want ≤ 15) (hl : blk.length = 0 ∨ blk.length = 16) :
    Calls Try.prog 25 #[ptr b, .slice B blk.length cb] w fun e w' => e = .returned (.tuple #[]) ∧ AtP w' lo b rv mv ov (m.taken blk) ∧ Below lo w w' := by
  have H : Hid (AtP w lo b rv mv ov m) := h
  obtain ⟨⟨z0, z1, z2, z3, z4, z5, z6, z7, z8, z9, z10, z11⟩, zf, zl⟩ := twelve_cells h.box
  by_cases c0 : blk.length = 0
  · have HT : Hid (m.taken blk = m) := by show _ = _; simp [Mach.taken, c0]
    rw [HT.out]
    have d0 : ((blk.length : Int) == 0) = true := by simp [c0]
    clear h hb HT c0 hl
    go_enter Try.func25, Try.ntmps25
    go_wp2_with fail
    first | go_end0 | refine bodyPost_ret (results_none rfl _ _ _) rfl ?_
    exact ⟨rfl, H.out, Below.refl _ _⟩
  have d0 : ((blk.length : Int) == 0) = false := by simp [c0]
  cases c1 : m.want == -1 with
  | true =>
    have HT : Hid (m.taken blk = m) := by
      show _ = _
      have : m.want = -1 := by simpa using c1
      simp [Mach.taken, this]
    rw [HT.out]
    clear h hb HT c0 hl
    go_enter Try.func25, Try.ntmps25
    go_wp2_with fail
    first | go_end0 | refine bodyPost_ret (results_none rfl _ _ _) rfl ?_
    exact ⟨rfl, H.out, Below.refl _ _⟩
  | false =>
    have w0 : 0 ≤ m.want := by
      have : m.want ≠ -1 := by simpa using c1
      omega
    have hl16 : blk.length = 16 := by omega
    obtain ⟨g, c, rfl, hg1, hg2, hcell, -⟩ := h.own.mem.opened (by omega)
    obtain ⟨cur, hcur⟩ : ∃ cur, w.heap[g]? = some (.cells cur 3 (0, 0)) := by
      obtain ⟨_, _, e, _, _, ⟨cur, hc⟩, _⟩ := ownsRow_at h.own.mem (by omega)
      simp only [Value.slice.injEq, Option.some.injEq, Addr.mk.injEq] at e
      obtain ⟨⟨rfl, -, -⟩, -, -⟩ := e
      exact ⟨cur, hc⟩
    have hcs : m.mem.length ≤ c ∧ cur.size = c := by
      obtain ⟨_, e2⟩ := h.own.mem
      rcases e2 with ⟨e2, _⟩ | ⟨g', cap, cu, hv, _, hh, r1, _, r3, _⟩
      · simp at e2
      · simp only [Value.slice.injEq, Option.some.injEq, Addr.mk.injEq] at hv
        obtain ⟨⟨rfl, -, -⟩, -, rfl⟩ := hv
        rw [hcur] at hh
        simp only [Option.some.injEq, Obj.cells.injEq, and_true] at hh
        subst hh
        exact ⟨r1, by omega⟩
    obtain ⟨A, cA, hA, hA8, hAc⟩ := hb
    simp only [Value.slice.injEq, true_and] at hA
    obtain ⟨rfl, rfl⟩ := hA
    obtain ⟨bb, off, rfl, hbb, hbc⟩ := hAc (by omega)
    have HP : Hid (∀ w4, w4 = w.drew.setRow g (cur.toList.take (m.want * 16).toNat ++ blk.map (Value.int .i64) ++ cur.toList.drop ((m.want * 16).toNat + (blk.map (Value.int .i64)).length)).toArray →
        AtP w4 lo b rv (.slice (some ⟨g, 0, none⟩) m.mem.length c) ov { m with mem := putWords m.mem (16 * m.want).toNat blk 16 } ∧ Below lo w w4) := fun w4 e => by
      have hr := AtP.putRun (off := (m.want * 16).toNat) (blk := blk) h.drew (show w.drew.heap[g]? = some (.cells cur 3 (0, 0)) from hcur) (by omega)
      subst e
      rw [putWords_all16 _ _ _ hl16 (by omega), show (16 * m.want).toNat = (m.want * 16).toNat by omega]
      exact ⟨hr.1, ((Below.refl _ w).drew).trans hr.2⟩
    have HT : Hid (m.taken blk = { m with mem := putWords m.mem (16 * m.want).toNat blk 16, want := -1, ready := 1, wait := true }) := by show _ = _; unfold Mach.taken; rw [if_pos ⟨by omega, w0⟩]
    rw [HT.out]
    have hsi : (Try.prog.info? 3).map (·.size) = some 1 := by kernel_rfl
    have hcopy : ∀ j v, (blk.map (Value.int .i64))[j]? = some v → w.drew.cell? ((⟨bb, off, none⟩ : Addr).add j) = some v := fun j v hv => by
      have hjl : j < blk.length := by
        by_cases hh : j < blk.length
        · exact hh
        · simp [List.getElem?_eq_none (show blk.length ≤ j by omega)] at hv
      rw [Go.WideShapes.add_plain]
      have := hbc j hjl
      simp [hjl] at hv
      simpa [List.getD, hjl, hv] using this
    have HC : Hid (_ ∧ _ ∧ _) := ⟨hcopy, hcs, hcur⟩
    have j1 : 0 ≤ m.want * 16 := by omega
    have j2 : m.want * 16 ≤ (m.mem.length : Int) := by omega
    have HJ : Hid (m.want * 16 ≤ 240 ∧ 0 ≤ m.want ∧ m.mem.length = 256 ∧ blk.length = 16) := ⟨by omega, w0, hm, hl16⟩
    have hwr : IntKind.i64.wrap (m.want * 16) = m.want * 16 := IntWalk.i64_in _ (by omega)
    have HMIN : Hid ((blk.map (Value.int .i64)).length = Nat.min blk.length (m.mem.length - (m.want * 16).toNat)) := by show _ = _; simp only [List.length_map]; exact (Nat.min_eq_left (by omega)).symm
    have j3 : m.mem.length ≤ c := hcs.1
    have j4 : ¬ c = (m.want * 16).toNat := by omega
    clear h HT c0 hl hcopy hcur hcell hbc hAc hcs hg1 hg2 hbb hA8 hm hl16 hw w0
    go_enter Try.func25, Try.ntmps25
    go_wp2_with fail
    go_region_law ((refine step_copy_exact rfl (.tmp 23) (.tmp 24) 25 25 rfl 3 Try.underlying25 hsi g (m.want * 16).toNat (m.mem.length - (m.want * 16).toNat) (c - (m.want * 16).toNat) ⟨bb, off, none⟩ blk.length cb (by rfl) (by rfl) cur 3 HC.out.2.2 (blk.map (Value.int .i64)) HMIN.out HC.out.1 (by simp; have := HJ.out; have := HC.out.2.1; omega) (ints_oneCell _ _) ?_; intro w4 hw4; obtain ⟨h4, hb4⟩ := HP.out w4 hw4; have H4 : Hid (AtP w4 lo b rv (.slice (some ⟨g, 0, none⟩) m.mem.length c) ov { m with mem := putWords m.mem (16 * m.want).toNat blk 16 }) := h4; have HB4 : Hid (Below lo w w4) := hb4; obtain ⟨⟨y0, y1, y2, y3, y4, y5, y6, y7, y8, y9, y10, y11⟩, yf, yl⟩ := twelve_cells h4.box; clear h4 hb4 hw4))
    all_goals
      go_wp2_with fail
      first | go_end0 | refine bodyPost_ret (results_none rfl _ _ _) rfl ?_
      exact ⟨rfl, (((H4.out.setWant (-1)).1.setReady 1).1.setWait true).1, ((HB4.out.trans (H4.out.setWant (-1)).2).trans ((H4.out.setWant (-1)).1.setReady 1).2).trans (((H4.out.setWant (-1)).1.setReady 1).1.setWait true).2⟩

end Go.Proofs.Ytlcdefpdahjjeae
