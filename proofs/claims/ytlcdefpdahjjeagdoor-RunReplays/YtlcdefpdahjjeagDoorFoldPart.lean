/- Contract of hourglassref.FoldOf: a number goes round. -/
import Derived.Test.YtlcdefpdahjjeagDoorRepPPart
import Derived.Test.YtlcdefpdahjjeagDoorRunPart
import Derived.Test.YtlcdefpdahjjeagDoorStepOPart
import Derived.Test.YtlcdefpdahjjeagDoorInstrOPart
import Derived.Test.YtlcdefpdahjjeagDoorMeantPart
import Derived.Deep.DeepCutAuto
import Derived.Deep.CutBlock
import Derived.StillTailTactics
namespace Go.Proofs.YtlcdefpdahjjeagDoor
open Go.RowKit

set_option maxHeartbeats 400000 in
theorem FoldOf_any (n : Int) (w : World) (hn : -9223372036854775808 ≤ n ∧ n ≤ 9223372036854775807) :
    Calls Tryd.prog 68 #[.int .i64 n] w fun e w' => e = .returned (.int .i64 (foldF n)) ∧ w' = w := by
  obtain ⟨n1, n2⟩ := hn
  go_enter Tryd.func68, Tryd.ntmps68
  go_wp2_with fail
  go_loopw [0] (fun v wr => ∃ c : Int, v = .int .i64 c ∧ wr = w ∧ -9223372036854775808 ≤ c ∧ c ≤ 9223372036854775807 ∧ Hid ((n - c) % 2199023255553 = 0)) (fun v _ => (intOf v + 9223372036854775808).toNat)
  case atStart => exact ⟨n, rfl, rfl, n1, n2, by simp [Hid]⟩
  case round =>
    obtain ⟨c, rfl, hw, c1, c2, hc⟩ := hrel
    subst wr
    by_cases hgt : 1099511627776 < c
    · go_wp2
      refine ⟨⟨c - 2199023255553, by go_num, trivial, by omega, by omega, by have := hc.out; simp only [Hid]; omega⟩, ?_⟩
      simp [intOf]; omega
    · go_wp2
      go_loopw [0] (fun v wr => ∃ c : Int, v = .int .i64 c ∧ wr = w ∧ -9223372036854775808 ≤ c ∧ c ≤ 1099511627776 ∧ Hid ((n - c) % 2199023255553 = 0)) (fun v _ => (9223372036854775808 - intOf v).toNat)
      case atStart => exact ⟨c, rfl, rfl, c1, by omega, hc⟩
      case round =>
        clear hc hgt c1 c2
        obtain ⟨d, rfl, hw, d1, d2, hd⟩ := hrel
        subst wr
        by_cases hlt : d < -1099511627776
        · go_wp2
          refine ⟨⟨d + 2199023255553, by go_num, trivial, by omega, by omega, by have := hd.out; simp only [Hid]; omega⟩, ?_⟩
          simp [intOf]; omega
        · go_wp2
          go_ret
          exact ⟨ret_int (foldF_of (by omega) (by omega) hd.out).symm, rfl⟩

end Go.Proofs.YtlcdefpdahjjeagDoor

/- hourglassref.stepped: the guest in its box, from statement to statement. -/

namespace Go.Proofs.YtlcdefpdahjjeagDoor
open Go.RowKit

/-- Boxes of guests that were there are as they were. -/
def KeptM (w wx : World) : Prop := ∀ (g : Nat) (cur : Array Value), w.heap[g]? = some (.cells cur 30 (0, 0)) → wx.heap[g]? = some (.cells cur 30 (0, 0))
theorem KeptM.set {w wx : World} {g : Nat} (h : KeptM w wx) (hg : w.heap.size ≤ g) (i : Nat) (x : Value) : KeptM w (wx.setCell ⟨g, i, none⟩ x) := fun k cur hk => box_other (h k cur hk) (by have := lt_of_block hk; omega) x
theorem keptM_set12 {w wx : World} {g : Nat} (h : KeptM w wx) (hg : w.heap.size ≤ g) (x0 x1 x2 x3 x4 x5 x6 x7 x8 x9 x10 x11 : Value) :
    KeptM w ((((((((((((wx.setCell ⟨g, 0, none⟩ x0).setCell ⟨g, 1, none⟩ x1).setCell ⟨g, 2, none⟩ x2).setCell ⟨g, 3, none⟩ x3).setCell ⟨g, 4, none⟩ x4).setCell ⟨g, 5, none⟩ x5).setCell ⟨g, 6, none⟩ x6).setCell ⟨g, 7, none⟩ x7).setCell ⟨g, 8, none⟩ x8).setCell ⟨g, 9, none⟩ x9).setCell ⟨g, 10, none⟩ x10).setCell ⟨g, 11, none⟩ x11) :=
  (((((((((((h.set hg _ _).set hg _ _).set hg _ _).set hg _ _).set hg _ _).set hg _ _).set hg _ _).set hg _ _).set hg _ _).set hg _ _).set hg _ _).set hg _ _

/-- The guest lies in its box, the answer's box behind it. -/
structure StpI (w wx : World) (lo b : Nat) (m : Mach) : Prop where
  at_ : ∃ rv mv ov, AtP wx lo b rv mv ov m
  res : wx.heap[b + 1]? = some (.cells zeroM 30 (0, 0))
  old : Below lo w wx
  bw : w.heap.size ≤ b
  box : KeptM w wx
theorem StpI.start {w : World} {lo : Nat} {rv mv ov : Value} {m : Mach} (h : OwnM w lo rv mv ov m) (hlo : lo ≤ w.heap.size) : StpI w ((w.alloc (.cells (m.cells rv mv ov) 30)).alloc (.cells zeroM 30)) lo w.heap.size m := by
  obtain ⟨b0, b1, b2⟩ := two_boxes (Below.refl (((w.alloc (.cells (m.cells rv mv ov) 30)).alloc (.cells zeroM 30)).heap.size) ((w.alloc (.cells (m.cells rv mv ov) 30)).alloc (.cells zeroM 30)))
  exact ⟨⟨rv, mv, ov, b0, h.below b2, hlo⟩, b1, b2.mono hlo, Nat.le_refl _, fun g cur hg => by rw [b2.block g (lt_of_block hg)]; exact hg⟩
/-- A store into the guest's box. -/
theorem StpI.put {w wx : World} {lo b i : Nat} {m m' : Mach} {x : Value} {rv mv ov : Value} (h : StpI w wx lo b m) (ha : AtP (wx.setCell ⟨b, i, none⟩ x) lo b rv mv ov m') : StpI w (wx.setCell ⟨b, i, none⟩ x) lo b m' :=
  ⟨⟨rv, mv, ov, ha⟩, by rw [Below.heap_setCell _ _ _ _ (by simp)]; exact h.res, h.old.setCell (p := ⟨b, i, none⟩) ha.le _, h.bw, h.box.set h.bw _ _⟩
theorem StpI.size {w wx : World} {lo b : Nat} {m : Mach} (h : StpI w wx lo b m) : lo ≤ b ∧ b + 1 < wx.heap.size := by
  obtain ⟨_, _, _, ha⟩ := h.at_
  exact ⟨ha.le, lt_of_block h.res⟩
theorem StpI.below {w wx wy : World} {lo b : Nat} {m : Mach} (h : StpI w wx lo b m) (hB : Below wx.heap.size wx wy) : StpI w wy lo b m := by
  have := h.size
  obtain ⟨rv, mv, ov, ha⟩ := h.at_
  exact ⟨⟨rv, mv, ov, ha.below hB⟩, by rw [hB.block _ (lt_of_block h.res)]; exact h.res, h.old.trans (hB.mono (by omega)), h.bw, fun g cur hg => by rw [hB.block g (lt_of_block (h.box g cur hg))]; exact h.box g cur hg⟩
/-- A word, a register is stored. -/
theorem StpI.mem {w wx : World} {lo b g n c : Nat} {rv ov : Value} {m : Mach} (h : StpI w wx lo b m) (ha : AtP wx lo b rv (.slice (some ⟨g, 0, none⟩) n c) ov m) (i : Nat) (x : Int) : StpI w (wx.setCell ⟨g, i, none⟩ (.int .i64 x)) lo b { m with mem := m.mem.set i x } := by
  have hne : b + 1 ≠ g := fun e => own_ne ha.own.mem h.res (by decide) (by rw [e]; rfl)
  exact ⟨⟨_, _, _, (ha.putMem i x).1⟩, by rw [Below.heap_setCell _ _ _ _ hne]; exact h.res, h.old.trans (ha.putMem i x).2, h.bw, fun k cur hk => box_other (h.box k cur hk) (fun e => own_ne ha.own.mem (h.box k cur hk) (by decide) (by rw [e]; rfl)) _⟩
theorem StpI.reg {w wx : World} {lo b g n c : Nat} {mv ov : Value} {m : Mach} (h : StpI w wx lo b m) (ha : AtP wx lo b (.slice (some ⟨g, 0, none⟩) n c) mv ov m) (i : Nat) (x : Int) : StpI w (wx.setCell ⟨g, i, none⟩ (.int .i64 x)) lo b { m with regs := m.regs.set i x } := by
  have hne : b + 1 ≠ g := fun e => own_ne ha.own.regs h.res (by decide) (by rw [e]; rfl)
  exact ⟨⟨_, _, _, (ha.putReg i x).1⟩, by rw [Below.heap_setCell _ _ _ _ hne]; exact h.res, h.old.trans (ha.putReg i x).2, h.bw, fun k cur hk => box_other (h.box k cur hk) (fun e => own_ne ha.own.regs (h.box k cur hk) (by decide) (by rw [e]; rfl)) _⟩
theorem StpI.same {w wx : World} {lo b : Nat} {m m' : Mach} (h : StpI w wx lo b m) (e : m = m') : StpI w wx lo b m' := e ▸ h

end Go.Proofs.YtlcdefpdahjjeagDoor
