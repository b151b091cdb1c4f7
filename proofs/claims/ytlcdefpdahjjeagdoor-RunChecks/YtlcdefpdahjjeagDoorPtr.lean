/- A guest in a variable that a pointer leads to. -/
import Derived.Test.YtlcdefpdahjjeagDoorGuest
import Derived.Test.YtlcdefpdahjjeagDoorClo
namespace Go.Proofs.YtlcdefpdahjjeagDoor
open Go.RowKit

/-- A guest in block b, its slices of the call's own (from lo on). -/
structure AtP (w : World) (lo b : Nat) (rv mv ov : Value) (m : Mach) : Prop where
  box : w.heap[b]? = some (.cells (m.cells rv mv ov) 30 (0, 0))
  own : OwnM w lo rv mv ov m
  le : lo ≤ b
theorem AtP.lt {w : World} {lo b : Nat} {rv mv ov : Value} {m : Mach} (h : AtP w lo b rv mv ov m) : b < w.heap.size := lt_of_block h.box
theorem AtP.below {w w' : World} {lo b : Nat} {rv mv ov : Value} {m : Mach} (h : AtP w lo b rv mv ov m) (hb : Below w.heap.size w w') : AtP w' lo b rv mv ov m :=
  ⟨by rw [hb.block _ h.lt]; exact h.box, h.own.below hb, h.le⟩
theorem AtP.drew {w : World} {lo b : Nat} {rv mv ov : Value} {m : Mach} (h : AtP w lo b rv mv ov m) : AtP w.drew lo b rv mv ov m := h.below ((Below.refl _ w).drew)
/-- A field is stored. -/
theorem AtP.set {w : World} {lo b : Nat} {rv mv ov : Value} {m m' : Mach} (h : AtP w lo b rv mv ov m) (i : Nat) (x : Value) (e : (m.cells rv mv ov).setIfInBounds i x = m'.cells rv mv ov) (h1 : m'.regs = m.regs) (h2 : m'.mem = m.mem) (h3 : m'.out = m.out) :
    AtP (w.setCell ⟨b, i, none⟩ x) lo b rv mv ov m' ∧ Below lo w (w.setCell ⟨b, i, none⟩ x) :=
  ⟨⟨by rw [box_set h.box, e], (h.own.box ⟨_, h.box⟩ i x).of h1 h2 h3, h.le⟩, (Below.refl _ _).setCell (by simpa using h.le) _⟩
theorem AtP.setFin {w : World} {lo b : Nat} {rv mv ov : Value} {m : Mach} (h : AtP w lo b rv mv ov m) (x : Int) : AtP (w.setCell ⟨b, 7, none⟩ (.int .i64 x)) lo b rv mv ov { m with fin := x } ∧ Below lo w (w.setCell ⟨b, 7, none⟩ (.int .i64 x)) := h.set 7 _ rfl rfl rfl rfl
theorem AtP.setPc {w : World} {lo b : Nat} {rv mv ov : Value} {m : Mach} (h : AtP w lo b rv mv ov m) (x : Int) : AtP (w.setCell ⟨b, 1, none⟩ (.int .i64 x)) lo b rv mv ov { m with pc := x } ∧ Below lo w (w.setCell ⟨b, 1, none⟩ (.int .i64 x)) := h.set 1 _ rfl rfl rfl rfl
theorem AtP.setBack {w : World} {lo b : Nat} {rv mv ov : Value} {m : Mach} (h : AtP w lo b rv mv ov m) (x : Int) : AtP (w.setCell ⟨b, 2, none⟩ (.int .i64 x)) lo b rv mv ov { m with back := x } ∧ Below lo w (w.setCell ⟨b, 2, none⟩ (.int .i64 x)) := h.set 2 _ rfl rfl rfl rfl
theorem AtP.setInts {w : World} {lo b : Nat} {rv mv ov : Value} {m : Mach} (h : AtP w lo b rv mv ov m) (x : Bool) : AtP (w.setCell ⟨b, 3, none⟩ (.bool x)) lo b rv mv ov { m with ints := x } ∧ Below lo w (w.setCell ⟨b, 3, none⟩ (.bool x)) := h.set 3 _ rfl rfl rfl rfl
theorem AtP.setWait {w : World} {lo b : Nat} {rv mv ov : Value} {m : Mach} (h : AtP w lo b rv mv ov m) (x : Bool) : AtP (w.setCell ⟨b, 4, none⟩ (.bool x)) lo b rv mv ov { m with wait := x } ∧ Below lo w (w.setCell ⟨b, 4, none⟩ (.bool x)) := h.set 4 _ rfl rfl rfl rfl
theorem AtP.setTab {w : World} {lo b : Nat} {rv mv ov : Value} {m : Mach} (h : AtP w lo b rv mv ov m) (x : Int) : AtP (w.setCell ⟨b, 5, none⟩ (.int .i64 x)) lo b rv mv ov { m with table := x } ∧ Below lo w (w.setCell ⟨b, 5, none⟩ (.int .i64 x)) := h.set 5 _ rfl rfl rfl rfl
theorem AtP.setCount {w : World} {lo b : Nat} {rv mv ov : Value} {m : Mach} (h : AtP w lo b rv mv ov m) (x : Int) : AtP (w.setCell ⟨b, 6, none⟩ (.int .i64 x)) lo b rv mv ov { m with count := x } ∧ Below lo w (w.setCell ⟨b, 6, none⟩ (.int .i64 x)) := h.set 6 _ rfl rfl rfl rfl
theorem AtP.setReady {w : World} {lo b : Nat} {rv mv ov : Value} {m : Mach} (h : AtP w lo b rv mv ov m) (x : Int) : AtP (w.setCell ⟨b, 10, none⟩ (.int .i64 x)) lo b rv mv ov { m with ready := x } ∧ Below lo w (w.setCell ⟨b, 10, none⟩ (.int .i64 x)) := h.set 10 _ rfl rfl rfl rfl
theorem AtP.setWant {w : World} {lo b : Nat} {rv mv ov : Value} {m : Mach} (h : AtP w lo b rv mv ov m) (x : Int) : AtP (w.setCell ⟨b, 11, none⟩ (.int .i64 x)) lo b rv mv ov { m with want := x } ∧ Below lo w (w.setCell ⟨b, 11, none⟩ (.int .i64 x)) := h.set 11 _ rfl rfl rfl rfl
/-- A register is stored. -/
theorem AtP.putReg {w : World} {lo b g n c : Nat} {mv ov : Value} {m : Mach} (h : AtP w lo b (.slice (some ⟨g, 0, none⟩) n c) mv ov m) (i : Nat) (x : Int) :
    AtP (w.setCell ⟨g, i, none⟩ (.int .i64 x)) lo b (.slice (some ⟨g, 0, none⟩) n c) mv ov { m with regs := m.regs.set i x } ∧ Below lo w (w.setCell ⟨g, i, none⟩ (.int .i64 x)) := by
  have hg := World.ownsRow.lt h.own.regs g rfl
  have hne : g ≠ b := fun e => by
    have := own_ne h.own.regs h.box (by decide)
    subst e
    exact this rfl
  exact ⟨⟨box_other h.box (Ne.symm hne) _, h.own.putReg x, h.le⟩, (Below.refl _ _).setCell (by simpa using hg.1) _⟩
/-- A word is stored. -/
theorem AtP.putMem {w : World} {lo b g n c : Nat} {rv ov : Value} {m : Mach} (h : AtP w lo b rv (.slice (some ⟨g, 0, none⟩) n c) ov m) (i : Nat) (x : Int) :
    AtP (w.setCell ⟨g, i, none⟩ (.int .i64 x)) lo b rv (.slice (some ⟨g, 0, none⟩) n c) ov { m with mem := m.mem.set i x } ∧ Below lo w (w.setCell ⟨g, i, none⟩ (.int .i64 x)) := by
  have hg := World.ownsRow.lt h.own.mem g rfl
  have hne : g ≠ b := fun e => by
    have := own_ne h.own.mem h.box (by decide)
    subst e
    exact this rfl
  exact ⟨⟨box_other h.box (Ne.symm hne) _, h.own.putMem x, h.le⟩, (Below.refl _ _).setCell (by simpa using hg.1) _⟩

theorem AtP.ne_regs {w : World} {lo b g n c : Nat} {mv ov : Value} {m : Mach} (h : AtP w lo b (.slice (some ⟨g, 0, none⟩) n c) mv ov m) : ¬ b = g := fun e => by
  have := own_ne h.own.regs h.box (by decide)
  subst e
  exact this rfl

/-- What is asked of a pointer to a guest. -/
abbrev ptr (b : Nat) : Value := .pointer (some ⟨b, 0, none⟩)
theorem ret_mach {w w' : World} {lo b : Nat} {m m' : Mach} (e : m = m') (h : ∃ rv mv ov, AtP w' lo b rv mv ov m) (hb : Below lo w w') : (∃ rv mv ov, AtP w' lo b rv mv ov m') ∧ Below lo w w' := ⟨e ▸ h, hb⟩

end Go.Proofs.YtlcdefpdahjjeagDoor
