/- Contract of hourglassref.NextOf: the instruction that comes next. -/
import Derived.Test.YtbjlfhpiebokkaaDoorRecBPart
import Derived.Test.YtbjlfhpiebokkaaDoorInfoPart
import Derived.Test.YtbjlfhpiebokkaaDoorStepBPart
import Derived.Deep.DeepCutAuto
import Derived.Deep.CutBlock
import Derived.StillTailTactics
namespace Go.Proofs.YtbjlfhpiebokkaaDoor
open Go.RowKit

set_option maxHeartbeats 2000000 in
theorem NextOf_at (m : Mach) (rv mv ov : Value) (w : World) (ha : MachAt w rv mv ov m) (hm : MayP m) (hE : m.meantE m.pc false ≠ 0) :
    Calls Tryd.prog 64 #[.agg (m.cells rv mv ov)] w fun e w' => e = .returned (.tuple #[.agg zeroI, .int .i64 m.nextE]) ∧ Below w.heap.size w w' := by
  have HM : Hid (∀ W, Below w.heap.size w W → Calls Tryd.prog 66 #[.agg (m.cells rv mv ov), .int .i64 m.pc, .bool false] W fun e w' => e = .returned (.tuple #[.int .i64 (m.meantK m.pc false), .int .i64 (m.meantE m.pc false)]) ∧ Below W.heap.size W w') := fun W hb => meant_any m rv mv ov m.pc false W (ha.below hb) hm.mem hm.table
  have HE : Hid (m.nextE = m.meantE m.pc false) := by show _ = _; simp [Mach.nextE, hE]
  rw [HE.out]
  clear HE
  have d1 : (m.meantE m.pc false != 0) = true := by simpa using hE
  clear hE ha hm
  revert HM d1
  generalize m.meantE m.pc false = E
  generalize m.meantK m.pc false = K
  intro HM d1
  obtain ⟨r, p, k, i, t, a, n, f, m, o, y, q⟩ := m
  simp only [Mach.cells] at *
  go_enter Tryd.func64, Tryd.ntmps64
  go_wp2_with fail
  refine (HM.out _ (below_alloc2 _ _ _)).mono ?_
  rintro e w1 ⟨rfl, hb1⟩
  obtain ⟨hz, hy, hb⟩ := two_boxes hb1
  obtain ⟨y0, y1, y2, y3, yf, yl⟩ := four_cells hy
  clear hb1 hz hy HM
  go_wp2_with fail
  refine bodyPost_ret (v := .tuple #[.agg zeroI, .int .i64 E]) (by simp [results, Tryd.results64, go_sem, y0, y1, y2, y3]) rfl ?_
  first
    | exact ⟨rfl, hb⟩
    | exact ⟨rfl, (((hb.setCell (by simp) _).setCell (by simp) _).setCell (by simp) _).setCell (by simp) _⟩

set_option maxHeartbeats 2000000 in
theorem NextOf_code (m : Mach) (rv mv ov : Value) (w : World) (ha : MachAt w rv mv ov m) (hm : MayP m) (hE : m.meantE m.pc false = 0) (hD : decNo m.nextX ≠ 0) :
    Calls Tryd.prog 64 #[.agg (m.cells rv mv ov)] w fun e w' => e = .returned (.tuple #[.agg zeroI, .int .i64 2]) ∧ Below w.heap.size w w' := by
  have HM : Hid (∀ W, Below w.heap.size w W → Calls Tryd.prog 66 #[.agg (m.cells rv mv ov), .int .i64 m.pc, .bool false] W fun e w' => e = .returned (.tuple #[.int .i64 (m.meantK m.pc false), .int .i64 0]) ∧ Below W.heap.size W w') := fun W hb => by
    have := meant_any m rv mv ov m.pc false W (ha.below hb) hm.mem hm.table
    rwa [hE] at this
  obtain ⟨k1, k2⟩ := meant_bd hE
  obtain ⟨x1, x2⟩ := nextX_bd hm hE
  have HI : Hid (∀ W, Calls Tryd.prog 102 #[.int .i64 m.nextX] W fun e w' => e = .returned (.tuple #[.agg zeroI, .int .i64 (decNo m.nextX)]) ∧ Below W.heap.size W w') := fun W => by
    have := InstrOf_any m.nextX W ⟨by omega, by omega⟩
    rwa [show decI m.nextX = .agg zeroI by simp [decI, hD]] at this
  obtain ⟨A, c, rfl, hl8, hc⟩ := ha.mem
  have hl := hm.mem
  obtain ⟨b, off, rfl, hbs, hcell⟩ := hc (by omega)
  have h1 : w.cell? ⟨b, off + (m.meantK m.pc false).toNat, none⟩ = some (.int .i64 m.nextX) := hcell _ (by omega)
  have k3 : m.meantK m.pc false < (m.mem.length : Int) := by omega
  clear hcell hc hl8 hl k2 ha hm hE x1 x2
  have d1 : (decNo m.nextX != 0) = true := by simpa using hD
  clear hD
  revert d1; revert k3; revert h1; revert HI; revert k1; revert HM
  generalize m.meantK m.pc false = K
  generalize decNo m.nextX = N
  generalize m.nextX = x
  intro HM k1 HI h1 k3 d1
  obtain ⟨r, p, k, i, t, a, n, f, m, o, y, q⟩ := m
  simp only [Mach.cells] at *
  go_enter Tryd.func64, Tryd.ntmps64
  go_wp2_with fail
  refine (HM.out _ (below_alloc2 _ _ _)).mono ?_
  rintro e w1 ⟨rfl, hb1⟩
  obtain ⟨hz, hy, hb⟩ := two_boxes hb1
  obtain ⟨⟨z0, z1, z2, z3, z4, z5, z6, z7, z8, z9, z10, z11⟩, zf, zl⟩ := twelve_cells hz
  rw [← hb.cell (p := ⟨b, off + K.toNat, none⟩) hbs] at h1
  have HY : Hid (w1.heap[w.heap.size + 1]? = some (.cells zeroI 83 (0, 0))) := hy
  clear hb1 hz hy HM
  go_wp2_with fail
  clear z0 z1 z2 z3 z4 z5 z6 z7 z8 z9 z10 z11 zf zl
  refine (HI.out _).mono ?_
  rintro e w2 ⟨rfl, hb2⟩
  have hb3 : Below w.heap.size w w2 := hb.trans (hb2.mono hb.size)
  have hy : w2.heap[w.heap.size + 1]? = some (.cells zeroI 83 (0, 0)) := by rw [hb2.block _ (lt_of_block HY.out)]; exact HY.out
  obtain ⟨y0, y1, y2, y3, yf, yl⟩ := four_cells hy
  clear hb2 hy HY HI hb h1
  go_wp2_with fail
  refine bodyPost_ret (v := .tuple #[.agg zeroI, .int .i64 2]) (by simp [results, Tryd.results64, go_sem, y0, y1, y2, y3, yl]) rfl ?_
  exact ⟨rfl, ((((hb3.setCell (by simp) _).setCell (by simp) _).setCell (by simp) _).setCell (by simp) _).alloc (by simpa using hb3.size) _⟩

set_option maxHeartbeats 2000000 in
theorem NextOf_ok (m : Mach) (rv mv ov : Value) (w : World) (ha : MachAt w rv mv ov m) (hm : MayP m) (hE : m.meantE m.pc false = 0) (hD : decNo m.nextX = 0) :
    Calls Tryd.prog 64 #[.agg (m.cells rv mv ov)] w fun e w' => e = .returned (.tuple #[.agg (instrA m.nextX), .int .i64 0]) ∧ Below w.heap.size w w' := by
  have HM : Hid (∀ W, Below w.heap.size w W → Calls Tryd.prog 66 #[.agg (m.cells rv mv ov), .int .i64 m.pc, .bool false] W fun e w' => e = .returned (.tuple #[.int .i64 (m.meantK m.pc false), .int .i64 0]) ∧ Below W.heap.size W w') := fun W hb => by
    have := meant_any m rv mv ov m.pc false W (ha.below hb) hm.mem hm.table
    rwa [hE] at this
  obtain ⟨k1, k2⟩ := meant_bd hE
  obtain ⟨x1, x2⟩ := nextX_bd hm hE
  have HI : Hid (∀ W, Calls Tryd.prog 102 #[.int .i64 m.nextX] W fun e w' => e = .returned (.tuple #[.agg (instrA m.nextX), .int .i64 0]) ∧ Below W.heap.size W w') := fun W => by
    have := InstrOf_any m.nextX W ⟨by omega, by omega⟩
    rwa [show decI m.nextX = .agg (instrA m.nextX) by simp [decI, hD], hD] at this
  obtain ⟨A, c, rfl, hl8, hc⟩ := ha.mem
  have hl := hm.mem
  obtain ⟨b, off, rfl, hbs, hcell⟩ := hc (by omega)
  have h1 : w.cell? ⟨b, off + (m.meantK m.pc false).toNat, none⟩ = some (.int .i64 m.nextX) := hcell _ (by omega)
  have k3 : m.meantK m.pc false < (m.mem.length : Int) := by omega
  clear hcell hc hl8 hl k2 ha hm hE
  clear hD
  revert x1; revert x2; revert k3; revert h1; revert HI; revert k1; revert HM
  generalize m.meantK m.pc false = K
  generalize m.nextX = x
  intro HM k1 HI h1 k3 x2 x1
  obtain ⟨r, p, k, i, t, a, n, f, m, o, y, q⟩ := m
  simp only [Mach.cells] at *
  go_enter Tryd.func64, Tryd.ntmps64
  go_wp2_with fail
  refine (HM.out _ (below_alloc2 _ _ _)).mono ?_
  rintro e w1 ⟨rfl, hb1⟩
  obtain ⟨hz, hy, hb⟩ := two_boxes hb1
  obtain ⟨⟨z0, z1, z2, z3, z4, z5, z6, z7, z8, z9, z10, z11⟩, zf, zl⟩ := twelve_cells hz
  rw [← hb.cell (p := ⟨b, off + K.toNat, none⟩) hbs] at h1
  have HY : Hid (w1.heap[w.heap.size + 1]? = some (.cells zeroI 83 (0, 0))) := hy
  clear hb1 hz hy HM
  go_wp2_with fail
  clear z0 z1 z2 z3 z4 z5 z6 z7 z8 z9 z10 z11 zf zl
  refine (HI.out _).mono ?_
  rintro e w2 ⟨rfl, hb2⟩
  have hb3 : Below w.heap.size w w2 := hb.trans (hb2.mono hb.size)
  have hy : w2.heap[w.heap.size + 1]? = some (.cells zeroI 83 (0, 0)) := by rw [hb2.block _ (lt_of_block HY.out)]; exact HY.out
  obtain ⟨y0, y1, y2, y3, yf, yl⟩ := four_cells hy
  clear hb2 hy HY HI hb h1
  go_wp2_with fail
  refine bodyPost_ret (v := .tuple #[.agg (instrA x), .int .i64 0]) (by simp [results, Tryd.results64, go_sem, y0, y1, y2, y3, yl]) rfl ?_
  exact ⟨rfl, ((((hb3.setCell (by simp) _).setCell (by simp) _).setCell (by simp) _).setCell (by simp) _).alloc (by simpa using hb3.size) _⟩

end Go.Proofs.YtbjlfhpiebokkaaDoor

/- Contract of hourglassref.FoldOf: a number goes round. -/

namespace Go.Proofs.YtbjlfhpiebokkaaDoor
open Go.RowKit

set_option maxHeartbeats 400000 in
theorem FoldOf_any (n : Int) (w : World) (hn : -9223372036854775808 ≤ n ∧ n ≤ 9223372036854775807) :
    Calls Tryd.prog 65 #[.int .i64 n] w fun e w' => e = .returned (.int .i64 (foldF n)) ∧ w' = w := by
  obtain ⟨n1, n2⟩ := hn
  go_enter Tryd.func65, Tryd.ntmps65
  go_wp2_with fail
  go_loopw [0] (fun v wr => ∃ c : Int, v = .int .i64 c ∧ wr = w ∧ -9223372036854775808 ≤ c ∧ c ≤ 9223372036854775807 ∧ Hid ((n - c) % 2199023255553 = 0)) (fun v _ => (intOf v + 9223372036854775808).toNat)
  case atStart => exact ⟨n, rfl, rfl, n1, n2, by simp [Hid]⟩
  case round =>
    obtain ⟨c, rfl, hw, c1, c2, hc⟩ := hrel
    subst wr
    by_cases hgt : 1099511627776 < c
    · go_wp2
      refine ⟨⟨c - 2199023255553, by go_num, trivial, by omega, by omega, by have := hc.out; simp only [Hid]; omega⟩, ?_⟩
      simp [intOf]; omega
    · go_wp2
      go_loopw [0] (fun v wr => ∃ c : Int, v = .int .i64 c ∧ wr = w ∧ -9223372036854775808 ≤ c ∧ c ≤ 1099511627776 ∧ Hid ((n - c) % 2199023255553 = 0)) (fun v _ => (9223372036854775808 - intOf v).toNat)
      case atStart => exact ⟨c, rfl, rfl, c1, by omega, hc⟩
      case round =>
        clear hc hgt c1 c2
        obtain ⟨d, rfl, hw, d1, d2, hd⟩ := hrel
        subst wr
        by_cases hlt : d < -1099511627776
        · go_wp2
          refine ⟨⟨d + 2199023255553, by go_num, trivial, by omega, by omega, by have := hd.out; simp only [Hid]; omega⟩, ?_⟩
          simp [intOf]; omega
        · go_wp2
          go_ret
          exact ⟨ret_int (foldF_of (by omega) (by omega) hd.out).symm, rfl⟩

end Go.Proofs.YtbjlfhpiebokkaaDoor

/- hourglassref.stepped: the guest in its box, from statement to statement. -/

namespace Go.Proofs.YtbjlfhpiebokkaaDoor
open Go.RowKit

def KeptM (w wx : World) : Prop := ∀ (g : Nat) (cur : Array Value), w.heap[g]? = some (.cells cur 30 (0, 0)) → wx.heap[g]? = some (.cells cur 30 (0, 0))
theorem KeptM.set {w wx : World} {g : Nat} (h : KeptM w wx) (hg : w.heap.size ≤ g) (i : Nat) (x : Value) : KeptM w (wx.setCell ⟨g, i, none⟩ x) := fun k cur hk => box_other (h k cur hk) (by have := lt_of_block hk; omega) x
theorem keptM_set12 {w wx : World} {g : Nat} (h : KeptM w wx) (hg : w.heap.size ≤ g) (x0 x1 x2 x3 x4 x5 x6 x7 x8 x9 x10 x11 : Value) :
    KeptM w ((((((((((((wx.setCell ⟨g, 0, none⟩ x0).setCell ⟨g, 1, none⟩ x1).setCell ⟨g, 2, none⟩ x2).setCell ⟨g, 3, none⟩ x3).setCell ⟨g, 4, none⟩ x4).setCell ⟨g, 5, none⟩ x5).setCell ⟨g, 6, none⟩ x6).setCell ⟨g, 7, none⟩ x7).setCell ⟨g, 8, none⟩ x8).setCell ⟨g, 9, none⟩ x9).setCell ⟨g, 10, none⟩ x10).setCell ⟨g, 11, none⟩ x11) :=
  (((((((((((h.set hg _ _).set hg _ _).set hg _ _).set hg _ _).set hg _ _).set hg _ _).set hg _ _).set hg _ _).set hg _ _).set hg _ _).set hg _ _).set hg _ _

def KeptK (KK : Nat → Prop) (w wx : World) : Prop := ∀ (g : Nat) (o : Obj), KK g → w.heap[g]? = some o → wx.heap[g]? = some o
theorem KeptK.set {KK : Nat → Prop} {w wx : World} {g : Nat} (h : KeptK KK w wx) (hg : w.heap.size ≤ g) (i : Nat) (x : Value) : KeptK KK w (wx.setCell ⟨g, i, none⟩ x) := fun k o hk hko => box_other (h k o hk hko) (by have := lt_of_block hko; omega) x
theorem keptK_set12 {KK : Nat → Prop} {w wx : World} {g : Nat} (h : KeptK KK w wx) (hg : w.heap.size ≤ g) (x0 x1 x2 x3 x4 x5 x6 x7 x8 x9 x10 x11 : Value) :
    KeptK KK w ((((((((((((wx.setCell ⟨g, 0, none⟩ x0).setCell ⟨g, 1, none⟩ x1).setCell ⟨g, 2, none⟩ x2).setCell ⟨g, 3, none⟩ x3).setCell ⟨g, 4, none⟩ x4).setCell ⟨g, 5, none⟩ x5).setCell ⟨g, 6, none⟩ x6).setCell ⟨g, 7, none⟩ x7).setCell ⟨g, 8, none⟩ x8).setCell ⟨g, 9, none⟩ x9).setCell ⟨g, 10, none⟩ x10).setCell ⟨g, 11, none⟩ x11) :=
  (((((((((((h.set hg _ _).set hg _ _).set hg _ _).set hg _ _).set hg _ _).set hg _ _).set hg _ _).set hg _ _).set hg _ _).set hg _ _).set hg _ _).set hg _ _
theorem keptK_cell {KK : Nat → Prop} {lo b : Nat} {w wx : World} (hB : Below lo w wx) (hK : KeptK KK w wx) (hb : b < w.heap.size) (hor : b < lo ∨ KK b) (i : Nat) : wx.cell? ⟨b, i, none⟩ = w.cell? ⟨b, i, none⟩ := by
  rcases hor with h | h
  · exact hB.cell (p := ⟨b, i, none⟩) h
  · obtain ⟨o, ho⟩ : ∃ o, w.heap[b]? = some o := ⟨_, Array.getElem?_eq_getElem hb⟩
    simp [World.cell?, ho, hK b o h ho]
def IntsK (KK : Nat → Prop) (lo : Nat) (w : World) (v : Value) (l : List Int) : Prop :=
  ∃ (A : Option Addr) (c : Nat), v = .slice A l.length c ∧ l.length * 8 ≤ 140737488351232 ∧
    (0 < l.length → ∃ b off, A = some ⟨b, off, none⟩ ∧ (b < w.heap.size ∧ (b < lo ∨ KK b)) ∧ ∀ j, j < l.length → w.cell? ⟨b, off + j, none⟩ = some (.int .i64 (l.getD j 0)))
theorem IntsOld.kept {KK : Nat → Prop} {lo : Nat} {w : World} {v : Value} {l : List Int} (h : IntsOld lo w v l) (hlo : lo ≤ w.heap.size) : IntsK KK lo w v l := by
  obtain ⟨A, c, rfl, hl, hc⟩ := h
  refine ⟨A, c, rfl, hl, fun h0 => ?_⟩
  obtain ⟨b, off, rfl, hlt, hj⟩ := hc h0
  exact ⟨b, off, rfl, ⟨by omega, Or.inl hlt⟩, hj⟩
def Free (KK : Nat → Prop) (w : World) (v : Value) : Prop := ∀ g, v.ownBlock = some g → g < w.heap.size → ¬ KK g
theorem cells_inj {m m' : Mach} {rv mv ov rv' mv' ov' : Value} (h : m.cells rv mv ov = m'.cells rv' mv' ov') : rv = rv' ∧ mv = mv' ∧ ov = ov' := by
  have h0 := congrArg (fun a : Array Value => a[0]?) h
  have h8 := congrArg (fun a : Array Value => a[8]?) h
  have h9 := congrArg (fun a : Array Value => a[9]?) h
  exact ⟨by simpa [Mach.cells] using h0, by simpa [Mach.cells] using h8, by simpa [Mach.cells] using h9⟩

structure StpI (KK : Nat → Prop) (w wx : World) (lo b : Nat) (m : Mach) : Prop where
  at_ : ∃ rv mv ov, AtP wx lo b rv mv ov m
  res : wx.heap[b + 1]? = some (.cells zeroM 30 (0, 0))
  old : Below lo w wx
  bw : w.heap.size ≤ b
  box : KeptK KK w wx
  mine : ∀ rv mv ov, wx.heap[b]? = some (.cells (m.cells rv mv ov) 30 (0, 0)) → Free KK w rv ∧ Free KK w mv ∧ Free KK w ov
theorem StpI.start {KK : Nat → Prop} {w : World} {lo : Nat} {rv mv ov : Value} {m : Mach} (h : OwnM w lo rv mv ov m) (hlo : lo ≤ w.heap.size) (hF : Free KK w rv ∧ Free KK w mv ∧ Free KK w ov) : StpI KK w ((w.alloc (.cells (m.cells rv mv ov) 30)).alloc (.cells zeroM 30)) lo w.heap.size m := by
  obtain ⟨b0, b1, b2⟩ := two_boxes (Below.refl (((w.alloc (.cells (m.cells rv mv ov) 30)).alloc (.cells zeroM 30)).heap.size) ((w.alloc (.cells (m.cells rv mv ov) 30)).alloc (.cells zeroM 30)))
  refine ⟨⟨rv, mv, ov, b0, h.below b2, hlo⟩, b1, b2.mono hlo, Nat.le_refl _, fun g o _ hg => by rw [b2.block g (lt_of_block hg)]; exact hg, fun rv' mv' ov' hx => ?_⟩
  rw [b0] at hx
  simp only [Option.some.injEq, Obj.cells.injEq, and_true] at hx
  obtain ⟨rfl, rfl, rfl⟩ := cells_inj hx
  exact hF
theorem StpI.put {KK : Nat → Prop} {w wx : World} {lo b i : Nat} {m m' : Mach} {x : Value} {rv mv ov : Value} (h : StpI KK w wx lo b m) (ha : AtP (wx.setCell ⟨b, i, none⟩ x) lo b rv mv ov m') (hx : Free KK w x := by (intro g hg; cases hg)) : StpI KK w (wx.setCell ⟨b, i, none⟩ x) lo b m' := by
  refine ⟨⟨rv, mv, ov, ha⟩, by rw [Below.heap_setCell _ _ _ _ (by simp)]; exact h.res, h.old.setCell (p := ⟨b, i, none⟩) ha.le _, h.bw, h.box.set h.bw _ _, fun rv' mv' ov' hb => ?_⟩
  obtain ⟨rv0, mv0, ov0, h0⟩ := h.at_
  obtain ⟨f0, f8, f9⟩ := h.mine _ _ _ h0.box
  rw [box_set h0.box] at hb
  simp only [Option.some.injEq, Obj.cells.injEq, and_true] at hb
  have e0 := congrArg (fun a : Array Value => a[0]?) hb
  have e8 := congrArg (fun a : Array Value => a[8]?) hb
  have e9 := congrArg (fun a : Array Value => a[9]?) hb
  simp only [Array.getElem?_setIfInBounds] at e0 e8 e9
  refine ⟨?_, ?_, ?_⟩
  · split at e0
    · simp [Mach.cells] at e0; rw [← e0.2]; exact hx
    · simp [Mach.cells] at e0; rw [← e0]; exact f0
  · split at e8
    · simp [Mach.cells] at e8; rw [← e8.2]; exact hx
    · simp [Mach.cells] at e8; rw [← e8]; exact f8
  · split at e9
    · simp [Mach.cells] at e9; rw [← e9.2]; exact hx
    · simp [Mach.cells] at e9; rw [← e9]; exact f9
theorem StpI.size {KK : Nat → Prop} {w wx : World} {lo b : Nat} {m : Mach} (h : StpI KK w wx lo b m) : lo ≤ b ∧ b + 1 < wx.heap.size := by
  obtain ⟨_, _, _, ha⟩ := h.at_
  exact ⟨ha.le, lt_of_block h.res⟩
theorem StpI.below {KK : Nat → Prop} {w wx wy : World} {lo b : Nat} {m : Mach} (h : StpI KK w wx lo b m) (hB : Below wx.heap.size wx wy) : StpI KK w wy lo b m := by
  have hsz := h.size
  obtain ⟨rv, mv, ov, ha⟩ := h.at_
  exact ⟨⟨rv, mv, ov, ha.below hB⟩, by rw [hB.block _ (lt_of_block h.res)]; exact h.res, h.old.trans (hB.mono (by omega)), h.bw, fun g o hk hg => by rw [hB.block g (lt_of_block (h.box g o hk hg))]; exact h.box g o hk hg, fun rv' mv' ov' hb => h.mine rv' mv' ov' (by rw [← hB.block b (by omega)]; exact hb)⟩
theorem StpI.mem {KK : Nat → Prop} {w wx : World} {lo b g n c : Nat} {rv ov : Value} {m : Mach} (h : StpI KK w wx lo b m) (ha : AtP wx lo b rv (.slice (some ⟨g, 0, none⟩) n c) ov m) (i : Nat) (x : Int) : StpI KK w (wx.setCell ⟨g, i, none⟩ (.int .i64 x)) lo b { m with mem := m.mem.set i x } := by
  have hne : b + 1 ≠ g := fun e => own_ne ha.own.mem h.res (by decide) (by rw [e]; rfl)
  have hnb : b ≠ g := fun e => own_ne ha.own.mem ha.box (by decide) (by rw [e]; rfl)
  have hf := (h.mine _ _ _ ha.box).2.1 g rfl
  exact ⟨⟨_, _, _, (ha.putMem i x).1⟩, by rw [Below.heap_setCell _ _ _ _ hne]; exact h.res, h.old.trans (ha.putMem i x).2, h.bw, fun k o hk ho => box_other (h.box k o hk ho) (fun e => hf (by have := lt_of_block ho; omega) (by rw [← e]; exact hk)) _, fun rv' mv' ov' hb => h.mine rv' mv' ov' (by rw [Below.heap_setCell _ _ _ _ hnb] at hb; exact hb)⟩
theorem StpI.reg {KK : Nat → Prop} {w wx : World} {lo b g n c : Nat} {mv ov : Value} {m : Mach} (h : StpI KK w wx lo b m) (ha : AtP wx lo b (.slice (some ⟨g, 0, none⟩) n c) mv ov m) (i : Nat) (x : Int) : StpI KK w (wx.setCell ⟨g, i, none⟩ (.int .i64 x)) lo b { m with regs := m.regs.set i x } := by
  have hne : b + 1 ≠ g := fun e => own_ne ha.own.regs h.res (by decide) (by rw [e]; rfl)
  have hnb : b ≠ g := fun e => own_ne ha.own.regs ha.box (by decide) (by rw [e]; rfl)
  have hf := (h.mine _ _ _ ha.box).1 g rfl
  exact ⟨⟨_, _, _, (ha.putReg i x).1⟩, by rw [Below.heap_setCell _ _ _ _ hne]; exact h.res, h.old.trans (ha.putReg i x).2, h.bw, fun k o hk ho => box_other (h.box k o hk ho) (fun e => hf (by have := lt_of_block ho; omega) (by rw [← e]; exact hk)) _, fun rv' mv' ov' hb => h.mine rv' mv' ov' (by rw [Below.heap_setCell _ _ _ _ hnb] at hb; exact hb)⟩
theorem StpI.same {KK : Nat → Prop} {w wx : World} {lo b : Nat} {m m' : Mach} (h : StpI KK w wx lo b m) (e : m = m') : StpI KK w wx lo b m' := e ▸ h

end Go.Proofs.YtbjlfhpiebokkaaDoor
