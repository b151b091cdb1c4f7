/- Contract of hourglassref.FoldOf: a number goes round. -/
import Derived.Test.YtbjlfhpiebokkaaDoorToldCPart
import Derived.Test.YtbjlfhpiebokkaaDoorPtrPart
import Derived.Test.YtbjlfhpiebokkaaDoorStepOPart
import Derived.Test.YtbjlfhpiebokkaaDoorInstrPart
import Derived.Deep.DeepCutAuto
import Derived.Deep.CutBlock
import Derived.StillTailTactics
import Derived.Test.YtbjlfhpiebokkaaDoorStepIPart
namespace Go.Proofs.YtbjlfhpiebokkaaDoor
open Go.RowKit

set_option maxHeartbeats 400000 in
theorem FoldOf_any (n : Int) (w : World) (hn : -9223372036854775808 ≤ n ∧ n ≤ 9223372036854775807) :
    Calls Tryd.prog 65 #[.int .i64 n] w fun e w' => e = .returned (.int .i64 (foldF n)) ∧ w' = w := by
  obtain ⟨n1, n2⟩ := hn
  go_enter Tryd.func65, Tryd.ntmps65
  go_wp2_with fail
  go_loopw [0] (fun v wr => ∃ c : Int, v = .int .i64 c ∧ wr = w ∧ -9223372036854775808 ≤ c ∧ c ≤ 9223372036854775807 ∧ Hid ((n - c) % 2199023255553 = 0)) (fun v _ => (intOf v + 9223372036854775808).toNat)
  case atStart => exact ⟨n, rfl, rfl, n1, n2, by simp [Hid]⟩
  case round =>
    obtain ⟨c, rfl, hw, c1, c2, hc⟩ := hrel
    subst wr
    by_cases hgt : 1099511627776 < c
    · go_wp2
      refine ⟨⟨c - 2199023255553, by go_num, trivial, by omega, by omega, by have := hc.out; simp only [Hid]; omega⟩, ?_⟩
      simp [intOf]; omega
    · go_wp2
      go_loopw [0] (fun v wr => ∃ c : Int, v = .int .i64 c ∧ wr = w ∧ -9223372036854775808 ≤ c ∧ c ≤ 1099511627776 ∧ Hid ((n - c) % 2199023255553 = 0)) (fun v _ => (9223372036854775808 - intOf v).toNat)
      case atStart => exact ⟨c, rfl, rfl, c1, by omega, hc⟩
      case round =>
        clear hc hgt c1 c2
        obtain ⟨d, rfl, hw, d1, d2, hd⟩ := hrel
        subst wr
        by_cases hlt : d < -1099511627776
        · go_wp2
          refine ⟨⟨d + 2199023255553, by go_num, trivial, by omega, by omega, by have := hd.out; simp only [Hid]; omega⟩, ?_⟩
          simp [intOf]; omega
        · go_wp2
          go_ret
          exact ⟨ret_int (foldF_of (by omega) (by omega) hd.out).symm, rfl⟩

end Go.Proofs.YtbjlfhpiebokkaaDoor

/- hourglassref.stepped: the guest in its box, from statement to statement. -/

namespace Go.Proofs.YtbjlfhpiebokkaaDoor
open Go.RowKit

def KeptM (w wx : World) : Prop := ∀ (g : Nat) (cur : Array Value), w.heap[g]? = some (.cells cur 30 (0, 0)) → wx.heap[g]? = some (.cells cur 30 (0, 0))
theorem KeptM.set {w wx : World} {g : Nat} (h : KeptM w wx) (hg : w.heap.size ≤ g) (i : Nat) (x : Value) : KeptM w (wx.setCell ⟨g, i, none⟩ x) := fun k cur hk => box_other (h k cur hk) (by have := lt_of_block hk; omega) x
theorem keptM_set12 {w wx : World} {g : Nat} (h : KeptM w wx) (hg : w.heap.size ≤ g) (x0 x1 x2 x3 x4 x5 x6 x7 x8 x9 x10 x11 : Value) :
    KeptM w ((((((((((((wx.setCell ⟨g, 0, none⟩ x0).setCell ⟨g, 1, none⟩ x1).setCell ⟨g, 2, none⟩ x2).setCell ⟨g, 3, none⟩ x3).setCell ⟨g, 4, none⟩ x4).setCell ⟨g, 5, none⟩ x5).setCell ⟨g, 6, none⟩ x6).setCell ⟨g, 7, none⟩ x7).setCell ⟨g, 8, none⟩ x8).setCell ⟨g, 9, none⟩ x9).setCell ⟨g, 10, none⟩ x10).setCell ⟨g, 11, none⟩ x11) :=
  (((((((((((h.set hg _ _).set hg _ _).set hg _ _).set hg _ _).set hg _ _).set hg _ _).set hg _ _).set hg _ _).set hg _ _).set hg _ _).set hg _ _).set hg _ _

def KeptK (KK : Nat → Prop) (w wx : World) : Prop := ∀ (g : Nat) (o : Obj), KK g → w.heap[g]? = some o → wx.heap[g]? = some o
theorem KeptK.set {KK : Nat → Prop} {w wx : World} {g : Nat} (h : KeptK KK w wx) (hg : w.heap.size ≤ g) (i : Nat) (x : Value) : KeptK KK w (wx.setCell ⟨g, i, none⟩ x) := fun k o hk hko => box_other (h k o hk hko) (by have := lt_of_block hko; omega) x
theorem keptK_set12 {KK : Nat → Prop} {w wx : World} {g : Nat} (h : KeptK KK w wx) (hg : w.heap.size ≤ g) (x0 x1 x2 x3 x4 x5 x6 x7 x8 x9 x10 x11 : Value) :
    KeptK KK w ((((((((((((wx.setCell ⟨g, 0, none⟩ x0).setCell ⟨g, 1, none⟩ x1).setCell ⟨g, 2, none⟩ x2).setCell ⟨g, 3, none⟩ x3).setCell ⟨g, 4, none⟩ x4).setCell ⟨g, 5, none⟩ x5).setCell ⟨g, 6, none⟩ x6).setCell ⟨g, 7, none⟩ x7).setCell ⟨g, 8, none⟩ x8).setCell ⟨g, 9, none⟩ x9).setCell ⟨g, 10, none⟩ x10).setCell ⟨g, 11, none⟩ x11) :=
  (((((((((((h.set hg _ _).set hg _ _).set hg _ _).set hg _ _).set hg _ _).set hg _ _).set hg _ _).set hg _ _).set hg _ _).set hg _ _).set hg _ _).set hg _ _
theorem keptK_cell {KK : Nat → Prop} {lo b : Nat} {w wx : World} (hB : Below lo w wx) (hK : KeptK KK w wx) (hb : b < w.heap.size) (hor : b < lo ∨ KK b) (i : Nat) : wx.cell? ⟨b, i, none⟩ = w.cell? ⟨b, i, none⟩ := by
  rcases hor with h | h
  · exact hB.cell (p := ⟨b, i, none⟩) h
  · obtain ⟨o, ho⟩ : ∃ o, w.heap[b]? = some o := ⟨_, Array.getElem?_eq_getElem hb⟩
    simp [World.cell?, ho, hK b o h ho]
def IntsK (KK : Nat → Prop) (lo : Nat) (w : World) (v : Value) (l : List Int) : Prop :=
  ∃ (A : Option Addr) (c : Nat), v = .slice A l.length c ∧ l.length * 8 ≤ 140737488351232 ∧
    (0 < l.length → ∃ b off, A = some ⟨b, off, none⟩ ∧ (b < w.heap.size ∧ (b < lo ∨ KK b)) ∧ ∀ j, j < l.length → w.cell? ⟨b, off + j, none⟩ = some (.int .i64 (l.getD j 0)))
theorem IntsOld.kept {KK : Nat → Prop} {lo : Nat} {w : World} {v : Value} {l : List Int} (h : IntsOld lo w v l) (hlo : lo ≤ w.heap.size) : IntsK KK lo w v l := by
  obtain ⟨A, c, rfl, hl, hc⟩ := h
  refine ⟨A, c, rfl, hl, fun h0 => ?_⟩
  obtain ⟨b, off, rfl, hlt, hj⟩ := hc h0
  exact ⟨b, off, rfl, ⟨by omega, Or.inl hlt⟩, hj⟩
def Free (KK : Nat → Prop) (w : World) (v : Value) : Prop := ∀ g, v.ownBlock = some g → g < w.heap.size → ¬ KK g
theorem cells_inj {m m' : Mach} {rv mv ov rv' mv' ov' : Value} (h : m.cells rv mv ov = m'.cells rv' mv' ov') : rv = rv' ∧ mv = mv' ∧ ov = ov' := by
  have h0 := congrArg (fun a : Array Value => a[0]?) h
  have h8 := congrArg (fun a : Array Value => a[8]?) h
  have h9 := congrArg (fun a : Array Value => a[9]?) h
  exact ⟨by simpa [Mach.cells] using h0, by simpa [Mach.cells] using h8, by simpa [Mach.cells] using h9⟩

structure StpI (KK : Nat → Prop) (w wx : World) (lo b : Nat) (m : Mach) : Prop where
  at_ : ∃ rv mv ov, AtP wx lo b rv mv ov m
  res : wx.heap[b + 1]? = some (.cells zeroM 30 (0, 0))
  old : Below lo w wx
  bw : w.heap.size ≤ b
  box : KeptK KK w wx
  mine : ∀ rv mv ov, wx.heap[b]? = some (.cells (m.cells rv mv ov) 30 (0, 0)) → Free KK w rv ∧ Free KK w mv ∧ Free KK w ov
theorem StpI.start {KK : Nat → Prop} {w : World} {lo : Nat} {rv mv ov : Value} {m : Mach} (h : OwnM w lo rv mv ov m) (hlo : lo ≤ w.heap.size) (hF : Free KK w rv ∧ Free KK w mv ∧ Free KK w ov) : StpI KK w ((w.alloc (.cells (m.cells rv mv ov) 30)).alloc (.cells zeroM 30)) lo w.heap.size m := by
  obtain ⟨b0, b1, b2⟩ := two_boxes (Below.refl (((w.alloc (.cells (m.cells rv mv ov) 30)).alloc (.cells zeroM 30)).heap.size) ((w.alloc (.cells (m.cells rv mv ov) 30)).alloc (.cells zeroM 30)))
  refine ⟨⟨rv, mv, ov, b0, h.below b2, hlo⟩, b1, b2.mono hlo, Nat.le_refl _, fun g o _ hg => by rw [b2.block g (lt_of_block hg)]; exact hg, fun rv' mv' ov' hx => ?_⟩
  rw [b0] at hx
  simp only [Option.some.injEq, Obj.cells.injEq, and_true] at hx
  obtain ⟨rfl, rfl, rfl⟩ := cells_inj hx
  exact hF
theorem StpI.put {KK : Nat → Prop} {w wx : World} {lo b i : Nat} {m m' : Mach} {x : Value} {rv mv ov : Value} (h : StpI KK w wx lo b m) (ha : AtP (wx.setCell ⟨b, i, none⟩ x) lo b rv mv ov m') (hx : Free KK w x := by (intro g hg; cases hg)) : StpI KK w (wx.setCell ⟨b, i, none⟩ x) lo b m' := by
  refine ⟨⟨rv, mv, ov, ha⟩, by rw [Below.heap_setCell _ _ _ _ (by simp)]; exact h.res, h.old.setCell (p := ⟨b, i, none⟩) ha.le _, h.bw, h.box.set h.bw _ _, fun rv' mv' ov' hb => ?_⟩
  obtain ⟨rv0, mv0, ov0, h0⟩ := h.at_
  obtain ⟨f0, f8, f9⟩ := h.mine _ _ _ h0.box
  rw [box_set h0.box] at hb
  simp only [Option.some.injEq, Obj.cells.injEq, and_true] at hb
  have e0 := congrArg (fun a : Array Value => a[0]?) hb
  have e8 := congrArg (fun a : Array Value => a[8]?) hb
  have e9 := congrArg (fun a : Array Value => a[9]?) hb
  simp only [Array.getElem?_setIfInBounds] at e0 e8 e9
  refine ⟨?_, ?_, ?_⟩
  · split at e0
    · simp [Mach.cells] at e0; rw [← e0.2]; exact hx
    · simp [Mach.cells] at e0; rw [← e0]; exact f0
  · split at e8
    · simp [Mach.cells] at e8; rw [← e8.2]; exact hx
    · simp [Mach.cells] at e8; rw [← e8]; exact f8
  · split at e9
    · simp [Mach.cells] at e9; rw [← e9.2]; exact hx
    · simp [Mach.cells] at e9; rw [← e9]; exact f9
theorem StpI.size {KK : Nat → Prop} {w wx : World} {lo b : Nat} {m : Mach} (h : StpI KK w wx lo b m) : lo ≤ b ∧ b + 1 < wx.heap.size := by
  obtain ⟨_, _, _, ha⟩ := h.at_
  exact ⟨ha.le, lt_of_block h.res⟩
theorem StpI.below {KK : Nat → Prop} {w wx wy : World} {lo b : Nat} {m : Mach} (h : StpI KK w wx lo b m) (hB : Below wx.heap.size wx wy) : StpI KK w wy lo b m := by
  have hsz := h.size
  obtain ⟨rv, mv, ov, ha⟩ := h.at_
  exact ⟨⟨rv, mv, ov, ha.below hB⟩, by rw [hB.block _ (lt_of_block h.res)]; exact h.res, h.old.trans (hB.mono (by omega)), h.bw, fun g o hk hg => by rw [hB.block g (lt_of_block (h.box g o hk hg))]; exact h.box g o hk hg, fun rv' mv' ov' hb => h.mine rv' mv' ov' (by rw [← hB.block b (by omega)]; exact hb)⟩
theorem StpI.mem {KK : Nat → Prop} {w wx : World} {lo b g n c : Nat} {rv ov : Value} {m : Mach} (h : StpI KK w wx lo b m) (ha : AtP wx lo b rv (.slice (some ⟨g, 0, none⟩) n c) ov m) (i : Nat) (x : Int) : StpI KK w (wx.setCell ⟨g, i, none⟩ (.int .i64 x)) lo b { m with mem := m.mem.set i x } := by
  have hne : b + 1 ≠ g := fun e => own_ne ha.own.mem h.res (by decide) (by rw [e]; rfl)
  have hnb : b ≠ g := fun e => own_ne ha.own.mem ha.box (by decide) (by rw [e]; rfl)
  have hf := (h.mine _ _ _ ha.box).2.1 g rfl
  exact ⟨⟨_, _, _, (ha.putMem i x).1⟩, by rw [Below.heap_setCell _ _ _ _ hne]; exact h.res, h.old.trans (ha.putMem i x).2, h.bw, fun k o hk ho => box_other (h.box k o hk ho) (fun e => hf (by have := lt_of_block ho; omega) (by rw [← e]; exact hk)) _, fun rv' mv' ov' hb => h.mine rv' mv' ov' (by rw [Below.heap_setCell _ _ _ _ hnb] at hb; exact hb)⟩
theorem StpI.reg {KK : Nat → Prop} {w wx : World} {lo b g n c : Nat} {mv ov : Value} {m : Mach} (h : StpI KK w wx lo b m) (ha : AtP wx lo b (.slice (some ⟨g, 0, none⟩) n c) mv ov m) (i : Nat) (x : Int) : StpI KK w (wx.setCell ⟨g, i, none⟩ (.int .i64 x)) lo b { m with regs := m.regs.set i x } := by
  have hne : b + 1 ≠ g := fun e => own_ne ha.own.regs h.res (by decide) (by rw [e]; rfl)
  have hnb : b ≠ g := fun e => own_ne ha.own.regs ha.box (by decide) (by rw [e]; rfl)
  have hf := (h.mine _ _ _ ha.box).1 g rfl
  exact ⟨⟨_, _, _, (ha.putReg i x).1⟩, by rw [Below.heap_setCell _ _ _ _ hne]; exact h.res, h.old.trans (ha.putReg i x).2, h.bw, fun k o hk ho => box_other (h.box k o hk ho) (fun e => hf (by have := lt_of_block ho; omega) (by rw [← e]; exact hk)) _, fun rv' mv' ov' hb => h.mine rv' mv' ov' (by rw [Below.heap_setCell _ _ _ _ hnb] at hb; exact hb)⟩
theorem StpI.same {KK : Nat → Prop} {w wx : World} {lo b : Nat} {m m' : Mach} (h : StpI KK w wx lo b m) (e : m = m') : StpI KK w wx lo b m' := e ▸ h

end Go.Proofs.YtbjlfhpiebokkaaDoor

/- hourglassref.stepped, statement by statement: the statements of its text. -/

namespace Go.Proofs.YtbjlfhpiebokkaaDoor
open Go.RowKit

def stm : Nat → Code → Code
  | 0, .seq a _ => a
  | 0, c => c
  | k + 1, .seq _ b => stm k b
  | _ + 1, c => c
def rst : Nat → Code → Code
  | 0, c => c
  | k + 1, .seq _ b => rst k b
  | _ + 1, c => c

end Go.Proofs.YtbjlfhpiebokkaaDoor

/- hourglassref.stepped, statement by statement: up to the instruction that comes next. (Written by tools/gen_sp.py.) -/

namespace Go.Proofs.YtbjlfhpiebokkaaDoor
open Go.RowKit
variable {KK : Nat → Prop}

set_option maxRecDepth 100000 in
set_option maxHeartbeats 4000000 in
theorem seg2 (c0 c2 c3 c5 c6 c7 c9 aA i5 i4 i3 i2 hF hG aB aC aD aE aF aG aH aI hH hI hJ hL hM hN aJ aK aL aM aN aO aP aQ aR aS aT aU aV aW aX aY aZ a0 a1 a2 a3 a4 a5 a6 a7 a8 a9 hO hQ hT hU hV hW hX hY hZ h0 h4 h5 h6 h7 h8 h9 iA iB iC iD iE iF iG bA bB bC iH iI iJ iK iL iM iN iO iP iQ iR iS iT iU iV bD bE bF bG bH bI bJ bK bL bM bN bO bP bQ bR bS bT bU bV bW bX bY bZ b0 b1 b2 b3 b4 b5 b6 b7 b8 b9 cA cB cC cD cE cF cG cH cI cJ cK cL cM cN cO cP cQ cR cS cT cU cV cW cX cY cZ c4 c8 dA dB dC dD dE dF dG dH dI dJ dK dL dM dN dO dP dQ dR dS dT dU dV dW dX dY dZ d0 d4 d5 d6 d7 d8 d9 eA eB eC eD eE eF eG eH eI eJ eK eL eM eN eO eP eQ eR eS eT eU eV eW eX eY eZ e4 e5 e6 e7 e8 e9 fA fB fC fD fE fF fG fH fI fJ fK fL fM fN fO fP fQ fR fS fT fU fV fW fX fY fZ f0 f1 f2 f3 f4 f5 f6 f7 f8 f9 gA gB gC gD gE gF gG gH gI gJ gK gL gM gN gO gP gQ gR gS gT gU gV gW gX gY gZ g0 g1 g2 g3 g4 g5 g6 g7 g8 g9 hA iW iX iY iZ i0 i1 hB hC : Value) (irq : Bool) (m : Mach) (w W : World) (lo b : Nat) (K : Act → World → Prop) (Q : Exit → Act → World → Prop)
    (h : StpI KK w W lo b m)
    (hK : ∀ (i6 i7 i8 i9 jA jB : Value) (W' : World), StpI KK w W' lo b { m with wait := m.wait || irq } → K ⟨#[c0, .bool irq, c2, c3, .pointer (some ⟨b, 0, none⟩), c5, c6, c7, .pointer (some ⟨b + 1, 0, none⟩), c9, aA, i5, i4, i3, i2, hF, hG, aB, aC, aD, aE, aF, aG, aH, aI, i6, i7, i8, i9, jA, jB, aJ, aK, aL, aM, aN, aO, aP, aQ, aR, aS, aT, aU, aV, aW, aX, aY, aZ, a0, a1, a2, a3, a4, a5, a6, a7, a8, a9, hO, hQ, hT, hU, hV, hW, hX, hY, hZ, h0, h4, h5, h6, h7, h8, h9, iA, iB, iC, iD, iE, iF, iG, bA, bB, bC, iH, iI, iJ, iK, iL, iM, iN, iO, iP, iQ, iR, iS, iT, iU, iV, bD, bE, bF, bG, bH, bI, bJ, bK, bL, bM, bN, bO, bP, bQ, bR, bS, bT, bU, bV, bW, bX, bY, bZ, b0, b1, b2, b3, b4, b5, b6, b7, b8, b9, cA, cB, cC, cD, cE, cF, cG, cH, cI, cJ, cK, cL, cM, cN, cO, cP, cQ, cR, cS, cT, cU, cV, cW, cX, cY, cZ, c4, c8, dA, dB, dC, dD, dE, dF, dG, dH, dI, dJ, dK, dL, dM, dN, dO, dP, dQ, dR, dS, dT, dU, dV, dW, dX, dY, dZ, d0, d4, d5, d6, d7, d8, d9, eA, eB, eC, eD, eE, eF, eG, eH, eI, eJ, eK, eL, eM, eN, eO, eP, eQ, eR, eS, eT, eU, eV, eW, eX, eY, eZ, e4, e5, e6, e7, e8, e9, fA, fB, fC, fD, fE, fF, fG, fH, fI, fJ, fK, fL, fM, fN, fO, fP, fQ, fR, fS, fT, fU, fV, fW, fX, fY, fZ, f0, f1, f2, f3, f4, f5, f6, f7, f8, f9, gA, gB, gC, gD, gE, gF, gG, gH, gI, gJ, gK, gL, gM, gN, gO, gP, gQ, gR, gS, gT, gU, gV, gW, gX, gY, gZ, g0, g1, g2, g3, g4, g5, g6, g7, g8, g9, hA, iW, iX, iY, iZ, i0, i1, hB, hC], []⟩ W') :
    Code.wp Tryd.prog (stm 2 (Tryd.f34.body.getD .skip)) (Exit.then K Q) ⟨#[c0, .bool irq, c2, c3, .pointer (some ⟨b, 0, none⟩), c5, c6, c7, .pointer (some ⟨b + 1, 0, none⟩), c9, aA, i5, i4, i3, i2, hF, hG, aB, aC, aD, aE, aF, aG, aH, aI, hH, hI, hJ, hL, hM, hN, aJ, aK, aL, aM, aN, aO, aP, aQ, aR, aS, aT, aU, aV, aW, aX, aY, aZ, a0, a1, a2, a3, a4, a5, a6, a7, a8, a9, hO, hQ, hT, hU, hV, hW, hX, hY, hZ, h0, h4, h5, h6, h7, h8, h9, iA, iB, iC, iD, iE, iF, iG, bA, bB, bC, iH, iI, iJ, iK, iL, iM, iN, iO, iP, iQ, iR, iS, iT, iU, iV, bD, bE, bF, bG, bH, bI, bJ, bK, bL, bM, bN, bO, bP, bQ, bR, bS, bT, bU, bV, bW, bX, bY, bZ, b0, b1, b2, b3, b4, b5, b6, b7, b8, b9, cA, cB, cC, cD, cE, cF, cG, cH, cI, cJ, cK, cL, cM, cN, cO, cP, cQ, cR, cS, cT, cU, cV, cW, cX, cY, cZ, c4, c8, dA, dB, dC, dD, dE, dF, dG, dH, dI, dJ, dK, dL, dM, dN, dO, dP, dQ, dR, dS, dT, dU, dV, dW, dX, dY, dZ, d0, d4, d5, d6, d7, d8, d9, eA, eB, eC, eD, eE, eF, eG, eH, eI, eJ, eK, eL, eM, eN, eO, eP, eQ, eR, eS, eT, eU, eV, eW, eX, eY, eZ, e4, e5, e6, e7, e8, e9, fA, fB, fC, fD, fE, fF, fG, fH, fI, fJ, fK, fL, fM, fN, fO, fP, fQ, fR, fS, fT, fU, fV, fW, fX, fY, fZ, f0, f1, f2, f3, f4, f5, f6, f7, f8, f9, gA, gB, gC, gD, gE, gF, gG, gH, gI, gJ, gK, gL, gM, gN, gO, gP, gQ, gR, gS, gT, gU, gV, gW, gX, gY, gZ, g0, g1, g2, g3, g4, g5, g6, g7, g8, g9, hA, iW, iX, iY, iZ, i0, i1, hB, hC], []⟩ W := by
  have HK : Hid _ := hK
  clear hK
  conv => arg 2; whnf
  obtain ⟨rv, mv, ov, ha⟩ := h.at_
  obtain ⟨⟨z0, z1, z2, z3, z4, z5, z6, z7, z8, z9, z10, z11⟩, zf, zl⟩ := twelve_cells ha.box
  have HP : Hid (StpI KK w (W.setCell ⟨b, 4, none⟩ (.bool (m.wait || irq))) lo b { m with wait := m.wait || irq }) := h.put (ha.setWait (m.wait || irq)).1
  clear h ha
  cases hw : m.wait
  all_goals
    rw [hw] at z4 HP
    go_wp2_with fail
    refine HK.out _ _ _ _ _ _ _ ?_
    simpa [hw] using HP.out


set_option maxRecDepth 100000 in
set_option maxHeartbeats 4000000 in
theorem seg4 (c0 c1 c2 c3 c5 c6 c7 c9 aA i5 i4 i3 i2 hF hG aB aC aD aE aF aG aH aI hH hI hJ hL hM hN aJ aK aL aM aN aO aP aQ aR aS aT aU aV aW aX aY aZ a0 a1 a2 a3 a4 a5 a6 a7 a8 a9 hO hQ hT hU hV hW hX hY hZ h0 h4 h5 h6 h7 h8 h9 iA iB iC iD iE iF iG bA bB bC iH iI iJ iK iL iM iN iO iP iQ iR iS iT iU iV bD bE bF bG bH bI bJ bK bL bM bN bO bP bQ bR bS bT bU bV bW bX bY bZ b0 b1 b2 b3 b4 b5 b6 b7 b8 b9 cA cB cC cD cE cF cG cH cI cJ cK cL cM cN cO cP cQ cR cS cT cU cV cW cX cY cZ c4 c8 dA dB dC dD dE dF dG dH dI dJ dK dL dM dN dO dP dQ dR dS dT dU dV dW dX dY dZ d0 d4 d5 d6 d7 d8 d9 eA eB eC eD eE eF eG eH eI eJ eK eL eM eN eO eP eQ eR eS eT eU eV eW eX eY eZ e4 e5 e6 e7 e8 e9 fA fB fC fD fE fF fG fH fI fJ fK fL fM fN fO fP fQ fR fS fT fU fV fW fX fY fZ f0 f1 f2 f3 f4 f5 f6 f7 f8 f9 gA gB gC gD gE gF gG gH gI gJ gK gL gM gN gO gP gQ gR gS gT gU gV gW gX gY gZ g0 g1 g2 g3 g4 g5 g6 g7 g8 g9 hA iW iX iY iZ i0 i1 hB hC : Value) (m : Mach) (w W : World) (lo b : Nat) (K : Act → World → Prop) (Q : Exit → Act → World → Prop)
    (h : StpI KK w W lo b m)
    (hK : ∀ (jC jD jE jF jG jH jI jJ jK jL jM jN : Value) (W' : World), StpI KK w W' lo b m.enter → K ⟨#[c0, c1, c2, c3, .pointer (some ⟨b, 0, none⟩), c5, c6, c7, .pointer (some ⟨b + 1, 0, none⟩), c9, aA, i5, i4, i3, i2, hF, hG, aB, aC, aD, aE, aF, aG, aH, aI, hH, hI, hJ, hL, hM, hN, aJ, aK, aL, aM, aN, aO, aP, aQ, aR, aS, aT, aU, aV, aW, aX, aY, aZ, a0, a1, a2, a3, a4, a5, a6, a7, a8, a9, jC, jD, jE, jF, jG, jH, jI, jJ, jK, jL, jM, jN, h6, h7, h8, h9, iA, iB, iC, iD, iE, iF, iG, bA, bB, bC, iH, iI, iJ, iK, iL, iM, iN, iO, iP, iQ, iR, iS, iT, iU, iV, bD, bE, bF, bG, bH, bI, bJ, bK, bL, bM, bN, bO, bP, bQ, bR, bS, bT, bU, bV, bW, bX, bY, bZ, b0, b1, b2, b3, b4, b5, b6, b7, b8, b9, cA, cB, cC, cD, cE, cF, cG, cH, cI, cJ, cK, cL, cM, cN, cO, cP, cQ, cR, cS, cT, cU, cV, cW, cX, cY, cZ, c4, c8, dA, dB, dC, dD, dE, dF, dG, dH, dI, dJ, dK, dL, dM, dN, dO, dP, dQ, dR, dS, dT, dU, dV, dW, dX, dY, dZ, d0, d4, d5, d6, d7, d8, d9, eA, eB, eC, eD, eE, eF, eG, eH, eI, eJ, eK, eL, eM, eN, eO, eP, eQ, eR, eS, eT, eU, eV, eW, eX, eY, eZ, e4, e5, e6, e7, e8, e9, fA, fB, fC, fD, fE, fF, fG, fH, fI, fJ, fK, fL, fM, fN, fO, fP, fQ, fR, fS, fT, fU, fV, fW, fX, fY, fZ, f0, f1, f2, f3, f4, f5, f6, f7, f8, f9, gA, gB, gC, gD, gE, gF, gG, gH, gI, gJ, gK, gL, gM, gN, gO, gP, gQ, gR, gS, gT, gU, gV, gW, gX, gY, gZ, g0, g1, g2, g3, g4, g5, g6, g7, g8, g9, hA, iW, iX, iY, iZ, i0, i1, hB, hC], []⟩ W') :
    Code.wp Tryd.prog (stm 4 (Tryd.f34.body.getD .skip)) (Exit.then K Q) ⟨#[c0, c1, c2, c3, .pointer (some ⟨b, 0, none⟩), c5, c6, c7, .pointer (some ⟨b + 1, 0, none⟩), c9, aA, i5, i4, i3, i2, hF, hG, aB, aC, aD, aE, aF, aG, aH, aI, hH, hI, hJ, hL, hM, hN, aJ, aK, aL, aM, aN, aO, aP, aQ, aR, aS, aT, aU, aV, aW, aX, aY, aZ, a0, a1, a2, a3, a4, a5, a6, a7, a8, a9, hO, hQ, hT, hU, hV, hW, hX, hY, hZ, h0, h4, h5, h6, h7, h8, h9, iA, iB, iC, iD, iE, iF, iG, bA, bB, bC, iH, iI, iJ, iK, iL, iM, iN, iO, iP, iQ, iR, iS, iT, iU, iV, bD, bE, bF, bG, bH, bI, bJ, bK, bL, bM, bN, bO, bP, bQ, bR, bS, bT, bU, bV, bW, bX, bY, bZ, b0, b1, b2, b3, b4, b5, b6, b7, b8, b9, cA, cB, cC, cD, cE, cF, cG, cH, cI, cJ, cK, cL, cM, cN, cO, cP, cQ, cR, cS, cT, cU, cV, cW, cX, cY, cZ, c4, c8, dA, dB, dC, dD, dE, dF, dG, dH, dI, dJ, dK, dL, dM, dN, dO, dP, dQ, dR, dS, dT, dU, dV, dW, dX, dY, dZ, d0, d4, d5, d6, d7, d8, d9, eA, eB, eC, eD, eE, eF, eG, eH, eI, eJ, eK, eL, eM, eN, eO, eP, eQ, eR, eS, eT, eU, eV, eW, eX, eY, eZ, e4, e5, e6, e7, e8, e9, fA, fB, fC, fD, fE, fF, fG, fH, fI, fJ, fK, fL, fM, fN, fO, fP, fQ, fR, fS, fT, fU, fV, fW, fX, fY, fZ, f0, f1, f2, f3, f4, f5, f6, f7, f8, f9, gA, gB, gC, gD, gE, gF, gG, gH, gI, gJ, gK, gL, gM, gN, gO, gP, gQ, gR, gS, gT, gU, gV, gW, gX, gY, gZ, g0, g1, g2, g3, g4, g5, g6, g7, g8, g9, hA, iW, iX, iY, iZ, i0, i1, hB, hC], []⟩ W := by
  have HK : Hid _ := hK
  clear hK
  conv => arg 2; whnf
  obtain ⟨rv, mv, ov, ha⟩ := h.at_
  obtain ⟨⟨z0, z1, z2, z3, z4, z5, z6, z7, z8, z9, z10, z11⟩, zf, zl⟩ := twelve_cells ha.box
  have HI : Hid (StpI KK w W lo b m) := h
  have h1 := h.put (ha.setWait false).1
  have h2 := h1.put ((ha.setWait false).1.setInts false).1
  have h3 := h2.put (((ha.setWait false).1.setInts false).1.setBack m.pc).1
  have HP : Hid (StpI KK w (((((W.setCell ⟨b, 4, none⟩ (.bool false)).setCell ⟨b, 3, none⟩ (.bool false)).setCell ⟨b, 2, none⟩ (.int .i64 m.pc)).setCell ⟨b, 1, none⟩ (.int .i64 8))) lo b { m with wait := false, ints := false, back := m.pc, pc := 8 }) := h3.put ((((ha.setWait false).1.setInts false).1.setBack m.pc).1.setPc 8).1
  clear h ha h1 h2 h3
  cases hw : m.wait with
  | false =>
    have HE : Hid (m = m.enter) := by show _ = _; simp [Mach.enter, hw]
    rw [hw] at z4
    clear HP
    go_wp2_with fail
    exact HK.out _ _ _ _ _ _ _ _ _ _ _ _ _ (HI.out.same HE.out)
  | true =>
    cases hi : m.ints with
    | false =>
      have HE : Hid (m = m.enter) := by show _ = _; simp [Mach.enter, hi]
      rw [hw] at z4
      rw [hi] at z3
      clear HP
      go_wp2_with fail
      exact HK.out _ _ _ _ _ _ _ _ _ _ _ _ _ (HI.out.same HE.out)
    | true =>
      have HE : Hid (({ m with wait := false, ints := false, back := m.pc, pc := 8 } : Mach) = m.enter) := by show _ = _; simp [Mach.enter, hw, hi]
      rw [hw] at z4
      rw [hi] at z3
      clear HI
      go_wp2_with fail
      exact HK.out _ _ _ _ _ _ _ _ _ _ _ _ _ (HP.out.same HE.out)


set_option maxRecDepth 100000 in
set_option maxHeartbeats 4000000 in
theorem seg5 (c0 c1 c2 c3 c5 c6 c7 c9 aA i5 i4 i3 i2 hF hG aB aC aD aE aF aG aH aI hH hI hJ hL hM hN aJ aK aL aM aN aO aP aQ aR aS aT aU aV aW aX aY aZ a0 a1 a2 a3 a4 a5 a6 a7 a8 a9 hO hQ hT hU hV hW hX hY hZ h0 h4 h5 h6 h7 h8 h9 iA iB iC iD iE iF iG bA bB bC iH iI iJ iK iL iM iN iO iP iQ iR iS iT iU iV bD bE bF bG bH bI bJ bK bL bM bN bO bP bQ bR bS bT bU bV bW bX bY bZ b0 b1 b2 b3 b4 b5 b6 b7 b8 b9 cA cB cC cD cE cF cG cH cI cJ cK cL cM cN cO cP cQ cR cS cT cU cV cW cX cY cZ c4 c8 dA dB dC dD dE dF dG dH dI dJ dK dL dM dN dO dP dQ dR dS dT dU dV dW dX dY dZ d0 d4 d5 d6 d7 d8 d9 eA eB eC eD eE eF eG eH eI eJ eK eL eM eN eO eP eQ eR eS eT eU eV eW eX eY eZ e4 e5 e6 e7 e8 e9 fA fB fC fD fE fF fG fH fI fJ fK fL fM fN fO fP fQ fR fS fT fU fV fW fX fY fZ f0 f1 f2 f3 f4 f5 f6 f7 f8 f9 gA gB gC gD gE gF gG gH gI gJ gK gL gM gN gO gP gQ gR gS gT gU gV gW gX gY gZ g0 g1 g2 g3 g4 g5 g6 g7 g8 g9 hA iW iX iY iZ i0 i1 hB hC : Value) (m : Mach) (w W : World) (lo b : Nat) (K : Act → World → Prop) (Q : Exit → Act → World → Prop)
    (h : StpI KK w W lo b m) (hc : 0 ≤ m.count ∧ m.count < 1099511627776)
    (hK : ∀ (jO jP jQ jR : Value) (W' : World), StpI KK w W' lo b m.counted → K ⟨#[c0, c1, c2, c3, .pointer (some ⟨b, 0, none⟩), c5, c6, c7, .pointer (some ⟨b + 1, 0, none⟩), c9, aA, i5, i4, i3, i2, hF, hG, aB, aC, aD, aE, aF, aG, aH, aI, hH, hI, hJ, hL, hM, hN, aJ, aK, aL, aM, aN, aO, aP, aQ, aR, aS, aT, aU, aV, aW, aX, aY, aZ, a0, a1, a2, a3, a4, a5, a6, a7, a8, a9, hO, hQ, hT, hU, hV, hW, hX, hY, hZ, h0, h4, h5, jO, jP, jQ, jR, iA, iB, iC, iD, iE, iF, iG, bA, bB, bC, iH, iI, iJ, iK, iL, iM, iN, iO, iP, iQ, iR, iS, iT, iU, iV, bD, bE, bF, bG, bH, bI, bJ, bK, bL, bM, bN, bO, bP, bQ, bR, bS, bT, bU, bV, bW, bX, bY, bZ, b0, b1, b2, b3, b4, b5, b6, b7, b8, b9, cA, cB, cC, cD, cE, cF, cG, cH, cI, cJ, cK, cL, cM, cN, cO, cP, cQ, cR, cS, cT, cU, cV, cW, cX, cY, cZ, c4, c8, dA, dB, dC, dD, dE, dF, dG, dH, dI, dJ, dK, dL, dM, dN, dO, dP, dQ, dR, dS, dT, dU, dV, dW, dX, dY, dZ, d0, d4, d5, d6, d7, d8, d9, eA, eB, eC, eD, eE, eF, eG, eH, eI, eJ, eK, eL, eM, eN, eO, eP, eQ, eR, eS, eT, eU, eV, eW, eX, eY, eZ, e4, e5, e6, e7, e8, e9, fA, fB, fC, fD, fE, fF, fG, fH, fI, fJ, fK, fL, fM, fN, fO, fP, fQ, fR, fS, fT, fU, fV, fW, fX, fY, fZ, f0, f1, f2, f3, f4, f5, f6, f7, f8, f9, gA, gB, gC, gD, gE, gF, gG, gH, gI, gJ, gK, gL, gM, gN, gO, gP, gQ, gR, gS, gT, gU, gV, gW, gX, gY, gZ, g0, g1, g2, g3, g4, g5, g6, g7, g8, g9, hA, iW, iX, iY, iZ, i0, i1, hB, hC], []⟩ W') :
    Code.wp Tryd.prog (stm 5 (Tryd.f34.body.getD .skip)) (Exit.then K Q) ⟨#[c0, c1, c2, c3, .pointer (some ⟨b, 0, none⟩), c5, c6, c7, .pointer (some ⟨b + 1, 0, none⟩), c9, aA, i5, i4, i3, i2, hF, hG, aB, aC, aD, aE, aF, aG, aH, aI, hH, hI, hJ, hL, hM, hN, aJ, aK, aL, aM, aN, aO, aP, aQ, aR, aS, aT, aU, aV, aW, aX, aY, aZ, a0, a1, a2, a3, a4, a5, a6, a7, a8, a9, hO, hQ, hT, hU, hV, hW, hX, hY, hZ, h0, h4, h5, h6, h7, h8, h9, iA, iB, iC, iD, iE, iF, iG, bA, bB, bC, iH, iI, iJ, iK, iL, iM, iN, iO, iP, iQ, iR, iS, iT, iU, iV, bD, bE, bF, bG, bH, bI, bJ, bK, bL, bM, bN, bO, bP, bQ, bR, bS, bT, bU, bV, bW, bX, bY, bZ, b0, b1, b2, b3, b4, b5, b6, b7, b8, b9, cA, cB, cC, cD, cE, cF, cG, cH, cI, cJ, cK, cL, cM, cN, cO, cP, cQ, cR, cS, cT, cU, cV, cW, cX, cY, cZ, c4, c8, dA, dB, dC, dD, dE, dF, dG, dH, dI, dJ, dK, dL, dM, dN, dO, dP, dQ, dR, dS, dT, dU, dV, dW, dX, dY, dZ, d0, d4, d5, d6, d7, d8, d9, eA, eB, eC, eD, eE, eF, eG, eH, eI, eJ, eK, eL, eM, eN, eO, eP, eQ, eR, eS, eT, eU, eV, eW, eX, eY, eZ, e4, e5, e6, e7, e8, e9, fA, fB, fC, fD, fE, fF, fG, fH, fI, fJ, fK, fL, fM, fN, fO, fP, fQ, fR, fS, fT, fU, fV, fW, fX, fY, fZ, f0, f1, f2, f3, f4, f5, f6, f7, f8, f9, gA, gB, gC, gD, gE, gF, gG, gH, gI, gJ, gK, gL, gM, gN, gO, gP, gQ, gR, gS, gT, gU, gV, gW, gX, gY, gZ, g0, g1, g2, g3, g4, g5, g6, g7, g8, g9, hA, iW, iX, iY, iZ, i0, i1, hB, hC], []⟩ W := by
  have HK : Hid _ := hK
  clear hK
  conv => arg 2; whnf
  obtain ⟨rv, mv, ov, ha⟩ := h.at_
  obtain ⟨⟨z0, z1, z2, z3, z4, z5, z6, z7, z8, z9, z10, z11⟩, zf, zl⟩ := twelve_cells ha.box
  have hwc : IntKind.i64.wrap (m.count + 1) = m.count + 1 := IntWalk.i64_in _ (by omega)
  have HP : Hid (StpI KK w (W.setCell ⟨b, 6, none⟩ (.int .i64 (m.count + 1))) lo b { m with count := m.count + 1 }) := h.put (ha.setCount (m.count + 1)).1
  clear h ha
  go_wp2_with fail
  exact HK.out _ _ _ _ _ HP.out


theorem NextOf_all (m : Mach) (rv mv ov : Value) (w : World) (ha : MachAt w rv mv ov m) (hm : MayP m) :
    Calls Tryd.prog 64 #[.agg (m.cells rv mv ov)] w fun e w' => ∃ o a k n, e = .returned (.tuple #[.agg #[.int .i64 o, .int .i64 a, .int .i64 k, .int .i64 n], .int .i64 m.nextE]) ∧ (m.nextE = 0 → o = m.nextX % 16 ∧ a = m.nextX / 16 % 8 ∧ k = m.nextX / 128 % 8 ∧ n = m.nextX / 1024) ∧ Below w.heap.size w w' := by
  by_cases hE : m.meantE m.pc false = 0
  · by_cases hD : decNo m.nextX = 0
    · have e0 : m.nextE = 0 := by simp [Mach.nextE, hE, hD]
      rw [e0]
      exact (NextOf_ok m rv mv ov w ha hm hE hD).mono fun e w' ⟨h1, h2⟩ => ⟨_, _, _, _, h1, fun _ => ⟨rfl, rfl, rfl, rfl⟩, h2⟩
    · have e0 : m.nextE = 2 := by simp [Mach.nextE, hE, hD]
      rw [e0]
      exact (NextOf_code m rv mv ov w ha hm hE hD).mono fun e w' ⟨h1, h2⟩ => ⟨_, _, _, _, h1, fun h => absurd h (by decide), h2⟩
  · have e0 : m.nextE = m.meantE m.pc false := by simp [Mach.nextE, hE]
    exact (NextOf_at m rv mv ov w ha hm hE).mono fun e w' ⟨h1, h2⟩ => ⟨_, _, _, _, h1, fun h => absurd (e0 ▸ h) hE, h2⟩

set_option maxRecDepth 100000 in
set_option maxHeartbeats 4000000 in
theorem seg6 (c0 c1 c2 c3 c5 c6 c7 c9 aA i5 i4 i3 i2 hF hG aB aC aD aE aF aG aH aI hH hI hJ hL hM hN aJ aK aL aM aN aO aP aQ aR aS aT aU aV aW aX aY aZ a0 a1 a2 a3 a4 a5 a6 a7 a8 a9 hO hQ hT hU hV hW hX hY hZ h0 h4 h5 h6 h7 h8 h9 iA iB iC iD iE iF iG bA bB bC iH iI iJ iK iL iM iN iO iP iQ iR iS iT iU iV bD bE bF bG bH bI bJ bK bL bM bN bO bP bQ bR bS bT bU bV bW bX bY bZ b0 b1 b2 b3 b4 b5 b6 b7 b8 b9 cA cB cC cD cE cF cG cH cI cJ cK cL cM cN cO cP cQ cR cS cT cU cV cW cX cY cZ c4 c8 dA dB dC dD dE dF dG dH dI dJ dK dL dM dN dO dP dQ dR dS dT dU dV dW dX dY dZ d0 d4 d5 d6 d7 d8 d9 eA eB eC eD eE eF eG eH eI eJ eK eL eM eN eO eP eQ eR eS eT eU eV eW eX eY eZ e4 e5 e6 e7 e8 e9 fA fB fC fD fE fF fG fH fI fJ fK fL fM fN fO fP fQ fR fS fT fU fV fW fX fY fZ f0 f1 f2 f3 f4 f5 f6 f7 f8 f9 gA gB gC gD gE gF gG gH gI gJ gK gL gM gN gO gP gQ gR gS gT gU gV gW gX gY gZ g0 g1 g2 g3 g4 g5 g6 g7 g8 g9 hA iW iX iY iZ i0 i1 hB hC : Value) (m : Mach) (w W : World) (lo b : Nat) (K : Act → World → Prop) (Q : Exit → Act → World → Prop)
    (h : StpI KK w W lo b m) (hm : MayP m)
    (hK : ∀ (jS jT jU jV jW : Value) (ib : Nat) (e o a k n : Int) (W' : World), StpI KK w W' lo b m → W'.heap[ib]? = some (.cells #[.int .i64 o, .int .i64 a, .int .i64 k, .int .i64 n] 83 (0, 0)) → e = m.nextE → (m.nextE = 0 → o = m.nextX % 16 ∧ a = m.nextX / 16 % 8 ∧ k = m.nextX / 128 % 8 ∧ n = m.nextX / 1024) → K ⟨#[c0, c1, c2, c3, .pointer (some ⟨b, 0, none⟩), c5, c6, c7, .pointer (some ⟨b + 1, 0, none⟩), c9, aA, .pointer (some ⟨ib, 0, none⟩), .int .i64 e, i3, i2, hF, hG, aB, aC, aD, aE, aF, aG, aH, aI, hH, hI, hJ, hL, hM, hN, aJ, aK, aL, aM, aN, aO, aP, aQ, aR, aS, aT, aU, aV, aW, aX, aY, aZ, a0, a1, a2, a3, a4, a5, a6, a7, a8, a9, hO, hQ, hT, hU, hV, hW, hX, hY, hZ, h0, h4, h5, h6, h7, h8, h9, jS, jT, jU, jV, jW, iF, iG, bA, bB, bC, iH, iI, iJ, iK, iL, iM, iN, iO, iP, iQ, iR, iS, iT, iU, iV, bD, bE, bF, bG, bH, bI, bJ, bK, bL, bM, bN, bO, bP, bQ, bR, bS, bT, bU, bV, bW, bX, bY, bZ, b0, b1, b2, b3, b4, b5, b6, b7, b8, b9, cA, cB, cC, cD, cE, cF, cG, cH, cI, cJ, cK, cL, cM, cN, cO, cP, cQ, cR, cS, cT, cU, cV, cW, cX, cY, cZ, c4, c8, dA, dB, dC, dD, dE, dF, dG, dH, dI, dJ, dK, dL, dM, dN, dO, dP, dQ, dR, dS, dT, dU, dV, dW, dX, dY, dZ, d0, d4, d5, d6, d7, d8, d9, eA, eB, eC, eD, eE, eF, eG, eH, eI, eJ, eK, eL, eM, eN, eO, eP, eQ, eR, eS, eT, eU, eV, eW, eX, eY, eZ, e4, e5, e6, e7, e8, e9, fA, fB, fC, fD, fE, fF, fG, fH, fI, fJ, fK, fL, fM, fN, fO, fP, fQ, fR, fS, fT, fU, fV, fW, fX, fY, fZ, f0, f1, f2, f3, f4, f5, f6, f7, f8, f9, gA, gB, gC, gD, gE, gF, gG, gH, gI, gJ, gK, gL, gM, gN, gO, gP, gQ, gR, gS, gT, gU, gV, gW, gX, gY, gZ, g0, g1, g2, g3, g4, g5, g6, g7, g8, g9, hA, iW, iX, iY, iZ, i0, i1, hB, hC], []⟩ W') :
    Code.wp Tryd.prog (stm 6 (Tryd.f34.body.getD .skip)) (Exit.then K Q) ⟨#[c0, c1, c2, c3, .pointer (some ⟨b, 0, none⟩), c5, c6, c7, .pointer (some ⟨b + 1, 0, none⟩), c9, aA, i5, i4, i3, i2, hF, hG, aB, aC, aD, aE, aF, aG, aH, aI, hH, hI, hJ, hL, hM, hN, aJ, aK, aL, aM, aN, aO, aP, aQ, aR, aS, aT, aU, aV, aW, aX, aY, aZ, a0, a1, a2, a3, a4, a5, a6, a7, a8, a9, hO, hQ, hT, hU, hV, hW, hX, hY, hZ, h0, h4, h5, h6, h7, h8, h9, iA, iB, iC, iD, iE, iF, iG, bA, bB, bC, iH, iI, iJ, iK, iL, iM, iN, iO, iP, iQ, iR, iS, iT, iU, iV, bD, bE, bF, bG, bH, bI, bJ, bK, bL, bM, bN, bO, bP, bQ, bR, bS, bT, bU, bV, bW, bX, bY, bZ, b0, b1, b2, b3, b4, b5, b6, b7, b8, b9, cA, cB, cC, cD, cE, cF, cG, cH, cI, cJ, cK, cL, cM, cN, cO, cP, cQ, cR, cS, cT, cU, cV, cW, cX, cY, cZ, c4, c8, dA, dB, dC, dD, dE, dF, dG, dH, dI, dJ, dK, dL, dM, dN, dO, dP, dQ, dR, dS, dT, dU, dV, dW, dX, dY, dZ, d0, d4, d5, d6, d7, d8, d9, eA, eB, eC, eD, eE, eF, eG, eH, eI, eJ, eK, eL, eM, eN, eO, eP, eQ, eR, eS, eT, eU, eV, eW, eX, eY, eZ, e4, e5, e6, e7, e8, e9, fA, fB, fC, fD, fE, fF, fG, fH, fI, fJ, fK, fL, fM, fN, fO, fP, fQ, fR, fS, fT, fU, fV, fW, fX, fY, fZ, f0, f1, f2, f3, f4, f5, f6, f7, f8, f9, gA, gB, gC, gD, gE, gF, gG, gH, gI, gJ, gK, gL, gM, gN, gO, gP, gQ, gR, gS, gT, gU, gV, gW, gX, gY, gZ, g0, g1, g2, g3, g4, g5, g6, g7, g8, g9, hA, iW, iX, iY, iZ, i0, i1, hB, hC], []⟩ W := by
  have HK : Hid _ := hK
  clear hK
  conv => arg 2; whnf
  obtain ⟨rv, mv, ov, ha⟩ := h.at_
  obtain ⟨⟨z0, z1, z2, z3, z4, z5, z6, z7, z8, z9, z10, z11⟩, zf, zl⟩ := twelve_cells ha.box
  have HI : Hid (StpI KK w W lo b m) := h
  have HN : Hid (Calls Tryd.prog 64 #[.agg #[rv, .int .i64 m.pc, .int .i64 m.back, .bool m.ints, .bool m.wait, .int .i64 m.table, .int .i64 m.count, .int .i64 m.fin, mv, ov, .int .i64 m.ready, .int .i64 m.want]] W fun e w' => ∃ o a k n, e = .returned (.tuple #[.agg #[.int .i64 o, .int .i64 a, .int .i64 k, .int .i64 n], .int .i64 m.nextE]) ∧ (m.nextE = 0 → o = m.nextX % 16 ∧ a = m.nextX / 16 % 8 ∧ k = m.nextX / 128 % 8 ∧ n = m.nextX / 1024) ∧ Below W.heap.size W w') :=
    NextOf_all m rv mv ov W (ha.own.at ⟨by rw [hm.regs]; decide, by rw [hm.mem]; decide, by have := hm.out; omega⟩) hm
  clear h ha hm
  go_wp2_with fail
  refine HN.out.mono ?_
  rintro _ w1 ⟨o, a, k, n, rfl, hx, hb1⟩
  have HX : Hid (m.nextE = 0 → o = m.nextX % 16 ∧ a = m.nextX / 16 % 8 ∧ k = m.nextX / 128 % 8 ∧ n = m.nextX / 1024) := hx
  have H1 : Hid (StpI KK w w1 lo b m) := HI.out.below hb1
  obtain ⟨E, hE⟩ : ∃ E, E = m.nextE := ⟨_, rfl⟩
  rw [← hE]
  have HE : Hid (E = m.nextE) := hE
  clear hx hb1 HI HN hE z0 z1 z2 z3 z4 z5 z6 z7 z8 z9 z10 z11 zf zl
  go_wp2_with fail
  exact HK.out _ _ _ _ _ _ _ _ _ _ _ _ (H1.out.below (below_alloc _ _)) (Go.Deep.blk_alloc_new _ _) HE.out HX.out


set_option maxRecDepth 100000 in
set_option maxHeartbeats 4000000 in
theorem seg7 (c0 c1 c2 c3 c5 c6 c7 c9 aA i3 i2 hF hG aB aC aD aE aF aG aH aI hH hI hJ hL hM hN aJ aK aL aM aN aO aP aQ aR aS aT aU aV aW aX aY aZ a0 a1 a2 a3 a4 a5 a6 a7 a8 a9 hO hQ hT hU hV hW hX hY hZ h0 h4 h5 h6 h7 h8 h9 iA iB iC iD iE iF iG bA bB bC iH iI iJ iK iL iM iN iO iP iQ iR iS iT iU iV bD bE bF bG bH bI bJ bK bL bM bN bO bP bQ bR bS bT bU bV bW bX bY bZ b0 b1 b2 b3 b4 b5 b6 b7 b8 b9 cA cB cC cD cE cF cG cH cI cJ cK cL cM cN cO cP cQ cR cS cT cU cV cW cX cY cZ c4 c8 dA dB dC dD dE dF dG dH dI dJ dK dL dM dN dO dP dQ dR dS dT dU dV dW dX dY dZ d0 d4 d5 d6 d7 d8 d9 eA eB eC eD eE eF eG eH eI eJ eK eL eM eN eO eP eQ eR eS eT eU eV eW eX eY eZ e4 e5 e6 e7 e8 e9 fA fB fC fD fE fF fG fH fI fJ fK fL fM fN fO fP fQ fR fS fT fU fV fW fX fY fZ f0 f1 f2 f3 f4 f5 f6 f7 f8 f9 gA gB gC gD gE gF gG gH gI gJ gK gL gM gN gO gP gQ gR gS gT gU gV gW gX gY gZ g0 g1 g2 g3 g4 g5 g6 g7 g8 g9 hA iW iX iY iZ i0 i1 hB hC : Value) (ib : Nat) (W : World) (b : Nat) (K : Act → World → Prop) (Q : Exit → Act → World → Prop)
    
    (hK : ∀ (jX jY : Value) (W' : World), W' = W → K ⟨#[c0, c1, c2, c3, .pointer (some ⟨b, 0, none⟩), c5, c6, c7, .pointer (some ⟨b + 1, 0, none⟩), c9, aA, .pointer (some ⟨ib, 0, none⟩), .int .i64 0, i3, i2, hF, hG, aB, aC, aD, aE, aF, aG, aH, aI, hH, hI, hJ, hL, hM, hN, aJ, aK, aL, aM, aN, aO, aP, aQ, aR, aS, aT, aU, aV, aW, aX, aY, aZ, a0, a1, a2, a3, a4, a5, a6, a7, a8, a9, hO, hQ, hT, hU, hV, hW, hX, hY, hZ, h0, h4, h5, h6, h7, h8, h9, iA, iB, iC, iD, iE, jX, jY, bA, bB, bC, iH, iI, iJ, iK, iL, iM, iN, iO, iP, iQ, iR, iS, iT, iU, iV, bD, bE, bF, bG, bH, bI, bJ, bK, bL, bM, bN, bO, bP, bQ, bR, bS, bT, bU, bV, bW, bX, bY, bZ, b0, b1, b2, b3, b4, b5, b6, b7, b8, b9, cA, cB, cC, cD, cE, cF, cG, cH, cI, cJ, cK, cL, cM, cN, cO, cP, cQ, cR, cS, cT, cU, cV, cW, cX, cY, cZ, c4, c8, dA, dB, dC, dD, dE, dF, dG, dH, dI, dJ, dK, dL, dM, dN, dO, dP, dQ, dR, dS, dT, dU, dV, dW, dX, dY, dZ, d0, d4, d5, d6, d7, d8, d9, eA, eB, eC, eD, eE, eF, eG, eH, eI, eJ, eK, eL, eM, eN, eO, eP, eQ, eR, eS, eT, eU, eV, eW, eX, eY, eZ, e4, e5, e6, e7, e8, e9, fA, fB, fC, fD, fE, fF, fG, fH, fI, fJ, fK, fL, fM, fN, fO, fP, fQ, fR, fS, fT, fU, fV, fW, fX, fY, fZ, f0, f1, f2, f3, f4, f5, f6, f7, f8, f9, gA, gB, gC, gD, gE, gF, gG, gH, gI, gJ, gK, gL, gM, gN, gO, gP, gQ, gR, gS, gT, gU, gV, gW, gX, gY, gZ, g0, g1, g2, g3, g4, g5, g6, g7, g8, g9, hA, iW, iX, iY, iZ, i0, i1, hB, hC], []⟩ W') :
    Code.wp Tryd.prog (stm 7 (Tryd.f34.body.getD .skip)) (Exit.then K Q) ⟨#[c0, c1, c2, c3, .pointer (some ⟨b, 0, none⟩), c5, c6, c7, .pointer (some ⟨b + 1, 0, none⟩), c9, aA, .pointer (some ⟨ib, 0, none⟩), .int .i64 0, i3, i2, hF, hG, aB, aC, aD, aE, aF, aG, aH, aI, hH, hI, hJ, hL, hM, hN, aJ, aK, aL, aM, aN, aO, aP, aQ, aR, aS, aT, aU, aV, aW, aX, aY, aZ, a0, a1, a2, a3, a4, a5, a6, a7, a8, a9, hO, hQ, hT, hU, hV, hW, hX, hY, hZ, h0, h4, h5, h6, h7, h8, h9, iA, iB, iC, iD, iE, iF, iG, bA, bB, bC, iH, iI, iJ, iK, iL, iM, iN, iO, iP, iQ, iR, iS, iT, iU, iV, bD, bE, bF, bG, bH, bI, bJ, bK, bL, bM, bN, bO, bP, bQ, bR, bS, bT, bU, bV, bW, bX, bY, bZ, b0, b1, b2, b3, b4, b5, b6, b7, b8, b9, cA, cB, cC, cD, cE, cF, cG, cH, cI, cJ, cK, cL, cM, cN, cO, cP, cQ, cR, cS, cT, cU, cV, cW, cX, cY, cZ, c4, c8, dA, dB, dC, dD, dE, dF, dG, dH, dI, dJ, dK, dL, dM, dN, dO, dP, dQ, dR, dS, dT, dU, dV, dW, dX, dY, dZ, d0, d4, d5, d6, d7, d8, d9, eA, eB, eC, eD, eE, eF, eG, eH, eI, eJ, eK, eL, eM, eN, eO, eP, eQ, eR, eS, eT, eU, eV, eW, eX, eY, eZ, e4, e5, e6, e7, e8, e9, fA, fB, fC, fD, fE, fF, fG, fH, fI, fJ, fK, fL, fM, fN, fO, fP, fQ, fR, fS, fT, fU, fV, fW, fX, fY, fZ, f0, f1, f2, f3, f4, f5, f6, f7, f8, f9, gA, gB, gC, gD, gE, gF, gG, gH, gI, gJ, gK, gL, gM, gN, gO, gP, gQ, gR, gS, gT, gU, gV, gW, gX, gY, gZ, g0, g1, g2, g3, g4, g5, g6, g7, g8, g9, hA, iW, iX, iY, iZ, i0, i1, hB, hC], []⟩ W := by
  have HK : Hid _ := hK
  clear hK
  conv => arg 2; whnf
  go_wp2_with fail
  exact HK.out _ _ _ rfl


set_option maxRecDepth 100000 in
set_option maxHeartbeats 4000000 in
theorem seg7r (c0 c1 c2 c3 c5 c6 c7 c9 aA i3 i2 hF hG aB aC aD aE aF aG aH aI hH hI hJ hL hM hN aJ aK aL aM aN aO aP aQ aR aS aT aU aV aW aX aY aZ a0 a1 a2 a3 a4 a5 a6 a7 a8 a9 hO hQ hT hU hV hW hX hY hZ h0 h4 h5 h6 h7 h8 h9 iA iB iC iD iE iF iG bA bB bC iH iI iJ iK iL iM iN iO iP iQ iR iS iT iU iV bD bE bF bG bH bI bJ bK bL bM bN bO bP bQ bR bS bT bU bV bW bX bY bZ b0 b1 b2 b3 b4 b5 b6 b7 b8 b9 cA cB cC cD cE cF cG cH cI cJ cK cL cM cN cO cP cQ cR cS cT cU cV cW cX cY cZ c4 c8 dA dB dC dD dE dF dG dH dI dJ dK dL dM dN dO dP dQ dR dS dT dU dV dW dX dY dZ d0 d4 d5 d6 d7 d8 d9 eA eB eC eD eE eF eG eH eI eJ eK eL eM eN eO eP eQ eR eS eT eU eV eW eX eY eZ e4 e5 e6 e7 e8 e9 fA fB fC fD fE fF fG fH fI fJ fK fL fM fN fO fP fQ fR fS fT fU fV fW fX fY fZ f0 f1 f2 f3 f4 f5 f6 f7 f8 f9 gA gB gC gD gE gF gG gH gI gJ gK gL gM gN gO gP gQ gR gS gT gU gV gW gX gY gZ g0 g1 g2 g3 g4 g5 g6 g7 g8 g9 hA iW iX iY iZ i0 i1 hB hC : Value) (m : Mach) (ib : Nat) (e : Int) (R : Mach × Int) (w W : World) (lo b : Nat) (K : Act → World → Prop)
    (h : StpI KK w W lo b m) (he : e ≠ 0) (hR : R = (m.ends e, -1)) :
    Code.wp Tryd.prog (stm 7 (Tryd.f34.body.getD .skip)) (Exit.then K (bodyPost Tryd.prog Tryd.f34 (fun e w' => ∃ rv' mv' ov', e = .returned (.tuple #[.agg (R.1.cells rv' mv' ov'), .int .i64 R.2]) ∧ OwnM w' lo rv' mv' ov' R.1 ∧ Below lo w w' ∧ KeptK KK w w' ∧ Free KK w rv' ∧ Free KK w mv' ∧ Free KK w ov'))) ⟨#[c0, c1, c2, c3, .pointer (some ⟨b, 0, none⟩), c5, c6, c7, .pointer (some ⟨b + 1, 0, none⟩), c9, aA, .pointer (some ⟨ib, 0, none⟩), .int .i64 e, i3, i2, hF, hG, aB, aC, aD, aE, aF, aG, aH, aI, hH, hI, hJ, hL, hM, hN, aJ, aK, aL, aM, aN, aO, aP, aQ, aR, aS, aT, aU, aV, aW, aX, aY, aZ, a0, a1, a2, a3, a4, a5, a6, a7, a8, a9, hO, hQ, hT, hU, hV, hW, hX, hY, hZ, h0, h4, h5, h6, h7, h8, h9, iA, iB, iC, iD, iE, iF, iG, bA, bB, bC, iH, iI, iJ, iK, iL, iM, iN, iO, iP, iQ, iR, iS, iT, iU, iV, bD, bE, bF, bG, bH, bI, bJ, bK, bL, bM, bN, bO, bP, bQ, bR, bS, bT, bU, bV, bW, bX, bY, bZ, b0, b1, b2, b3, b4, b5, b6, b7, b8, b9, cA, cB, cC, cD, cE, cF, cG, cH, cI, cJ, cK, cL, cM, cN, cO, cP, cQ, cR, cS, cT, cU, cV, cW, cX, cY, cZ, c4, c8, dA, dB, dC, dD, dE, dF, dG, dH, dI, dJ, dK, dL, dM, dN, dO, dP, dQ, dR, dS, dT, dU, dV, dW, dX, dY, dZ, d0, d4, d5, d6, d7, d8, d9, eA, eB, eC, eD, eE, eF, eG, eH, eI, eJ, eK, eL, eM, eN, eO, eP, eQ, eR, eS, eT, eU, eV, eW, eX, eY, eZ, e4, e5, e6, e7, e8, e9, fA, fB, fC, fD, fE, fF, fG, fH, fI, fJ, fK, fL, fM, fN, fO, fP, fQ, fR, fS, fT, fU, fV, fW, fX, fY, fZ, f0, f1, f2, f3, f4, f5, f6, f7, f8, f9, gA, gB, gC, gD, gE, gF, gG, gH, gI, gJ, gK, gL, gM, gN, gO, gP, gQ, gR, gS, gT, gU, gV, gW, gX, gY, gZ, g0, g1, g2, g3, g4, g5, g6, g7, g8, g9, hA, iW, iX, iY, iZ, i0, i1, hB, hC], []⟩ W := by
  conv => arg 2; whnf
  obtain ⟨rv, mv, ov, ha⟩ := h.at_
  obtain ⟨A1, d1, A2, d2, A3, d3, e1, e2, e3⟩ := ha.own.shape
  subst e1 e2 e3
  obtain ⟨⟨z0, z1, z2, z3, z4, z5, z6, z7, z8, z9, z10, z11⟩, zf, zl⟩ := twelve_cells ha.box
  obtain ⟨⟨y0, y1, y2, y3, y4, y5, y6, y7, y8, y9, y10, y11⟩, yf, yl⟩ := twelve_cells h.res
  have e1 : (e != 0) = true := by simp [he]
  have hP := ha.setFin e
  have hS := h.put hP.1
  have HEND : Hid (OwnM (W.setCell ⟨b, 7, none⟩ (.int .i64 e)) lo (.slice A1 m.regs.length d1) (.slice A2 m.mem.length d2) (.slice A3 m.out.length d3) (m.ends e) ∧ IsBox (W.setCell ⟨b, 7, none⟩ (.int .i64 e)) (b + 1) ∧ Below lo w (W.setCell ⟨b, 7, none⟩ (.int .i64 e)) ∧ lo ≤ b ∧ (KeptK KK w (W.setCell ⟨b, 7, none⟩ (.int .i64 e)) ∧ Free KK w (.slice A1 m.regs.length d1) ∧ Free KK w (.slice A2 m.mem.length d2) ∧ Free KK w (.slice A3 m.out.length d3)) ∧ w.heap.size ≤ b) := ⟨hP.1.own, ⟨_, hS.res⟩, hS.old, h.size.1, ⟨hS.box, hS.mine _ _ _ hP.1.box⟩, hS.bw⟩
  have HR : Hid (R = (m.ends e, -1)) := hR
  clear h ha hP hS he hR
  go_wp2_with fail
  change bodyPost Tryd.prog Tryd.f34 _ _ _ _
  refine bodyPost_ret (v := .tuple #[.agg #[.slice A1 m.regs.length d1, .int .i64 m.pc, .int .i64 m.back, .bool m.ints, .bool m.wait, .int .i64 m.table, .int .i64 m.count, .int .i64 e, .slice A2 m.mem.length d2, .slice A3 m.out.length d3, .int .i64 m.ready, .int .i64 m.want], .int .i64 (-1)]) (by simp [results, Tryd.results34, go_sem, y0, y1, y2, y3, y4, y5, y6, y7, y8, y9, y10, y11]) rfl ?_
  rw [HR.out]
  exact ⟨_, _, _, rfl, HEND.out.1.set12 HEND.out.2.1 _ _ _ _ _ _ _ _ _ _ _ _, below_set12 HEND.out.2.2.1 (by have := HEND.out.2.2.2.1; omega) _ _ _ _ _ _ _ _ _ _ _ _, keptK_set12 HEND.out.2.2.2.2.1.1 (by have := HEND.out.2.2.2.2.2; omega) _ _ _ _ _ _ _ _ _ _ _ _, HEND.out.2.2.2.2.1.2⟩

set_option maxRecDepth 100000 in
set_option maxHeartbeats 4000000 in
theorem seg8 (c0 c1 c2 c3 c5 c6 c7 c9 aA i4 i3 i2 hF hG aB aC aD aE aF aG aH aI hH hI hJ hL hM hN aJ aK aL aM aN aO aP aQ aR aS aT aU aV aW aX aY aZ a0 a1 a2 a3 a4 a5 a6 a7 a8 a9 hO hQ hT hU hV hW hX hY hZ h0 h4 h5 h6 h7 h8 h9 iA iB iC iD iE iF iG bA bB bC iH iI iJ iK iL iM iN iO iP iQ iR iS iT iU iV bD bE bF bG bH bI bJ bK bL bM bN bO bP bQ bR bS bT bU bV bW bX bY bZ b0 b1 b2 b3 b4 b5 b6 b7 b8 b9 cA cB cC cD cE cF cG cH cI cJ cK cL cM cN cO cP cQ cR cS cT cU cV cW cX cY cZ c4 c8 dA dB dC dD dE dF dG dH dI dJ dK dL dM dN dO dP dQ dR dS dT dU dV dW dX dY dZ d0 d4 d5 d6 d7 d8 d9 eA eB eC eD eE eF eG eH eI eJ eK eL eM eN eO eP eQ eR eS eT eU eV eW eX eY eZ e4 e5 e6 e7 e8 e9 fA fB fC fD fE fF fG fH fI fJ fK fL fM fN fO fP fQ fR fS fT fU fV fW fX fY fZ f0 f1 f2 f3 f4 f5 f6 f7 f8 f9 gA gB gC gD gE gF gG gH gI gJ gK gL gM gN gO gP gQ gR gS gT gU gV gW gX gY gZ g0 g1 g2 g3 g4 g5 g6 g7 g8 g9 hA iW iX iY iZ i0 i1 hB hC : Value) (m : Mach) (ib : Nat) (w W : World) (lo b : Nat) (K : Act → World → Prop) (Q : Exit → Act → World → Prop)
    (h : StpI KK w W lo b m) (hp : -1099511627776 ≤ m.pc ∧ m.pc ≤ 1099511627776)
    (hK : ∀ (jZ j1 j2 : Value) (W' : World), W' = W → K ⟨#[c0, c1, c2, c3, .pointer (some ⟨b, 0, none⟩), c5, c6, c7, .pointer (some ⟨b + 1, 0, none⟩), c9, aA, .pointer (some ⟨ib, 0, none⟩), i4, .int .i64 (m.pc + 1), i2, hF, hG, aB, aC, aD, aE, aF, aG, aH, aI, hH, hI, hJ, hL, hM, hN, aJ, aK, aL, aM, aN, aO, aP, aQ, aR, aS, aT, aU, aV, aW, aX, aY, aZ, a0, a1, a2, a3, a4, a5, a6, a7, a8, a9, hO, hQ, hT, hU, hV, hW, hX, hY, hZ, h0, h4, h5, h6, h7, h8, h9, iA, iB, iC, iD, iE, iF, iG, bA, bB, bC, jZ, j1, j2, iK, iL, iM, iN, iO, iP, iQ, iR, iS, iT, iU, iV, bD, bE, bF, bG, bH, bI, bJ, bK, bL, bM, bN, bO, bP, bQ, bR, bS, bT, bU, bV, bW, bX, bY, bZ, b0, b1, b2, b3, b4, b5, b6, b7, b8, b9, cA, cB, cC, cD, cE, cF, cG, cH, cI, cJ, cK, cL, cM, cN, cO, cP, cQ, cR, cS, cT, cU, cV, cW, cX, cY, cZ, c4, c8, dA, dB, dC, dD, dE, dF, dG, dH, dI, dJ, dK, dL, dM, dN, dO, dP, dQ, dR, dS, dT, dU, dV, dW, dX, dY, dZ, d0, d4, d5, d6, d7, d8, d9, eA, eB, eC, eD, eE, eF, eG, eH, eI, eJ, eK, eL, eM, eN, eO, eP, eQ, eR, eS, eT, eU, eV, eW, eX, eY, eZ, e4, e5, e6, e7, e8, e9, fA, fB, fC, fD, fE, fF, fG, fH, fI, fJ, fK, fL, fM, fN, fO, fP, fQ, fR, fS, fT, fU, fV, fW, fX, fY, fZ, f0, f1, f2, f3, f4, f5, f6, f7, f8, f9, gA, gB, gC, gD, gE, gF, gG, gH, gI, gJ, gK, gL, gM, gN, gO, gP, gQ, gR, gS, gT, gU, gV, gW, gX, gY, gZ, g0, g1, g2, g3, g4, g5, g6, g7, g8, g9, hA, iW, iX, iY, iZ, i0, i1, hB, hC], []⟩ W') :
    Code.wp Tryd.prog (stm 8 (Tryd.f34.body.getD .skip)) (Exit.then K Q) ⟨#[c0, c1, c2, c3, .pointer (some ⟨b, 0, none⟩), c5, c6, c7, .pointer (some ⟨b + 1, 0, none⟩), c9, aA, .pointer (some ⟨ib, 0, none⟩), i4, i3, i2, hF, hG, aB, aC, aD, aE, aF, aG, aH, aI, hH, hI, hJ, hL, hM, hN, aJ, aK, aL, aM, aN, aO, aP, aQ, aR, aS, aT, aU, aV, aW, aX, aY, aZ, a0, a1, a2, a3, a4, a5, a6, a7, a8, a9, hO, hQ, hT, hU, hV, hW, hX, hY, hZ, h0, h4, h5, h6, h7, h8, h9, iA, iB, iC, iD, iE, iF, iG, bA, bB, bC, iH, iI, iJ, iK, iL, iM, iN, iO, iP, iQ, iR, iS, iT, iU, iV, bD, bE, bF, bG, bH, bI, bJ, bK, bL, bM, bN, bO, bP, bQ, bR, bS, bT, bU, bV, bW, bX, bY, bZ, b0, b1, b2, b3, b4, b5, b6, b7, b8, b9, cA, cB, cC, cD, cE, cF, cG, cH, cI, cJ, cK, cL, cM, cN, cO, cP, cQ, cR, cS, cT, cU, cV, cW, cX, cY, cZ, c4, c8, dA, dB, dC, dD, dE, dF, dG, dH, dI, dJ, dK, dL, dM, dN, dO, dP, dQ, dR, dS, dT, dU, dV, dW, dX, dY, dZ, d0, d4, d5, d6, d7, d8, d9, eA, eB, eC, eD, eE, eF, eG, eH, eI, eJ, eK, eL, eM, eN, eO, eP, eQ, eR, eS, eT, eU, eV, eW, eX, eY, eZ, e4, e5, e6, e7, e8, e9, fA, fB, fC, fD, fE, fF, fG, fH, fI, fJ, fK, fL, fM, fN, fO, fP, fQ, fR, fS, fT, fU, fV, fW, fX, fY, fZ, f0, f1, f2, f3, f4, f5, f6, f7, f8, f9, gA, gB, gC, gD, gE, gF, gG, gH, gI, gJ, gK, gL, gM, gN, gO, gP, gQ, gR, gS, gT, gU, gV, gW, gX, gY, gZ, g0, g1, g2, g3, g4, g5, g6, g7, g8, g9, hA, iW, iX, iY, iZ, i0, i1, hB, hC], []⟩ W := by
  have HK : Hid _ := hK
  clear hK
  conv => arg 2; whnf
  obtain ⟨rv, mv, ov, ha⟩ := h.at_
  obtain ⟨⟨z0, z1, z2, z3, z4, z5, z6, z7, z8, z9, z10, z11⟩, zf, zl⟩ := twelve_cells ha.box
  have hwp : IntKind.i64.wrap (m.pc + 1) = m.pc + 1 := IntWalk.i64_in _ (by omega)
  clear h ha
  go_wp2_with fail
  exact HK.out _ _ _ _ rfl


set_option maxRecDepth 100000 in
set_option maxHeartbeats 4000000 in
theorem seg9 (c0 c1 c2 c3 c5 c6 c7 c9 aA i4 i3 i2 hF hG aB aC aD aE aF aG aH aI hH hI hJ hL hM hN aJ aK aL aM aN aO aP aQ aR aS aT aU aV aW aX aY aZ a0 a1 a2 a3 a4 a5 a6 a7 a8 a9 hO hQ hT hU hV hW hX hY hZ h0 h4 h5 h6 h7 h8 h9 iA iB iC iD iE iF iG bA bB bC iH iI iJ iK iL iM iN iO iP iQ iR iS iT iU iV bD bE bF bG bH bI bJ bK bL bM bN bO bP bQ bR bS bT bU bV bW bX bY bZ b0 b1 b2 b3 b4 b5 b6 b7 b8 b9 cA cB cC cD cE cF cG cH cI cJ cK cL cM cN cO cP cQ cR cS cT cU cV cW cX cY cZ c4 c8 dA dB dC dD dE dF dG dH dI dJ dK dL dM dN dO dP dQ dR dS dT dU dV dW dX dY dZ d0 d4 d5 d6 d7 d8 d9 eA eB eC eD eE eF eG eH eI eJ eK eL eM eN eO eP eQ eR eS eT eU eV eW eX eY eZ e4 e5 e6 e7 e8 e9 fA fB fC fD fE fF fG fH fI fJ fK fL fM fN fO fP fQ fR fS fT fU fV fW fX fY fZ f0 f1 f2 f3 f4 f5 f6 f7 f8 f9 gA gB gC gD gE gF gG gH gI gJ gK gL gM gN gO gP gQ gR gS gT gU gV gW gX gY gZ g0 g1 g2 g3 g4 g5 g6 g7 g8 g9 hA iW iX iY iZ i0 i1 hB hC : Value) (ib : Nat) (W : World) (b : Nat) (K : Act → World → Prop) (Q : Exit → Act → World → Prop)
    
    (hK : ∀ (W' : World), W' = W → K ⟨#[c0, c1, c2, c3, .pointer (some ⟨b, 0, none⟩), c5, c6, c7, .pointer (some ⟨b + 1, 0, none⟩), c9, aA, .pointer (some ⟨ib, 0, none⟩), i4, i3, .int .i64 (-1), hF, hG, aB, aC, aD, aE, aF, aG, aH, aI, hH, hI, hJ, hL, hM, hN, aJ, aK, aL, aM, aN, aO, aP, aQ, aR, aS, aT, aU, aV, aW, aX, aY, aZ, a0, a1, a2, a3, a4, a5, a6, a7, a8, a9, hO, hQ, hT, hU, hV, hW, hX, hY, hZ, h0, h4, h5, h6, h7, h8, h9, iA, iB, iC, iD, iE, iF, iG, bA, bB, bC, iH, iI, iJ, iK, iL, iM, iN, iO, iP, iQ, iR, iS, iT, iU, iV, bD, bE, bF, bG, bH, bI, bJ, bK, bL, bM, bN, bO, bP, bQ, bR, bS, bT, bU, bV, bW, bX, bY, bZ, b0, b1, b2, b3, b4, b5, b6, b7, b8, b9, cA, cB, cC, cD, cE, cF, cG, cH, cI, cJ, cK, cL, cM, cN, cO, cP, cQ, cR, cS, cT, cU, cV, cW, cX, cY, cZ, c4, c8, dA, dB, dC, dD, dE, dF, dG, dH, dI, dJ, dK, dL, dM, dN, dO, dP, dQ, dR, dS, dT, dU, dV, dW, dX, dY, dZ, d0, d4, d5, d6, d7, d8, d9, eA, eB, eC, eD, eE, eF, eG, eH, eI, eJ, eK, eL, eM, eN, eO, eP, eQ, eR, eS, eT, eU, eV, eW, eX, eY, eZ, e4, e5, e6, e7, e8, e9, fA, fB, fC, fD, fE, fF, fG, fH, fI, fJ, fK, fL, fM, fN, fO, fP, fQ, fR, fS, fT, fU, fV, fW, fX, fY, fZ, f0, f1, f2, f3, f4, f5, f6, f7, f8, f9, gA, gB, gC, gD, gE, gF, gG, gH, gI, gJ, gK, gL, gM, gN, gO, gP, gQ, gR, gS, gT, gU, gV, gW, gX, gY, gZ, g0, g1, g2, g3, g4, g5, g6, g7, g8, g9, hA, iW, iX, iY, iZ, i0, i1, hB, hC], []⟩ W') :
    Code.wp Tryd.prog (stm 9 (Tryd.f34.body.getD .skip)) (Exit.then K Q) ⟨#[c0, c1, c2, c3, .pointer (some ⟨b, 0, none⟩), c5, c6, c7, .pointer (some ⟨b + 1, 0, none⟩), c9, aA, .pointer (some ⟨ib, 0, none⟩), i4, i3, i2, hF, hG, aB, aC, aD, aE, aF, aG, aH, aI, hH, hI, hJ, hL, hM, hN, aJ, aK, aL, aM, aN, aO, aP, aQ, aR, aS, aT, aU, aV, aW, aX, aY, aZ, a0, a1, a2, a3, a4, a5, a6, a7, a8, a9, hO, hQ, hT, hU, hV, hW, hX, hY, hZ, h0, h4, h5, h6, h7, h8, h9, iA, iB, iC, iD, iE, iF, iG, bA, bB, bC, iH, iI, iJ, iK, iL, iM, iN, iO, iP, iQ, iR, iS, iT, iU, iV, bD, bE, bF, bG, bH, bI, bJ, bK, bL, bM, bN, bO, bP, bQ, bR, bS, bT, bU, bV, bW, bX, bY, bZ, b0, b1, b2, b3, b4, b5, b6, b7, b8, b9, cA, cB, cC, cD, cE, cF, cG, cH, cI, cJ, cK, cL, cM, cN, cO, cP, cQ, cR, cS, cT, cU, cV, cW, cX, cY, cZ, c4, c8, dA, dB, dC, dD, dE, dF, dG, dH, dI, dJ, dK, dL, dM, dN, dO, dP, dQ, dR, dS, dT, dU, dV, dW, dX, dY, dZ, d0, d4, d5, d6, d7, d8, d9, eA, eB, eC, eD, eE, eF, eG, eH, eI, eJ, eK, eL, eM, eN, eO, eP, eQ, eR, eS, eT, eU, eV, eW, eX, eY, eZ, e4, e5, e6, e7, e8, e9, fA, fB, fC, fD, fE, fF, fG, fH, fI, fJ, fK, fL, fM, fN, fO, fP, fQ, fR, fS, fT, fU, fV, fW, fX, fY, fZ, f0, f1, f2, f3, f4, f5, f6, f7, f8, f9, gA, gB, gC, gD, gE, gF, gG, gH, gI, gJ, gK, gL, gM, gN, gO, gP, gQ, gR, gS, gT, gU, gV, gW, gX, gY, gZ, g0, g1, g2, g3, g4, g5, g6, g7, g8, g9, hA, iW, iX, iY, iZ, i0, i1, hB, hC], []⟩ W := by
  have HK : Hid _ := hK
  clear hK
  conv => arg 2; whnf
  go_wp2_with fail
  exact HK.out _ rfl


set_option maxRecDepth 100000 in
set_option maxHeartbeats 4000000 in
theorem seg10 (c0 c1 c2 c3 c5 c6 c7 c9 aA i4 i3 i2 hF hG aB aC aD aE aF aG aH aI hH hI hJ hL hM hN aJ aK aL aM aN aO aP aQ aR aS aT aU aV aW aX aY aZ a0 a1 a2 a3 a4 a5 a6 a7 a8 a9 hO hQ hT hU hV hW hX hY hZ h0 h4 h5 h6 h7 h8 h9 iA iB iC iD iE iF iG bA bB bC iH iI iJ iK iL iM iN iO iP iQ iR iS iT iU iV bD bE bF bG bH bI bJ bK bL bM bN bO bP bQ bR bS bT bU bV bW bX bY bZ b0 b1 b2 b3 b4 b5 b6 b7 b8 b9 cA cB cC cD cE cF cG cH cI cJ cK cL cM cN cO cP cQ cR cS cT cU cV cW cX cY cZ c4 c8 dA dB dC dD dE dF dG dH dI dJ dK dL dM dN dO dP dQ dR dS dT dU dV dW dX dY dZ d0 d4 d5 d6 d7 d8 d9 eA eB eC eD eE eF eG eH eI eJ eK eL eM eN eO eP eQ eR eS eT eU eV eW eX eY eZ e4 e5 e6 e7 e8 e9 fA fB fC fD fE fF fG fH fI fJ fK fL fM fN fO fP fQ fR fS fT fU fV fW fX fY fZ f0 f1 f2 f3 f4 f5 f6 f7 f8 f9 gA gB gC gD gE gF gG gH gI gJ gK gL gM gN gO gP gQ gR gS gT gU gV gW gX gY gZ g0 g1 g2 g3 g4 g5 g6 g7 g8 g9 hA iW iX iY iZ i0 i1 hB hC : Value) (m : Mach) (ib : Nat) (o a k n : Int) (w W : World) (lo b : Nat) (K : Act → World → Prop) (Q : Exit → Act → World → Prop)
    (h : StpI KK w W lo b m) (hr : m.regs.length = 8) (hi : W.heap[ib]? = some (.cells #[.int .i64 o, .int .i64 a, .int .i64 k, .int .i64 n] 83 (0, 0))) (hx : 0 ≤ a ∧ a ≤ 7)
    (hK : ∀ (j3 j4 j5 j6 j8 j9 : Value) (W' : World), W' = W → K ⟨#[c0, c1, c2, c3, .pointer (some ⟨b, 0, none⟩), c5, c6, c7, .pointer (some ⟨b + 1, 0, none⟩), c9, aA, .pointer (some ⟨ib, 0, none⟩), i4, i3, i2, .int .i64 (m.reg a), hG, aB, aC, aD, aE, aF, aG, aH, aI, hH, hI, hJ, hL, hM, hN, aJ, aK, aL, aM, aN, aO, aP, aQ, aR, aS, aT, aU, aV, aW, aX, aY, aZ, a0, a1, a2, a3, a4, a5, a6, a7, a8, a9, hO, hQ, hT, hU, hV, hW, hX, hY, hZ, h0, h4, h5, h6, h7, h8, h9, iA, iB, iC, iD, iE, iF, iG, bA, bB, bC, iH, iI, iJ, j3, j4, j5, j6, j8, j9, iQ, iR, iS, iT, iU, iV, bD, bE, bF, bG, bH, bI, bJ, bK, bL, bM, bN, bO, bP, bQ, bR, bS, bT, bU, bV, bW, bX, bY, bZ, b0, b1, b2, b3, b4, b5, b6, b7, b8, b9, cA, cB, cC, cD, cE, cF, cG, cH, cI, cJ, cK, cL, cM, cN, cO, cP, cQ, cR, cS, cT, cU, cV, cW, cX, cY, cZ, c4, c8, dA, dB, dC, dD, dE, dF, dG, dH, dI, dJ, dK, dL, dM, dN, dO, dP, dQ, dR, dS, dT, dU, dV, dW, dX, dY, dZ, d0, d4, d5, d6, d7, d8, d9, eA, eB, eC, eD, eE, eF, eG, eH, eI, eJ, eK, eL, eM, eN, eO, eP, eQ, eR, eS, eT, eU, eV, eW, eX, eY, eZ, e4, e5, e6, e7, e8, e9, fA, fB, fC, fD, fE, fF, fG, fH, fI, fJ, fK, fL, fM, fN, fO, fP, fQ, fR, fS, fT, fU, fV, fW, fX, fY, fZ, f0, f1, f2, f3, f4, f5, f6, f7, f8, f9, gA, gB, gC, gD, gE, gF, gG, gH, gI, gJ, gK, gL, gM, gN, gO, gP, gQ, gR, gS, gT, gU, gV, gW, gX, gY, gZ, g0, g1, g2, g3, g4, g5, g6, g7, g8, g9, hA, iW, iX, iY, iZ, i0, i1, hB, hC], []⟩ W') :
    Code.wp Tryd.prog (stm 10 (Tryd.f34.body.getD .skip)) (Exit.then K Q) ⟨#[c0, c1, c2, c3, .pointer (some ⟨b, 0, none⟩), c5, c6, c7, .pointer (some ⟨b + 1, 0, none⟩), c9, aA, .pointer (some ⟨ib, 0, none⟩), i4, i3, i2, hF, hG, aB, aC, aD, aE, aF, aG, aH, aI, hH, hI, hJ, hL, hM, hN, aJ, aK, aL, aM, aN, aO, aP, aQ, aR, aS, aT, aU, aV, aW, aX, aY, aZ, a0, a1, a2, a3, a4, a5, a6, a7, a8, a9, hO, hQ, hT, hU, hV, hW, hX, hY, hZ, h0, h4, h5, h6, h7, h8, h9, iA, iB, iC, iD, iE, iF, iG, bA, bB, bC, iH, iI, iJ, iK, iL, iM, iN, iO, iP, iQ, iR, iS, iT, iU, iV, bD, bE, bF, bG, bH, bI, bJ, bK, bL, bM, bN, bO, bP, bQ, bR, bS, bT, bU, bV, bW, bX, bY, bZ, b0, b1, b2, b3, b4, b5, b6, b7, b8, b9, cA, cB, cC, cD, cE, cF, cG, cH, cI, cJ, cK, cL, cM, cN, cO, cP, cQ, cR, cS, cT, cU, cV, cW, cX, cY, cZ, c4, c8, dA, dB, dC, dD, dE, dF, dG, dH, dI, dJ, dK, dL, dM, dN, dO, dP, dQ, dR, dS, dT, dU, dV, dW, dX, dY, dZ, d0, d4, d5, d6, d7, d8, d9, eA, eB, eC, eD, eE, eF, eG, eH, eI, eJ, eK, eL, eM, eN, eO, eP, eQ, eR, eS, eT, eU, eV, eW, eX, eY, eZ, e4, e5, e6, e7, e8, e9, fA, fB, fC, fD, fE, fF, fG, fH, fI, fJ, fK, fL, fM, fN, fO, fP, fQ, fR, fS, fT, fU, fV, fW, fX, fY, fZ, f0, f1, f2, f3, f4, f5, f6, f7, f8, f9, gA, gB, gC, gD, gE, gF, gG, gH, gI, gJ, gK, gL, gM, gN, gO, gP, gQ, gR, gS, gT, gU, gV, gW, gX, gY, gZ, g0, g1, g2, g3, g4, g5, g6, g7, g8, g9, hA, iW, iX, iY, iZ, i0, i1, hB, hC], []⟩ W := by
  have HK : Hid _ := hK
  clear hK
  conv => arg 2; whnf
  obtain ⟨rv, mv, ov, ha⟩ := h.at_
  obtain ⟨g, c, rfl, hg, hreg, hfz⟩ := ha.regs_at hr
  obtain ⟨⟨z0, z1, z2, z3, z4, z5, z6, z7, z8, z9, z10, z11⟩, zf, zl⟩ := twelve_cells ha.box
  obtain ⟨x0, x1, x2, x3, xf, xl⟩ := four_cells hi
  obtain ⟨j0, j7⟩ := hx
  have hq := hreg a j0 j7
  have jb : a < (m.regs.length : Int) := by omega
  clear h ha hreg hi hr
  go_wp2_with fail
  exact HK.out _ _ _ _ _ _ _ rfl


set_option maxRecDepth 100000 in
set_option maxHeartbeats 4000000 in
theorem seg11 (c0 c1 c2 c3 c5 c6 c7 c9 aA i4 i3 i2 hF hG aB aC aD aE aF aG aH aI hH hI hJ hL hM hN aJ aK aL aM aN aO aP aQ aR aS aT aU aV aW aX aY aZ a0 a1 a2 a3 a4 a5 a6 a7 a8 a9 hO hQ hT hU hV hW hX hY hZ h0 h4 h5 h6 h7 h8 h9 iA iB iC iD iE iF iG bA bB bC iH iI iJ iK iL iM iN iO iP iQ iR iS iT iU iV bD bE bF bG bH bI bJ bK bL bM bN bO bP bQ bR bS bT bU bV bW bX bY bZ b0 b1 b2 b3 b4 b5 b6 b7 b8 b9 cA cB cC cD cE cF cG cH cI cJ cK cL cM cN cO cP cQ cR cS cT cU cV cW cX cY cZ c4 c8 dA dB dC dD dE dF dG dH dI dJ dK dL dM dN dO dP dQ dR dS dT dU dV dW dX dY dZ d0 d4 d5 d6 d7 d8 d9 eA eB eC eD eE eF eG eH eI eJ eK eL eM eN eO eP eQ eR eS eT eU eV eW eX eY eZ e4 e5 e6 e7 e8 e9 fA fB fC fD fE fF fG fH fI fJ fK fL fM fN fO fP fQ fR fS fT fU fV fW fX fY fZ f0 f1 f2 f3 f4 f5 f6 f7 f8 f9 gA gB gC gD gE gF gG gH gI gJ gK gL gM gN gO gP gQ gR gS gT gU gV gW gX gY gZ g0 g1 g2 g3 g4 g5 g6 g7 g8 g9 hA iW iX iY iZ i0 i1 hB hC : Value) (m : Mach) (ib : Nat) (o a k n : Int) (w W : World) (lo b : Nat) (K : Act → World → Prop) (Q : Exit → Act → World → Prop)
    (h : StpI KK w W lo b m) (hr : m.regs.length = 8) (hi : W.heap[ib]? = some (.cells #[.int .i64 o, .int .i64 a, .int .i64 k, .int .i64 n] 83 (0, 0))) (hx : 0 ≤ k ∧ k ≤ 7)
    (hK : ∀ (kA kB kC kD kE kF : Value) (W' : World), W' = W → K ⟨#[c0, c1, c2, c3, .pointer (some ⟨b, 0, none⟩), c5, c6, c7, .pointer (some ⟨b + 1, 0, none⟩), c9, aA, .pointer (some ⟨ib, 0, none⟩), i4, i3, i2, hF, .int .i64 (m.reg k), aB, aC, aD, aE, aF, aG, aH, aI, hH, hI, hJ, hL, hM, hN, aJ, aK, aL, aM, aN, aO, aP, aQ, aR, aS, aT, aU, aV, aW, aX, aY, aZ, a0, a1, a2, a3, a4, a5, a6, a7, a8, a9, hO, hQ, hT, hU, hV, hW, hX, hY, hZ, h0, h4, h5, h6, h7, h8, h9, iA, iB, iC, iD, iE, iF, iG, bA, bB, bC, iH, iI, iJ, iK, iL, iM, iN, iO, iP, kA, kB, kC, kD, kE, kF, bD, bE, bF, bG, bH, bI, bJ, bK, bL, bM, bN, bO, bP, bQ, bR, bS, bT, bU, bV, bW, bX, bY, bZ, b0, b1, b2, b3, b4, b5, b6, b7, b8, b9, cA, cB, cC, cD, cE, cF, cG, cH, cI, cJ, cK, cL, cM, cN, cO, cP, cQ, cR, cS, cT, cU, cV, cW, cX, cY, cZ, c4, c8, dA, dB, dC, dD, dE, dF, dG, dH, dI, dJ, dK, dL, dM, dN, dO, dP, dQ, dR, dS, dT, dU, dV, dW, dX, dY, dZ, d0, d4, d5, d6, d7, d8, d9, eA, eB, eC, eD, eE, eF, eG, eH, eI, eJ, eK, eL, eM, eN, eO, eP, eQ, eR, eS, eT, eU, eV, eW, eX, eY, eZ, e4, e5, e6, e7, e8, e9, fA, fB, fC, fD, fE, fF, fG, fH, fI, fJ, fK, fL, fM, fN, fO, fP, fQ, fR, fS, fT, fU, fV, fW, fX, fY, fZ, f0, f1, f2, f3, f4, f5, f6, f7, f8, f9, gA, gB, gC, gD, gE, gF, gG, gH, gI, gJ, gK, gL, gM, gN, gO, gP, gQ, gR, gS, gT, gU, gV, gW, gX, gY, gZ, g0, g1, g2, g3, g4, g5, g6, g7, g8, g9, hA, iW, iX, iY, iZ, i0, i1, hB, hC], []⟩ W') :
    Code.wp Tryd.prog (stm 11 (Tryd.f34.body.getD .skip)) (Exit.then K Q) ⟨#[c0, c1, c2, c3, .pointer (some ⟨b, 0, none⟩), c5, c6, c7, .pointer (some ⟨b + 1, 0, none⟩), c9, aA, .pointer (some ⟨ib, 0, none⟩), i4, i3, i2, hF, hG, aB, aC, aD, aE, aF, aG, aH, aI, hH, hI, hJ, hL, hM, hN, aJ, aK, aL, aM, aN, aO, aP, aQ, aR, aS, aT, aU, aV, aW, aX, aY, aZ, a0, a1, a2, a3, a4, a5, a6, a7, a8, a9, hO, hQ, hT, hU, hV, hW, hX, hY, hZ, h0, h4, h5, h6, h7, h8, h9, iA, iB, iC, iD, iE, iF, iG, bA, bB, bC, iH, iI, iJ, iK, iL, iM, iN, iO, iP, iQ, iR, iS, iT, iU, iV, bD, bE, bF, bG, bH, bI, bJ, bK, bL, bM, bN, bO, bP, bQ, bR, bS, bT, bU, bV, bW, bX, bY, bZ, b0, b1, b2, b3, b4, b5, b6, b7, b8, b9, cA, cB, cC, cD, cE, cF, cG, cH, cI, cJ, cK, cL, cM, cN, cO, cP, cQ, cR, cS, cT, cU, cV, cW, cX, cY, cZ, c4, c8, dA, dB, dC, dD, dE, dF, dG, dH, dI, dJ, dK, dL, dM, dN, dO, dP, dQ, dR, dS, dT, dU, dV, dW, dX, dY, dZ, d0, d4, d5, d6, d7, d8, d9, eA, eB, eC, eD, eE, eF, eG, eH, eI, eJ, eK, eL, eM, eN, eO, eP, eQ, eR, eS, eT, eU, eV, eW, eX, eY, eZ, e4, e5, e6, e7, e8, e9, fA, fB, fC, fD, fE, fF, fG, fH, fI, fJ, fK, fL, fM, fN, fO, fP, fQ, fR, fS, fT, fU, fV, fW, fX, fY, fZ, f0, f1, f2, f3, f4, f5, f6, f7, f8, f9, gA, gB, gC, gD, gE, gF, gG, gH, gI, gJ, gK, gL, gM, gN, gO, gP, gQ, gR, gS, gT, gU, gV, gW, gX, gY, gZ, g0, g1, g2, g3, g4, g5, g6, g7, g8, g9, hA, iW, iX, iY, iZ, i0, i1, hB, hC], []⟩ W := by
  have HK : Hid _ := hK
  clear hK
  conv => arg 2; whnf
  obtain ⟨rv, mv, ov, ha⟩ := h.at_
  obtain ⟨g, c, rfl, hg, hreg, hfz⟩ := ha.regs_at hr
  obtain ⟨⟨z0, z1, z2, z3, z4, z5, z6, z7, z8, z9, z10, z11⟩, zf, zl⟩ := twelve_cells ha.box
  obtain ⟨x0, x1, x2, x3, xf, xl⟩ := four_cells hi
  obtain ⟨j0, j7⟩ := hx
  have hq := hreg k j0 j7
  have jb : k < (m.regs.length : Int) := by omega
  clear h ha hreg hi hr
  go_wp2_with fail
  exact HK.out _ _ _ _ _ _ _ rfl


set_option maxRecDepth 100000 in
set_option maxHeartbeats 4000000 in
theorem seg13 (c0 c1 c2 c3 c5 c6 c7 c9 aA i5 i4 i2 hF hG aB aC aD aE aF aG aH aI hH hI hJ hL hM hN aJ aK aL aM aN aO aP aQ aR aS aT aU aV aW aX aY aZ a0 a1 a2 a3 a4 a5 a6 a7 a8 a9 hO hQ hT hU hV hW hX hY hZ h0 h4 h5 h6 h7 h8 h9 iA iB iC iD iE iF iG bA bB bC iH iI iJ iK iL iM iN iO iP iQ iR iS iT iU iV bD bE bF bG bH bI bJ bK bL bM bN bO bP bQ bR bS bT bU bV bW bX bY bZ b0 b1 b2 b3 b4 b5 b6 b7 b8 b9 cA cB cC cD cE cF cG cH cI cJ cK cL cM cN cO cP cQ cR cS cT cU cV cW cX cY cZ c4 c8 dA dB dC dD dE dF dG dH dI dJ dK dL dM dN dO dP dQ dR dS dT dU dV dW dX dY dZ d0 d4 d5 d6 d7 d8 d9 eA eB eC eD eE eF eG eH eI eJ eK eL eM eN eO eP eQ eR eS eT eU eV eW eX eY eZ e4 e5 e6 e7 e8 e9 fA fB fC fD fE fF fG fH fI fJ fK fL fM fN fO fP fQ fR fS fT fU fV fW fX fY fZ f0 f1 f2 f3 f4 f5 f6 f7 f8 f9 gA gB gC gD gE gF gG gH gI gJ gK gL gM gN gO gP gQ gR gS gT gU gV gW gX gY gZ g0 g1 g2 g3 g4 g5 g6 g7 g8 g9 hA iW iX iY iZ i0 i1 hB hC : Value) (m : Mach) (nx : Int) (w W : World) (lo b : Nat) (K : Act → World → Prop) (Q : Exit → Act → World → Prop)
    (h : StpI KK w W lo b m) (hn : -4398046511104 ≤ nx ∧ nx ≤ 4398046511104)
    (hK : ∀ (kG kH kI kJ kK kL : Value) (W' : World), StpI KK w W' lo b (if m.fin = 0 then m.go nx else m) → K ⟨#[c0, c1, c2, c3, .pointer (some ⟨b, 0, none⟩), c5, c6, c7, .pointer (some ⟨b + 1, 0, none⟩), c9, aA, i5, i4, .int .i64 nx, i2, hF, hG, aB, aC, aD, aE, aF, aG, aH, aI, hH, hI, hJ, hL, hM, hN, aJ, aK, aL, aM, aN, aO, aP, aQ, aR, aS, aT, aU, aV, aW, aX, aY, aZ, a0, a1, a2, a3, a4, a5, a6, a7, a8, a9, hO, hQ, hT, hU, hV, hW, hX, hY, hZ, h0, h4, h5, h6, h7, h8, h9, iA, iB, iC, iD, iE, iF, iG, bA, bB, bC, iH, iI, iJ, iK, iL, iM, iN, iO, iP, iQ, iR, iS, iT, iU, iV, bD, bE, bF, bG, bH, bI, bJ, bK, bL, bM, bN, bO, bP, bQ, bR, bS, bT, bU, bV, bW, bX, bY, bZ, b0, b1, b2, b3, b4, b5, b6, b7, b8, b9, cA, cB, cC, cD, cE, cF, cG, cH, cI, cJ, cK, cL, cM, cN, cO, cP, cQ, cR, cS, cT, cU, cV, cW, cX, cY, cZ, c4, c8, dA, dB, dC, dD, dE, dF, dG, dH, dI, dJ, dK, dL, dM, dN, dO, dP, dQ, dR, dS, dT, dU, dV, dW, dX, dY, dZ, d0, d4, d5, d6, d7, d8, d9, eA, eB, eC, eD, eE, eF, eG, eH, eI, eJ, eK, eL, eM, eN, eO, eP, eQ, eR, eS, eT, eU, eV, eW, eX, eY, eZ, e4, e5, e6, e7, e8, e9, fA, fB, fC, fD, fE, fF, fG, fH, fI, fJ, fK, fL, fM, fN, fO, fP, fQ, fR, fS, fT, fU, fV, fW, fX, fY, fZ, f0, f1, f2, f3, f4, f5, f6, f7, f8, f9, gA, gB, gC, gD, gE, gF, gG, gH, gI, gJ, gK, gL, gM, gN, gO, gP, gQ, gR, gS, gT, gU, gV, gW, gX, gY, gZ, g0, g1, g2, g3, g4, g5, g6, g7, g8, g9, hA, kG, kH, kI, kJ, kK, kL, hB, hC], []⟩ W') :
    Code.wp Tryd.prog (stm 13 (Tryd.f34.body.getD .skip)) (Exit.then K Q) ⟨#[c0, c1, c2, c3, .pointer (some ⟨b, 0, none⟩), c5, c6, c7, .pointer (some ⟨b + 1, 0, none⟩), c9, aA, i5, i4, .int .i64 nx, i2, hF, hG, aB, aC, aD, aE, aF, aG, aH, aI, hH, hI, hJ, hL, hM, hN, aJ, aK, aL, aM, aN, aO, aP, aQ, aR, aS, aT, aU, aV, aW, aX, aY, aZ, a0, a1, a2, a3, a4, a5, a6, a7, a8, a9, hO, hQ, hT, hU, hV, hW, hX, hY, hZ, h0, h4, h5, h6, h7, h8, h9, iA, iB, iC, iD, iE, iF, iG, bA, bB, bC, iH, iI, iJ, iK, iL, iM, iN, iO, iP, iQ, iR, iS, iT, iU, iV, bD, bE, bF, bG, bH, bI, bJ, bK, bL, bM, bN, bO, bP, bQ, bR, bS, bT, bU, bV, bW, bX, bY, bZ, b0, b1, b2, b3, b4, b5, b6, b7, b8, b9, cA, cB, cC, cD, cE, cF, cG, cH, cI, cJ, cK, cL, cM, cN, cO, cP, cQ, cR, cS, cT, cU, cV, cW, cX, cY, cZ, c4, c8, dA, dB, dC, dD, dE, dF, dG, dH, dI, dJ, dK, dL, dM, dN, dO, dP, dQ, dR, dS, dT, dU, dV, dW, dX, dY, dZ, d0, d4, d5, d6, d7, d8, d9, eA, eB, eC, eD, eE, eF, eG, eH, eI, eJ, eK, eL, eM, eN, eO, eP, eQ, eR, eS, eT, eU, eV, eW, eX, eY, eZ, e4, e5, e6, e7, e8, e9, fA, fB, fC, fD, fE, fF, fG, fH, fI, fJ, fK, fL, fM, fN, fO, fP, fQ, fR, fS, fT, fU, fV, fW, fX, fY, fZ, f0, f1, f2, f3, f4, f5, f6, f7, f8, f9, gA, gB, gC, gD, gE, gF, gG, gH, gI, gJ, gK, gL, gM, gN, gO, gP, gQ, gR, gS, gT, gU, gV, gW, gX, gY, gZ, g0, g1, g2, g3, g4, g5, g6, g7, g8, g9, hA, iW, iX, iY, iZ, i0, i1, hB, hC], []⟩ W := by
  have HK : Hid _ := hK
  clear hK
  conv => arg 2; whnf
  obtain ⟨rv, mv, ov, ha⟩ := h.at_
  obtain ⟨⟨z0, z1, z2, z3, z4, z5, z6, z7, z8, z9, z10, z11⟩, zf, zl⟩ := twelve_cells ha.box
  have HI : Hid (StpI KK w W lo b m) := h
  have HP : Hid (StpI KK w (W.setCell ⟨b, 1, none⟩ (.int .i64 (foldF nx))) lo b (m.go nx)) := h.put (ha.setPc (foldF nx)).1
  obtain ⟨n1, n2⟩ := hn
  by_cases hf : m.fin = 0
  · rw [hf] at z7
    have HE : Hid (m.go nx = if m.fin = 0 then m.go nx else m) := (if_pos hf).symm
    clear h ha HI hf
    go_wp2_with fail
    refine (FoldOf_any _ _ (by omega)).mono ?_
    rintro e w9 ⟨rfl, rfl⟩
    go_wp2_with fail
    exact HK.out _ _ _ _ _ _ _ (HP.out.same HE.out)
  · have e1 : (m.fin == 0) = false := by simp [hf]
    have HE : Hid (m = if m.fin = 0 then m.go nx else m) := (if_neg hf).symm
    clear h ha HP hf
    go_wp2_with fail
    exact HK.out _ _ _ _ _ _ _ (HI.out.same HE.out)


set_option maxRecDepth 100000 in
set_option maxHeartbeats 4000000 in
theorem seg14 (c0 c1 c2 c3 c5 c6 c7 c9 aA i5 i4 i3 hF hG aB aC aD aE aF aG aH aI hH hI hJ hL hM hN aJ aK aL aM aN aO aP aQ aR aS aT aU aV aW aX aY aZ a0 a1 a2 a3 a4 a5 a6 a7 a8 a9 hO hQ hT hU hV hW hX hY hZ h0 h4 h5 h6 h7 h8 h9 iA iB iC iD iE iF iG bA bB bC iH iI iJ iK iL iM iN iO iP iQ iR iS iT iU iV bD bE bF bG bH bI bJ bK bL bM bN bO bP bQ bR bS bT bU bV bW bX bY bZ b0 b1 b2 b3 b4 b5 b6 b7 b8 b9 cA cB cC cD cE cF cG cH cI cJ cK cL cM cN cO cP cQ cR cS cT cU cV cW cX cY cZ c4 c8 dA dB dC dD dE dF dG dH dI dJ dK dL dM dN dO dP dQ dR dS dT dU dV dW dX dY dZ d0 d4 d5 d6 d7 d8 d9 eA eB eC eD eE eF eG eH eI eJ eK eL eM eN eO eP eQ eR eS eT eU eV eW eX eY eZ e4 e5 e6 e7 e8 e9 fA fB fC fD fE fF fG fH fI fJ fK fL fM fN fO fP fQ fR fS fT fU fV fW fX fY fZ f0 f1 f2 f3 f4 f5 f6 f7 f8 f9 gA gB gC gD gE gF gG gH gI gJ gK gL gM gN gO gP gQ gR gS gT gU gV gW gX gY gZ g0 g1 g2 g3 g4 g5 g6 g7 g8 g9 hA iW iX iY iZ i0 i1 hB hC : Value) (m : Mach) (wr : Int) (R : Mach × Int) (w W : World) (lo b : Nat)
    (h : StpI KK w W lo b m) (hR : R = (m, wr)) :
    Code.wp Tryd.prog (rst 14 (Tryd.f34.body.getD .skip)) (bodyPost Tryd.prog Tryd.f34 (fun e w' => ∃ rv' mv' ov', e = .returned (.tuple #[.agg (R.1.cells rv' mv' ov'), .int .i64 R.2]) ∧ OwnM w' lo rv' mv' ov' R.1 ∧ Below lo w w' ∧ KeptK KK w w' ∧ Free KK w rv' ∧ Free KK w mv' ∧ Free KK w ov')) ⟨#[c0, c1, c2, c3, .pointer (some ⟨b, 0, none⟩), c5, c6, c7, .pointer (some ⟨b + 1, 0, none⟩), c9, aA, i5, i4, i3, .int .i64 wr, hF, hG, aB, aC, aD, aE, aF, aG, aH, aI, hH, hI, hJ, hL, hM, hN, aJ, aK, aL, aM, aN, aO, aP, aQ, aR, aS, aT, aU, aV, aW, aX, aY, aZ, a0, a1, a2, a3, a4, a5, a6, a7, a8, a9, hO, hQ, hT, hU, hV, hW, hX, hY, hZ, h0, h4, h5, h6, h7, h8, h9, iA, iB, iC, iD, iE, iF, iG, bA, bB, bC, iH, iI, iJ, iK, iL, iM, iN, iO, iP, iQ, iR, iS, iT, iU, iV, bD, bE, bF, bG, bH, bI, bJ, bK, bL, bM, bN, bO, bP, bQ, bR, bS, bT, bU, bV, bW, bX, bY, bZ, b0, b1, b2, b3, b4, b5, b6, b7, b8, b9, cA, cB, cC, cD, cE, cF, cG, cH, cI, cJ, cK, cL, cM, cN, cO, cP, cQ, cR, cS, cT, cU, cV, cW, cX, cY, cZ, c4, c8, dA, dB, dC, dD, dE, dF, dG, dH, dI, dJ, dK, dL, dM, dN, dO, dP, dQ, dR, dS, dT, dU, dV, dW, dX, dY, dZ, d0, d4, d5, d6, d7, d8, d9, eA, eB, eC, eD, eE, eF, eG, eH, eI, eJ, eK, eL, eM, eN, eO, eP, eQ, eR, eS, eT, eU, eV, eW, eX, eY, eZ, e4, e5, e6, e7, e8, e9, fA, fB, fC, fD, fE, fF, fG, fH, fI, fJ, fK, fL, fM, fN, fO, fP, fQ, fR, fS, fT, fU, fV, fW, fX, fY, fZ, f0, f1, f2, f3, f4, f5, f6, f7, f8, f9, gA, gB, gC, gD, gE, gF, gG, gH, gI, gJ, gK, gL, gM, gN, gO, gP, gQ, gR, gS, gT, gU, gV, gW, gX, gY, gZ, g0, g1, g2, g3, g4, g5, g6, g7, g8, g9, hA, iW, iX, iY, iZ, i0, i1, hB, hC], []⟩ W := by
  conv => arg 2; whnf
  obtain ⟨rv, mv, ov, ha⟩ := h.at_
  obtain ⟨A1, d1, A2, d2, A3, d3, e1, e2, e3⟩ := ha.own.shape
  subst e1 e2 e3
  obtain ⟨⟨z0, z1, z2, z3, z4, z5, z6, z7, z8, z9, z10, z11⟩, zf, zl⟩ := twelve_cells ha.box
  obtain ⟨⟨y0, y1, y2, y3, y4, y5, y6, y7, y8, y9, y10, y11⟩, yf, yl⟩ := twelve_cells h.res
  have HEND : Hid (OwnM W lo (.slice A1 m.regs.length d1) (.slice A2 m.mem.length d2) (.slice A3 m.out.length d3) m ∧ IsBox W (b + 1) ∧ Below lo w W ∧ lo ≤ b ∧ (KeptK KK w W ∧ Free KK w (.slice A1 m.regs.length d1) ∧ Free KK w (.slice A2 m.mem.length d2) ∧ Free KK w (.slice A3 m.out.length d3)) ∧ w.heap.size ≤ b) := ⟨ha.own, ⟨_, h.res⟩, h.old, h.size.1, ⟨h.box, h.mine _ _ _ ha.box⟩, h.bw⟩
  have HR : Hid (R = (m, wr)) := hR
  clear h ha hR
  go_wp2_with fail
  change bodyPost Tryd.prog Tryd.f34 _ _ _ _
  refine bodyPost_ret (v := .tuple #[.agg #[.slice A1 m.regs.length d1, .int .i64 m.pc, .int .i64 m.back, .bool m.ints, .bool m.wait, .int .i64 m.table, .int .i64 m.count, .int .i64 m.fin, .slice A2 m.mem.length d2, .slice A3 m.out.length d3, .int .i64 m.ready, .int .i64 m.want], .int .i64 wr]) (by simp [results, Tryd.results34, go_sem, y0, y1, y2, y3, y4, y5, y6, y7, y8, y9, y10, y11]) rfl ?_
  rw [HR.out]
  exact ⟨_, _, _, rfl, HEND.out.1.set12 HEND.out.2.1 _ _ _ _ _ _ _ _ _ _ _ _, below_set12 HEND.out.2.2.1 (by have := HEND.out.2.2.2.1; omega) _ _ _ _ _ _ _ _ _ _ _ _, keptK_set12 HEND.out.2.2.2.2.1.1 (by have := HEND.out.2.2.2.2.2; omega) _ _ _ _ _ _ _ _ _ _ _ _, HEND.out.2.2.2.2.1.2⟩

end Go.Proofs.YtbjlfhpiebokkaaDoor
