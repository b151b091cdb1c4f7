/- hourglassref.stepped: what the instructions do. (Written by tools/gen_sp.py.) -/
import Derived.Test.YtbjlfhpiebokkaaDoorFoldPart
namespace Go.Proofs.YtbjlfhpiebokkaaDoor
open Go.RowKit
variable {KK : Nat → Prop}

set_option maxRecDepth 100000 in
set_option maxHeartbeats 4000000 in
theorem op0 (c0 c1 c2 c5 c6 c7 c9 aA aB cS cT cU cV aC aD aE aF aG aH aI aJ aK aL aM aN aO aP aQ aR aS aT aU aV aW aX aY aZ a1 a2 a3 a4 a5 a6 a8 a9 bA bB bC bD bE bF bG bH bI bJ bK bL bM bN bO bP bQ bR bS bT bU bV bW bX bY bZ b0 b1 b2 b3 b4 b5 b6 b7 b8 b9 cA cB cC cD cE cF cG cH cI cJ cW cX cY cZ c3 c4 c8 dA dB dC dD dE dF dG dH dI dJ dK dL dM dN dO dP dQ dR dS dT dU dV dW dX dY dZ d0 d1 d2 d3 d4 d5 d6 d7 d8 d9 eA eB eC eD eE eF eG eH eI eJ eK eL eM eN eO eP eQ eR eS eT eU eV eW eX eY eZ e0 e1 e2 e3 e4 e5 e6 e7 e8 e9 fA fB fC fD fE fF fG fH fI fJ fK fL fM fN fO fP fQ fR fS fT fU fV fW fX fY fZ f0 f1 f2 f3 f4 f5 f6 f7 f8 f9 gA gB gC gD gE gF gG gH gI gJ gK gL gM gN gO gP gQ gR gS gT gU gV gW gX gY gZ g0 g1 g2 g3 g4 g5 g6 g7 g8 g9 hA hB hC hD hE hF hG hH hI hJ hL hM hN hO hP hQ hS hT hU hV hW hX hY hZ h0 h1 h2 h3 h4 h5 h6 h7 h8 h9 iA iB iC iD iE iF iG iH iI iJ iK iL iM iN cK cL cM cN cO cP cQ cR : Value) (m : Mach) (ib : Nat) (a k n value : Int) (R : Mach × Int) (w W : World) (lo b : Nat) (K : Act → World → Prop) (Q : Exit → Act → World → Prop)
    (h : StpI KK w W lo b m) (hm : MayP m) (hf : m.fin = 0) (hi : W.heap[ib]? = some (.cells #[.int .i64 0, .int .i64 a, .int .i64 k, .int .i64 n] 83 (0, 0))) (ba : 0 ≤ a ∧ a ≤ 7) (bk : 0 ≤ k ∧ k ≤ 7) (bn : -1048576 ≤ n ∧ n ≤ 1048575) (hR : R = m.exec 0 a k n value)
    (hK : ∀ (iO iP iQ iR iS iT iU iV iW iX iY iZ i0 i1 i2 i3 i4 i5 i6 i7 i8 i9 jA jB jC jD jE jF jG jH jI jJ jK jL jM jN jO jP jQ jR jS jT jU jV jW jX jY jZ j0 j1 j2 j3 j4 j5 j6 j7 j8 j9 kA kB kC kD kE kF kG kH kI kJ kK kL kM kN kO kP kQ kR kS kT kU kV kW kX kY kZ k1 k2 k3 k4 k5 k6 k8 k9 lA lB lC lD lE lF lG lH lI lJ lK lL lM lN lO lP lQ lR lS lT lU lV lW lX lY lZ l0 l1 l2 l3 l4 l5 l6 l7 l8 l9 mA mB mC mD mE mF mG mH mI mJ mK mL mM mN mO mP mQ mR mS mT mU mV mW mX mY mZ m0 m1 m2 m3 m4 m5 m6 m7 m8 m9 nA nB nC nD nE nF nG nH nI nJ nK nL nM nN nO nP nQ nR nS nT nU nV nW nX nY nZ n1 n2 n3 n4 n5 n6 n8 n9 oA oB oC oD oE oF oG : Value) (M' : Mach) (nx wr : Int) (W' : World), StpI KK w W' lo b M' → (-4398046511104 ≤ nx ∧ nx ≤ 4398046511104) → R = (if M'.fin = 0 then M'.go nx else M', wr) → K ⟨#[c0, c1, c2, .int .i64 value, .pointer (some ⟨b, 0, none⟩), c5, c6, c7, .pointer (some ⟨b + 1, 0, none⟩), c9, aA, .pointer (some ⟨ib, 0, none⟩), aB, .int .i64 nx, .int .i64 wr, iO, iP, iQ, iR, iS, iT, aC, aD, aE, aF, aG, aH, aI, aJ, aK, aL, aM, aN, aO, aP, aQ, aR, aS, aT, aU, aV, aW, aX, aY, aZ, a1, a2, a3, a4, a5, a6, a8, a9, bA, bB, bC, bD, bE, bF, bG, bH, bI, bJ, bK, bL, bM, bN, bO, bP, bQ, bR, bS, bT, bU, bV, bW, bX, bY, bZ, b0, b1, b2, b3, b4, b5, b6, b7, b8, b9, cA, cB, cC, cD, cE, cF, cG, cH, cI, cJ, iU, iV, iW, iX, iY, iZ, i0, i1, i2, i3, i4, i5, i6, i7, i8, i9, jA, jB, jC, jD, jE, jF, jG, jH, jI, jJ, jK, jL, jM, jN, jO, jP, jQ, jR, jS, jT, jU, jV, jW, jX, jY, jZ, j0, j1, j2, j3, j4, j5, j6, j7, j8, j9, kA, kB, kC, kD, kE, kF, kG, kH, kI, kJ, kK, kL, kM, kN, kO, kP, kQ, kR, kS, kT, kU, kV, kW, kX, kY, kZ, k1, k2, k3, k4, k5, k6, k8, k9, lA, lB, lC, lD, lE, lF, lG, lH, lI, lJ, lK, lL, lM, lN, lO, lP, lQ, lR, lS, lT, lU, lV, lW, lX, lY, lZ, l0, l1, l2, l3, l4, l5, l6, l7, l8, l9, mA, mB, mC, mD, mE, mF, mG, mH, mI, mJ, mK, mL, mM, mN, mO, mP, mQ, mR, mS, mT, mU, mV, mW, mX, mY, mZ, m0, m1, m2, m3, m4, m5, m6, m7, m8, m9, nA, nB, nC, nD, nE, nF, nG, nH, nI, nJ, nK, nL, nM, nN, nO, nP, nQ, nR, nS, nT, nU, nV, nW, nX, nY, nZ, n1, n2, n3, n4, n5, n6, n8, n9, oA, oB, oC, oD, oE, oF, oG, cK, cL, cM, cN, cO, cP, cQ, cR], []⟩ W') :
    Code.wp Tryd.prog (stm 12 (Tryd.f34.body.getD .skip)) (Exit.then K Q) ⟨#[c0, c1, c2, .int .i64 value, .pointer (some ⟨b, 0, none⟩), c5, c6, c7, .pointer (some ⟨b + 1, 0, none⟩), c9, aA, .pointer (some ⟨ib, 0, none⟩), aB, .int .i64 (m.pc + 1), .int .i64 (-1), .int .i64 (m.reg a), .int .i64 (m.reg k), cS, cT, cU, cV, aC, aD, aE, aF, aG, aH, aI, aJ, aK, aL, aM, aN, aO, aP, aQ, aR, aS, aT, aU, aV, aW, aX, aY, aZ, a1, a2, a3, a4, a5, a6, a8, a9, bA, bB, bC, bD, bE, bF, bG, bH, bI, bJ, bK, bL, bM, bN, bO, bP, bQ, bR, bS, bT, bU, bV, bW, bX, bY, bZ, b0, b1, b2, b3, b4, b5, b6, b7, b8, b9, cA, cB, cC, cD, cE, cF, cG, cH, cI, cJ, cW, cX, cY, cZ, c3, c4, c8, dA, dB, dC, dD, dE, dF, dG, dH, dI, dJ, dK, dL, dM, dN, dO, dP, dQ, dR, dS, dT, dU, dV, dW, dX, dY, dZ, d0, d1, d2, d3, d4, d5, d6, d7, d8, d9, eA, eB, eC, eD, eE, eF, eG, eH, eI, eJ, eK, eL, eM, eN, eO, eP, eQ, eR, eS, eT, eU, eV, eW, eX, eY, eZ, e0, e1, e2, e3, e4, e5, e6, e7, e8, e9, fA, fB, fC, fD, fE, fF, fG, fH, fI, fJ, fK, fL, fM, fN, fO, fP, fQ, fR, fS, fT, fU, fV, fW, fX, fY, fZ, f0, f1, f2, f3, f4, f5, f6, f7, f8, f9, gA, gB, gC, gD, gE, gF, gG, gH, gI, gJ, gK, gL, gM, gN, gO, gP, gQ, gR, gS, gT, gU, gV, gW, gX, gY, gZ, g0, g1, g2, g3, g4, g5, g6, g7, g8, g9, hA, hB, hC, hD, hE, hF, hG, hH, hI, hJ, hL, hM, hN, hO, hP, hQ, hS, hT, hU, hV, hW, hX, hY, hZ, h0, h1, h2, h3, h4, h5, h6, h7, h8, h9, iA, iB, iC, iD, iE, iF, iG, iH, iI, iJ, iK, iL, iM, iN, cK, cL, cM, cN, cO, cP, cQ, cR], []⟩ W := by
  have HK : Hid _ := hK
  clear hK
  conv => arg 2; whnf
  obtain ⟨rv, mv, ov, ha⟩ := h.at_
  obtain ⟨g, c, rfl, hg, hreg, hfz⟩ := ha.regs_at hm.regs
  obtain ⟨⟨z0, z1, z2, z3, z4, z5, z6, z7, z8, z9, z10, z11⟩, zf, zl⟩ := twelve_cells ha.box
  obtain ⟨x0, x1, x2, x3, xf, xl⟩ := four_cells hi
  rw [hf] at z7
  obtain ⟨p1, p2⟩ := wordB_iff.1 hm.pc
  have gb : ¬ b = g := ha.ne_regs
  have gb2 : ¬ g = b := fun e => gb e.symm
  have HS : Hid (StpI KK w W lo b m ∧ AtP W lo b (.slice (some ⟨g, 0, none⟩) m.regs.length c) mv ov m) := ⟨h, ha⟩
  have HM : Hid (MayP m) := hm
  have HF : Hid (m.fin = 0) := hf
  have HBD : Hid ((0 ≤ a ∧ a ≤ 7) ∧ (0 ≤ k ∧ k ≤ 7) ∧ (-1048576 ≤ n ∧ n ≤ 1048575)) := ⟨ba, bk, bn⟩
  have HR : Hid (R = m.exec 0 a k n value) := hR
  obtain ⟨a0, a7⟩ := ba
  obtain ⟨k0, k7⟩ := bk
  obtain ⟨n0, n7⟩ := bn
  have ab : a < (m.regs.length : Int) := by have := hm.regs; omega
  have kb : k < (m.regs.length : Int) := by have := hm.regs; omega
  clear h ha hreg hi hm hf hR
  go_wp2_with fail
  refine HK.out _ _ _ _ _ _ _ _ _ _ _ _ _ _ _ _ _ _ _ _ _ _ _ _ _ _ _ _ _ _ _ _ _ _ _ _ _ _ _ _ _ _ _ _ _ _ _ _ _ _ _ _ _ _ _ _ _ _ _ _ _ _ _ _ _ _ _ _ _ _ _ _ _ _ _ _ _ _ _ _ _ _ _ _ _ _ _ _ _ _ _ _ _ _ _ _ _ _ _ _ _ _ _ _ _ _ _ _ _ _ _ _ _ _ _ _ _ _ _ _ _ _ _ _ _ _ _ _ _ _ _ _ _ _ _ _ _ _ _ _ _ _ _ _ _ _ _ _ _ _ _ _ _ _ _ _ _ _ _ _ _ _ _ _ _ _ _ _ _ _ _ _ _ _ _ _ _ _ _ _ _ _ _ _ _ _ _ _ _ _ _ _ _ _ _ _ _ _ _ _ _ _ _ _ _ (m.ends 1) (m.pc + 1) (-1) _ ?_ ⟨by omega, by omega⟩ ?_
  · exact HS.out.1.put (HS.out.2.setFin 1).1
  · rw [HR.out]
    rfl


set_option maxRecDepth 100000 in
set_option maxHeartbeats 4000000 in
theorem op1 (c0 c1 c2 c5 c6 c7 c9 aA aB cS cT cU cV aC aD aE aF aG aH aI aJ aK aL aM aN aO aP aQ aR aS aT aU aV aW aX aY aZ a1 a2 a3 a4 a5 a6 a8 a9 bA bB bC bD bE bF bG bH bI bJ bK bL bM bN bO bP bQ bR bS bT bU bV bW bX bY bZ b0 b1 b2 b3 b4 b5 b6 b7 b8 b9 cA cB cC cD cE cF cG cH cI cJ cW cX cY cZ c3 c4 c8 dA dB dC dD dE dF dG dH dI dJ dK dL dM dN dO dP dQ dR dS dT dU dV dW dX dY dZ d0 d1 d2 d3 d4 d5 d6 d7 d8 d9 eA eB eC eD eE eF eG eH eI eJ eK eL eM eN eO eP eQ eR eS eT eU eV eW eX eY eZ e0 e1 e2 e3 e4 e5 e6 e7 e8 e9 fA fB fC fD fE fF fG fH fI fJ fK fL fM fN fO fP fQ fR fS fT fU fV fW fX fY fZ f0 f1 f2 f3 f4 f5 f6 f7 f8 f9 gA gB gC gD gE gF gG gH gI gJ gK gL gM gN gO gP gQ gR gS gT gU gV gW gX gY gZ g0 g1 g2 g3 g4 g5 g6 g7 g8 g9 hA hB hC hD hE hF hG hH hI hJ hL hM hN hO hP hQ hS hT hU hV hW hX hY hZ h0 h1 h2 h3 h4 h5 h6 h7 h8 h9 iA iB iC iD iE iF iG iH iI iJ iK iL iM iN cK cL cM cN cO cP cQ cR : Value) (m : Mach) (ib : Nat) (a k n value : Int) (R : Mach × Int) (w W : World) (lo b : Nat) (K : Act → World → Prop) (Q : Exit → Act → World → Prop)
    (h : StpI KK w W lo b m) (hm : MayP m) (hf : m.fin = 0) (hi : W.heap[ib]? = some (.cells #[.int .i64 1, .int .i64 a, .int .i64 k, .int .i64 n] 83 (0, 0))) (ba : 0 ≤ a ∧ a ≤ 7) (bk : 0 ≤ k ∧ k ≤ 7) (bn : -1048576 ≤ n ∧ n ≤ 1048575) (hR : R = m.exec 1 a k n value)
    (hK : ∀ (iO iP iQ iR iS iT iU iV iW iX iY iZ i0 i1 i2 i3 i4 i5 i6 i7 i8 i9 jA jB jC jD jE jF jG jH jI jJ jK jL jM jN jO jP jQ jR jS jT jU jV jW jX jY jZ j0 j1 j2 j3 j4 j5 j6 j7 j8 j9 kA kB kC kD kE kF kG kH kI kJ kK kL kM kN kO kP kQ kR kS kT kU kV kW kX kY kZ k1 k2 k3 k4 k5 k6 k8 k9 lA lB lC lD lE lF lG lH lI lJ lK lL lM lN lO lP lQ lR lS lT lU lV lW lX lY lZ l0 l1 l2 l3 l4 l5 l6 l7 l8 l9 mA mB mC mD mE mF mG mH mI mJ mK mL mM mN mO mP mQ mR mS mT mU mV mW mX mY mZ m0 m1 m2 m3 m4 m5 m6 m7 m8 m9 nA nB nC nD nE nF nG nH nI nJ nK nL nM nN nO nP nQ nR nS nT nU nV nW nX nY nZ n1 n2 n3 n4 n5 n6 n8 n9 oA oB oC oD oE oF oG : Value) (M' : Mach) (nx wr : Int) (W' : World), StpI KK w W' lo b M' → (-4398046511104 ≤ nx ∧ nx ≤ 4398046511104) → R = (if M'.fin = 0 then M'.go nx else M', wr) → K ⟨#[c0, c1, c2, .int .i64 value, .pointer (some ⟨b, 0, none⟩), c5, c6, c7, .pointer (some ⟨b + 1, 0, none⟩), c9, aA, .pointer (some ⟨ib, 0, none⟩), aB, .int .i64 nx, .int .i64 wr, iO, iP, iQ, iR, iS, iT, aC, aD, aE, aF, aG, aH, aI, aJ, aK, aL, aM, aN, aO, aP, aQ, aR, aS, aT, aU, aV, aW, aX, aY, aZ, a1, a2, a3, a4, a5, a6, a8, a9, bA, bB, bC, bD, bE, bF, bG, bH, bI, bJ, bK, bL, bM, bN, bO, bP, bQ, bR, bS, bT, bU, bV, bW, bX, bY, bZ, b0, b1, b2, b3, b4, b5, b6, b7, b8, b9, cA, cB, cC, cD, cE, cF, cG, cH, cI, cJ, iU, iV, iW, iX, iY, iZ, i0, i1, i2, i3, i4, i5, i6, i7, i8, i9, jA, jB, jC, jD, jE, jF, jG, jH, jI, jJ, jK, jL, jM, jN, jO, jP, jQ, jR, jS, jT, jU, jV, jW, jX, jY, jZ, j0, j1, j2, j3, j4, j5, j6, j7, j8, j9, kA, kB, kC, kD, kE, kF, kG, kH, kI, kJ, kK, kL, kM, kN, kO, kP, kQ, kR, kS, kT, kU, kV, kW, kX, kY, kZ, k1, k2, k3, k4, k5, k6, k8, k9, lA, lB, lC, lD, lE, lF, lG, lH, lI, lJ, lK, lL, lM, lN, lO, lP, lQ, lR, lS, lT, lU, lV, lW, lX, lY, lZ, l0, l1, l2, l3, l4, l5, l6, l7, l8, l9, mA, mB, mC, mD, mE, mF, mG, mH, mI, mJ, mK, mL, mM, mN, mO, mP, mQ, mR, mS, mT, mU, mV, mW, mX, mY, mZ, m0, m1, m2, m3, m4, m5, m6, m7, m8, m9, nA, nB, nC, nD, nE, nF, nG, nH, nI, nJ, nK, nL, nM, nN, nO, nP, nQ, nR, nS, nT, nU, nV, nW, nX, nY, nZ, n1, n2, n3, n4, n5, n6, n8, n9, oA, oB, oC, oD, oE, oF, oG, cK, cL, cM, cN, cO, cP, cQ, cR], []⟩ W') :
    Code.wp Tryd.prog (stm 12 (Tryd.f34.body.getD .skip)) (Exit.then K Q) ⟨#[c0, c1, c2, .int .i64 value, .pointer (some ⟨b, 0, none⟩), c5, c6, c7, .pointer (some ⟨b + 1, 0, none⟩), c9, aA, .pointer (some ⟨ib, 0, none⟩), aB, .int .i64 (m.pc + 1), .int .i64 (-1), .int .i64 (m.reg a), .int .i64 (m.reg k), cS, cT, cU, cV, aC, aD, aE, aF, aG, aH, aI, aJ, aK, aL, aM, aN, aO, aP, aQ, aR, aS, aT, aU, aV, aW, aX, aY, aZ, a1, a2, a3, a4, a5, a6, a8, a9, bA, bB, bC, bD, bE, bF, bG, bH, bI, bJ, bK, bL, bM, bN, bO, bP, bQ, bR, bS, bT, bU, bV, bW, bX, bY, bZ, b0, b1, b2, b3, b4, b5, b6, b7, b8, b9, cA, cB, cC, cD, cE, cF, cG, cH, cI, cJ, cW, cX, cY, cZ, c3, c4, c8, dA, dB, dC, dD, dE, dF, dG, dH, dI, dJ, dK, dL, dM, dN, dO, dP, dQ, dR, dS, dT, dU, dV, dW, dX, dY, dZ, d0, d1, d2, d3, d4, d5, d6, d7, d8, d9, eA, eB, eC, eD, eE, eF, eG, eH, eI, eJ, eK, eL, eM, eN, eO, eP, eQ, eR, eS, eT, eU, eV, eW, eX, eY, eZ, e0, e1, e2, e3, e4, e5, e6, e7, e8, e9, fA, fB, fC, fD, fE, fF, fG, fH, fI, fJ, fK, fL, fM, fN, fO, fP, fQ, fR, fS, fT, fU, fV, fW, fX, fY, fZ, f0, f1, f2, f3, f4, f5, f6, f7, f8, f9, gA, gB, gC, gD, gE, gF, gG, gH, gI, gJ, gK, gL, gM, gN, gO, gP, gQ, gR, gS, gT, gU, gV, gW, gX, gY, gZ, g0, g1, g2, g3, g4, g5, g6, g7, g8, g9, hA, hB, hC, hD, hE, hF, hG, hH, hI, hJ, hL, hM, hN, hO, hP, hQ, hS, hT, hU, hV, hW, hX, hY, hZ, h0, h1, h2, h3, h4, h5, h6, h7, h8, h9, iA, iB, iC, iD, iE, iF, iG, iH, iI, iJ, iK, iL, iM, iN, cK, cL, cM, cN, cO, cP, cQ, cR], []⟩ W := by
  have HK : Hid _ := hK
  clear hK
  conv => arg 2; whnf
  obtain ⟨rv, mv, ov, ha⟩ := h.at_
  obtain ⟨g, c, rfl, hg, hreg, hfz⟩ := ha.regs_at hm.regs
  obtain ⟨⟨z0, z1, z2, z3, z4, z5, z6, z7, z8, z9, z10, z11⟩, zf, zl⟩ := twelve_cells ha.box
  obtain ⟨x0, x1, x2, x3, xf, xl⟩ := four_cells hi
  rw [hf] at z7
  obtain ⟨p1, p2⟩ := wordB_iff.1 hm.pc
  have gb : ¬ b = g := ha.ne_regs
  have gb2 : ¬ g = b := fun e => gb e.symm
  have HS : Hid (StpI KK w W lo b m ∧ AtP W lo b (.slice (some ⟨g, 0, none⟩) m.regs.length c) mv ov m) := ⟨h, ha⟩
  have HM : Hid (MayP m) := hm
  have HF : Hid (m.fin = 0) := hf
  have HBD : Hid ((0 ≤ a ∧ a ≤ 7) ∧ (0 ≤ k ∧ k ≤ 7) ∧ (-1048576 ≤ n ∧ n ≤ 1048575)) := ⟨ba, bk, bn⟩
  have HR : Hid (R = m.exec 1 a k n value) := hR
  obtain ⟨a0, a7⟩ := ba
  obtain ⟨k0, k7⟩ := bk
  obtain ⟨n0, n7⟩ := bn
  have ab : a < (m.regs.length : Int) := by have := hm.regs; omega
  have kb : k < (m.regs.length : Int) := by have := hm.regs; omega
  have hq := hreg a a0 a7
  clear h ha hreg hi hm hf hR
  go_wp2_with fail
  refine HK.out _ _ _ _ _ _ _ _ _ _ _ _ _ _ _ _ _ _ _ _ _ _ _ _ _ _ _ _ _ _ _ _ _ _ _ _ _ _ _ _ _ _ _ _ _ _ _ _ _ _ _ _ _ _ _ _ _ _ _ _ _ _ _ _ _ _ _ _ _ _ _ _ _ _ _ _ _ _ _ _ _ _ _ _ _ _ _ _ _ _ _ _ _ _ _ _ _ _ _ _ _ _ _ _ _ _ _ _ _ _ _ _ _ _ _ _ _ _ _ _ _ _ _ _ _ _ _ _ _ _ _ _ _ _ _ _ _ _ _ _ _ _ _ _ _ _ _ _ _ _ _ _ _ _ _ _ _ _ _ _ _ _ _ _ _ _ _ _ _ _ _ _ _ _ _ _ _ _ _ _ _ _ _ _ _ _ _ _ _ _ _ _ _ _ _ _ _ _ _ _ _ _ _ _ _ (m.setReg a n) (m.pc + 1) (-1) _ ?_ ⟨by omega, by omega⟩ ?_
  · exact HS.out.1.reg HS.out.2 a.toNat n
  · rw [HR.out]
    simp [Mach.exec, Mach.setReg, HF.out]


set_option maxRecDepth 100000 in
set_option maxHeartbeats 4000000 in
theorem op9 (c0 c1 c2 c5 c6 c7 c9 aA aB cS cT cU cV aC aD aE aF aG aH aI aJ aK aL aM aN aO aP aQ aR aS aT aU aV aW aX aY aZ a1 a2 a3 a4 a5 a6 a8 a9 bA bB bC bD bE bF bG bH bI bJ bK bL bM bN bO bP bQ bR bS bT bU bV bW bX bY bZ b0 b1 b2 b3 b4 b5 b6 b7 b8 b9 cA cB cC cD cE cF cG cH cI cJ cW cX cY cZ c3 c4 c8 dA dB dC dD dE dF dG dH dI dJ dK dL dM dN dO dP dQ dR dS dT dU dV dW dX dY dZ d0 d1 d2 d3 d4 d5 d6 d7 d8 d9 eA eB eC eD eE eF eG eH eI eJ eK eL eM eN eO eP eQ eR eS eT eU eV eW eX eY eZ e0 e1 e2 e3 e4 e5 e6 e7 e8 e9 fA fB fC fD fE fF fG fH fI fJ fK fL fM fN fO fP fQ fR fS fT fU fV fW fX fY fZ f0 f1 f2 f3 f4 f5 f6 f7 f8 f9 gA gB gC gD gE gF gG gH gI gJ gK gL gM gN gO gP gQ gR gS gT gU gV gW gX gY gZ g0 g1 g2 g3 g4 g5 g6 g7 g8 g9 hA hB hC hD hE hF hG hH hI hJ hL hM hN hO hP hQ hS hT hU hV hW hX hY hZ h0 h1 h2 h3 h4 h5 h6 h7 h8 h9 iA iB iC iD iE iF iG iH iI iJ iK iL iM iN cK cL cM cN cO cP cQ cR : Value) (m : Mach) (ib : Nat) (a k n value : Int) (R : Mach × Int) (w W : World) (lo b : Nat) (K : Act → World → Prop) (Q : Exit → Act → World → Prop)
    (h : StpI KK w W lo b m) (hm : MayP m) (hf : m.fin = 0) (hi : W.heap[ib]? = some (.cells #[.int .i64 9, .int .i64 a, .int .i64 k, .int .i64 n] 83 (0, 0))) (ba : 0 ≤ a ∧ a ≤ 7) (bk : 0 ≤ k ∧ k ≤ 7) (bn : -1048576 ≤ n ∧ n ≤ 1048575) (hR : R = m.exec 9 a k n value)
    (hK : ∀ (iO iP iQ iR iS iT iU iV iW iX iY iZ i0 i1 i2 i3 i4 i5 i6 i7 i8 i9 jA jB jC jD jE jF jG jH jI jJ jK jL jM jN jO jP jQ jR jS jT jU jV jW jX jY jZ j0 j1 j2 j3 j4 j5 j6 j7 j8 j9 kA kB kC kD kE kF kG kH kI kJ kK kL kM kN kO kP kQ kR kS kT kU kV kW kX kY kZ k1 k2 k3 k4 k5 k6 k8 k9 lA lB lC lD lE lF lG lH lI lJ lK lL lM lN lO lP lQ lR lS lT lU lV lW lX lY lZ l0 l1 l2 l3 l4 l5 l6 l7 l8 l9 mA mB mC mD mE mF mG mH mI mJ mK mL mM mN mO mP mQ mR mS mT mU mV mW mX mY mZ m0 m1 m2 m3 m4 m5 m6 m7 m8 m9 nA nB nC nD nE nF nG nH nI nJ nK nL nM nN nO nP nQ nR nS nT nU nV nW nX nY nZ n1 n2 n3 n4 n5 n6 n8 n9 oA oB oC oD oE oF oG : Value) (M' : Mach) (nx wr : Int) (W' : World), StpI KK w W' lo b M' → (-4398046511104 ≤ nx ∧ nx ≤ 4398046511104) → R = (if M'.fin = 0 then M'.go nx else M', wr) → K ⟨#[c0, c1, c2, .int .i64 value, .pointer (some ⟨b, 0, none⟩), c5, c6, c7, .pointer (some ⟨b + 1, 0, none⟩), c9, aA, .pointer (some ⟨ib, 0, none⟩), aB, .int .i64 nx, .int .i64 wr, iO, iP, iQ, iR, iS, iT, aC, aD, aE, aF, aG, aH, aI, aJ, aK, aL, aM, aN, aO, aP, aQ, aR, aS, aT, aU, aV, aW, aX, aY, aZ, a1, a2, a3, a4, a5, a6, a8, a9, bA, bB, bC, bD, bE, bF, bG, bH, bI, bJ, bK, bL, bM, bN, bO, bP, bQ, bR, bS, bT, bU, bV, bW, bX, bY, bZ, b0, b1, b2, b3, b4, b5, b6, b7, b8, b9, cA, cB, cC, cD, cE, cF, cG, cH, cI, cJ, iU, iV, iW, iX, iY, iZ, i0, i1, i2, i3, i4, i5, i6, i7, i8, i9, jA, jB, jC, jD, jE, jF, jG, jH, jI, jJ, jK, jL, jM, jN, jO, jP, jQ, jR, jS, jT, jU, jV, jW, jX, jY, jZ, j0, j1, j2, j3, j4, j5, j6, j7, j8, j9, kA, kB, kC, kD, kE, kF, kG, kH, kI, kJ, kK, kL, kM, kN, kO, kP, kQ, kR, kS, kT, kU, kV, kW, kX, kY, kZ, k1, k2, k3, k4, k5, k6, k8, k9, lA, lB, lC, lD, lE, lF, lG, lH, lI, lJ, lK, lL, lM, lN, lO, lP, lQ, lR, lS, lT, lU, lV, lW, lX, lY, lZ, l0, l1, l2, l3, l4, l5, l6, l7, l8, l9, mA, mB, mC, mD, mE, mF, mG, mH, mI, mJ, mK, mL, mM, mN, mO, mP, mQ, mR, mS, mT, mU, mV, mW, mX, mY, mZ, m0, m1, m2, m3, m4, m5, m6, m7, m8, m9, nA, nB, nC, nD, nE, nF, nG, nH, nI, nJ, nK, nL, nM, nN, nO, nP, nQ, nR, nS, nT, nU, nV, nW, nX, nY, nZ, n1, n2, n3, n4, n5, n6, n8, n9, oA, oB, oC, oD, oE, oF, oG, cK, cL, cM, cN, cO, cP, cQ, cR], []⟩ W') :
    Code.wp Tryd.prog (stm 12 (Tryd.f34.body.getD .skip)) (Exit.then K Q) ⟨#[c0, c1, c2, .int .i64 value, .pointer (some ⟨b, 0, none⟩), c5, c6, c7, .pointer (some ⟨b + 1, 0, none⟩), c9, aA, .pointer (some ⟨ib, 0, none⟩), aB, .int .i64 (m.pc + 1), .int .i64 (-1), .int .i64 (m.reg a), .int .i64 (m.reg k), cS, cT, cU, cV, aC, aD, aE, aF, aG, aH, aI, aJ, aK, aL, aM, aN, aO, aP, aQ, aR, aS, aT, aU, aV, aW, aX, aY, aZ, a1, a2, a3, a4, a5, a6, a8, a9, bA, bB, bC, bD, bE, bF, bG, bH, bI, bJ, bK, bL, bM, bN, bO, bP, bQ, bR, bS, bT, bU, bV, bW, bX, bY, bZ, b0, b1, b2, b3, b4, b5, b6, b7, b8, b9, cA, cB, cC, cD, cE, cF, cG, cH, cI, cJ, cW, cX, cY, cZ, c3, c4, c8, dA, dB, dC, dD, dE, dF, dG, dH, dI, dJ, dK, dL, dM, dN, dO, dP, dQ, dR, dS, dT, dU, dV, dW, dX, dY, dZ, d0, d1, d2, d3, d4, d5, d6, d7, d8, d9, eA, eB, eC, eD, eE, eF, eG, eH, eI, eJ, eK, eL, eM, eN, eO, eP, eQ, eR, eS, eT, eU, eV, eW, eX, eY, eZ, e0, e1, e2, e3, e4, e5, e6, e7, e8, e9, fA, fB, fC, fD, fE, fF, fG, fH, fI, fJ, fK, fL, fM, fN, fO, fP, fQ, fR, fS, fT, fU, fV, fW, fX, fY, fZ, f0, f1, f2, f3, f4, f5, f6, f7, f8, f9, gA, gB, gC, gD, gE, gF, gG, gH, gI, gJ, gK, gL, gM, gN, gO, gP, gQ, gR, gS, gT, gU, gV, gW, gX, gY, gZ, g0, g1, g2, g3, g4, g5, g6, g7, g8, g9, hA, hB, hC, hD, hE, hF, hG, hH, hI, hJ, hL, hM, hN, hO, hP, hQ, hS, hT, hU, hV, hW, hX, hY, hZ, h0, h1, h2, h3, h4, h5, h6, h7, h8, h9, iA, iB, iC, iD, iE, iF, iG, iH, iI, iJ, iK, iL, iM, iN, cK, cL, cM, cN, cO, cP, cQ, cR], []⟩ W := by
  have HK : Hid _ := hK
  clear hK
  conv => arg 2; whnf
  obtain ⟨rv, mv, ov, ha⟩ := h.at_
  obtain ⟨g, c, rfl, hg, hreg, hfz⟩ := ha.regs_at hm.regs
  obtain ⟨⟨z0, z1, z2, z3, z4, z5, z6, z7, z8, z9, z10, z11⟩, zf, zl⟩ := twelve_cells ha.box
  obtain ⟨x0, x1, x2, x3, xf, xl⟩ := four_cells hi
  rw [hf] at z7
  obtain ⟨p1, p2⟩ := wordB_iff.1 hm.pc
  have gb : ¬ b = g := ha.ne_regs
  have gb2 : ¬ g = b := fun e => gb e.symm
  have HS : Hid (StpI KK w W lo b m ∧ AtP W lo b (.slice (some ⟨g, 0, none⟩) m.regs.length c) mv ov m) := ⟨h, ha⟩
  have HM : Hid (MayP m) := hm
  have HF : Hid (m.fin = 0) := hf
  have HBD : Hid ((0 ≤ a ∧ a ≤ 7) ∧ (0 ≤ k ∧ k ≤ 7) ∧ (-1048576 ≤ n ∧ n ≤ 1048575)) := ⟨ba, bk, bn⟩
  have HR : Hid (R = m.exec 9 a k n value) := hR
  obtain ⟨a0, a7⟩ := ba
  obtain ⟨k0, k7⟩ := bk
  obtain ⟨n0, n7⟩ := bn
  have ab : a < (m.regs.length : Int) := by have := hm.regs; omega
  have kb : k < (m.regs.length : Int) := by have := hm.regs; omega
  have hwj : IntKind.i64.wrap (m.pc + n) = m.pc + n := IntWalk.i64_in _ (by omega)
  clear h ha hreg hi hm hf hR
  go_wp2_with fail
  refine HK.out _ _ _ _ _ _ _ _ _ _ _ _ _ _ _ _ _ _ _ _ _ _ _ _ _ _ _ _ _ _ _ _ _ _ _ _ _ _ _ _ _ _ _ _ _ _ _ _ _ _ _ _ _ _ _ _ _ _ _ _ _ _ _ _ _ _ _ _ _ _ _ _ _ _ _ _ _ _ _ _ _ _ _ _ _ _ _ _ _ _ _ _ _ _ _ _ _ _ _ _ _ _ _ _ _ _ _ _ _ _ _ _ _ _ _ _ _ _ _ _ _ _ _ _ _ _ _ _ _ _ _ _ _ _ _ _ _ _ _ _ _ _ _ _ _ _ _ _ _ _ _ _ _ _ _ _ _ _ _ _ _ _ _ _ _ _ _ _ _ _ _ _ _ _ _ _ _ _ _ _ _ _ _ _ _ _ _ _ _ _ _ _ _ _ _ _ _ _ _ _ _ _ _ _ _ m (m.pc + n) (-1) _ ?_ ⟨by omega, by omega⟩ ?_
  · exact HS.out.1
  · rw [HR.out]
    simp [Mach.exec, HF.out]


set_option maxRecDepth 100000 in
set_option maxHeartbeats 4000000 in
theorem op15 (c0 c1 c2 c5 c6 c7 c9 aA aB cS cT cU cV aC aD aE aF aG aH aI aJ aK aL aM aN aO aP aQ aR aS aT aU aV aW aX aY aZ a1 a2 a3 a4 a5 a6 a8 a9 bA bB bC bD bE bF bG bH bI bJ bK bL bM bN bO bP bQ bR bS bT bU bV bW bX bY bZ b0 b1 b2 b3 b4 b5 b6 b7 b8 b9 cA cB cC cD cE cF cG cH cI cJ cW cX cY cZ c3 c4 c8 dA dB dC dD dE dF dG dH dI dJ dK dL dM dN dO dP dQ dR dS dT dU dV dW dX dY dZ d0 d1 d2 d3 d4 d5 d6 d7 d8 d9 eA eB eC eD eE eF eG eH eI eJ eK eL eM eN eO eP eQ eR eS eT eU eV eW eX eY eZ e0 e1 e2 e3 e4 e5 e6 e7 e8 e9 fA fB fC fD fE fF fG fH fI fJ fK fL fM fN fO fP fQ fR fS fT fU fV fW fX fY fZ f0 f1 f2 f3 f4 f5 f6 f7 f8 f9 gA gB gC gD gE gF gG gH gI gJ gK gL gM gN gO gP gQ gR gS gT gU gV gW gX gY gZ g0 g1 g2 g3 g4 g5 g6 g7 g8 g9 hA hB hC hD hE hF hG hH hI hJ hL hM hN hO hP hQ hS hT hU hV hW hX hY hZ h0 h1 h2 h3 h4 h5 h6 h7 h8 h9 iA iB iC iD iE iF iG iH iI iJ iK iL iM iN cK cL cM cN cO cP cQ cR : Value) (m : Mach) (ib : Nat) (a k n value : Int) (R : Mach × Int) (w W : World) (lo b : Nat) (K : Act → World → Prop) (Q : Exit → Act → World → Prop)
    (h : StpI KK w W lo b m) (hm : MayP m) (hf : m.fin = 0) (hi : W.heap[ib]? = some (.cells #[.int .i64 15, .int .i64 a, .int .i64 k, .int .i64 n] 83 (0, 0))) (ba : 0 ≤ a ∧ a ≤ 7) (bk : 0 ≤ k ∧ k ≤ 7) (bn : -1048576 ≤ n ∧ n ≤ 1048575) (hR : R = m.exec 15 a k n value)
    (hK : ∀ (iO iP iQ iR iS iT iU iV iW iX iY iZ i0 i1 i2 i3 i4 i5 i6 i7 i8 i9 jA jB jC jD jE jF jG jH jI jJ jK jL jM jN jO jP jQ jR jS jT jU jV jW jX jY jZ j0 j1 j2 j3 j4 j5 j6 j7 j8 j9 kA kB kC kD kE kF kG kH kI kJ kK kL kM kN kO kP kQ kR kS kT kU kV kW kX kY kZ k1 k2 k3 k4 k5 k6 k8 k9 lA lB lC lD lE lF lG lH lI lJ lK lL lM lN lO lP lQ lR lS lT lU lV lW lX lY lZ l0 l1 l2 l3 l4 l5 l6 l7 l8 l9 mA mB mC mD mE mF mG mH mI mJ mK mL mM mN mO mP mQ mR mS mT mU mV mW mX mY mZ m0 m1 m2 m3 m4 m5 m6 m7 m8 m9 nA nB nC nD nE nF nG nH nI nJ nK nL nM nN nO nP nQ nR nS nT nU nV nW nX nY nZ n1 n2 n3 n4 n5 n6 n8 n9 oA oB oC oD oE oF oG : Value) (M' : Mach) (nx wr : Int) (W' : World), StpI KK w W' lo b M' → (-4398046511104 ≤ nx ∧ nx ≤ 4398046511104) → R = (if M'.fin = 0 then M'.go nx else M', wr) → K ⟨#[c0, c1, c2, .int .i64 value, .pointer (some ⟨b, 0, none⟩), c5, c6, c7, .pointer (some ⟨b + 1, 0, none⟩), c9, aA, .pointer (some ⟨ib, 0, none⟩), aB, .int .i64 nx, .int .i64 wr, iO, iP, iQ, iR, iS, iT, aC, aD, aE, aF, aG, aH, aI, aJ, aK, aL, aM, aN, aO, aP, aQ, aR, aS, aT, aU, aV, aW, aX, aY, aZ, a1, a2, a3, a4, a5, a6, a8, a9, bA, bB, bC, bD, bE, bF, bG, bH, bI, bJ, bK, bL, bM, bN, bO, bP, bQ, bR, bS, bT, bU, bV, bW, bX, bY, bZ, b0, b1, b2, b3, b4, b5, b6, b7, b8, b9, cA, cB, cC, cD, cE, cF, cG, cH, cI, cJ, iU, iV, iW, iX, iY, iZ, i0, i1, i2, i3, i4, i5, i6, i7, i8, i9, jA, jB, jC, jD, jE, jF, jG, jH, jI, jJ, jK, jL, jM, jN, jO, jP, jQ, jR, jS, jT, jU, jV, jW, jX, jY, jZ, j0, j1, j2, j3, j4, j5, j6, j7, j8, j9, kA, kB, kC, kD, kE, kF, kG, kH, kI, kJ, kK, kL, kM, kN, kO, kP, kQ, kR, kS, kT, kU, kV, kW, kX, kY, kZ, k1, k2, k3, k4, k5, k6, k8, k9, lA, lB, lC, lD, lE, lF, lG, lH, lI, lJ, lK, lL, lM, lN, lO, lP, lQ, lR, lS, lT, lU, lV, lW, lX, lY, lZ, l0, l1, l2, l3, l4, l5, l6, l7, l8, l9, mA, mB, mC, mD, mE, mF, mG, mH, mI, mJ, mK, mL, mM, mN, mO, mP, mQ, mR, mS, mT, mU, mV, mW, mX, mY, mZ, m0, m1, m2, m3, m4, m5, m6, m7, m8, m9, nA, nB, nC, nD, nE, nF, nG, nH, nI, nJ, nK, nL, nM, nN, nO, nP, nQ, nR, nS, nT, nU, nV, nW, nX, nY, nZ, n1, n2, n3, n4, n5, n6, n8, n9, oA, oB, oC, oD, oE, oF, oG, cK, cL, cM, cN, cO, cP, cQ, cR], []⟩ W') :
    Code.wp Tryd.prog (stm 12 (Tryd.f34.body.getD .skip)) (Exit.then K Q) ⟨#[c0, c1, c2, .int .i64 value, .pointer (some ⟨b, 0, none⟩), c5, c6, c7, .pointer (some ⟨b + 1, 0, none⟩), c9, aA, .pointer (some ⟨ib, 0, none⟩), aB, .int .i64 (m.pc + 1), .int .i64 (-1), .int .i64 (m.reg a), .int .i64 (m.reg k), cS, cT, cU, cV, aC, aD, aE, aF, aG, aH, aI, aJ, aK, aL, aM, aN, aO, aP, aQ, aR, aS, aT, aU, aV, aW, aX, aY, aZ, a1, a2, a3, a4, a5, a6, a8, a9, bA, bB, bC, bD, bE, bF, bG, bH, bI, bJ, bK, bL, bM, bN, bO, bP, bQ, bR, bS, bT, bU, bV, bW, bX, bY, bZ, b0, b1, b2, b3, b4, b5, b6, b7, b8, b9, cA, cB, cC, cD, cE, cF, cG, cH, cI, cJ, cW, cX, cY, cZ, c3, c4, c8, dA, dB, dC, dD, dE, dF, dG, dH, dI, dJ, dK, dL, dM, dN, dO, dP, dQ, dR, dS, dT, dU, dV, dW, dX, dY, dZ, d0, d1, d2, d3, d4, d5, d6, d7, d8, d9, eA, eB, eC, eD, eE, eF, eG, eH, eI, eJ, eK, eL, eM, eN, eO, eP, eQ, eR, eS, eT, eU, eV, eW, eX, eY, eZ, e0, e1, e2, e3, e4, e5, e6, e7, e8, e9, fA, fB, fC, fD, fE, fF, fG, fH, fI, fJ, fK, fL, fM, fN, fO, fP, fQ, fR, fS, fT, fU, fV, fW, fX, fY, fZ, f0, f1, f2, f3, f4, f5, f6, f7, f8, f9, gA, gB, gC, gD, gE, gF, gG, gH, gI, gJ, gK, gL, gM, gN, gO, gP, gQ, gR, gS, gT, gU, gV, gW, gX, gY, gZ, g0, g1, g2, g3, g4, g5, g6, g7, g8, g9, hA, hB, hC, hD, hE, hF, hG, hH, hI, hJ, hL, hM, hN, hO, hP, hQ, hS, hT, hU, hV, hW, hX, hY, hZ, h0, h1, h2, h3, h4, h5, h6, h7, h8, h9, iA, iB, iC, iD, iE, iF, iG, iH, iI, iJ, iK, iL, iM, iN, cK, cL, cM, cN, cO, cP, cQ, cR], []⟩ W := by
  have HK : Hid _ := hK
  clear hK
  conv => arg 2; whnf
  obtain ⟨rv, mv, ov, ha⟩ := h.at_
  obtain ⟨g, c, rfl, hg, hreg, hfz⟩ := ha.regs_at hm.regs
  obtain ⟨⟨z0, z1, z2, z3, z4, z5, z6, z7, z8, z9, z10, z11⟩, zf, zl⟩ := twelve_cells ha.box
  obtain ⟨x0, x1, x2, x3, xf, xl⟩ := four_cells hi
  rw [hf] at z7
  obtain ⟨p1, p2⟩ := wordB_iff.1 hm.pc
  have gb : ¬ b = g := ha.ne_regs
  have gb2 : ¬ g = b := fun e => gb e.symm
  have HS : Hid (StpI KK w W lo b m ∧ AtP W lo b (.slice (some ⟨g, 0, none⟩) m.regs.length c) mv ov m) := ⟨h, ha⟩
  have HM : Hid (MayP m) := hm
  have HF : Hid (m.fin = 0) := hf
  have HBD : Hid ((0 ≤ a ∧ a ≤ 7) ∧ (0 ≤ k ∧ k ≤ 7) ∧ (-1048576 ≤ n ∧ n ≤ 1048575)) := ⟨ba, bk, bn⟩
  have HR : Hid (R = m.exec 15 a k n value) := hR
  obtain ⟨a0, a7⟩ := ba
  obtain ⟨k0, k7⟩ := bk
  obtain ⟨n0, n7⟩ := bn
  have ab : a < (m.regs.length : Int) := by have := hm.regs; omega
  have kb : k < (m.regs.length : Int) := by have := hm.regs; omega
  clear h ha hreg hi hm hf hR
  go_wp2_with fail
  refine HK.out _ _ _ _ _ _ _ _ _ _ _ _ _ _ _ _ _ _ _ _ _ _ _ _ _ _ _ _ _ _ _ _ _ _ _ _ _ _ _ _ _ _ _ _ _ _ _ _ _ _ _ _ _ _ _ _ _ _ _ _ _ _ _ _ _ _ _ _ _ _ _ _ _ _ _ _ _ _ _ _ _ _ _ _ _ _ _ _ _ _ _ _ _ _ _ _ _ _ _ _ _ _ _ _ _ _ _ _ _ _ _ _ _ _ _ _ _ _ _ _ _ _ _ _ _ _ _ _ _ _ _ _ _ _ _ _ _ _ _ _ _ _ _ _ _ _ _ _ _ _ _ _ _ _ _ _ _ _ _ _ _ _ _ _ _ _ _ _ _ _ _ _ _ _ _ _ _ _ _ _ _ _ _ _ _ _ _ _ _ _ _ _ _ _ _ _ _ _ _ _ _ _ _ _ _ m (m.pc + 1) (-1) _ ?_ ⟨by omega, by omega⟩ ?_
  · exact HS.out.1
  · rw [HR.out]
    simp [Mach.exec, HF.out]


end Go.Proofs.YtbjlfhpiebokkaaDoor
