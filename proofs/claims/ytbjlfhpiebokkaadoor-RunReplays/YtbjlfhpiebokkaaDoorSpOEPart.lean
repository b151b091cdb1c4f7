/- hourglassref.stepped: what the instructions do. (Written by tools/gen_sp.py.) -/
import Derived.Test.YtbjlfhpiebokkaaDoorFoldPart
namespace Go.Proofs.YtbjlfhpiebokkaaDoor
open Go.RowKit
variable {KK : Nat → Prop}

set_option maxRecDepth 100000 in
set_option maxHeartbeats 4000000 in
theorem op5n (c0 c1 c2 c5 c6 c7 c9 aA aB cT cU cV cW aC aD aE aF aG aH aI aJ aK aL aM aN aO aP aQ aR aS aT aU aV aW aX aY aZ a1 a2 a3 a4 a5 a6 a8 a9 bA bB bC bD bE bF bG bH bI bJ bK bL bM bN bO bP bQ bR bS bT bU bV bW bX bY bZ b1 b2 b3 b4 b5 b6 b7 b8 b9 cA cB cC cD cE cF cG cH cI cJ cK cX cY cZ c3 c4 c8 dA dB dC dD dE dF dG dH dI dJ dK dL dM dN dO dP dQ dR dS dT dU dV dW dX dY dZ d0 d1 d2 d3 d4 d5 d6 d7 d8 d9 eA eB eC eD eE eF eG eH eI eJ eK eL eM eN eO eP eQ eR eS eT eU eV eW eX eY eZ e0 e1 e2 e3 e4 e5 e6 e7 e8 e9 fA fB fC fD fE fF fG fH fI fJ fK fL fM fN fO fP fQ fR fS fT fU fV fW fX fY fZ f0 f1 f2 f3 f4 f5 f6 f7 f8 f9 gA gB gC gD gE gF gG gH gI gJ gK gL gM gN gO gP gQ gR gS gT gU gV gW gX gY gZ g0 g1 g3 g4 g5 g6 g7 g8 g9 hA hB hC hD hF hG hH hI hJ hL hM hN hO hP hQ hS hT hU hV hW hX hY hZ h0 h1 h2 h3 h4 h5 h6 h7 h8 h9 iA iB iC iD iE iF iG iH iI iJ iK iL iM iN iO iP iQ cL cM cN cO cP cQ cR cS : Value) (m : Mach) (ib : Nat) (a k n value : Int) (R : Mach × Int) (w W : World) (lo b : Nat) (K : Act → World → Prop) (Q : Exit → Act → World → Prop)
    (h : StpI KK w W lo b m) (hm : MayP m) (hf : m.fin = 0) (hi : W.heap[ib]? = some (.cells #[.int .i64 5, .int .i64 a, .int .i64 k, .int .i64 n] 83 (0, 0))) (ba : 0 ≤ a ∧ a ≤ 7) (bk : 0 ≤ k ∧ k ≤ 7) (bn : -1048576 ≤ n ∧ n ≤ 1048575) (hR : R = m.exec 5 a k n value) (hE : m.meantE (m.reg k + n) false ≠ 0)
    (hK : ∀ (iR iS iT iU iV iW iX iY iZ i0 i1 i2 i3 i4 i5 i6 i7 i8 i9 jA jB jC jD jE jF jG jH jI jJ jK jL jM jN jO jP jQ jR jS jT jU jV jW jX jY jZ j0 j1 j2 j3 j4 j5 j6 j7 j8 j9 kA kB kC kD kE kF kG kH kI kJ kK kL kM kN kO kP kQ kR kS kT kU kV kW kX kY kZ k1 k2 k3 k4 k5 k6 k8 k9 lA lB lC lD lE lF lG lH lI lJ lK lL lM lN lO lP lQ lR lS lT lU lV lW lX lY lZ l0 l1 l2 l3 l4 l5 l6 l7 l8 l9 mA mB mC mD mE mF mG mH mI mJ mK mL mM mN mO mP mQ mR mS mT mU mV mW mX mY mZ m0 m1 m2 m6 m7 m8 m9 nA nB nC nD nE nF nG nH nI nJ nK nL nM nN nO nP nQ nR nS nT nU nV nW nX nY nZ n1 n2 n3 n4 n5 n6 n8 n9 oA oB oC oD oE oF oG oH oI oJ oK oL oM : Value) (M' : Mach) (nx wr : Int) (W' : World), StpI KK w W' lo b M' → (-4398046511104 ≤ nx ∧ nx ≤ 4398046511104) → R = (if M'.fin = 0 then M'.go nx else M', wr) → K ⟨#[c0, c1, c2, .int .i64 value, .pointer (some ⟨b, 0, none⟩), c5, c6, c7, .pointer (some ⟨b + 1, 0, none⟩), c9, aA, .pointer (some ⟨ib, 0, none⟩), aB, .int .i64 nx, .int .i64 wr, iR, iS, iT, iU, iV, iW, aC, aD, aE, aF, aG, aH, aI, aJ, aK, aL, aM, aN, aO, aP, aQ, aR, aS, aT, aU, aV, aW, aX, aY, aZ, a1, a2, a3, a4, a5, a6, a8, a9, bA, bB, bC, bD, bE, bF, bG, bH, bI, bJ, bK, bL, bM, bN, bO, bP, bQ, bR, bS, bT, bU, bV, bW, bX, bY, bZ, b1, b2, b3, b4, b5, b6, b7, b8, b9, cA, cB, cC, cD, cE, cF, cG, cH, cI, cJ, cK, iX, iY, iZ, i0, i1, i2, i3, i4, i5, i6, i7, i8, i9, jA, jB, jC, jD, jE, jF, jG, jH, jI, jJ, jK, jL, jM, jN, jO, jP, jQ, jR, jS, jT, jU, jV, jW, jX, jY, jZ, j0, j1, j2, j3, j4, j5, j6, j7, j8, j9, kA, kB, kC, kD, kE, kF, kG, kH, kI, kJ, kK, kL, kM, kN, kO, kP, kQ, kR, kS, kT, kU, kV, kW, kX, kY, kZ, k1, k2, k3, k4, k5, k6, k8, k9, lA, lB, lC, lD, lE, lF, lG, lH, lI, lJ, lK, lL, lM, lN, lO, lP, lQ, lR, lS, lT, lU, lV, lW, lX, lY, lZ, l0, l1, l2, l3, l4, l5, l6, l7, l8, l9, mA, mB, mC, mD, mE, mF, mG, mH, mI, mJ, mK, mL, mM, mN, mO, mP, mQ, mR, mS, mT, mU, mV, mW, mX, mY, mZ, m0, m1, m2, m6, m7, m8, m9, nA, nB, nC, nD, nE, nF, nG, nH, nI, nJ, nK, nL, nM, nN, nO, nP, nQ, nR, nS, nT, nU, nV, nW, nX, nY, nZ, n1, n2, n3, n4, n5, n6, n8, n9, oA, oB, oC, oD, oE, oF, oG, oH, oI, oJ, oK, oL, oM, cL, cM, cN, cO, cP, cQ, cR, cS], []⟩ W') :
    Code.wp Tryd.prog (stm 12 (Tryd.f34.body.getD .skip)) (Exit.then K Q) ⟨#[c0, c1, c2, .int .i64 value, .pointer (some ⟨b, 0, none⟩), c5, c6, c7, .pointer (some ⟨b + 1, 0, none⟩), c9, aA, .pointer (some ⟨ib, 0, none⟩), aB, .int .i64 (m.pc + 1), .int .i64 (-1), .int .i64 (m.reg a), .int .i64 (m.reg k), cT, cU, cV, cW, aC, aD, aE, aF, aG, aH, aI, aJ, aK, aL, aM, aN, aO, aP, aQ, aR, aS, aT, aU, aV, aW, aX, aY, aZ, a1, a2, a3, a4, a5, a6, a8, a9, bA, bB, bC, bD, bE, bF, bG, bH, bI, bJ, bK, bL, bM, bN, bO, bP, bQ, bR, bS, bT, bU, bV, bW, bX, bY, bZ, b1, b2, b3, b4, b5, b6, b7, b8, b9, cA, cB, cC, cD, cE, cF, cG, cH, cI, cJ, cK, cX, cY, cZ, c3, c4, c8, dA, dB, dC, dD, dE, dF, dG, dH, dI, dJ, dK, dL, dM, dN, dO, dP, dQ, dR, dS, dT, dU, dV, dW, dX, dY, dZ, d0, d1, d2, d3, d4, d5, d6, d7, d8, d9, eA, eB, eC, eD, eE, eF, eG, eH, eI, eJ, eK, eL, eM, eN, eO, eP, eQ, eR, eS, eT, eU, eV, eW, eX, eY, eZ, e0, e1, e2, e3, e4, e5, e6, e7, e8, e9, fA, fB, fC, fD, fE, fF, fG, fH, fI, fJ, fK, fL, fM, fN, fO, fP, fQ, fR, fS, fT, fU, fV, fW, fX, fY, fZ, f0, f1, f2, f3, f4, f5, f6, f7, f8, f9, gA, gB, gC, gD, gE, gF, gG, gH, gI, gJ, gK, gL, gM, gN, gO, gP, gQ, gR, gS, gT, gU, gV, gW, gX, gY, gZ, g0, g1, g3, g4, g5, g6, g7, g8, g9, hA, hB, hC, hD, hF, hG, hH, hI, hJ, hL, hM, hN, hO, hP, hQ, hS, hT, hU, hV, hW, hX, hY, hZ, h0, h1, h2, h3, h4, h5, h6, h7, h8, h9, iA, iB, iC, iD, iE, iF, iG, iH, iI, iJ, iK, iL, iM, iN, iO, iP, iQ, cL, cM, cN, cO, cP, cQ, cR, cS], []⟩ W := by
  have HK : Hid _ := hK
  clear hK
  conv => arg 2; whnf
  obtain ⟨rv, mv, ov, ha⟩ := h.at_
  obtain ⟨g, c, rfl, hg, hreg, hfz⟩ := ha.regs_at hm.regs
  obtain ⟨g2, c2, rfl, hg2, hmem, hfz2⟩ := ha.mem_at hm.mem
  obtain ⟨⟨z0, z1, z2, z3, z4, z5, z6, z7, z8, z9, z10, z11⟩, zf, zl⟩ := twelve_cells ha.box
  obtain ⟨x0, x1, x2, x3, xf, xl⟩ := four_cells hi
  rw [hf] at z7
  obtain ⟨p1, p2⟩ := wordB_iff.1 hm.pc
  have gb : ¬ b = g := ha.ne_regs
  have gb2 : ¬ g = b := fun e => gb e.symm
  have HS : Hid (StpI KK w W lo b m ∧ AtP W lo b (.slice (some ⟨g, 0, none⟩) m.regs.length c) (.slice (some ⟨g2, 0, none⟩) m.mem.length c2) ov m) := ⟨h, ha⟩
  have HM : Hid (MayP m) := hm
  have HF : Hid (m.fin = 0) := hf
  have HBD : Hid ((0 ≤ a ∧ a ≤ 7) ∧ (0 ≤ k ∧ k ≤ 7) ∧ (-1048576 ≤ n ∧ n ≤ 1048575)) := ⟨ba, bk, bn⟩
  have HR : Hid (R = m.exec 5 a k n value) := hR
  obtain ⟨a0, a7⟩ := ba
  obtain ⟨k0, k7⟩ := bk
  obtain ⟨n0, n7⟩ := bn
  have ab : a < (m.regs.length : Int) := by have := hm.regs; omega
  have kb : k < (m.regs.length : Int) := by have := hm.regs; omega
  obtain ⟨u1, u2⟩ := wordB_iff.1 (reg_word hm ⟨k0, k7⟩)
  have hwr : IntKind.i64.wrap (m.reg k + n) = m.reg k + n := IntWalk.i64_in _ (by omega)
  obtain ⟨kk, hkk⟩ : ∃ kk, kk = m.meantK (m.reg k + n) false := ⟨_, rfl⟩
  obtain ⟨ee, hee⟩ : ∃ ee, ee = m.meantE (m.reg k + n) false := ⟨_, rfl⟩
  have HMT : Hid (Calls Tryd.prog 66 #[.agg #[.slice (some ⟨g, 0, none⟩) m.regs.length c, .int .i64 m.pc, .int .i64 m.back, .bool m.ints, .bool m.wait, .int .i64 m.table, .int .i64 m.count, .int .i64 0, .slice (some ⟨g2, 0, none⟩) m.mem.length c2, ov, .int .i64 m.ready, .int .i64 m.want], .int .i64 (m.reg k + n), .bool false] W fun e w' => e = .returned (.tuple #[.int .i64 kk, .int .i64 ee]) ∧ Below W.heap.size W w') := by
    have := meant_any m _ _ _ (m.reg k + n) false W (ha.own.at ⟨by rw [hm.regs]; decide, by rw [hm.mem]; decide, by have := hm.out; omega⟩) hm.mem hm.table
    rw [hkk, hee]
    simp only [Mach.cells, hf] at this
    exact this
  have HI : Hid (W.heap[ib]? = some (.cells #[.int .i64 5, .int .i64 a, .int .i64 k, .int .i64 n] 83 (0, 0))) := hi
  have HKK : Hid (kk = m.meantK (m.reg k + n) false ∧ ee = m.meantE (m.reg k + n) false) := ⟨hkk, hee⟩
  have d : (ee == 0) = false := by simp only [beq_eq_false_iff_ne]; rw [hee]; exact hE
  have HE : Hid (m.meantE (m.reg k + n) false ≠ 0) := hE
  clear h ha hreg hi hm hf hR hE hkk hee hmem
  go_wp2_with fail
  refine HMT.out.mono ?_
  rintro e w1 ⟨rfl, hb1⟩
  have hS1 := HS.out.1.below hb1
  have hA1 := HS.out.2.below hb1
  have hI1 : w1.heap[ib]? = some (.cells #[.int .i64 5, .int .i64 a, .int .i64 k, .int .i64 n] 83 (0, 0)) := by rw [hb1.block _ (lt_of_block HI.out)]; exact HI.out
  have hib : ib ≠ b := fun e => by
    rw [e, hA1.box] at hI1
    simp [Mach.cells] at hI1
  clear z0 z1 z2 z3 z4 z5 z6 z7 z8 z9 z10 z11 zf zl x0 x1 x2 x3 xf xl HMT HS
  obtain ⟨⟨z0, z1, z2, z3, z4, z5, z6, z7, z8, z9, z10, z11⟩, zf, zl⟩ := twelve_cells hA1.box
  have HS : Hid (StpI KK w w1 lo b m ∧ AtP w1 lo b (.slice (some ⟨g, 0, none⟩) m.regs.length c) (.slice (some ⟨g2, 0, none⟩) m.mem.length c2) ov m) := ⟨hS1, hA1⟩
  have HI1 : Hid (_) := hI1
  clear hS1 hA1 hI1 hib hb1 HI
  dsimp only
  go_wp2_with fail
  refine HK.out _ _ _ _ _ _ _ _ _ _ _ _ _ _ _ _ _ _ _ _ _ _ _ _ _ _ _ _ _ _ _ _ _ _ _ _ _ _ _ _ _ _ _ _ _ _ _ _ _ _ _ _ _ _ _ _ _ _ _ _ _ _ _ _ _ _ _ _ _ _ _ _ _ _ _ _ _ _ _ _ _ _ _ _ _ _ _ _ _ _ _ _ _ _ _ _ _ _ _ _ _ _ _ _ _ _ _ _ _ _ _ _ _ _ _ _ _ _ _ _ _ _ _ _ _ _ _ _ _ _ _ _ _ _ _ _ _ _ _ _ _ _ _ _ _ _ _ _ _ _ _ _ _ _ _ _ _ _ _ _ _ _ _ _ _ _ _ _ _ _ _ _ _ _ _ _ _ _ _ _ _ _ _ _ _ _ _ _ _ _ _ _ _ _ _ _ _ _ _ _ _ _ _ _ _ (m.ends ee) (m.pc + 1) (-1) _ ?_ ⟨by omega, by omega⟩ ?_
  · exact HS.out.1.put (HS.out.2.setFin ee).1
  · rw [HR.out]
    rw [HKK.out.2]
    simp [Mach.exec, Mach.ends, HE.out]


set_option maxRecDepth 100000 in
set_option maxHeartbeats 4000000 in
theorem op6n (c0 c1 c2 c5 c6 c7 c9 aA aB cT cU cV cW aC aD aE aF aG aH aI aJ aK aL aM aN aO aP aQ aR aS aT aU aV aW aX aY aZ a1 a2 a3 a4 a5 a6 a8 a9 bA bB bC bD bE bF bG bH bI bJ bK bL bM bN bO bP bQ bR bS bT bU bV bW bX bY bZ b1 b2 b3 b4 b5 b6 b7 b8 b9 cA cB cC cD cE cF cG cH cI cJ cK cX cY cZ c3 c4 c8 dA dB dC dD dE dF dG dH dI dJ dK dL dM dN dO dP dQ dR dS dT dU dV dW dX dY dZ d0 d1 d2 d3 d4 d5 d6 d7 d8 d9 eA eB eC eD eE eF eG eH eI eJ eK eL eM eN eO eP eQ eR eS eT eU eV eW eX eY eZ e0 e1 e2 e3 e4 e5 e6 e7 e8 e9 fA fB fC fD fE fF fG fH fI fJ fK fL fM fN fO fP fQ fR fS fT fU fV fW fX fY fZ f0 f1 f2 f3 f4 f5 f6 f7 f8 f9 gA gB gC gD gE gF gG gH gI gJ gK gL gM gN gO gP gQ gR gS gT gU gV gW gX gY gZ g0 g1 g3 g4 g5 g6 g7 g8 g9 hA hB hC hD hF hG hH hI hJ hL hM hN hO hP hQ hS hT hU hV hW hX hY hZ h0 h1 h2 h3 h4 h5 h6 h7 h8 h9 iA iB iC iD iE iF iG iH iI iJ iK iL iM iN iO iP iQ cL cM cN cO cP cQ cR cS : Value) (m : Mach) (ib : Nat) (a k n value : Int) (R : Mach × Int) (w W : World) (lo b : Nat) (K : Act → World → Prop) (Q : Exit → Act → World → Prop)
    (h : StpI KK w W lo b m) (hm : MayP m) (hf : m.fin = 0) (hi : W.heap[ib]? = some (.cells #[.int .i64 6, .int .i64 a, .int .i64 k, .int .i64 n] 83 (0, 0))) (ba : 0 ≤ a ∧ a ≤ 7) (bk : 0 ≤ k ∧ k ≤ 7) (bn : -1048576 ≤ n ∧ n ≤ 1048575) (hR : R = m.exec 6 a k n value) (hE : m.meantE (m.reg k + n) true ≠ 0)
    (hK : ∀ (iR iS iT iU iV iW iX iY iZ i0 i1 i2 i3 i4 i5 i6 i7 i8 i9 jA jB jC jD jE jF jG jH jI jJ jK jL jM jN jO jP jQ jR jS jT jU jV jW jX jY jZ j0 j1 j2 j3 j4 j5 j6 j7 j8 j9 kA kB kC kD kE kF kG kH kI kJ kK kL kM kN kO kP kQ kR kS kT kU kV kW kX kY kZ k1 k2 k3 k4 k5 k6 k8 k9 lA lB lC lD lE lF lG lH lI lJ lK lL lM lN lO lP lQ lR lS lT lU lV lW lX lY lZ l0 l1 l2 l3 l4 l5 l6 l7 l8 l9 mA mB mC mD mE mF mG mH mI mJ mK mL mM mN mO mP mQ mR mS mT mU mV mW mX mY mZ m0 m1 m2 m6 m7 m8 m9 nA nB nC nD nE nF nG nH nI nJ nK nL nM nN nO nP nQ nR nS nT nU nV nW nX nY nZ n1 n2 n3 n4 n5 n6 n8 n9 oA oB oC oD oE oF oG oH oI oJ oK oL oM : Value) (M' : Mach) (nx wr : Int) (W' : World), StpI KK w W' lo b M' → (-4398046511104 ≤ nx ∧ nx ≤ 4398046511104) → R = (if M'.fin = 0 then M'.go nx else M', wr) → K ⟨#[c0, c1, c2, .int .i64 value, .pointer (some ⟨b, 0, none⟩), c5, c6, c7, .pointer (some ⟨b + 1, 0, none⟩), c9, aA, .pointer (some ⟨ib, 0, none⟩), aB, .int .i64 nx, .int .i64 wr, iR, iS, iT, iU, iV, iW, aC, aD, aE, aF, aG, aH, aI, aJ, aK, aL, aM, aN, aO, aP, aQ, aR, aS, aT, aU, aV, aW, aX, aY, aZ, a1, a2, a3, a4, a5, a6, a8, a9, bA, bB, bC, bD, bE, bF, bG, bH, bI, bJ, bK, bL, bM, bN, bO, bP, bQ, bR, bS, bT, bU, bV, bW, bX, bY, bZ, b1, b2, b3, b4, b5, b6, b7, b8, b9, cA, cB, cC, cD, cE, cF, cG, cH, cI, cJ, cK, iX, iY, iZ, i0, i1, i2, i3, i4, i5, i6, i7, i8, i9, jA, jB, jC, jD, jE, jF, jG, jH, jI, jJ, jK, jL, jM, jN, jO, jP, jQ, jR, jS, jT, jU, jV, jW, jX, jY, jZ, j0, j1, j2, j3, j4, j5, j6, j7, j8, j9, kA, kB, kC, kD, kE, kF, kG, kH, kI, kJ, kK, kL, kM, kN, kO, kP, kQ, kR, kS, kT, kU, kV, kW, kX, kY, kZ, k1, k2, k3, k4, k5, k6, k8, k9, lA, lB, lC, lD, lE, lF, lG, lH, lI, lJ, lK, lL, lM, lN, lO, lP, lQ, lR, lS, lT, lU, lV, lW, lX, lY, lZ, l0, l1, l2, l3, l4, l5, l6, l7, l8, l9, mA, mB, mC, mD, mE, mF, mG, mH, mI, mJ, mK, mL, mM, mN, mO, mP, mQ, mR, mS, mT, mU, mV, mW, mX, mY, mZ, m0, m1, m2, m6, m7, m8, m9, nA, nB, nC, nD, nE, nF, nG, nH, nI, nJ, nK, nL, nM, nN, nO, nP, nQ, nR, nS, nT, nU, nV, nW, nX, nY, nZ, n1, n2, n3, n4, n5, n6, n8, n9, oA, oB, oC, oD, oE, oF, oG, oH, oI, oJ, oK, oL, oM, cL, cM, cN, cO, cP, cQ, cR, cS], []⟩ W') :
    Code.wp Tryd.prog (stm 12 (Tryd.f34.body.getD .skip)) (Exit.then K Q) ⟨#[c0, c1, c2, .int .i64 value, .pointer (some ⟨b, 0, none⟩), c5, c6, c7, .pointer (some ⟨b + 1, 0, none⟩), c9, aA, .pointer (some ⟨ib, 0, none⟩), aB, .int .i64 (m.pc + 1), .int .i64 (-1), .int .i64 (m.reg a), .int .i64 (m.reg k), cT, cU, cV, cW, aC, aD, aE, aF, aG, aH, aI, aJ, aK, aL, aM, aN, aO, aP, aQ, aR, aS, aT, aU, aV, aW, aX, aY, aZ, a1, a2, a3, a4, a5, a6, a8, a9, bA, bB, bC, bD, bE, bF, bG, bH, bI, bJ, bK, bL, bM, bN, bO, bP, bQ, bR, bS, bT, bU, bV, bW, bX, bY, bZ, b1, b2, b3, b4, b5, b6, b7, b8, b9, cA, cB, cC, cD, cE, cF, cG, cH, cI, cJ, cK, cX, cY, cZ, c3, c4, c8, dA, dB, dC, dD, dE, dF, dG, dH, dI, dJ, dK, dL, dM, dN, dO, dP, dQ, dR, dS, dT, dU, dV, dW, dX, dY, dZ, d0, d1, d2, d3, d4, d5, d6, d7, d8, d9, eA, eB, eC, eD, eE, eF, eG, eH, eI, eJ, eK, eL, eM, eN, eO, eP, eQ, eR, eS, eT, eU, eV, eW, eX, eY, eZ, e0, e1, e2, e3, e4, e5, e6, e7, e8, e9, fA, fB, fC, fD, fE, fF, fG, fH, fI, fJ, fK, fL, fM, fN, fO, fP, fQ, fR, fS, fT, fU, fV, fW, fX, fY, fZ, f0, f1, f2, f3, f4, f5, f6, f7, f8, f9, gA, gB, gC, gD, gE, gF, gG, gH, gI, gJ, gK, gL, gM, gN, gO, gP, gQ, gR, gS, gT, gU, gV, gW, gX, gY, gZ, g0, g1, g3, g4, g5, g6, g7, g8, g9, hA, hB, hC, hD, hF, hG, hH, hI, hJ, hL, hM, hN, hO, hP, hQ, hS, hT, hU, hV, hW, hX, hY, hZ, h0, h1, h2, h3, h4, h5, h6, h7, h8, h9, iA, iB, iC, iD, iE, iF, iG, iH, iI, iJ, iK, iL, iM, iN, iO, iP, iQ, cL, cM, cN, cO, cP, cQ, cR, cS], []⟩ W := by
  have HK : Hid _ := hK
  clear hK
  conv => arg 2; whnf
  obtain ⟨rv, mv, ov, ha⟩ := h.at_
  obtain ⟨g, c, rfl, hg, hreg, hfz⟩ := ha.regs_at hm.regs
  obtain ⟨g2, c2, rfl, hg2, hmem, hfz2⟩ := ha.mem_at hm.mem
  obtain ⟨⟨z0, z1, z2, z3, z4, z5, z6, z7, z8, z9, z10, z11⟩, zf, zl⟩ := twelve_cells ha.box
  obtain ⟨x0, x1, x2, x3, xf, xl⟩ := four_cells hi
  rw [hf] at z7
  obtain ⟨p1, p2⟩ := wordB_iff.1 hm.pc
  have gb : ¬ b = g := ha.ne_regs
  have gb2 : ¬ g = b := fun e => gb e.symm
  have HS : Hid (StpI KK w W lo b m ∧ AtP W lo b (.slice (some ⟨g, 0, none⟩) m.regs.length c) (.slice (some ⟨g2, 0, none⟩) m.mem.length c2) ov m) := ⟨h, ha⟩
  have HM : Hid (MayP m) := hm
  have HF : Hid (m.fin = 0) := hf
  have HBD : Hid ((0 ≤ a ∧ a ≤ 7) ∧ (0 ≤ k ∧ k ≤ 7) ∧ (-1048576 ≤ n ∧ n ≤ 1048575)) := ⟨ba, bk, bn⟩
  have HR : Hid (R = m.exec 6 a k n value) := hR
  obtain ⟨a0, a7⟩ := ba
  obtain ⟨k0, k7⟩ := bk
  obtain ⟨n0, n7⟩ := bn
  have ab : a < (m.regs.length : Int) := by have := hm.regs; omega
  have kb : k < (m.regs.length : Int) := by have := hm.regs; omega
  obtain ⟨u1, u2⟩ := wordB_iff.1 (reg_word hm ⟨k0, k7⟩)
  have hwr : IntKind.i64.wrap (m.reg k + n) = m.reg k + n := IntWalk.i64_in _ (by omega)
  obtain ⟨kk, hkk⟩ : ∃ kk, kk = m.meantK (m.reg k + n) true := ⟨_, rfl⟩
  obtain ⟨ee, hee⟩ : ∃ ee, ee = m.meantE (m.reg k + n) true := ⟨_, rfl⟩
  have HMT : Hid (Calls Tryd.prog 66 #[.agg #[.slice (some ⟨g, 0, none⟩) m.regs.length c, .int .i64 m.pc, .int .i64 m.back, .bool m.ints, .bool m.wait, .int .i64 m.table, .int .i64 m.count, .int .i64 0, .slice (some ⟨g2, 0, none⟩) m.mem.length c2, ov, .int .i64 m.ready, .int .i64 m.want], .int .i64 (m.reg k + n), .bool true] W fun e w' => e = .returned (.tuple #[.int .i64 kk, .int .i64 ee]) ∧ Below W.heap.size W w') := by
    have := meant_any m _ _ _ (m.reg k + n) true W (ha.own.at ⟨by rw [hm.regs]; decide, by rw [hm.mem]; decide, by have := hm.out; omega⟩) hm.mem hm.table
    rw [hkk, hee]
    simp only [Mach.cells, hf] at this
    exact this
  have HI : Hid (W.heap[ib]? = some (.cells #[.int .i64 6, .int .i64 a, .int .i64 k, .int .i64 n] 83 (0, 0))) := hi
  have HKK : Hid (kk = m.meantK (m.reg k + n) true ∧ ee = m.meantE (m.reg k + n) true) := ⟨hkk, hee⟩
  have d : (ee == 0) = false := by simp only [beq_eq_false_iff_ne]; rw [hee]; exact hE
  have HE : Hid (m.meantE (m.reg k + n) true ≠ 0) := hE
  clear h ha hreg hi hm hf hR hE hkk hee hmem
  go_wp2_with fail
  refine HMT.out.mono ?_
  rintro e w1 ⟨rfl, hb1⟩
  have hS1 := HS.out.1.below hb1
  have hA1 := HS.out.2.below hb1
  have hI1 : w1.heap[ib]? = some (.cells #[.int .i64 6, .int .i64 a, .int .i64 k, .int .i64 n] 83 (0, 0)) := by rw [hb1.block _ (lt_of_block HI.out)]; exact HI.out
  have hib : ib ≠ b := fun e => by
    rw [e, hA1.box] at hI1
    simp [Mach.cells] at hI1
  clear z0 z1 z2 z3 z4 z5 z6 z7 z8 z9 z10 z11 zf zl x0 x1 x2 x3 xf xl HMT HS
  obtain ⟨⟨z0, z1, z2, z3, z4, z5, z6, z7, z8, z9, z10, z11⟩, zf, zl⟩ := twelve_cells hA1.box
  have HS : Hid (StpI KK w w1 lo b m ∧ AtP w1 lo b (.slice (some ⟨g, 0, none⟩) m.regs.length c) (.slice (some ⟨g2, 0, none⟩) m.mem.length c2) ov m) := ⟨hS1, hA1⟩
  have HI1 : Hid (_) := hI1
  clear hS1 hA1 hI1 hib hb1 HI
  dsimp only
  go_wp2_with fail
  refine HK.out _ _ _ _ _ _ _ _ _ _ _ _ _ _ _ _ _ _ _ _ _ _ _ _ _ _ _ _ _ _ _ _ _ _ _ _ _ _ _ _ _ _ _ _ _ _ _ _ _ _ _ _ _ _ _ _ _ _ _ _ _ _ _ _ _ _ _ _ _ _ _ _ _ _ _ _ _ _ _ _ _ _ _ _ _ _ _ _ _ _ _ _ _ _ _ _ _ _ _ _ _ _ _ _ _ _ _ _ _ _ _ _ _ _ _ _ _ _ _ _ _ _ _ _ _ _ _ _ _ _ _ _ _ _ _ _ _ _ _ _ _ _ _ _ _ _ _ _ _ _ _ _ _ _ _ _ _ _ _ _ _ _ _ _ _ _ _ _ _ _ _ _ _ _ _ _ _ _ _ _ _ _ _ _ _ _ _ _ _ _ _ _ _ _ _ _ _ _ _ _ _ _ _ _ _ (m.ends ee) (m.pc + 1) (-1) _ ?_ ⟨by omega, by omega⟩ ?_
  · exact HS.out.1.put (HS.out.2.setFin ee).1
  · rw [HR.out]
    rw [HKK.out.2]
    simp [Mach.exec, Mach.ends, HE.out]


set_option maxRecDepth 100000 in
set_option maxHeartbeats 4000000 in
theorem op5y (c0 c1 c2 c5 c6 c7 c9 aA aB cT cU cV cW aC aD aE aF aG aH aI aJ aK aL aM aN aO aP aQ aR aS aT aU aV aW aX aY aZ a1 a2 a3 a4 a5 a6 a8 a9 bA bB bC bD bE bF bG bH bI bJ bK bL bM bN bO bP bQ bR bS bT bU bV bW bX bY bZ b1 b2 b3 b4 b5 b6 b7 b8 b9 cA cB cC cD cE cF cG cH cI cJ cK cX cY cZ c3 c4 c8 dA dB dC dD dE dF dG dH dI dJ dK dL dM dN dO dP dQ dR dS dT dU dV dW dX dY dZ d0 d1 d2 d3 d4 d5 d6 d7 d8 d9 eA eB eC eD eE eF eG eH eI eJ eK eL eM eN eO eP eQ eR eS eT eU eV eW eX eY eZ e0 e1 e2 e3 e4 e5 e6 e7 e8 e9 fA fB fC fD fE fF fG fH fI fJ fK fL fM fN fO fP fQ fR fS fT fU fV fW fX fY fZ f0 f1 f2 f3 f4 f5 f6 f7 f8 f9 gA gB gC gD gE gF gG gH gI gJ gK gL gM gN gO gP gQ gR gS gT gU gV gW gX gY gZ g0 g1 g3 g4 g5 g6 g7 g8 g9 hA hB hC hD hF hG hH hI hJ hL hM hN hO hP hQ hS hT hU hV hW hX hY hZ h0 h1 h2 h3 h4 h5 h6 h7 h8 h9 iA iB iC iD iE iF iG iH iI iJ iK iL iM iN iO iP iQ cL cM cN cO cP cQ cR cS : Value) (m : Mach) (ib : Nat) (a k n value : Int) (R : Mach × Int) (w W : World) (lo b : Nat) (K : Act → World → Prop) (Q : Exit → Act → World → Prop)
    (h : StpI KK w W lo b m) (hm : MayP m) (hf : m.fin = 0) (hi : W.heap[ib]? = some (.cells #[.int .i64 5, .int .i64 a, .int .i64 k, .int .i64 n] 83 (0, 0))) (ba : 0 ≤ a ∧ a ≤ 7) (bk : 0 ≤ k ∧ k ≤ 7) (bn : -1048576 ≤ n ∧ n ≤ 1048575) (hR : R = m.exec 5 a k n value) (hE : m.meantE (m.reg k + n) false = 0)
    (hK : ∀ (iR iS iT iU iV iW iX iY iZ i0 i1 i2 i3 i4 i5 i6 i7 i8 i9 jA jB jC jD jE jF jG jH jI jJ jK jL jM jN jO jP jQ jR jS jT jU jV jW jX jY jZ j0 j1 j2 j3 j4 j5 j6 j7 j8 j9 kA kB kC kD kE kF kG kH kI kJ kK kL kM kN kO kP kQ kR kS kT kU kV kW kX kY kZ k1 k2 k3 k4 k5 k6 k8 k9 lA lB lC lD lE lF lG lH lI lJ lK lL lM lN lO lP lQ lR lS lT lU lV lW lX lY lZ l0 l1 l2 l3 l4 l5 l6 l7 l8 l9 mA mB mC mD mE mF mG mH mI mJ mK mL mM mN mO mP mQ mR mS mT mU mV mW mX mY mZ m0 m1 m2 m6 m7 m8 m9 nA nB nC nD nE nF nG nH nI nJ nK nL nM nN nO nP nQ nR nS nT nU nV nW nX nY nZ n1 n2 n3 n4 n5 n6 n8 n9 oA oB oC oD oE oF oG oH oI oJ oK oL oM : Value) (M' : Mach) (nx wr : Int) (W' : World), StpI KK w W' lo b M' → (-4398046511104 ≤ nx ∧ nx ≤ 4398046511104) → R = (if M'.fin = 0 then M'.go nx else M', wr) → K ⟨#[c0, c1, c2, .int .i64 value, .pointer (some ⟨b, 0, none⟩), c5, c6, c7, .pointer (some ⟨b + 1, 0, none⟩), c9, aA, .pointer (some ⟨ib, 0, none⟩), aB, .int .i64 nx, .int .i64 wr, iR, iS, iT, iU, iV, iW, aC, aD, aE, aF, aG, aH, aI, aJ, aK, aL, aM, aN, aO, aP, aQ, aR, aS, aT, aU, aV, aW, aX, aY, aZ, a1, a2, a3, a4, a5, a6, a8, a9, bA, bB, bC, bD, bE, bF, bG, bH, bI, bJ, bK, bL, bM, bN, bO, bP, bQ, bR, bS, bT, bU, bV, bW, bX, bY, bZ, b1, b2, b3, b4, b5, b6, b7, b8, b9, cA, cB, cC, cD, cE, cF, cG, cH, cI, cJ, cK, iX, iY, iZ, i0, i1, i2, i3, i4, i5, i6, i7, i8, i9, jA, jB, jC, jD, jE, jF, jG, jH, jI, jJ, jK, jL, jM, jN, jO, jP, jQ, jR, jS, jT, jU, jV, jW, jX, jY, jZ, j0, j1, j2, j3, j4, j5, j6, j7, j8, j9, kA, kB, kC, kD, kE, kF, kG, kH, kI, kJ, kK, kL, kM, kN, kO, kP, kQ, kR, kS, kT, kU, kV, kW, kX, kY, kZ, k1, k2, k3, k4, k5, k6, k8, k9, lA, lB, lC, lD, lE, lF, lG, lH, lI, lJ, lK, lL, lM, lN, lO, lP, lQ, lR, lS, lT, lU, lV, lW, lX, lY, lZ, l0, l1, l2, l3, l4, l5, l6, l7, l8, l9, mA, mB, mC, mD, mE, mF, mG, mH, mI, mJ, mK, mL, mM, mN, mO, mP, mQ, mR, mS, mT, mU, mV, mW, mX, mY, mZ, m0, m1, m2, m6, m7, m8, m9, nA, nB, nC, nD, nE, nF, nG, nH, nI, nJ, nK, nL, nM, nN, nO, nP, nQ, nR, nS, nT, nU, nV, nW, nX, nY, nZ, n1, n2, n3, n4, n5, n6, n8, n9, oA, oB, oC, oD, oE, oF, oG, oH, oI, oJ, oK, oL, oM, cL, cM, cN, cO, cP, cQ, cR, cS], []⟩ W') :
    Code.wp Tryd.prog (stm 12 (Tryd.f34.body.getD .skip)) (Exit.then K Q) ⟨#[c0, c1, c2, .int .i64 value, .pointer (some ⟨b, 0, none⟩), c5, c6, c7, .pointer (some ⟨b + 1, 0, none⟩), c9, aA, .pointer (some ⟨ib, 0, none⟩), aB, .int .i64 (m.pc + 1), .int .i64 (-1), .int .i64 (m.reg a), .int .i64 (m.reg k), cT, cU, cV, cW, aC, aD, aE, aF, aG, aH, aI, aJ, aK, aL, aM, aN, aO, aP, aQ, aR, aS, aT, aU, aV, aW, aX, aY, aZ, a1, a2, a3, a4, a5, a6, a8, a9, bA, bB, bC, bD, bE, bF, bG, bH, bI, bJ, bK, bL, bM, bN, bO, bP, bQ, bR, bS, bT, bU, bV, bW, bX, bY, bZ, b1, b2, b3, b4, b5, b6, b7, b8, b9, cA, cB, cC, cD, cE, cF, cG, cH, cI, cJ, cK, cX, cY, cZ, c3, c4, c8, dA, dB, dC, dD, dE, dF, dG, dH, dI, dJ, dK, dL, dM, dN, dO, dP, dQ, dR, dS, dT, dU, dV, dW, dX, dY, dZ, d0, d1, d2, d3, d4, d5, d6, d7, d8, d9, eA, eB, eC, eD, eE, eF, eG, eH, eI, eJ, eK, eL, eM, eN, eO, eP, eQ, eR, eS, eT, eU, eV, eW, eX, eY, eZ, e0, e1, e2, e3, e4, e5, e6, e7, e8, e9, fA, fB, fC, fD, fE, fF, fG, fH, fI, fJ, fK, fL, fM, fN, fO, fP, fQ, fR, fS, fT, fU, fV, fW, fX, fY, fZ, f0, f1, f2, f3, f4, f5, f6, f7, f8, f9, gA, gB, gC, gD, gE, gF, gG, gH, gI, gJ, gK, gL, gM, gN, gO, gP, gQ, gR, gS, gT, gU, gV, gW, gX, gY, gZ, g0, g1, g3, g4, g5, g6, g7, g8, g9, hA, hB, hC, hD, hF, hG, hH, hI, hJ, hL, hM, hN, hO, hP, hQ, hS, hT, hU, hV, hW, hX, hY, hZ, h0, h1, h2, h3, h4, h5, h6, h7, h8, h9, iA, iB, iC, iD, iE, iF, iG, iH, iI, iJ, iK, iL, iM, iN, iO, iP, iQ, cL, cM, cN, cO, cP, cQ, cR, cS], []⟩ W := by
  have HK : Hid _ := hK
  clear hK
  conv => arg 2; whnf
  obtain ⟨rv, mv, ov, ha⟩ := h.at_
  obtain ⟨g, c, rfl, hg, hreg, hfz⟩ := ha.regs_at hm.regs
  obtain ⟨g2, c2, rfl, hg2, hmem, hfz2⟩ := ha.mem_at hm.mem
  obtain ⟨⟨z0, z1, z2, z3, z4, z5, z6, z7, z8, z9, z10, z11⟩, zf, zl⟩ := twelve_cells ha.box
  obtain ⟨x0, x1, x2, x3, xf, xl⟩ := four_cells hi
  rw [hf] at z7
  obtain ⟨p1, p2⟩ := wordB_iff.1 hm.pc
  have gb : ¬ b = g := ha.ne_regs
  have gb2 : ¬ g = b := fun e => gb e.symm
  have HS : Hid (StpI KK w W lo b m ∧ AtP W lo b (.slice (some ⟨g, 0, none⟩) m.regs.length c) (.slice (some ⟨g2, 0, none⟩) m.mem.length c2) ov m) := ⟨h, ha⟩
  have HM : Hid (MayP m) := hm
  have HF : Hid (m.fin = 0) := hf
  have HBD : Hid ((0 ≤ a ∧ a ≤ 7) ∧ (0 ≤ k ∧ k ≤ 7) ∧ (-1048576 ≤ n ∧ n ≤ 1048575)) := ⟨ba, bk, bn⟩
  have HR : Hid (R = m.exec 5 a k n value) := hR
  obtain ⟨a0, a7⟩ := ba
  obtain ⟨k0, k7⟩ := bk
  obtain ⟨n0, n7⟩ := bn
  have ab : a < (m.regs.length : Int) := by have := hm.regs; omega
  have kb : k < (m.regs.length : Int) := by have := hm.regs; omega
  obtain ⟨u1, u2⟩ := wordB_iff.1 (reg_word hm ⟨k0, k7⟩)
  have hwr : IntKind.i64.wrap (m.reg k + n) = m.reg k + n := IntWalk.i64_in _ (by omega)
  obtain ⟨kk, hkk⟩ : ∃ kk, kk = m.meantK (m.reg k + n) false := ⟨_, rfl⟩
  obtain ⟨ee, hee⟩ : ∃ ee, ee = m.meantE (m.reg k + n) false := ⟨_, rfl⟩
  have HMT : Hid (Calls Tryd.prog 66 #[.agg #[.slice (some ⟨g, 0, none⟩) m.regs.length c, .int .i64 m.pc, .int .i64 m.back, .bool m.ints, .bool m.wait, .int .i64 m.table, .int .i64 m.count, .int .i64 0, .slice (some ⟨g2, 0, none⟩) m.mem.length c2, ov, .int .i64 m.ready, .int .i64 m.want], .int .i64 (m.reg k + n), .bool false] W fun e w' => e = .returned (.tuple #[.int .i64 kk, .int .i64 ee]) ∧ Below W.heap.size W w') := by
    have := meant_any m _ _ _ (m.reg k + n) false W (ha.own.at ⟨by rw [hm.regs]; decide, by rw [hm.mem]; decide, by have := hm.out; omega⟩) hm.mem hm.table
    rw [hkk, hee]
    simp only [Mach.cells, hf] at this
    exact this
  have HI : Hid (W.heap[ib]? = some (.cells #[.int .i64 5, .int .i64 a, .int .i64 k, .int .i64 n] 83 (0, 0))) := hi
  have HKK : Hid (kk = m.meantK (m.reg k + n) false ∧ ee = m.meantE (m.reg k + n) false) := ⟨hkk, hee⟩
  have HKB : Hid (0 ≤ kk ∧ kk ≤ 255) := by rw [hkk]; have := meant_bd hE; exact ⟨by omega, by omega⟩
  have HE : Hid (m.meantE (m.reg k + n) false = 0) := hE
  rw [hE] at hee
  subst hee
  clear h ha hreg hi hm hf hR hE hkk hmem
  go_wp2_with fail
  refine HMT.out.mono ?_
  rintro e w1 ⟨rfl, hb1⟩
  have hS1 := HS.out.1.below hb1
  have hA1 := HS.out.2.below hb1
  have hI1 : w1.heap[ib]? = some (.cells #[.int .i64 5, .int .i64 a, .int .i64 k, .int .i64 n] 83 (0, 0)) := by rw [hb1.block _ (lt_of_block HI.out)]; exact HI.out
  have hib : ib ≠ b := fun e => by
    rw [e, hA1.box] at hI1
    simp [Mach.cells] at hI1
  clear z0 z1 z2 z3 z4 z5 z6 z7 z8 z9 z10 z11 zf zl x0 x1 x2 x3 xf xl HMT HS
  obtain ⟨⟨z0, z1, z2, z3, z4, z5, z6, z7, z8, z9, z10, z11⟩, zf, zl⟩ := twelve_cells hA1.box
  have HS : Hid (StpI KK w w1 lo b m ∧ AtP w1 lo b (.slice (some ⟨g, 0, none⟩) m.regs.length c) (.slice (some ⟨g2, 0, none⟩) m.mem.length c2) ov m) := ⟨hS1, hA1⟩
  have HI1 : Hid (_) := hI1
  clear hS1 hA1 hI1 hb1 HI
  dsimp only
  go_upto_region 41 with fail
  obtain ⟨W2, hW2⟩ : ∃ W2, W2 = w1.setCell ⟨b, 7, none⟩ (.int .i64 0) := ⟨_, rfl⟩
  rw [← hW2]
  have hA2 : AtP W2 lo b (.slice (some ⟨g, 0, none⟩) m.regs.length c) (.slice (some ⟨g2, 0, none⟩) m.mem.length c2) ov m := by
    have := (HS.out.2.setFin 0).1
    rw [hW2]
    rwa [show ({ m with fin := 0 } : Mach) = m by rw [← HF.out]] at this
  have hS2 : StpI KK w W2 lo b m := by
    rw [hW2] at hA2 ⊢
    exact HS.out.1.put hA2
  have hI2 : W2.heap[ib]? = some (.cells #[.int .i64 5, .int .i64 a, .int .i64 k, .int .i64 n] 83 (0, 0)) := by rw [hW2, Below.heap_setCell _ _ _ _ hib]; exact HI1.out
  clear z0 z1 z2 z3 z4 z5 z6 z7 z8 z9 z10 z11 zf zl HI1 hW2
  obtain ⟨⟨z0, z1, z2, z3, z4, z5, z6, z7, z8, z9, z10, z11⟩, zf, zl⟩ := twelve_cells hA2.box
  obtain ⟨x0, x1, x2, x3, xf, xl⟩ := four_cells hI2
  rw [HF.out] at z7
  obtain ⟨q3, q4, q5⟩ := hA2.reg_cell HM.out.regs a0 a7
  obtain ⟨b0, b255⟩ := HKB.out
  obtain ⟨m3, m4, m5⟩ := hA2.mem_cell HM.out.mem b0 b255
  obtain ⟨xv, hxv⟩ : ∃ xv, xv = m.mem.getD kk.toNat 0 := ⟨_, rfl⟩
  rw [← hxv] at m3
  have HXV : Hid (xv = m.mem.getD kk.toNat 0) := hxv
  clear hxv
  have kl : kk < (m.mem.length : Int) := by have := HM.out.mem; omega
  have H2 : Hid (StpI KK w W2 lo b m ∧ AtP W2 lo b (.slice (some ⟨g, 0, none⟩) m.regs.length c) (.slice (some ⟨g2, 0, none⟩) m.mem.length c2) ov m) := ⟨hS2, hA2⟩
  clear hA2 hS2 hI2 HS
  go_still_tail 10, (by kernel_rfl)
  go_wp2_with fail
  refine HK.out _ _ _ _ _ _ _ _ _ _ _ _ _ _ _ _ _ _ _ _ _ _ _ _ _ _ _ _ _ _ _ _ _ _ _ _ _ _ _ _ _ _ _ _ _ _ _ _ _ _ _ _ _ _ _ _ _ _ _ _ _ _ _ _ _ _ _ _ _ _ _ _ _ _ _ _ _ _ _ _ _ _ _ _ _ _ _ _ _ _ _ _ _ _ _ _ _ _ _ _ _ _ _ _ _ _ _ _ _ _ _ _ _ _ _ _ _ _ _ _ _ _ _ _ _ _ _ _ _ _ _ _ _ _ _ _ _ _ _ _ _ _ _ _ _ _ _ _ _ _ _ _ _ _ _ _ _ _ _ _ _ _ _ _ _ _ _ _ _ _ _ _ _ _ _ _ _ _ _ _ _ _ _ _ _ _ _ _ _ _ _ _ _ _ _ _ _ _ _ _ _ _ _ _ _ (m.setReg a xv) (m.pc + 1) (-1) _ ?_ ⟨by omega, by omega⟩ ?_
  · exact (H2.out.1.reg H2.out.2 a.toNat _).below ((Below.refl _ _).drew)
  · rw [HR.out]
    rw [HXV.out, HKK.out.1]
    simp [Mach.exec, Mach.setReg, HE.out, HF.out]


set_option maxRecDepth 100000 in
set_option maxHeartbeats 4000000 in
theorem op6y (c0 c1 c2 c5 c6 c7 c9 aA aB cT cU cV cW aC aD aE aF aG aH aI aJ aK aL aM aN aO aP aQ aR aS aT aU aV aW aX aY aZ a1 a2 a3 a4 a5 a6 a8 a9 bA bB bC bD bE bF bG bH bI bJ bK bL bM bN bO bP bQ bR bS bT bU bV bW bX bY bZ b1 b2 b3 b4 b5 b6 b7 b8 b9 cA cB cC cD cE cF cG cH cI cJ cK cX cY cZ c3 c4 c8 dA dB dC dD dE dF dG dH dI dJ dK dL dM dN dO dP dQ dR dS dT dU dV dW dX dY dZ d0 d1 d2 d3 d4 d5 d6 d7 d8 d9 eA eB eC eD eE eF eG eH eI eJ eK eL eM eN eO eP eQ eR eS eT eU eV eW eX eY eZ e0 e1 e2 e3 e4 e5 e6 e7 e8 e9 fA fB fC fD fE fF fG fH fI fJ fK fL fM fN fO fP fQ fR fS fT fU fV fW fX fY fZ f0 f1 f2 f3 f4 f5 f6 f7 f8 f9 gA gB gC gD gE gF gG gH gI gJ gK gL gM gN gO gP gQ gR gS gT gU gV gW gX gY gZ g0 g1 g3 g4 g5 g6 g7 g8 g9 hA hB hC hD hF hG hH hI hJ hL hM hN hO hP hQ hS hT hU hV hW hX hY hZ h0 h1 h2 h3 h4 h5 h6 h7 h8 h9 iA iB iC iD iE iF iG iH iI iJ iK iL iM iN iO iP iQ cL cM cN cO cP cQ cR cS : Value) (m : Mach) (ib : Nat) (a k n value : Int) (R : Mach × Int) (w W : World) (lo b : Nat) (K : Act → World → Prop) (Q : Exit → Act → World → Prop)
    (h : StpI KK w W lo b m) (hm : MayP m) (hf : m.fin = 0) (hi : W.heap[ib]? = some (.cells #[.int .i64 6, .int .i64 a, .int .i64 k, .int .i64 n] 83 (0, 0))) (ba : 0 ≤ a ∧ a ≤ 7) (bk : 0 ≤ k ∧ k ≤ 7) (bn : -1048576 ≤ n ∧ n ≤ 1048575) (hR : R = m.exec 6 a k n value) (hE : m.meantE (m.reg k + n) true = 0)
    (hK : ∀ (iR iS iT iU iV iW iX iY iZ i0 i1 i2 i3 i4 i5 i6 i7 i8 i9 jA jB jC jD jE jF jG jH jI jJ jK jL jM jN jO jP jQ jR jS jT jU jV jW jX jY jZ j0 j1 j2 j3 j4 j5 j6 j7 j8 j9 kA kB kC kD kE kF kG kH kI kJ kK kL kM kN kO kP kQ kR kS kT kU kV kW kX kY kZ k1 k2 k3 k4 k5 k6 k8 k9 lA lB lC lD lE lF lG lH lI lJ lK lL lM lN lO lP lQ lR lS lT lU lV lW lX lY lZ l0 l1 l2 l3 l4 l5 l6 l7 l8 l9 mA mB mC mD mE mF mG mH mI mJ mK mL mM mN mO mP mQ mR mS mT mU mV mW mX mY mZ m0 m1 m2 m6 m7 m8 m9 nA nB nC nD nE nF nG nH nI nJ nK nL nM nN nO nP nQ nR nS nT nU nV nW nX nY nZ n1 n2 n3 n4 n5 n6 n8 n9 oA oB oC oD oE oF oG oH oI oJ oK oL oM : Value) (M' : Mach) (nx wr : Int) (W' : World), StpI KK w W' lo b M' → (-4398046511104 ≤ nx ∧ nx ≤ 4398046511104) → R = (if M'.fin = 0 then M'.go nx else M', wr) → K ⟨#[c0, c1, c2, .int .i64 value, .pointer (some ⟨b, 0, none⟩), c5, c6, c7, .pointer (some ⟨b + 1, 0, none⟩), c9, aA, .pointer (some ⟨ib, 0, none⟩), aB, .int .i64 nx, .int .i64 wr, iR, iS, iT, iU, iV, iW, aC, aD, aE, aF, aG, aH, aI, aJ, aK, aL, aM, aN, aO, aP, aQ, aR, aS, aT, aU, aV, aW, aX, aY, aZ, a1, a2, a3, a4, a5, a6, a8, a9, bA, bB, bC, bD, bE, bF, bG, bH, bI, bJ, bK, bL, bM, bN, bO, bP, bQ, bR, bS, bT, bU, bV, bW, bX, bY, bZ, b1, b2, b3, b4, b5, b6, b7, b8, b9, cA, cB, cC, cD, cE, cF, cG, cH, cI, cJ, cK, iX, iY, iZ, i0, i1, i2, i3, i4, i5, i6, i7, i8, i9, jA, jB, jC, jD, jE, jF, jG, jH, jI, jJ, jK, jL, jM, jN, jO, jP, jQ, jR, jS, jT, jU, jV, jW, jX, jY, jZ, j0, j1, j2, j3, j4, j5, j6, j7, j8, j9, kA, kB, kC, kD, kE, kF, kG, kH, kI, kJ, kK, kL, kM, kN, kO, kP, kQ, kR, kS, kT, kU, kV, kW, kX, kY, kZ, k1, k2, k3, k4, k5, k6, k8, k9, lA, lB, lC, lD, lE, lF, lG, lH, lI, lJ, lK, lL, lM, lN, lO, lP, lQ, lR, lS, lT, lU, lV, lW, lX, lY, lZ, l0, l1, l2, l3, l4, l5, l6, l7, l8, l9, mA, mB, mC, mD, mE, mF, mG, mH, mI, mJ, mK, mL, mM, mN, mO, mP, mQ, mR, mS, mT, mU, mV, mW, mX, mY, mZ, m0, m1, m2, m6, m7, m8, m9, nA, nB, nC, nD, nE, nF, nG, nH, nI, nJ, nK, nL, nM, nN, nO, nP, nQ, nR, nS, nT, nU, nV, nW, nX, nY, nZ, n1, n2, n3, n4, n5, n6, n8, n9, oA, oB, oC, oD, oE, oF, oG, oH, oI, oJ, oK, oL, oM, cL, cM, cN, cO, cP, cQ, cR, cS], []⟩ W') :
    Code.wp Tryd.prog (stm 12 (Tryd.f34.body.getD .skip)) (Exit.then K Q) ⟨#[c0, c1, c2, .int .i64 value, .pointer (some ⟨b, 0, none⟩), c5, c6, c7, .pointer (some ⟨b + 1, 0, none⟩), c9, aA, .pointer (some ⟨ib, 0, none⟩), aB, .int .i64 (m.pc + 1), .int .i64 (-1), .int .i64 (m.reg a), .int .i64 (m.reg k), cT, cU, cV, cW, aC, aD, aE, aF, aG, aH, aI, aJ, aK, aL, aM, aN, aO, aP, aQ, aR, aS, aT, aU, aV, aW, aX, aY, aZ, a1, a2, a3, a4, a5, a6, a8, a9, bA, bB, bC, bD, bE, bF, bG, bH, bI, bJ, bK, bL, bM, bN, bO, bP, bQ, bR, bS, bT, bU, bV, bW, bX, bY, bZ, b1, b2, b3, b4, b5, b6, b7, b8, b9, cA, cB, cC, cD, cE, cF, cG, cH, cI, cJ, cK, cX, cY, cZ, c3, c4, c8, dA, dB, dC, dD, dE, dF, dG, dH, dI, dJ, dK, dL, dM, dN, dO, dP, dQ, dR, dS, dT, dU, dV, dW, dX, dY, dZ, d0, d1, d2, d3, d4, d5, d6, d7, d8, d9, eA, eB, eC, eD, eE, eF, eG, eH, eI, eJ, eK, eL, eM, eN, eO, eP, eQ, eR, eS, eT, eU, eV, eW, eX, eY, eZ, e0, e1, e2, e3, e4, e5, e6, e7, e8, e9, fA, fB, fC, fD, fE, fF, fG, fH, fI, fJ, fK, fL, fM, fN, fO, fP, fQ, fR, fS, fT, fU, fV, fW, fX, fY, fZ, f0, f1, f2, f3, f4, f5, f6, f7, f8, f9, gA, gB, gC, gD, gE, gF, gG, gH, gI, gJ, gK, gL, gM, gN, gO, gP, gQ, gR, gS, gT, gU, gV, gW, gX, gY, gZ, g0, g1, g3, g4, g5, g6, g7, g8, g9, hA, hB, hC, hD, hF, hG, hH, hI, hJ, hL, hM, hN, hO, hP, hQ, hS, hT, hU, hV, hW, hX, hY, hZ, h0, h1, h2, h3, h4, h5, h6, h7, h8, h9, iA, iB, iC, iD, iE, iF, iG, iH, iI, iJ, iK, iL, iM, iN, iO, iP, iQ, cL, cM, cN, cO, cP, cQ, cR, cS], []⟩ W := by
  have HK : Hid _ := hK
  clear hK
  conv => arg 2; whnf
  obtain ⟨rv, mv, ov, ha⟩ := h.at_
  obtain ⟨g, c, rfl, hg, hreg, hfz⟩ := ha.regs_at hm.regs
  obtain ⟨g2, c2, rfl, hg2, hmem, hfz2⟩ := ha.mem_at hm.mem
  obtain ⟨⟨z0, z1, z2, z3, z4, z5, z6, z7, z8, z9, z10, z11⟩, zf, zl⟩ := twelve_cells ha.box
  obtain ⟨x0, x1, x2, x3, xf, xl⟩ := four_cells hi
  rw [hf] at z7
  obtain ⟨p1, p2⟩ := wordB_iff.1 hm.pc
  have gb : ¬ b = g := ha.ne_regs
  have gb2 : ¬ g = b := fun e => gb e.symm
  have HS : Hid (StpI KK w W lo b m ∧ AtP W lo b (.slice (some ⟨g, 0, none⟩) m.regs.length c) (.slice (some ⟨g2, 0, none⟩) m.mem.length c2) ov m) := ⟨h, ha⟩
  have HM : Hid (MayP m) := hm
  have HF : Hid (m.fin = 0) := hf
  have HBD : Hid ((0 ≤ a ∧ a ≤ 7) ∧ (0 ≤ k ∧ k ≤ 7) ∧ (-1048576 ≤ n ∧ n ≤ 1048575)) := ⟨ba, bk, bn⟩
  have HR : Hid (R = m.exec 6 a k n value) := hR
  obtain ⟨a0, a7⟩ := ba
  obtain ⟨k0, k7⟩ := bk
  obtain ⟨n0, n7⟩ := bn
  have ab : a < (m.regs.length : Int) := by have := hm.regs; omega
  have kb : k < (m.regs.length : Int) := by have := hm.regs; omega
  obtain ⟨u1, u2⟩ := wordB_iff.1 (reg_word hm ⟨k0, k7⟩)
  have hwr : IntKind.i64.wrap (m.reg k + n) = m.reg k + n := IntWalk.i64_in _ (by omega)
  obtain ⟨kk, hkk⟩ : ∃ kk, kk = m.meantK (m.reg k + n) true := ⟨_, rfl⟩
  obtain ⟨ee, hee⟩ : ∃ ee, ee = m.meantE (m.reg k + n) true := ⟨_, rfl⟩
  have HMT : Hid (Calls Tryd.prog 66 #[.agg #[.slice (some ⟨g, 0, none⟩) m.regs.length c, .int .i64 m.pc, .int .i64 m.back, .bool m.ints, .bool m.wait, .int .i64 m.table, .int .i64 m.count, .int .i64 0, .slice (some ⟨g2, 0, none⟩) m.mem.length c2, ov, .int .i64 m.ready, .int .i64 m.want], .int .i64 (m.reg k + n), .bool true] W fun e w' => e = .returned (.tuple #[.int .i64 kk, .int .i64 ee]) ∧ Below W.heap.size W w') := by
    have := meant_any m _ _ _ (m.reg k + n) true W (ha.own.at ⟨by rw [hm.regs]; decide, by rw [hm.mem]; decide, by have := hm.out; omega⟩) hm.mem hm.table
    rw [hkk, hee]
    simp only [Mach.cells, hf] at this
    exact this
  have HI : Hid (W.heap[ib]? = some (.cells #[.int .i64 6, .int .i64 a, .int .i64 k, .int .i64 n] 83 (0, 0))) := hi
  have HKK : Hid (kk = m.meantK (m.reg k + n) true ∧ ee = m.meantE (m.reg k + n) true) := ⟨hkk, hee⟩
  have HKB : Hid (0 ≤ kk ∧ kk ≤ 255) := by rw [hkk]; have := meant_bd hE; exact ⟨by omega, by omega⟩
  have HE : Hid (m.meantE (m.reg k + n) true = 0) := hE
  rw [hE] at hee
  subst hee
  clear h ha hreg hi hm hf hR hE hkk hmem
  go_wp2_with fail
  refine HMT.out.mono ?_
  rintro e w1 ⟨rfl, hb1⟩
  have hS1 := HS.out.1.below hb1
  have hA1 := HS.out.2.below hb1
  have hI1 : w1.heap[ib]? = some (.cells #[.int .i64 6, .int .i64 a, .int .i64 k, .int .i64 n] 83 (0, 0)) := by rw [hb1.block _ (lt_of_block HI.out)]; exact HI.out
  have hib : ib ≠ b := fun e => by
    rw [e, hA1.box] at hI1
    simp [Mach.cells] at hI1
  clear z0 z1 z2 z3 z4 z5 z6 z7 z8 z9 z10 z11 zf zl x0 x1 x2 x3 xf xl HMT HS
  obtain ⟨⟨z0, z1, z2, z3, z4, z5, z6, z7, z8, z9, z10, z11⟩, zf, zl⟩ := twelve_cells hA1.box
  have HS : Hid (StpI KK w w1 lo b m ∧ AtP w1 lo b (.slice (some ⟨g, 0, none⟩) m.regs.length c) (.slice (some ⟨g2, 0, none⟩) m.mem.length c2) ov m) := ⟨hS1, hA1⟩
  have HI1 : Hid (_) := hI1
  clear hS1 hA1 hI1 hb1 HI
  dsimp only
  go_upto_region 46 with fail
  obtain ⟨W2, hW2⟩ : ∃ W2, W2 = w1.setCell ⟨b, 7, none⟩ (.int .i64 0) := ⟨_, rfl⟩
  rw [← hW2]
  have hA2 : AtP W2 lo b (.slice (some ⟨g, 0, none⟩) m.regs.length c) (.slice (some ⟨g2, 0, none⟩) m.mem.length c2) ov m := by
    have := (HS.out.2.setFin 0).1
    rw [hW2]
    rwa [show ({ m with fin := 0 } : Mach) = m by rw [← HF.out]] at this
  have hS2 : StpI KK w W2 lo b m := by
    rw [hW2] at hA2 ⊢
    exact HS.out.1.put hA2
  have hI2 : W2.heap[ib]? = some (.cells #[.int .i64 6, .int .i64 a, .int .i64 k, .int .i64 n] 83 (0, 0)) := by rw [hW2, Below.heap_setCell _ _ _ _ hib]; exact HI1.out
  clear z0 z1 z2 z3 z4 z5 z6 z7 z8 z9 z10 z11 zf zl HI1 hW2
  obtain ⟨⟨z0, z1, z2, z3, z4, z5, z6, z7, z8, z9, z10, z11⟩, zf, zl⟩ := twelve_cells hA2.box
  obtain ⟨x0, x1, x2, x3, xf, xl⟩ := four_cells hI2
  rw [HF.out] at z7
  obtain ⟨q3, q4, q5⟩ := hA2.reg_cell HM.out.regs a0 a7
  obtain ⟨b0, b255⟩ := HKB.out
  obtain ⟨m3, m4, m5⟩ := hA2.mem_cell HM.out.mem b0 b255
  obtain ⟨xv, hxv⟩ : ∃ xv, xv = m.mem.getD kk.toNat 0 := ⟨_, rfl⟩
  rw [← hxv] at m3
  have HXV : Hid (xv = m.mem.getD kk.toNat 0) := hxv
  clear hxv
  have kl : kk < (m.mem.length : Int) := by have := HM.out.mem; omega
  have H2 : Hid (StpI KK w W2 lo b m ∧ AtP W2 lo b (.slice (some ⟨g, 0, none⟩) m.regs.length c) (.slice (some ⟨g2, 0, none⟩) m.mem.length c2) ov m) := ⟨hS2, hA2⟩
  clear hA2 hS2 hI2 HS
  go_wp2_with fail
  refine HK.out _ _ _ _ _ _ _ _ _ _ _ _ _ _ _ _ _ _ _ _ _ _ _ _ _ _ _ _ _ _ _ _ _ _ _ _ _ _ _ _ _ _ _ _ _ _ _ _ _ _ _ _ _ _ _ _ _ _ _ _ _ _ _ _ _ _ _ _ _ _ _ _ _ _ _ _ _ _ _ _ _ _ _ _ _ _ _ _ _ _ _ _ _ _ _ _ _ _ _ _ _ _ _ _ _ _ _ _ _ _ _ _ _ _ _ _ _ _ _ _ _ _ _ _ _ _ _ _ _ _ _ _ _ _ _ _ _ _ _ _ _ _ _ _ _ _ _ _ _ _ _ _ _ _ _ _ _ _ _ _ _ _ _ _ _ _ _ _ _ _ _ _ _ _ _ _ _ _ _ _ _ _ _ _ _ _ _ _ _ _ _ _ _ _ _ _ _ _ _ _ _ _ _ _ _ ({ m with mem := m.mem.set kk.toNat (m.reg a) } : Mach) (m.pc + 1) kk _ ?_ ⟨by omega, by omega⟩ ?_
  · exact H2.out.1.mem H2.out.2 kk.toNat _
  · rw [HR.out]
    rw [HKK.out.1]
    simp [Mach.exec, HE.out, HF.out]


end Go.Proofs.YtbjlfhpiebokkaaDoor
