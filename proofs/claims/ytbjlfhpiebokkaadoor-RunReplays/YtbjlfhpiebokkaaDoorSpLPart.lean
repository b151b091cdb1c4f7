/- hourglassref.stepped: a block comes. (Written by tools/gen_sp.py.) -/
import Derived.Test.YtbjlfhpiebokkaaDoorFoldPart
namespace Go.Proofs.YtbjlfhpiebokkaaDoor
open Go.RowKit
variable {KK : Nat → Prop}

set_option maxRecDepth 100000 in
set_option maxHeartbeats 4000000 in
theorem seg3_none (c0 c1 c3 c5 c6 c7 c9 h5 aA aB aC aD aE aF aG aH aI aJ aK aL aM aN aO aP aQ aR aS aT h6 h7 h8 h9 iA iB iC iD iE iF iG iH iI iJ iK iL iM iN iO iP iQ iR iS iT iU iV iW aU aV aW aX aY aZ a0 a1 a2 a3 a4 a5 a6 a7 a8 a9 bA bB bC bD bE bF bG bH bI bJ bK bL bM bN bO bP bQ bR bS bT bU bV bW bX bY bZ b0 b1 b2 b3 b4 b5 b6 b7 b8 b9 cB cC cD cE cF cG cH cI cJ cK cL cM cN cO cP cQ cR cS cT cU cV cW cX cY cZ c2 c4 c8 dA dB dC dD dE dF dG dH dI dJ dK dL dM dN dO dP dQ dR dS dT dU dV dW dX dY dZ d2 d3 d4 d5 d6 d7 d8 d9 eA eB eC eD eE eF eG eH eI eJ eK eL eM eN eO eP eQ eR eS eT eU eV eW eX eY eZ e0 e1 e2 e3 e4 e5 e6 e7 e8 e9 fA fB fC fD fE fF fG fH fI fJ fK fL fM fN fO fP fQ fR fS fT fU fV fW fX fY fZ f0 f1 f2 f3 f4 f5 f6 f7 f8 f9 gA gB gC gD gE gF gG gH gI gJ gK gL gM gN gO gP gQ gR gS gT gU gV gW gX gY gZ g0 g1 g2 g3 g4 g5 g6 g7 g8 g9 hC hD hE hF hG hH hI hJ hL hM hO hP hQ hR hT hU hV hW hX hY hZ h0 h1 h2 h3 h4 : Value) (m : Mach) (B : Option Addr) (bl cb : Nat) (blk : List Int) (w W : World) (lo b : Nat) (K : Act → World → Prop) (Q : Exit → Act → World → Prop)
    (h : StpI KK w W lo b m) (hbl : bl = blk.length) (hl : blk.length = 0)
    (hK : ∀ (iX iY iZ i0 i1 i2 i3 i4 i5 i6 i7 i8 i9 jA jB jC jD jE jF jG jH jI jJ jK jL jM jN jO : Value) (W' : World), StpI KK w W' lo b (m.taken blk) → K ⟨#[c0, c1, .slice B bl cb, c3, .pointer (some ⟨b, 0, none⟩), c5, c6, c7, .pointer (some ⟨b + 1, 0, none⟩), c9, iX, aA, aB, aC, aD, aE, aF, aG, aH, aI, aJ, aK, aL, aM, aN, aO, aP, aQ, aR, aS, aT, iY, iZ, i0, i1, i2, i3, i4, i5, i6, i7, i8, i9, jA, jB, jC, jD, jE, jF, jG, jH, jI, jJ, jK, jL, jM, jN, jO, aU, aV, aW, aX, aY, aZ, a0, a1, a2, a3, a4, a5, a6, a7, a8, a9, bA, bB, bC, bD, bE, bF, bG, bH, bI, bJ, bK, bL, bM, bN, bO, bP, bQ, bR, bS, bT, bU, bV, bW, bX, bY, bZ, b0, b1, b2, b3, b4, b5, b6, b7, b8, b9, cB, cC, cD, cE, cF, cG, cH, cI, cJ, cK, cL, cM, cN, cO, cP, cQ, cR, cS, cT, cU, cV, cW, cX, cY, cZ, c2, c4, c8, dA, dB, dC, dD, dE, dF, dG, dH, dI, dJ, dK, dL, dM, dN, dO, dP, dQ, dR, dS, dT, dU, dV, dW, dX, dY, dZ, d2, d3, d4, d5, d6, d7, d8, d9, eA, eB, eC, eD, eE, eF, eG, eH, eI, eJ, eK, eL, eM, eN, eO, eP, eQ, eR, eS, eT, eU, eV, eW, eX, eY, eZ, e0, e1, e2, e3, e4, e5, e6, e7, e8, e9, fA, fB, fC, fD, fE, fF, fG, fH, fI, fJ, fK, fL, fM, fN, fO, fP, fQ, fR, fS, fT, fU, fV, fW, fX, fY, fZ, f0, f1, f2, f3, f4, f5, f6, f7, f8, f9, gA, gB, gC, gD, gE, gF, gG, gH, gI, gJ, gK, gL, gM, gN, gO, gP, gQ, gR, gS, gT, gU, gV, gW, gX, gY, gZ, g0, g1, g2, g3, g4, g5, g6, g7, g8, g9, hC, hD, hE, hF, hG, hH, hI, hJ, hL, hM, hO, hP, hQ, hR, hT, hU, hV, hW, hX, hY, hZ, h0, h1, h2, h3, h4], []⟩ W') :
    Code.wp Tryd.prog (stm 3 (Tryd.f34.body.getD .skip)) (Exit.then K Q) ⟨#[c0, c1, .slice B bl cb, c3, .pointer (some ⟨b, 0, none⟩), c5, c6, c7, .pointer (some ⟨b + 1, 0, none⟩), c9, h5, aA, aB, aC, aD, aE, aF, aG, aH, aI, aJ, aK, aL, aM, aN, aO, aP, aQ, aR, aS, aT, h6, h7, h8, h9, iA, iB, iC, iD, iE, iF, iG, iH, iI, iJ, iK, iL, iM, iN, iO, iP, iQ, iR, iS, iT, iU, iV, iW, aU, aV, aW, aX, aY, aZ, a0, a1, a2, a3, a4, a5, a6, a7, a8, a9, bA, bB, bC, bD, bE, bF, bG, bH, bI, bJ, bK, bL, bM, bN, bO, bP, bQ, bR, bS, bT, bU, bV, bW, bX, bY, bZ, b0, b1, b2, b3, b4, b5, b6, b7, b8, b9, cB, cC, cD, cE, cF, cG, cH, cI, cJ, cK, cL, cM, cN, cO, cP, cQ, cR, cS, cT, cU, cV, cW, cX, cY, cZ, c2, c4, c8, dA, dB, dC, dD, dE, dF, dG, dH, dI, dJ, dK, dL, dM, dN, dO, dP, dQ, dR, dS, dT, dU, dV, dW, dX, dY, dZ, d2, d3, d4, d5, d6, d7, d8, d9, eA, eB, eC, eD, eE, eF, eG, eH, eI, eJ, eK, eL, eM, eN, eO, eP, eQ, eR, eS, eT, eU, eV, eW, eX, eY, eZ, e0, e1, e2, e3, e4, e5, e6, e7, e8, e9, fA, fB, fC, fD, fE, fF, fG, fH, fI, fJ, fK, fL, fM, fN, fO, fP, fQ, fR, fS, fT, fU, fV, fW, fX, fY, fZ, f0, f1, f2, f3, f4, f5, f6, f7, f8, f9, gA, gB, gC, gD, gE, gF, gG, gH, gI, gJ, gK, gL, gM, gN, gO, gP, gQ, gR, gS, gT, gU, gV, gW, gX, gY, gZ, g0, g1, g2, g3, g4, g5, g6, g7, g8, g9, hC, hD, hE, hF, hG, hH, hI, hJ, hL, hM, hO, hP, hQ, hR, hT, hU, hV, hW, hX, hY, hZ, h0, h1, h2, h3, h4], []⟩ W := by
  have HK : Hid _ := hK
  clear hK
  conv => arg 2; whnf
  obtain ⟨rv, mv, ov, ha⟩ := h.at_
  obtain ⟨⟨z0, z1, z2, z3, z4, z5, z6, z7, z8, z9, z10, z11⟩, zf, zl⟩ := twelve_cells ha.box
  have d0 : ¬ (0 < (bl : Int)) := by omega
  have HE : Hid (StpI KK w W lo b (m.taken blk)) := h.same (by simp [Mach.taken, hl])
  clear h ha hbl hl
  go_wp2_with fail
  exact HK.out _ _ _ _ _ _ _ _ _ _ _ _ _ _ _ _ _ _ _ _ _ _ _ _ _ _ _ _ _ HE.out


set_option maxRecDepth 100000 in
set_option maxHeartbeats 4000000 in
theorem seg3_not (c0 c1 c3 c5 c6 c7 c9 h5 aA aB aC aD aE aF aG aH aI aJ aK aL aM aN aO aP aQ aR aS aT h6 h7 h8 h9 iA iB iC iD iE iF iG iH iI iJ iK iL iM iN iO iP iQ iR iS iT iU iV iW aU aV aW aX aY aZ a0 a1 a2 a3 a4 a5 a6 a7 a8 a9 bA bB bC bD bE bF bG bH bI bJ bK bL bM bN bO bP bQ bR bS bT bU bV bW bX bY bZ b0 b1 b2 b3 b4 b5 b6 b7 b8 b9 cB cC cD cE cF cG cH cI cJ cK cL cM cN cO cP cQ cR cS cT cU cV cW cX cY cZ c2 c4 c8 dA dB dC dD dE dF dG dH dI dJ dK dL dM dN dO dP dQ dR dS dT dU dV dW dX dY dZ d2 d3 d4 d5 d6 d7 d8 d9 eA eB eC eD eE eF eG eH eI eJ eK eL eM eN eO eP eQ eR eS eT eU eV eW eX eY eZ e0 e1 e2 e3 e4 e5 e6 e7 e8 e9 fA fB fC fD fE fF fG fH fI fJ fK fL fM fN fO fP fQ fR fS fT fU fV fW fX fY fZ f0 f1 f2 f3 f4 f5 f6 f7 f8 f9 gA gB gC gD gE gF gG gH gI gJ gK gL gM gN gO gP gQ gR gS gT gU gV gW gX gY gZ g0 g1 g2 g3 g4 g5 g6 g7 g8 g9 hC hD hE hF hG hH hI hJ hL hM hO hP hQ hR hT hU hV hW hX hY hZ h0 h1 h2 h3 h4 : Value) (m : Mach) (B : Option Addr) (bl cb : Nat) (blk : List Int) (w W : World) (lo b : Nat) (K : Act → World → Prop) (Q : Exit → Act → World → Prop)
    (h : StpI KK w W lo b m) (hl : 0 < bl) (hw : m.want < 0)
    (hK : ∀ (iX iY iZ i0 i1 i2 i3 i4 i5 i6 i7 i8 i9 jA jB jC jD jE jF jG jH jI jJ jK jL jM jN jO : Value) (W' : World), StpI KK w W' lo b (m.taken blk) → K ⟨#[c0, c1, .slice B bl cb, c3, .pointer (some ⟨b, 0, none⟩), c5, c6, c7, .pointer (some ⟨b + 1, 0, none⟩), c9, iX, aA, aB, aC, aD, aE, aF, aG, aH, aI, aJ, aK, aL, aM, aN, aO, aP, aQ, aR, aS, aT, iY, iZ, i0, i1, i2, i3, i4, i5, i6, i7, i8, i9, jA, jB, jC, jD, jE, jF, jG, jH, jI, jJ, jK, jL, jM, jN, jO, aU, aV, aW, aX, aY, aZ, a0, a1, a2, a3, a4, a5, a6, a7, a8, a9, bA, bB, bC, bD, bE, bF, bG, bH, bI, bJ, bK, bL, bM, bN, bO, bP, bQ, bR, bS, bT, bU, bV, bW, bX, bY, bZ, b0, b1, b2, b3, b4, b5, b6, b7, b8, b9, cB, cC, cD, cE, cF, cG, cH, cI, cJ, cK, cL, cM, cN, cO, cP, cQ, cR, cS, cT, cU, cV, cW, cX, cY, cZ, c2, c4, c8, dA, dB, dC, dD, dE, dF, dG, dH, dI, dJ, dK, dL, dM, dN, dO, dP, dQ, dR, dS, dT, dU, dV, dW, dX, dY, dZ, d2, d3, d4, d5, d6, d7, d8, d9, eA, eB, eC, eD, eE, eF, eG, eH, eI, eJ, eK, eL, eM, eN, eO, eP, eQ, eR, eS, eT, eU, eV, eW, eX, eY, eZ, e0, e1, e2, e3, e4, e5, e6, e7, e8, e9, fA, fB, fC, fD, fE, fF, fG, fH, fI, fJ, fK, fL, fM, fN, fO, fP, fQ, fR, fS, fT, fU, fV, fW, fX, fY, fZ, f0, f1, f2, f3, f4, f5, f6, f7, f8, f9, gA, gB, gC, gD, gE, gF, gG, gH, gI, gJ, gK, gL, gM, gN, gO, gP, gQ, gR, gS, gT, gU, gV, gW, gX, gY, gZ, g0, g1, g2, g3, g4, g5, g6, g7, g8, g9, hC, hD, hE, hF, hG, hH, hI, hJ, hL, hM, hO, hP, hQ, hR, hT, hU, hV, hW, hX, hY, hZ, h0, h1, h2, h3, h4], []⟩ W') :
    Code.wp Tryd.prog (stm 3 (Tryd.f34.body.getD .skip)) (Exit.then K Q) ⟨#[c0, c1, .slice B bl cb, c3, .pointer (some ⟨b, 0, none⟩), c5, c6, c7, .pointer (some ⟨b + 1, 0, none⟩), c9, h5, aA, aB, aC, aD, aE, aF, aG, aH, aI, aJ, aK, aL, aM, aN, aO, aP, aQ, aR, aS, aT, h6, h7, h8, h9, iA, iB, iC, iD, iE, iF, iG, iH, iI, iJ, iK, iL, iM, iN, iO, iP, iQ, iR, iS, iT, iU, iV, iW, aU, aV, aW, aX, aY, aZ, a0, a1, a2, a3, a4, a5, a6, a7, a8, a9, bA, bB, bC, bD, bE, bF, bG, bH, bI, bJ, bK, bL, bM, bN, bO, bP, bQ, bR, bS, bT, bU, bV, bW, bX, bY, bZ, b0, b1, b2, b3, b4, b5, b6, b7, b8, b9, cB, cC, cD, cE, cF, cG, cH, cI, cJ, cK, cL, cM, cN, cO, cP, cQ, cR, cS, cT, cU, cV, cW, cX, cY, cZ, c2, c4, c8, dA, dB, dC, dD, dE, dF, dG, dH, dI, dJ, dK, dL, dM, dN, dO, dP, dQ, dR, dS, dT, dU, dV, dW, dX, dY, dZ, d2, d3, d4, d5, d6, d7, d8, d9, eA, eB, eC, eD, eE, eF, eG, eH, eI, eJ, eK, eL, eM, eN, eO, eP, eQ, eR, eS, eT, eU, eV, eW, eX, eY, eZ, e0, e1, e2, e3, e4, e5, e6, e7, e8, e9, fA, fB, fC, fD, fE, fF, fG, fH, fI, fJ, fK, fL, fM, fN, fO, fP, fQ, fR, fS, fT, fU, fV, fW, fX, fY, fZ, f0, f1, f2, f3, f4, f5, f6, f7, f8, f9, gA, gB, gC, gD, gE, gF, gG, gH, gI, gJ, gK, gL, gM, gN, gO, gP, gQ, gR, gS, gT, gU, gV, gW, gX, gY, gZ, g0, g1, g2, g3, g4, g5, g6, g7, g8, g9, hC, hD, hE, hF, hG, hH, hI, hJ, hL, hM, hO, hP, hQ, hR, hT, hU, hV, hW, hX, hY, hZ, h0, h1, h2, h3, h4], []⟩ W := by
  have HK : Hid _ := hK
  clear hK
  conv => arg 2; whnf
  obtain ⟨rv, mv, ov, ha⟩ := h.at_
  obtain ⟨⟨z0, z1, z2, z3, z4, z5, z6, z7, z8, z9, z10, z11⟩, zf, zl⟩ := twelve_cells ha.box
  have d0 : 0 < (bl : Int) := by omega
  have d1 : ¬ 0 ≤ m.want := by omega
  have HE : Hid (StpI KK w W lo b (m.taken blk)) := h.same (by simp only [Mach.taken]; rw [if_neg (fun e => by omega)])
  clear h ha hl
  go_wp2_with fail
  exact HK.out _ _ _ _ _ _ _ _ _ _ _ _ _ _ _ _ _ _ _ _ _ _ _ _ _ _ _ _ _ HE.out


set_option maxRecDepth 100000 in
set_option maxHeartbeats 4000000 in
theorem seg3_yes (c0 c1 c3 c5 c6 c7 c9 h5 aA aB aC aD aE aF aG aH aI aJ aK aL aM aN aO aP aQ aR aS aT h6 h7 h8 h9 iA iB iC iD iE iF iG iH iI iJ iK iL iM iN iO iP iQ iR iS iT iU iV iW aU aV aW aX aY aZ a0 a1 a2 a3 a4 a5 a6 a7 a8 a9 bA bB bC bD bE bF bG bH bI bJ bK bL bM bN bO bP bQ bR bS bT bU bV bW bX bY bZ b0 b1 b2 b3 b4 b5 b6 b7 b8 b9 cB cC cD cE cF cG cH cI cJ cK cL cM cN cO cP cQ cR cS cT cU cV cW cX cY cZ c2 c4 c8 dA dB dC dD dE dF dG dH dI dJ dK dL dM dN dO dP dQ dR dS dT dU dV dW dX dY dZ d2 d3 d4 d5 d6 d7 d8 d9 eA eB eC eD eE eF eG eH eI eJ eK eL eM eN eO eP eQ eR eS eT eU eV eW eX eY eZ e0 e1 e2 e3 e4 e5 e6 e7 e8 e9 fA fB fC fD fE fF fG fH fI fJ fK fL fM fN fO fP fQ fR fS fT fU fV fW fX fY fZ f0 f1 f2 f3 f4 f5 f6 f7 f8 f9 gA gB gC gD gE gF gG gH gI gJ gK gL gM gN gO gP gQ gR gS gT gU gV gW gX gY gZ g0 g1 g2 g3 g4 g5 g6 g7 g8 g9 hC hD hE hF hG hH hI hJ hL hM hO hP hQ hR hT hU hV hW hX hY hZ h0 h1 h2 h3 h4 : Value) (m : Mach) (B : Option Addr) (bl cb : Nat) (blk : List Int) (w W : World) (lo b : Nat) (K : Act → World → Prop) (Q : Exit → Act → World → Prop)
    (h : StpI KK w W lo b m) (hbl : bl = blk.length) (hl : blk.length = 16) (hm : m.mem.length = 256) (hw : 0 ≤ m.want ∧ m.want ≤ 15) (hb : IntsK KK lo w (.slice B blk.length cb) blk)
    (hK : ∀ (iX iY iZ i0 i1 i2 i3 i4 i5 i6 i7 i8 i9 jA jB jC jD jE jF jG jH jI jJ jK jL jM jN jO : Value) (W' : World), StpI KK w W' lo b (m.taken blk) → K ⟨#[c0, c1, .slice B bl cb, c3, .pointer (some ⟨b, 0, none⟩), c5, c6, c7, .pointer (some ⟨b + 1, 0, none⟩), c9, iX, aA, aB, aC, aD, aE, aF, aG, aH, aI, aJ, aK, aL, aM, aN, aO, aP, aQ, aR, aS, aT, iY, iZ, i0, i1, i2, i3, i4, i5, i6, i7, i8, i9, jA, jB, jC, jD, jE, jF, jG, jH, jI, jJ, jK, jL, jM, jN, jO, aU, aV, aW, aX, aY, aZ, a0, a1, a2, a3, a4, a5, a6, a7, a8, a9, bA, bB, bC, bD, bE, bF, bG, bH, bI, bJ, bK, bL, bM, bN, bO, bP, bQ, bR, bS, bT, bU, bV, bW, bX, bY, bZ, b0, b1, b2, b3, b4, b5, b6, b7, b8, b9, cB, cC, cD, cE, cF, cG, cH, cI, cJ, cK, cL, cM, cN, cO, cP, cQ, cR, cS, cT, cU, cV, cW, cX, cY, cZ, c2, c4, c8, dA, dB, dC, dD, dE, dF, dG, dH, dI, dJ, dK, dL, dM, dN, dO, dP, dQ, dR, dS, dT, dU, dV, dW, dX, dY, dZ, d2, d3, d4, d5, d6, d7, d8, d9, eA, eB, eC, eD, eE, eF, eG, eH, eI, eJ, eK, eL, eM, eN, eO, eP, eQ, eR, eS, eT, eU, eV, eW, eX, eY, eZ, e0, e1, e2, e3, e4, e5, e6, e7, e8, e9, fA, fB, fC, fD, fE, fF, fG, fH, fI, fJ, fK, fL, fM, fN, fO, fP, fQ, fR, fS, fT, fU, fV, fW, fX, fY, fZ, f0, f1, f2, f3, f4, f5, f6, f7, f8, f9, gA, gB, gC, gD, gE, gF, gG, gH, gI, gJ, gK, gL, gM, gN, gO, gP, gQ, gR, gS, gT, gU, gV, gW, gX, gY, gZ, g0, g1, g2, g3, g4, g5, g6, g7, g8, g9, hC, hD, hE, hF, hG, hH, hI, hJ, hL, hM, hO, hP, hQ, hR, hT, hU, hV, hW, hX, hY, hZ, h0, h1, h2, h3, h4], []⟩ W') :
    Code.wp Tryd.prog (stm 3 (Tryd.f34.body.getD .skip)) (Exit.then K Q) ⟨#[c0, c1, .slice B bl cb, c3, .pointer (some ⟨b, 0, none⟩), c5, c6, c7, .pointer (some ⟨b + 1, 0, none⟩), c9, h5, aA, aB, aC, aD, aE, aF, aG, aH, aI, aJ, aK, aL, aM, aN, aO, aP, aQ, aR, aS, aT, h6, h7, h8, h9, iA, iB, iC, iD, iE, iF, iG, iH, iI, iJ, iK, iL, iM, iN, iO, iP, iQ, iR, iS, iT, iU, iV, iW, aU, aV, aW, aX, aY, aZ, a0, a1, a2, a3, a4, a5, a6, a7, a8, a9, bA, bB, bC, bD, bE, bF, bG, bH, bI, bJ, bK, bL, bM, bN, bO, bP, bQ, bR, bS, bT, bU, bV, bW, bX, bY, bZ, b0, b1, b2, b3, b4, b5, b6, b7, b8, b9, cB, cC, cD, cE, cF, cG, cH, cI, cJ, cK, cL, cM, cN, cO, cP, cQ, cR, cS, cT, cU, cV, cW, cX, cY, cZ, c2, c4, c8, dA, dB, dC, dD, dE, dF, dG, dH, dI, dJ, dK, dL, dM, dN, dO, dP, dQ, dR, dS, dT, dU, dV, dW, dX, dY, dZ, d2, d3, d4, d5, d6, d7, d8, d9, eA, eB, eC, eD, eE, eF, eG, eH, eI, eJ, eK, eL, eM, eN, eO, eP, eQ, eR, eS, eT, eU, eV, eW, eX, eY, eZ, e0, e1, e2, e3, e4, e5, e6, e7, e8, e9, fA, fB, fC, fD, fE, fF, fG, fH, fI, fJ, fK, fL, fM, fN, fO, fP, fQ, fR, fS, fT, fU, fV, fW, fX, fY, fZ, f0, f1, f2, f3, f4, f5, f6, f7, f8, f9, gA, gB, gC, gD, gE, gF, gG, gH, gI, gJ, gK, gL, gM, gN, gO, gP, gQ, gR, gS, gT, gU, gV, gW, gX, gY, gZ, g0, g1, g2, g3, g4, g5, g6, g7, g8, g9, hC, hD, hE, hF, hG, hH, hI, hJ, hL, hM, hO, hP, hQ, hR, hT, hU, hV, hW, hX, hY, hZ, h0, h1, h2, h3, h4], []⟩ W := by
  have HK : Hid _ := hK
  clear hK
  conv => arg 2; whnf
  obtain ⟨rv, mv, ov, ha⟩ := h.at_
  obtain ⟨g, c, rfl, hg, hmem, hfz⟩ := ha.mem_at hm
  obtain ⟨A, cA, hA, -, hAc⟩ := hb
  simp only [Value.slice.injEq, true_and] at hA
  obtain ⟨rfl, rfl⟩ := hA
  obtain ⟨bb, off, rfl, hbb, hbc⟩ := hAc (by omega)
  obtain ⟨q, hq⟩ := Int.eq_ofNat_of_zero_le hw.1
  have hq15 : q ≤ 15 := by omega
  have HB : Hid (∀ wr k, Below lo w wr → KeptK KK w wr → k < 16 → wr.cell? ⟨bb, off + k, none⟩ = some (.int .i64 (blk.getD k 0))) := fun wr k hB hKK hk => (keptK_cell hB hKK hbb.1 hbb.2 (off + k)).trans (hbc k (by omega))
  have HT : Hid (m.taken blk = { m with mem := putWords m.mem (16 * q) blk 16, want := -1, ready := 1, wait := true }) := by
    show _ = _
    unfold Mach.taken
    rw [if_pos ⟨by omega, hw.1⟩, hq]
    congr 2
  have H0 : Hid (StpI KK w W lo b m ∧ AtP W lo b rv (.slice (some ⟨g, 0, none⟩) m.mem.length c) ov m) := ⟨h, ha⟩
  obtain ⟨⟨z0, z1, z2, z3, z4, z5, z6, z7, z8, z9, z10, z11⟩, zf, zl⟩ := twelve_cells ha.box
  have HM : Hid (m.mem.length = 256) := hm
  have HW : Hid (m.want = (q : Int)) := hq
  rw [hq] at z11
  have d0 : 0 < (bl : Int) := by omega
  have hb16 : ((bl : Nat) : Int) = 16 := by omega
  clear h ha hmem hfz hAc hbc hw hm hbl hl hq
  rw [HT.out] at HK
  go_wp2_with fail
  go_loopw [10] (fun i wr => ∃ k : Nat, k ≤ 16 ∧ i = .int .i64 (k : Int) ∧ StpI KK w wr lo b { m with mem := putWords m.mem (16 * q) blk k } ∧ AtP wr lo b rv (.slice (some ⟨g, 0, none⟩) m.mem.length c) ov { m with mem := putWords m.mem (16 * q) blk k }) (fun i _ => 16 - (intOf i).toNat)
  case atStart => exact ⟨0, by omega, rfl, by simpa [putWords] using H0.out.1, by simpa [putWords] using H0.out.2⟩
  case round =>
    obtain ⟨k, hk, rfl, hS, hA⟩ := hrel
    clear z0 z1 z2 z3 z4 z5 z6 z7 z8 z9 z10 z11 zf zl
    obtain ⟨⟨z0, z1, z2, z3, z4, z5, z6, z7, z8, z9, z10, z11⟩, zf, zl⟩ := twelve_cells hA.box
    have HS : Hid (StpI KK w wr lo b { m with mem := putWords m.mem (16 * q) blk k }) := hS
    have HA : Hid (AtP wr lo b rv (.slice (some ⟨g, 0, none⟩) m.mem.length c) ov { m with mem := putWords m.mem (16 * q) blk k }) := hA
    rw [HW.out] at z11
    by_cases hlt : k < 16
    · have hcl := HB.out wr k hS.old hS.box hlt
      obtain ⟨m1, m2, m3⟩ := hA.mem_cell (by show (putWords _ _ _ _).length = 256; rw [putWords_len]; exact HM.out) (k := ((16 * q + k : Nat) : Int)) (by omega) (by omega)
      rw [Int.toNat_natCast] at m1
      have hl1 : (k : Int) < 16 := by omega
      have hl2 : (k : Int) < (bl : Int) := by omega
      have hl3 : 16 * (q : Int) + (k : Int) < (m.mem.length : Int) := by have := HM.out; omega
      have hl4 : 0 ≤ 16 * (q : Int) + (k : Int) := by omega
      have hl5 : (16 * (q : Int) + (k : Int)).toNat = 16 * q + k := by omega
      have hw1 : IntKind.i64.wrap (16 * (q : Int)) = 16 * (q : Int) := IntWalk.i64_in _ (by omega)
      have hw2 : IntKind.i64.wrap (16 * (q : Int) + (k : Int)) = 16 * (q : Int) + (k : Int) := IntWalk.i64_in _ (by omega)
      have hw3 : IntKind.i64.wrap ((k : Int) + 1) = (k : Int) + 1 := IntWalk.i64_in _ (by omega)
      clear hS hA hb16
      go_wp2_with fail
      go_still_tail 12, (by kernel_rfl)
      go_wp2_with fail
      have hN := (HS.out.mem HA.out (16 * q + k) (blk.getD k 0)).below ((Below.refl _ _).drew)
      have hNA := (HA.out.putMem (16 * q + k) (blk.getD k 0)).1.drew
      refine ⟨⟨k + 1, by omega, by go_num, by simpa [putWords] using hN, by simpa [putWords] using hNA⟩, ?_⟩
      simp [intOf]; omega
    · have e : k = 16 := by omega
      subst e
      have HP : Hid (StpI KK w (((wr.setCell ⟨b, 11, none⟩ (.int .i64 (-1))).setCell ⟨b, 10, none⟩ (.int .i64 1)).setCell ⟨b, 4, none⟩ (.bool true)) lo b { m with mem := putWords m.mem (16 * q) blk 16, want := -1, ready := 1, wait := true }) := ((hS.put (hA.setWant (-1)).1).put ((hA.setWant (-1)).1.setReady 1).1).put (((hA.setWant (-1)).1.setReady 1).1.setWait true).1
      clear hS hA HS HA
      go_wp2_with fail
      exact HK.out _ _ _ _ _ _ _ _ _ _ _ _ _ _ _ _ _ _ _ _ _ _ _ _ _ _ _ _ _ HP.out


end Go.Proofs.YtbjlfhpiebokkaaDoor
