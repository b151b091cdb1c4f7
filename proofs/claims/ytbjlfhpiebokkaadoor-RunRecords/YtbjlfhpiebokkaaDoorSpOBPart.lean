/- hourglassref.stepped: what the instructions do. (Written by tools/gen_sp.py.) -/
import Derived.Test.YtbjlfhpiebokkaaDoorSpCPart
namespace Go.Proofs.YtbjlfhpiebokkaaDoor
open Go.RowKit
variable {KK : Nat → Prop}

set_option maxRecDepth 100000 in
set_option maxHeartbeats 4000000 in
theorem op2 (c0 c1 c2 c5 c6 c7 c9 aa ac ds dt du dv ad ae af ag ah ai aj ak al am an ao ap aq ar au av aw ax ay az bb bc bd be bf bg bh bi bj bl bm bo bp bq br bs bt bu bv bw bx bz ca cb cc cd ce cf cg ch ci cj ck cl cm cn co cp cq cr cs ct cu cv cw cx cy cz da db dc dd de df dg dh di dw dx dy dz ea eb ec ed ee ef eg eh ei ej ek el em en eo ep er es et eu ev ew ex ey ez fa fb fc fd fe ff fg fh fi fj fk fl fm fn fo fp fq fr fs ft fu fv fw fx fy fz ga gc gd gf gg gh gi gj gk gl gm gn gp gq gr gs gu gv gw gx gy gz hb hc hd he hh hj hk hl hn ho hp hr hs ht hu hv hw hx hy hz ia ic ie ig ih ii ij ik il im io ip iq ir it iu iv iw ix iy iz ja jb jc jd je jf jg jh ji jj jk jl jm jn jo jp jq jr js jt ju jv jw jx jy jz ka kc kd ke kf kg kh ki kj kk kl km kn ko kp kq kr ks kt ku kv kw kx ky kz la lb lc ld lf lg lh li lj lk ll lm ln lp lq lr ls lu lv lw lx ly lz ma mb mc md me mf mg dj dk dl dm dn dp dq dr : Value) (m : Mach) (ib : Nat) (a k n value : Int) (R : Mach × Int) (w W : World) (lo b : Nat) (K : Act → World → Prop) (Q : Exit → Act → World → Prop)
    (h : StpI KK w W lo b m) (hm : MayP m) (hf : m.fin = 0) (hi : W.heap[ib]? = some (.cells #[.int .i64 2, .int .i64 a, .int .i64 k, .int .i64 n] 83 (0, 0))) (ba : 0 ≤ a ∧ a ≤ 7) (bk : 0 ≤ k ∧ k ≤ 7) (bn : -1048576 ≤ n ∧ n ≤ 1048575) (hR : R = m.exec 2 a k n value) (hnr : 0 ≤ n ∧ n ≤ 7)
    (hK : ∀ (mh mi mj mk ml mm mn mo mp mq mr ms mt mu mw mx my mz na nc nd nf ng nh ni nj nk nl nm nn no np nq nr ns nt nu nv nw ny nz oa ob oc od oe og oh oi oj ok ol om oo op oq os ot ou ow ox oy oz pa pb pc pd pe pf pg ph pi pj pk pl pm pn po pp pq pr ps pt pu pv pw px py pz qa qb qc qd qe qf qg qh qi qj qk ql qm qn qo qp qq qr qs qt qu qv qw qx qy qz ra rb rc rd re rf rg rh ri rj rk rl rm rn ro rp rq rr rs rt ru rx ry rz sa sb sc sd se sf sg sh si sj sk sl sm sn so sp sq sr ss st su sv sw sx sy sz ta tb tc td te tf tg th ti tj tk tl tm tn to tp tq tr ts tt tu tv tw tx ty tz ua ub uc ud ue uf ug uh ui uj uk ul um un : Value) (M' : Mach) (nx wr : Int) (W' : World), StpI KK w W' lo b M' → (-4398046511104 ≤ nx ∧ nx ≤ 4398046511104) → R = (if M'.fin = 0 then M'.go nx else M', wr) → K ⟨#[c0, c1, c2, .int .i64 value, .pointer (some ⟨b, 0, none⟩), c5, c6, c7, .pointer (some ⟨b + 1, 0, none⟩), c9, aa, .pointer (some ⟨ib, 0, none⟩), ac, .int .i64 nx, .int .i64 wr, mh, mi, mj, mk, ml, mm, ad, ae, af, ag, ah, ai, aj, ak, al, am, an, ao, ap, aq, ar, au, av, aw, ax, ay, az, bb, bc, bd, be, bf, bg, bh, bi, bj, bl, bm, bo, bp, bq, br, bs, bt, bu, bv, bw, bx, bz, ca, cb, cc, cd, ce, cf, cg, ch, ci, cj, ck, cl, cm, cn, co, cp, cq, cr, cs, ct, cu, cv, cw, cx, cy, cz, da, db, dc, dd, de, df, dg, dh, di, mn, mo, mp, mq, mr, ms, mt, mu, mw, mx, my, mz, na, nc, nd, nf, ng, nh, ni, nj, nk, nl, nm, nn, no, np, nq, nr, ns, nt, nu, nv, nw, ny, nz, oa, ob, oc, od, oe, og, oh, oi, oj, ok, ol, om, oo, op, oq, os, ot, ou, ow, ox, oy, oz, pa, pb, pc, pd, pe, pf, pg, ph, pi, pj, pk, pl, pm, pn, po, pp, pq, pr, ps, pt, pu, pv, pw, px, py, pz, qa, qb, qc, qd, qe, qf, qg, qh, qi, qj, qk, ql, qm, qn, qo, qp, qq, qr, qs, qt, qu, qv, qw, qx, qy, qz, ra, rb, rc, rd, re, rf, rg, rh, ri, rj, rk, rl, rm, rn, ro, rp, rq, rr, rs, rt, ru, rx, ry, rz, sa, sb, sc, sd, se, sf, sg, sh, si, sj, sk, sl, sm, sn, so, sp, sq, sr, ss, st, su, sv, sw, sx, sy, sz, ta, tb, tc, td, te, tf, tg, th, ti, tj, tk, tl, tm, tn, to, tp, tq, tr, ts, tt, tu, tv, tw, tx, ty, tz, ua, ub, uc, ud, ue, uf, ug, uh, ui, uj, uk, ul, um, un, dj, dk, dl, dm, dn, dp, dq, dr], []⟩ W') :
    Code.wp Tryd.prog (stm 12 (Tryd.f34.body.getD .skip)) (Exit.then K Q) ⟨#[c0, c1, c2, .int .i64 value, .pointer (some ⟨b, 0, none⟩), c5, c6, c7, .pointer (some ⟨b + 1, 0, none⟩), c9, aa, .pointer (some ⟨ib, 0, none⟩), ac, .int .i64 (m.pc + 1), .int .i64 (-1), .int .i64 (m.reg a), .int .i64 (m.reg k), ds, dt, du, dv, ad, ae, af, ag, ah, ai, aj, ak, al, am, an, ao, ap, aq, ar, au, av, aw, ax, ay, az, bb, bc, bd, be, bf, bg, bh, bi, bj, bl, bm, bo, bp, bq, br, bs, bt, bu, bv, bw, bx, bz, ca, cb, cc, cd, ce, cf, cg, ch, ci, cj, ck, cl, cm, cn, co, cp, cq, cr, cs, ct, cu, cv, cw, cx, cy, cz, da, db, dc, dd, de, df, dg, dh, di, dw, dx, dy, dz, ea, eb, ec, ed, ee, ef, eg, eh, ei, ej, ek, el, em, en, eo, ep, er, es, et, eu, ev, ew, ex, ey, ez, fa, fb, fc, fd, fe, ff, fg, fh, fi, fj, fk, fl, fm, fn, fo, fp, fq, fr, fs, ft, fu, fv, fw, fx, fy, fz, ga, gc, gd, gf, gg, gh, gi, gj, gk, gl, gm, gn, gp, gq, gr, gs, gu, gv, gw, gx, gy, gz, hb, hc, hd, he, hh, hj, hk, hl, hn, ho, hp, hr, hs, ht, hu, hv, hw, hx, hy, hz, ia, ic, ie, ig, ih, ii, ij, ik, il, im, io, ip, iq, ir, it, iu, iv, iw, ix, iy, iz, ja, jb, jc, jd, je, jf, jg, jh, ji, jj, jk, jl, jm, jn, jo, jp, jq, jr, js, jt, ju, jv, jw, jx, jy, jz, ka, kc, kd, ke, kf, kg, kh, ki, kj, kk, kl, km, kn, ko, kp, kq, kr, ks, kt, ku, kv, kw, kx, ky, kz, la, lb, lc, ld, lf, lg, lh, li, lj, lk, ll, lm, ln, lp, lq, lr, ls, lu, lv, lw, lx, ly, lz, ma, mb, mc, md, me, mf, mg, dj, dk, dl, dm, dn, dp, dq, dr], []⟩ W := by
  have HK : Hid _ := hK
  clear hK
  conv => arg 2; whnf
  obtain ⟨rv, mv, ov, ha⟩ := h.at_
  obtain ⟨g, c, rfl, hg, hreg, hfz⟩ := ha.regs_at hm.regs
  obtain ⟨⟨z0, z1, z2, z3, z4, z5, z6, z7, z8, z9, z10, z11⟩, zf, zl⟩ := twelve_cells ha.box
  obtain ⟨x0, x1, x2, x3, xf, xl⟩ := four_cells hi
  rw [hf] at z7
  obtain ⟨p1, p2⟩ := wordB_iff.1 hm.pc
  have gb : ¬ b = g := ha.ne_regs
  have gb2 : ¬ g = b := fun e => gb e.symm
  have HS : Hid (StpI KK w W lo b m ∧ AtP W lo b (.slice (some ⟨g, 0, none⟩) m.regs.length c) mv ov m) := ⟨h, ha⟩
  have HM : Hid (MayP m) := hm
  have HF : Hid (m.fin = 0) := hf
  have HBD : Hid ((0 ≤ a ∧ a ≤ 7) ∧ (0 ≤ k ∧ k ≤ 7) ∧ (-1048576 ≤ n ∧ n ≤ 1048575)) := ⟨ba, bk, bn⟩
  have HR : Hid (R = m.exec 2 a k n value) := hR
  obtain ⟨a0, a7⟩ := ba
  obtain ⟨k0, k7⟩ := bk
  obtain ⟨n0, n7⟩ := bn
  have ab : a < (m.regs.length : Int) := by have := hm.regs; omega
  have kb : k < (m.regs.length : Int) := by have := hm.regs; omega
  have hq := hreg a a0 a7
  obtain ⟨u1, u2⟩ := wordB_iff.1 (reg_word hm ⟨k0, k7⟩)
  obtain ⟨v1, v2⟩ := wordB_iff.1 (reg_word hm hnr)
  obtain ⟨r0, r7⟩ := hnr
  have q2 := hreg n r0 r7
  have nb : n < (m.regs.length : Int) := by have := hm.regs; omega
  have hwr : IntKind.i64.wrap (m.reg k + m.reg n) = m.reg k + m.reg n := IntWalk.i64_in _ (by omega)
  clear h ha hreg hi hm hf hR
  go_wp2_with fail
  go_still_tail 14, (by kernel_rfl)
  still_call (FoldOf_any _ _ (by omega))
  repeat still_step
  refine wpStill_nil ?_
  go_wp2_with fail
  refine HK.out _ _ _ _ _ _ _ _ _ _ _ _ _ _ _ _ _ _ _ _ _ _ _ _ _ _ _ _ _ _ _ _ _ _ _ _ _ _ _ _ _ _ _ _ _ _ _ _ _ _ _ _ _ _ _ _ _ _ _ _ _ _ _ _ _ _ _ _ _ _ _ _ _ _ _ _ _ _ _ _ _ _ _ _ _ _ _ _ _ _ _ _ _ _ _ _ _ _ _ _ _ _ _ _ _ _ _ _ _ _ _ _ _ _ _ _ _ _ _ _ _ _ _ _ _ _ _ _ _ _ _ _ _ _ _ _ _ _ _ _ _ _ _ _ _ _ _ _ _ _ _ _ _ _ _ _ _ _ _ _ _ _ _ _ _ _ _ _ _ _ _ _ _ _ _ _ _ _ _ _ _ _ _ _ _ _ _ _ _ _ _ _ _ _ _ _ _ _ _ _ _ _ _ _ _ (m.setReg a (foldF (m.reg k + m.reg n))) (m.pc + 1) (-1) _ ?_ ⟨by omega, by omega⟩ ?_
  · exact (HS.out.1.reg HS.out.2 a.toNat _).below ((Below.refl _ _).drew)
  · rw [HR.out]
    simp [Mach.exec, Mach.setReg, HF.out]


set_option maxRecDepth 100000 in
set_option maxHeartbeats 4000000 in
theorem op3 (c0 c1 c2 c5 c6 c7 c9 aa ac ds dt du dv ad ae af ag ah ai aj ak al am an ao ap aq ar au av aw ax ay az bb bc bd be bf bg bh bi bj bl bm bo bp bq br bs bt bu bv bw bx bz ca cb cc cd ce cf cg ch ci cj ck cl cm cn co cp cq cr cs ct cu cv cw cx cy cz da db dc dd de df dg dh di dw dx dy dz ea eb ec ed ee ef eg eh ei ej ek el em en eo ep er es et eu ev ew ex ey ez fa fb fc fd fe ff fg fh fi fj fk fl fm fn fo fp fq fr fs ft fu fv fw fx fy fz ga gc gd gf gg gh gi gj gk gl gm gn gp gq gr gs gu gv gw gx gy gz hb hc hd he hh hj hk hl hn ho hp hr hs ht hu hv hw hx hy hz ia ic ie ig ih ii ij ik il im io ip iq ir it iu iv iw ix iy iz ja jb jc jd je jf jg jh ji jj jk jl jm jn jo jp jq jr js jt ju jv jw jx jy jz ka kc kd ke kf kg kh ki kj kk kl km kn ko kp kq kr ks kt ku kv kw kx ky kz la lb lc ld lf lg lh li lj lk ll lm ln lp lq lr ls lu lv lw lx ly lz ma mb mc md me mf mg dj dk dl dm dn dp dq dr : Value) (m : Mach) (ib : Nat) (a k n value : Int) (R : Mach × Int) (w W : World) (lo b : Nat) (K : Act → World → Prop) (Q : Exit → Act → World → Prop)
    (h : StpI KK w W lo b m) (hm : MayP m) (hf : m.fin = 0) (hi : W.heap[ib]? = some (.cells #[.int .i64 3, .int .i64 a, .int .i64 k, .int .i64 n] 83 (0, 0))) (ba : 0 ≤ a ∧ a ≤ 7) (bk : 0 ≤ k ∧ k ≤ 7) (bn : -1048576 ≤ n ∧ n ≤ 1048575) (hR : R = m.exec 3 a k n value) (hnr : 0 ≤ n ∧ n ≤ 7)
    (hK : ∀ (mh mi mj mk ml mm mn mo mp mq mr ms mt mu mw mx my mz na nc nd nf ng nh ni nj nk nl nm nn no np nq nr ns nt nu nv nw ny nz oa ob oc od oe og oh oi oj ok ol om oo op oq os ot ou ow ox oy oz pa pb pc pd pe pf pg ph pi pj pk pl pm pn po pp pq pr ps pt pu pv pw px py pz qa qb qc qd qe qf qg qh qi qj qk ql qm qn qo qp qq qr qs qt qu qv qw qx qy qz ra rb rc rd re rf rg rh ri rj rk rl rm rn ro rp rq rr rs rt ru rx ry rz sa sb sc sd se sf sg sh si sj sk sl sm sn so sp sq sr ss st su sv sw sx sy sz ta tb tc td te tf tg th ti tj tk tl tm tn to tp tq tr ts tt tu tv tw tx ty tz ua ub uc ud ue uf ug uh ui uj uk ul um un : Value) (M' : Mach) (nx wr : Int) (W' : World), StpI KK w W' lo b M' → (-4398046511104 ≤ nx ∧ nx ≤ 4398046511104) → R = (if M'.fin = 0 then M'.go nx else M', wr) → K ⟨#[c0, c1, c2, .int .i64 value, .pointer (some ⟨b, 0, none⟩), c5, c6, c7, .pointer (some ⟨b + 1, 0, none⟩), c9, aa, .pointer (some ⟨ib, 0, none⟩), ac, .int .i64 nx, .int .i64 wr, mh, mi, mj, mk, ml, mm, ad, ae, af, ag, ah, ai, aj, ak, al, am, an, ao, ap, aq, ar, au, av, aw, ax, ay, az, bb, bc, bd, be, bf, bg, bh, bi, bj, bl, bm, bo, bp, bq, br, bs, bt, bu, bv, bw, bx, bz, ca, cb, cc, cd, ce, cf, cg, ch, ci, cj, ck, cl, cm, cn, co, cp, cq, cr, cs, ct, cu, cv, cw, cx, cy, cz, da, db, dc, dd, de, df, dg, dh, di, mn, mo, mp, mq, mr, ms, mt, mu, mw, mx, my, mz, na, nc, nd, nf, ng, nh, ni, nj, nk, nl, nm, nn, no, np, nq, nr, ns, nt, nu, nv, nw, ny, nz, oa, ob, oc, od, oe, og, oh, oi, oj, ok, ol, om, oo, op, oq, os, ot, ou, ow, ox, oy, oz, pa, pb, pc, pd, pe, pf, pg, ph, pi, pj, pk, pl, pm, pn, po, pp, pq, pr, ps, pt, pu, pv, pw, px, py, pz, qa, qb, qc, qd, qe, qf, qg, qh, qi, qj, qk, ql, qm, qn, qo, qp, qq, qr, qs, qt, qu, qv, qw, qx, qy, qz, ra, rb, rc, rd, re, rf, rg, rh, ri, rj, rk, rl, rm, rn, ro, rp, rq, rr, rs, rt, ru, rx, ry, rz, sa, sb, sc, sd, se, sf, sg, sh, si, sj, sk, sl, sm, sn, so, sp, sq, sr, ss, st, su, sv, sw, sx, sy, sz, ta, tb, tc, td, te, tf, tg, th, ti, tj, tk, tl, tm, tn, to, tp, tq, tr, ts, tt, tu, tv, tw, tx, ty, tz, ua, ub, uc, ud, ue, uf, ug, uh, ui, uj, uk, ul, um, un, dj, dk, dl, dm, dn, dp, dq, dr], []⟩ W') :
    Code.wp Tryd.prog (stm 12 (Tryd.f34.body.getD .skip)) (Exit.then K Q) ⟨#[c0, c1, c2, .int .i64 value, .pointer (some ⟨b, 0, none⟩), c5, c6, c7, .pointer (some ⟨b + 1, 0, none⟩), c9, aa, .pointer (some ⟨ib, 0, none⟩), ac, .int .i64 (m.pc + 1), .int .i64 (-1), .int .i64 (m.reg a), .int .i64 (m.reg k), ds, dt, du, dv, ad, ae, af, ag, ah, ai, aj, ak, al, am, an, ao, ap, aq, ar, au, av, aw, ax, ay, az, bb, bc, bd, be, bf, bg, bh, bi, bj, bl, bm, bo, bp, bq, br, bs, bt, bu, bv, bw, bx, bz, ca, cb, cc, cd, ce, cf, cg, ch, ci, cj, ck, cl, cm, cn, co, cp, cq, cr, cs, ct, cu, cv, cw, cx, cy, cz, da, db, dc, dd, de, df, dg, dh, di, dw, dx, dy, dz, ea, eb, ec, ed, ee, ef, eg, eh, ei, ej, ek, el, em, en, eo, ep, er, es, et, eu, ev, ew, ex, ey, ez, fa, fb, fc, fd, fe, ff, fg, fh, fi, fj, fk, fl, fm, fn, fo, fp, fq, fr, fs, ft, fu, fv, fw, fx, fy, fz, ga, gc, gd, gf, gg, gh, gi, gj, gk, gl, gm, gn, gp, gq, gr, gs, gu, gv, gw, gx, gy, gz, hb, hc, hd, he, hh, hj, hk, hl, hn, ho, hp, hr, hs, ht, hu, hv, hw, hx, hy, hz, ia, ic, ie, ig, ih, ii, ij, ik, il, im, io, ip, iq, ir, it, iu, iv, iw, ix, iy, iz, ja, jb, jc, jd, je, jf, jg, jh, ji, jj, jk, jl, jm, jn, jo, jp, jq, jr, js, jt, ju, jv, jw, jx, jy, jz, ka, kc, kd, ke, kf, kg, kh, ki, kj, kk, kl, km, kn, ko, kp, kq, kr, ks, kt, ku, kv, kw, kx, ky, kz, la, lb, lc, ld, lf, lg, lh, li, lj, lk, ll, lm, ln, lp, lq, lr, ls, lu, lv, lw, lx, ly, lz, ma, mb, mc, md, me, mf, mg, dj, dk, dl, dm, dn, dp, dq, dr], []⟩ W := by
  have HK : Hid _ := hK
  clear hK
  conv => arg 2; whnf
  obtain ⟨rv, mv, ov, ha⟩ := h.at_
  obtain ⟨g, c, rfl, hg, hreg, hfz⟩ := ha.regs_at hm.regs
  obtain ⟨⟨z0, z1, z2, z3, z4, z5, z6, z7, z8, z9, z10, z11⟩, zf, zl⟩ := twelve_cells ha.box
  obtain ⟨x0, x1, x2, x3, xf, xl⟩ := four_cells hi
  rw [hf] at z7
  obtain ⟨p1, p2⟩ := wordB_iff.1 hm.pc
  have gb : ¬ b = g := ha.ne_regs
  have gb2 : ¬ g = b := fun e => gb e.symm
  have HS : Hid (StpI KK w W lo b m ∧ AtP W lo b (.slice (some ⟨g, 0, none⟩) m.regs.length c) mv ov m) := ⟨h, ha⟩
  have HM : Hid (MayP m) := hm
  have HF : Hid (m.fin = 0) := hf
  have HBD : Hid ((0 ≤ a ∧ a ≤ 7) ∧ (0 ≤ k ∧ k ≤ 7) ∧ (-1048576 ≤ n ∧ n ≤ 1048575)) := ⟨ba, bk, bn⟩
  have HR : Hid (R = m.exec 3 a k n value) := hR
  obtain ⟨a0, a7⟩ := ba
  obtain ⟨k0, k7⟩ := bk
  obtain ⟨n0, n7⟩ := bn
  have ab : a < (m.regs.length : Int) := by have := hm.regs; omega
  have kb : k < (m.regs.length : Int) := by have := hm.regs; omega
  have hq := hreg a a0 a7
  obtain ⟨u1, u2⟩ := wordB_iff.1 (reg_word hm ⟨k0, k7⟩)
  obtain ⟨v1, v2⟩ := wordB_iff.1 (reg_word hm hnr)
  obtain ⟨r0, r7⟩ := hnr
  have q2 := hreg n r0 r7
  have nb : n < (m.regs.length : Int) := by have := hm.regs; omega
  have hwr : IntKind.i64.wrap (m.reg k - m.reg n) = m.reg k - m.reg n := IntWalk.i64_in _ (by omega)
  clear h ha hreg hi hm hf hR
  go_wp2_with fail
  go_still_tail 14, (by kernel_rfl)
  still_call (FoldOf_any _ _ (by omega))
  repeat still_step
  refine wpStill_nil ?_
  go_wp2_with fail
  refine HK.out _ _ _ _ _ _ _ _ _ _ _ _ _ _ _ _ _ _ _ _ _ _ _ _ _ _ _ _ _ _ _ _ _ _ _ _ _ _ _ _ _ _ _ _ _ _ _ _ _ _ _ _ _ _ _ _ _ _ _ _ _ _ _ _ _ _ _ _ _ _ _ _ _ _ _ _ _ _ _ _ _ _ _ _ _ _ _ _ _ _ _ _ _ _ _ _ _ _ _ _ _ _ _ _ _ _ _ _ _ _ _ _ _ _ _ _ _ _ _ _ _ _ _ _ _ _ _ _ _ _ _ _ _ _ _ _ _ _ _ _ _ _ _ _ _ _ _ _ _ _ _ _ _ _ _ _ _ _ _ _ _ _ _ _ _ _ _ _ _ _ _ _ _ _ _ _ _ _ _ _ _ _ _ _ _ _ _ _ _ _ _ _ _ _ _ _ _ _ _ _ _ _ _ _ _ (m.setReg a (foldF (m.reg k - m.reg n))) (m.pc + 1) (-1) _ ?_ ⟨by omega, by omega⟩ ?_
  · exact (HS.out.1.reg HS.out.2 a.toNat _).below ((Below.refl _ _).drew)
  · rw [HR.out]
    simp [Mach.exec, Mach.setReg, HF.out]


set_option maxRecDepth 100000 in
set_option maxHeartbeats 4000000 in
theorem op4 (c0 c1 c2 c5 c6 c7 c9 aa ac ds dt du dv ad ae af ag ah ai aj ak al am an ao ap aq ar au av aw ax ay az bb bc bd be bf bg bh bi bj bl bm bo bp bq br bs bt bu bv bw bx bz ca cb cc cd ce cf cg ch ci cj ck cl cm cn co cp cq cr cs ct cu cv cw cx cy cz da db dc dd de df dg dh di dw dx dy dz ea eb ec ed ee ef eg eh ei ej ek el em en eo ep er es et eu ev ew ex ey ez fa fb fc fd fe ff fg fh fi fj fk fl fm fn fo fp fq fr fs ft fu fv fw fx fy fz ga gc gd gf gg gh gi gj gk gl gm gn gp gq gr gs gu gv gw gx gy gz hb hc hd he hh hj hk hl hn ho hp hr hs ht hu hv hw hx hy hz ia ic ie ig ih ii ij ik il im io ip iq ir it iu iv iw ix iy iz ja jb jc jd je jf jg jh ji jj jk jl jm jn jo jp jq jr js jt ju jv jw jx jy jz ka kc kd ke kf kg kh ki kj kk kl km kn ko kp kq kr ks kt ku kv kw kx ky kz la lb lc ld lf lg lh li lj lk ll lm ln lp lq lr ls lu lv lw lx ly lz ma mb mc md me mf mg dj dk dl dm dn dp dq dr : Value) (m : Mach) (ib : Nat) (a k n value : Int) (R : Mach × Int) (w W : World) (lo b : Nat) (K : Act → World → Prop) (Q : Exit → Act → World → Prop)
    (h : StpI KK w W lo b m) (hm : MayP m) (hf : m.fin = 0) (hi : W.heap[ib]? = some (.cells #[.int .i64 4, .int .i64 a, .int .i64 k, .int .i64 n] 83 (0, 0))) (ba : 0 ≤ a ∧ a ≤ 7) (bk : 0 ≤ k ∧ k ≤ 7) (bn : -1048576 ≤ n ∧ n ≤ 1048575) (hR : R = m.exec 4 a k n value)
    (hK : ∀ (mh mi mj mk ml mm mn mo mp mq mr ms mt mu mw mx my mz na nc nd nf ng nh ni nj nk nl nm nn no np nq nr ns nt nu nv nw ny nz oa ob oc od oe og oh oi oj ok ol om oo op oq os ot ou ow ox oy oz pa pb pc pd pe pf pg ph pi pj pk pl pm pn po pp pq pr ps pt pu pv pw px py pz qa qb qc qd qe qf qg qh qi qj qk ql qm qn qo qp qq qr qs qt qu qv qw qx qy qz ra rb rc rd re rf rg rh ri rj rk rl rm rn ro rp rq rr rs rt ru rx ry rz sa sb sc sd se sf sg sh si sj sk sl sm sn so sp sq sr ss st su sv sw sx sy sz ta tb tc td te tf tg th ti tj tk tl tm tn to tp tq tr ts tt tu tv tw tx ty tz ua ub uc ud ue uf ug uh ui uj uk ul um un : Value) (M' : Mach) (nx wr : Int) (W' : World), StpI KK w W' lo b M' → (-4398046511104 ≤ nx ∧ nx ≤ 4398046511104) → R = (if M'.fin = 0 then M'.go nx else M', wr) → K ⟨#[c0, c1, c2, .int .i64 value, .pointer (some ⟨b, 0, none⟩), c5, c6, c7, .pointer (some ⟨b + 1, 0, none⟩), c9, aa, .pointer (some ⟨ib, 0, none⟩), ac, .int .i64 nx, .int .i64 wr, mh, mi, mj, mk, ml, mm, ad, ae, af, ag, ah, ai, aj, ak, al, am, an, ao, ap, aq, ar, au, av, aw, ax, ay, az, bb, bc, bd, be, bf, bg, bh, bi, bj, bl, bm, bo, bp, bq, br, bs, bt, bu, bv, bw, bx, bz, ca, cb, cc, cd, ce, cf, cg, ch, ci, cj, ck, cl, cm, cn, co, cp, cq, cr, cs, ct, cu, cv, cw, cx, cy, cz, da, db, dc, dd, de, df, dg, dh, di, mn, mo, mp, mq, mr, ms, mt, mu, mw, mx, my, mz, na, nc, nd, nf, ng, nh, ni, nj, nk, nl, nm, nn, no, np, nq, nr, ns, nt, nu, nv, nw, ny, nz, oa, ob, oc, od, oe, og, oh, oi, oj, ok, ol, om, oo, op, oq, os, ot, ou, ow, ox, oy, oz, pa, pb, pc, pd, pe, pf, pg, ph, pi, pj, pk, pl, pm, pn, po, pp, pq, pr, ps, pt, pu, pv, pw, px, py, pz, qa, qb, qc, qd, qe, qf, qg, qh, qi, qj, qk, ql, qm, qn, qo, qp, qq, qr, qs, qt, qu, qv, qw, qx, qy, qz, ra, rb, rc, rd, re, rf, rg, rh, ri, rj, rk, rl, rm, rn, ro, rp, rq, rr, rs, rt, ru, rx, ry, rz, sa, sb, sc, sd, se, sf, sg, sh, si, sj, sk, sl, sm, sn, so, sp, sq, sr, ss, st, su, sv, sw, sx, sy, sz, ta, tb, tc, td, te, tf, tg, th, ti, tj, tk, tl, tm, tn, to, tp, tq, tr, ts, tt, tu, tv, tw, tx, ty, tz, ua, ub, uc, ud, ue, uf, ug, uh, ui, uj, uk, ul, um, un, dj, dk, dl, dm, dn, dp, dq, dr], []⟩ W') :
    Code.wp Tryd.prog (stm 12 (Tryd.f34.body.getD .skip)) (Exit.then K Q) ⟨#[c0, c1, c2, .int .i64 value, .pointer (some ⟨b, 0, none⟩), c5, c6, c7, .pointer (some ⟨b + 1, 0, none⟩), c9, aa, .pointer (some ⟨ib, 0, none⟩), ac, .int .i64 (m.pc + 1), .int .i64 (-1), .int .i64 (m.reg a), .int .i64 (m.reg k), ds, dt, du, dv, ad, ae, af, ag, ah, ai, aj, ak, al, am, an, ao, ap, aq, ar, au, av, aw, ax, ay, az, bb, bc, bd, be, bf, bg, bh, bi, bj, bl, bm, bo, bp, bq, br, bs, bt, bu, bv, bw, bx, bz, ca, cb, cc, cd, ce, cf, cg, ch, ci, cj, ck, cl, cm, cn, co, cp, cq, cr, cs, ct, cu, cv, cw, cx, cy, cz, da, db, dc, dd, de, df, dg, dh, di, dw, dx, dy, dz, ea, eb, ec, ed, ee, ef, eg, eh, ei, ej, ek, el, em, en, eo, ep, er, es, et, eu, ev, ew, ex, ey, ez, fa, fb, fc, fd, fe, ff, fg, fh, fi, fj, fk, fl, fm, fn, fo, fp, fq, fr, fs, ft, fu, fv, fw, fx, fy, fz, ga, gc, gd, gf, gg, gh, gi, gj, gk, gl, gm, gn, gp, gq, gr, gs, gu, gv, gw, gx, gy, gz, hb, hc, hd, he, hh, hj, hk, hl, hn, ho, hp, hr, hs, ht, hu, hv, hw, hx, hy, hz, ia, ic, ie, ig, ih, ii, ij, ik, il, im, io, ip, iq, ir, it, iu, iv, iw, ix, iy, iz, ja, jb, jc, jd, je, jf, jg, jh, ji, jj, jk, jl, jm, jn, jo, jp, jq, jr, js, jt, ju, jv, jw, jx, jy, jz, ka, kc, kd, ke, kf, kg, kh, ki, kj, kk, kl, km, kn, ko, kp, kq, kr, ks, kt, ku, kv, kw, kx, ky, kz, la, lb, lc, ld, lf, lg, lh, li, lj, lk, ll, lm, ln, lp, lq, lr, ls, lu, lv, lw, lx, ly, lz, ma, mb, mc, md, me, mf, mg, dj, dk, dl, dm, dn, dp, dq, dr], []⟩ W := by
  have HK : Hid _ := hK
  clear hK
  conv => arg 2; whnf
  obtain ⟨rv, mv, ov, ha⟩ := h.at_
  obtain ⟨g, c, rfl, hg, hreg, hfz⟩ := ha.regs_at hm.regs
  obtain ⟨⟨z0, z1, z2, z3, z4, z5, z6, z7, z8, z9, z10, z11⟩, zf, zl⟩ := twelve_cells ha.box
  obtain ⟨x0, x1, x2, x3, xf, xl⟩ := four_cells hi
  rw [hf] at z7
  obtain ⟨p1, p2⟩ := wordB_iff.1 hm.pc
  have gb : ¬ b = g := ha.ne_regs
  have gb2 : ¬ g = b := fun e => gb e.symm
  have HS : Hid (StpI KK w W lo b m ∧ AtP W lo b (.slice (some ⟨g, 0, none⟩) m.regs.length c) mv ov m) := ⟨h, ha⟩
  have HM : Hid (MayP m) := hm
  have HF : Hid (m.fin = 0) := hf
  have HBD : Hid ((0 ≤ a ∧ a ≤ 7) ∧ (0 ≤ k ∧ k ≤ 7) ∧ (-1048576 ≤ n ∧ n ≤ 1048575)) := ⟨ba, bk, bn⟩
  have HR : Hid (R = m.exec 4 a k n value) := hR
  obtain ⟨a0, a7⟩ := ba
  obtain ⟨k0, k7⟩ := bk
  obtain ⟨n0, n7⟩ := bn
  have ab : a < (m.regs.length : Int) := by have := hm.regs; omega
  have kb : k < (m.regs.length : Int) := by have := hm.regs; omega
  have hq := hreg a a0 a7
  obtain ⟨u1, u2⟩ := wordB_iff.1 (reg_word hm ⟨k0, k7⟩)
  have hwr : IntKind.i64.wrap (m.reg k + n) = m.reg k + n := IntWalk.i64_in _ (by omega)
  clear h ha hreg hi hm hf hR
  go_wp2_with fail
  go_still_tail 10, (by kernel_rfl)
  still_call (FoldOf_any _ _ (by omega))
  repeat still_step
  refine wpStill_nil ?_
  go_wp2_with fail
  refine HK.out _ _ _ _ _ _ _ _ _ _ _ _ _ _ _ _ _ _ _ _ _ _ _ _ _ _ _ _ _ _ _ _ _ _ _ _ _ _ _ _ _ _ _ _ _ _ _ _ _ _ _ _ _ _ _ _ _ _ _ _ _ _ _ _ _ _ _ _ _ _ _ _ _ _ _ _ _ _ _ _ _ _ _ _ _ _ _ _ _ _ _ _ _ _ _ _ _ _ _ _ _ _ _ _ _ _ _ _ _ _ _ _ _ _ _ _ _ _ _ _ _ _ _ _ _ _ _ _ _ _ _ _ _ _ _ _ _ _ _ _ _ _ _ _ _ _ _ _ _ _ _ _ _ _ _ _ _ _ _ _ _ _ _ _ _ _ _ _ _ _ _ _ _ _ _ _ _ _ _ _ _ _ _ _ _ _ _ _ _ _ _ _ _ _ _ _ _ _ _ _ _ _ _ _ _ (m.setReg a (foldF (m.reg k + n))) (m.pc + 1) (-1) _ ?_ ⟨by omega, by omega⟩ ?_
  · exact (HS.out.1.reg HS.out.2 a.toNat _).below ((Below.refl _ _).drew)
  · rw [HR.out]
    simp [Mach.exec, Mach.setReg, HF.out]


end Go.Proofs.YtbjlfhpiebokkaaDoor
