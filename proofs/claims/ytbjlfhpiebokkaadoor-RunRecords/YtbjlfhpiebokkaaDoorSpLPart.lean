/- hourglassref.stepped: a block comes. (Written by tools/gen_sp.py.) -/
import Derived.Test.YtbjlfhpiebokkaaDoorSpCPart
namespace Go.Proofs.YtbjlfhpiebokkaaDoor
open Go.RowKit
variable {KK : Nat → Prop}

set_option maxRecDepth 100000 in
set_option maxHeartbeats 4000000 in
theorem seg3_none (c0 c1 c3 c5 c6 c7 c9 lg aa ab ac ad ae af ag ah ai aj ak al am an ao ap aq ar au av lh li lj lk ll lm ln lp lq lr ls lu lv lw lx ly lz ma mb mc md me mf mg mh mi mj aw ax ay az ba bc bd be bf bg bh bi bj bk bm bn bo bp bq br bs bt bu bv bw bx bz ca cc cd ce cf cg ch ci cj ck cl cm cn co cp cq cr cs ct cu cv cw cx cy cz da db dc dd de df dg dh di dj dk dl dm dn dp dq dr ds dt du dv dw dx dy dz ea eb ec ed ee ef eg eh ei ej ek el em en eo ep er es et eu ev ew ex ey ez fa fb fc fd fe ff fg fh fi fj fk fl fm fn fo fp fq fr fs ft fu fv fw fx fy fz ga gb gc gd gf gg gh gi gj gk gl gm gn gp gq gr gs gu gv gw gx gy gz hc hd he hf hh hi hj hn ho hp hr hs ht hu hv hx hy hz ia ib ic ie ig ih ii ij ik il im io ip iq ir it iu iv iw ix iy iz ja jb jc jd je jf jg jh ji jj jk jl jm jn jo jp jq jr js jt ju jv jw jx jy jz ka kb kc kd ke kf kg kh ki kj kk kl km kn ko kp kq kr ks kt ku kv kw kx ky kz la lb lc ld lf : Value) (m : Mach) (B : Option Addr) (bl cb : Nat) (blk : List Int) (w W : World) (lo b : Nat) (K : Act → World → Prop) (Q : Exit → Act → World → Prop)
    (h : StpI KK w W lo b m) (hbl : bl = blk.length) (hl : blk.length = 0)
    (hK : ∀ (mk ml mm mn mo mp mq mr ms mt mu mw mx my mz na nb nc nd nf ng nh ni nj nk nl nm nn : Value) (W' : World), StpI KK w W' lo b (m.taken blk) → K ⟨#[c0, c1, .slice B bl cb, c3, .pointer (some ⟨b, 0, none⟩), c5, c6, c7, .pointer (some ⟨b + 1, 0, none⟩), c9, mk, aa, ab, ac, ad, ae, af, ag, ah, ai, aj, ak, al, am, an, ao, ap, aq, ar, au, av, ml, mm, mn, mo, mp, mq, mr, ms, mt, mu, mw, mx, my, mz, na, nb, nc, nd, nf, ng, nh, ni, nj, nk, nl, nm, nn, aw, ax, ay, az, ba, bc, bd, be, bf, bg, bh, bi, bj, bk, bm, bn, bo, bp, bq, br, bs, bt, bu, bv, bw, bx, bz, ca, cc, cd, ce, cf, cg, ch, ci, cj, ck, cl, cm, cn, co, cp, cq, cr, cs, ct, cu, cv, cw, cx, cy, cz, da, db, dc, dd, de, df, dg, dh, di, dj, dk, dl, dm, dn, dp, dq, dr, ds, dt, du, dv, dw, dx, dy, dz, ea, eb, ec, ed, ee, ef, eg, eh, ei, ej, ek, el, em, en, eo, ep, er, es, et, eu, ev, ew, ex, ey, ez, fa, fb, fc, fd, fe, ff, fg, fh, fi, fj, fk, fl, fm, fn, fo, fp, fq, fr, fs, ft, fu, fv, fw, fx, fy, fz, ga, gb, gc, gd, gf, gg, gh, gi, gj, gk, gl, gm, gn, gp, gq, gr, gs, gu, gv, gw, gx, gy, gz, hc, hd, he, hf, hh, hi, hj, hn, ho, hp, hr, hs, ht, hu, hv, hx, hy, hz, ia, ib, ic, ie, ig, ih, ii, ij, ik, il, im, io, ip, iq, ir, it, iu, iv, iw, ix, iy, iz, ja, jb, jc, jd, je, jf, jg, jh, ji, jj, jk, jl, jm, jn, jo, jp, jq, jr, js, jt, ju, jv, jw, jx, jy, jz, ka, kb, kc, kd, ke, kf, kg, kh, ki, kj, kk, kl, km, kn, ko, kp, kq, kr, ks, kt, ku, kv, kw, kx, ky, kz, la, lb, lc, ld, lf], []⟩ W') :
    Code.wp Tryd.prog (stm 3 (Tryd.f34.body.getD .skip)) (Exit.then K Q) ⟨#[c0, c1, .slice B bl cb, c3, .pointer (some ⟨b, 0, none⟩), c5, c6, c7, .pointer (some ⟨b + 1, 0, none⟩), c9, lg, aa, ab, ac, ad, ae, af, ag, ah, ai, aj, ak, al, am, an, ao, ap, aq, ar, au, av, lh, li, lj, lk, ll, lm, ln, lp, lq, lr, ls, lu, lv, lw, lx, ly, lz, ma, mb, mc, md, me, mf, mg, mh, mi, mj, aw, ax, ay, az, ba, bc, bd, be, bf, bg, bh, bi, bj, bk, bm, bn, bo, bp, bq, br, bs, bt, bu, bv, bw, bx, bz, ca, cc, cd, ce, cf, cg, ch, ci, cj, ck, cl, cm, cn, co, cp, cq, cr, cs, ct, cu, cv, cw, cx, cy, cz, da, db, dc, dd, de, df, dg, dh, di, dj, dk, dl, dm, dn, dp, dq, dr, ds, dt, du, dv, dw, dx, dy, dz, ea, eb, ec, ed, ee, ef, eg, eh, ei, ej, ek, el, em, en, eo, ep, er, es, et, eu, ev, ew, ex, ey, ez, fa, fb, fc, fd, fe, ff, fg, fh, fi, fj, fk, fl, fm, fn, fo, fp, fq, fr, fs, ft, fu, fv, fw, fx, fy, fz, ga, gb, gc, gd, gf, gg, gh, gi, gj, gk, gl, gm, gn, gp, gq, gr, gs, gu, gv, gw, gx, gy, gz, hc, hd, he, hf, hh, hi, hj, hn, ho, hp, hr, hs, ht, hu, hv, hx, hy, hz, ia, ib, ic, ie, ig, ih, ii, ij, ik, il, im, io, ip, iq, ir, it, iu, iv, iw, ix, iy, iz, ja, jb, jc, jd, je, jf, jg, jh, ji, jj, jk, jl, jm, jn, jo, jp, jq, jr, js, jt, ju, jv, jw, jx, jy, jz, ka, kb, kc, kd, ke, kf, kg, kh, ki, kj, kk, kl, km, kn, ko, kp, kq, kr, ks, kt, ku, kv, kw, kx, ky, kz, la, lb, lc, ld, lf], []⟩ W := by
  have HK : Hid _ := hK
  clear hK
  conv => arg 2; whnf
  obtain ⟨rv, mv, ov, ha⟩ := h.at_
  obtain ⟨⟨z0, z1, z2, z3, z4, z5, z6, z7, z8, z9, z10, z11⟩, zf, zl⟩ := twelve_cells ha.box
  have d0 : ¬ (0 < (bl : Int)) := by omega
  have HE : Hid (StpI KK w W lo b (m.taken blk)) := h.same (by simp [Mach.taken, hl])
  clear h ha hbl hl
  go_wp2_with fail
  exact HK.out _ _ _ _ _ _ _ _ _ _ _ _ _ _ _ _ _ _ _ _ _ _ _ _ _ _ _ _ _ HE.out


set_option maxRecDepth 100000 in
set_option maxHeartbeats 4000000 in
theorem seg3_not (c0 c1 c3 c5 c6 c7 c9 lg aa ab ac ad ae af ag ah ai aj ak al am an ao ap aq ar au av lh li lj lk ll lm ln lp lq lr ls lu lv lw lx ly lz ma mb mc md me mf mg mh mi mj aw ax ay az ba bc bd be bf bg bh bi bj bk bm bn bo bp bq br bs bt bu bv bw bx bz ca cc cd ce cf cg ch ci cj ck cl cm cn co cp cq cr cs ct cu cv cw cx cy cz da db dc dd de df dg dh di dj dk dl dm dn dp dq dr ds dt du dv dw dx dy dz ea eb ec ed ee ef eg eh ei ej ek el em en eo ep er es et eu ev ew ex ey ez fa fb fc fd fe ff fg fh fi fj fk fl fm fn fo fp fq fr fs ft fu fv fw fx fy fz ga gb gc gd gf gg gh gi gj gk gl gm gn gp gq gr gs gu gv gw gx gy gz hc hd he hf hh hi hj hn ho hp hr hs ht hu hv hx hy hz ia ib ic ie ig ih ii ij ik il im io ip iq ir it iu iv iw ix iy iz ja jb jc jd je jf jg jh ji jj jk jl jm jn jo jp jq jr js jt ju jv jw jx jy jz ka kb kc kd ke kf kg kh ki kj kk kl km kn ko kp kq kr ks kt ku kv kw kx ky kz la lb lc ld lf : Value) (m : Mach) (B : Option Addr) (bl cb : Nat) (blk : List Int) (w W : World) (lo b : Nat) (K : Act → World → Prop) (Q : Exit → Act → World → Prop)
    (h : StpI KK w W lo b m) (hl : 0 < bl) (hw : m.want < 0)
    (hK : ∀ (mk ml mm mn mo mp mq mr ms mt mu mw mx my mz na nb nc nd nf ng nh ni nj nk nl nm nn : Value) (W' : World), StpI KK w W' lo b (m.taken blk) → K ⟨#[c0, c1, .slice B bl cb, c3, .pointer (some ⟨b, 0, none⟩), c5, c6, c7, .pointer (some ⟨b + 1, 0, none⟩), c9, mk, aa, ab, ac, ad, ae, af, ag, ah, ai, aj, ak, al, am, an, ao, ap, aq, ar, au, av, ml, mm, mn, mo, mp, mq, mr, ms, mt, mu, mw, mx, my, mz, na, nb, nc, nd, nf, ng, nh, ni, nj, nk, nl, nm, nn, aw, ax, ay, az, ba, bc, bd, be, bf, bg, bh, bi, bj, bk, bm, bn, bo, bp, bq, br, bs, bt, bu, bv, bw, bx, bz, ca, cc, cd, ce, cf, cg, ch, ci, cj, ck, cl, cm, cn, co, cp, cq, cr, cs, ct, cu, cv, cw, cx, cy, cz, da, db, dc, dd, de, df, dg, dh, di, dj, dk, dl, dm, dn, dp, dq, dr, ds, dt, du, dv, dw, dx, dy, dz, ea, eb, ec, ed, ee, ef, eg, eh, ei, ej, ek, el, em, en, eo, ep, er, es, et, eu, ev, ew, ex, ey, ez, fa, fb, fc, fd, fe, ff, fg, fh, fi, fj, fk, fl, fm, fn, fo, fp, fq, fr, fs, ft, fu, fv, fw, fx, fy, fz, ga, gb, gc, gd, gf, gg, gh, gi, gj, gk, gl, gm, gn, gp, gq, gr, gs, gu, gv, gw, gx, gy, gz, hc, hd, he, hf, hh, hi, hj, hn, ho, hp, hr, hs, ht, hu, hv, hx, hy, hz, ia, ib, ic, ie, ig, ih, ii, ij, ik, il, im, io, ip, iq, ir, it, iu, iv, iw, ix, iy, iz, ja, jb, jc, jd, je, jf, jg, jh, ji, jj, jk, jl, jm, jn, jo, jp, jq, jr, js, jt, ju, jv, jw, jx, jy, jz, ka, kb, kc, kd, ke, kf, kg, kh, ki, kj, kk, kl, km, kn, ko, kp, kq, kr, ks, kt, ku, kv, kw, kx, ky, kz, la, lb, lc, ld, lf], []⟩ W') :
    Code.wp Tryd.prog (stm 3 (Tryd.f34.body.getD .skip)) (Exit.then K Q) ⟨#[c0, c1, .slice B bl cb, c3, .pointer (some ⟨b, 0, none⟩), c5, c6, c7, .pointer (some ⟨b + 1, 0, none⟩), c9, lg, aa, ab, ac, ad, ae, af, ag, ah, ai, aj, ak, al, am, an, ao, ap, aq, ar, au, av, lh, li, lj, lk, ll, lm, ln, lp, lq, lr, ls, lu, lv, lw, lx, ly, lz, ma, mb, mc, md, me, mf, mg, mh, mi, mj, aw, ax, ay, az, ba, bc, bd, be, bf, bg, bh, bi, bj, bk, bm, bn, bo, bp, bq, br, bs, bt, bu, bv, bw, bx, bz, ca, cc, cd, ce, cf, cg, ch, ci, cj, ck, cl, cm, cn, co, cp, cq, cr, cs, ct, cu, cv, cw, cx, cy, cz, da, db, dc, dd, de, df, dg, dh, di, dj, dk, dl, dm, dn, dp, dq, dr, ds, dt, du, dv, dw, dx, dy, dz, ea, eb, ec, ed, ee, ef, eg, eh, ei, ej, ek, el, em, en, eo, ep, er, es, et, eu, ev, ew, ex, ey, ez, fa, fb, fc, fd, fe, ff, fg, fh, fi, fj, fk, fl, fm, fn, fo, fp, fq, fr, fs, ft, fu, fv, fw, fx, fy, fz, ga, gb, gc, gd, gf, gg, gh, gi, gj, gk, gl, gm, gn, gp, gq, gr, gs, gu, gv, gw, gx, gy, gz, hc, hd, he, hf, hh, hi, hj, hn, ho, hp, hr, hs, ht, hu, hv, hx, hy, hz, ia, ib, ic, ie, ig, ih, ii, ij, ik, il, im, io, ip, iq, ir, it, iu, iv, iw, ix, iy, iz, ja, jb, jc, jd, je, jf, jg, jh, ji, jj, jk, jl, jm, jn, jo, jp, jq, jr, js, jt, ju, jv, jw, jx, jy, jz, ka, kb, kc, kd, ke, kf, kg, kh, ki, kj, kk, kl, km, kn, ko, kp, kq, kr, ks, kt, ku, kv, kw, kx, ky, kz, la, lb, lc, ld, lf], []⟩ W := by
  have HK : Hid _ := hK
  clear hK
  conv => arg 2; whnf
  obtain ⟨rv, mv, ov, ha⟩ := h.at_
  obtain ⟨⟨z0, z1, z2, z3, z4, z5, z6, z7, z8, z9, z10, z11⟩, zf, zl⟩ := twelve_cells ha.box
  have d0 : 0 < (bl : Int) := by omega
  have d1 : ¬ 0 ≤ m.want := by omega
  have HE : Hid (StpI KK w W lo b (m.taken blk)) := h.same (by simp only [Mach.taken]; rw [if_neg (fun e => by omega)])
  clear h ha hl
  go_wp2_with fail
  exact HK.out _ _ _ _ _ _ _ _ _ _ _ _ _ _ _ _ _ _ _ _ _ _ _ _ _ _ _ _ _ HE.out


set_option maxRecDepth 100000 in
set_option maxHeartbeats 4000000 in
theorem seg3_yes (c0 c1 c3 c5 c6 c7 c9 lg aa ab ac ad ae af ag ah ai aj ak al am an ao ap aq ar au av lh li lj lk ll lm ln lp lq lr ls lu lv lw lx ly lz ma mb mc md me mf mg mh mi mj aw ax ay az ba bc bd be bf bg bh bi bj bk bm bn bo bp bq br bs bt bu bv bw bx bz ca cc cd ce cf cg ch ci cj ck cl cm cn co cp cq cr cs ct cu cv cw cx cy cz da db dc dd de df dg dh di dj dk dl dm dn dp dq dr ds dt du dv dw dx dy dz ea eb ec ed ee ef eg eh ei ej ek el em en eo ep er es et eu ev ew ex ey ez fa fb fc fd fe ff fg fh fi fj fk fl fm fn fo fp fq fr fs ft fu fv fw fx fy fz ga gb gc gd gf gg gh gi gj gk gl gm gn gp gq gr gs gu gv gw gx gy gz hc hd he hf hh hi hj hn ho hp hr hs ht hu hv hx hy hz ia ib ic ie ig ih ii ij ik il im io ip iq ir it iu iv iw ix iy iz ja jb jc jd je jf jg jh ji jj jk jl jm jn jo jp jq jr js jt ju jv jw jx jy jz ka kb kc kd ke kf kg kh ki kj kk kl km kn ko kp kq kr ks kt ku kv kw kx ky kz la lb lc ld lf : Value) (m : Mach) (B : Option Addr) (bl cb : Nat) (blk : List Int) (w W : World) (lo b : Nat) (K : Act → World → Prop) (Q : Exit → Act → World → Prop)
    (h : StpI KK w W lo b m) (hbl : bl = blk.length) (hl : blk.length = 16) (hm : m.mem.length = 256) (hw : 0 ≤ m.want ∧ m.want ≤ 15) (hb : IntsK KK lo w (.slice B blk.length cb) blk)
    (hK : ∀ (mk ml mm mn mo mp mq mr ms mt mu mw mx my mz na nb nc nd nf ng nh ni nj nk nl nm nn : Value) (W' : World), StpI KK w W' lo b (m.taken blk) → K ⟨#[c0, c1, .slice B bl cb, c3, .pointer (some ⟨b, 0, none⟩), c5, c6, c7, .pointer (some ⟨b + 1, 0, none⟩), c9, mk, aa, ab, ac, ad, ae, af, ag, ah, ai, aj, ak, al, am, an, ao, ap, aq, ar, au, av, ml, mm, mn, mo, mp, mq, mr, ms, mt, mu, mw, mx, my, mz, na, nb, nc, nd, nf, ng, nh, ni, nj, nk, nl, nm, nn, aw, ax, ay, az, ba, bc, bd, be, bf, bg, bh, bi, bj, bk, bm, bn, bo, bp, bq, br, bs, bt, bu, bv, bw, bx, bz, ca, cc, cd, ce, cf, cg, ch, ci, cj, ck, cl, cm, cn, co, cp, cq, cr, cs, ct, cu, cv, cw, cx, cy, cz, da, db, dc, dd, de, df, dg, dh, di, dj, dk, dl, dm, dn, dp, dq, dr, ds, dt, du, dv, dw, dx, dy, dz, ea, eb, ec, ed, ee, ef, eg, eh, ei, ej, ek, el, em, en, eo, ep, er, es, et, eu, ev, ew, ex, ey, ez, fa, fb, fc, fd, fe, ff, fg, fh, fi, fj, fk, fl, fm, fn, fo, fp, fq, fr, fs, ft, fu, fv, fw, fx, fy, fz, ga, gb, gc, gd, gf, gg, gh, gi, gj, gk, gl, gm, gn, gp, gq, gr, gs, gu, gv, gw, gx, gy, gz, hc, hd, he, hf, hh, hi, hj, hn, ho, hp, hr, hs, ht, hu, hv, hx, hy, hz, ia, ib, ic, ie, ig, ih, ii, ij, ik, il, im, io, ip, iq, ir, it, iu, iv, iw, ix, iy, iz, ja, jb, jc, jd, je, jf, jg, jh, ji, jj, jk, jl, jm, jn, jo, jp, jq, jr, js, jt, ju, jv, jw, jx, jy, jz, ka, kb, kc, kd, ke, kf, kg, kh, ki, kj, kk, kl, km, kn, ko, kp, kq, kr, ks, kt, ku, kv, kw, kx, ky, kz, la, lb, lc, ld, lf], []⟩ W') :
    Code.wp Tryd.prog (stm 3 (Tryd.f34.body.getD .skip)) (Exit.then K Q) ⟨#[c0, c1, .slice B bl cb, c3, .pointer (some ⟨b, 0, none⟩), c5, c6, c7, .pointer (some ⟨b + 1, 0, none⟩), c9, lg, aa, ab, ac, ad, ae, af, ag, ah, ai, aj, ak, al, am, an, ao, ap, aq, ar, au, av, lh, li, lj, lk, ll, lm, ln, lp, lq, lr, ls, lu, lv, lw, lx, ly, lz, ma, mb, mc, md, me, mf, mg, mh, mi, mj, aw, ax, ay, az, ba, bc, bd, be, bf, bg, bh, bi, bj, bk, bm, bn, bo, bp, bq, br, bs, bt, bu, bv, bw, bx, bz, ca, cc, cd, ce, cf, cg, ch, ci, cj, ck, cl, cm, cn, co, cp, cq, cr, cs, ct, cu, cv, cw, cx, cy, cz, da, db, dc, dd, de, df, dg, dh, di, dj, dk, dl, dm, dn, dp, dq, dr, ds, dt, du, dv, dw, dx, dy, dz, ea, eb, ec, ed, ee, ef, eg, eh, ei, ej, ek, el, em, en, eo, ep, er, es, et, eu, ev, ew, ex, ey, ez, fa, fb, fc, fd, fe, ff, fg, fh, fi, fj, fk, fl, fm, fn, fo, fp, fq, fr, fs, ft, fu, fv, fw, fx, fy, fz, ga, gb, gc, gd, gf, gg, gh, gi, gj, gk, gl, gm, gn, gp, gq, gr, gs, gu, gv, gw, gx, gy, gz, hc, hd, he, hf, hh, hi, hj, hn, ho, hp, hr, hs, ht, hu, hv, hx, hy, hz, ia, ib, ic, ie, ig, ih, ii, ij, ik, il, im, io, ip, iq, ir, it, iu, iv, iw, ix, iy, iz, ja, jb, jc, jd, je, jf, jg, jh, ji, jj, jk, jl, jm, jn, jo, jp, jq, jr, js, jt, ju, jv, jw, jx, jy, jz, ka, kb, kc, kd, ke, kf, kg, kh, ki, kj, kk, kl, km, kn, ko, kp, kq, kr, ks, kt, ku, kv, kw, kx, ky, kz, la, lb, lc, ld, lf], []⟩ W := by
  have HK : Hid _ := hK
  clear hK
  conv => arg 2; whnf
  obtain ⟨rv, mv, ov, ha⟩ := h.at_
  obtain ⟨g, c, rfl, hg, hmem, hfz⟩ := ha.mem_at hm
  obtain ⟨A, cA, hA, -, hAc⟩ := hb
  simp only [Value.slice.injEq, true_and] at hA
  obtain ⟨rfl, rfl⟩ := hA
  obtain ⟨bb, off, rfl, hbb, hbc⟩ := hAc (by omega)
  obtain ⟨q, hq⟩ := Int.eq_ofNat_of_zero_le hw.1
  have hq15 : q ≤ 15 := by omega
  have HB : Hid (∀ wr k, Below lo w wr → KeptK KK w wr → k < 16 → wr.cell? ⟨bb, off + k, none⟩ = some (.int .i64 (blk.getD k 0))) := fun wr k hB hKK hk => (keptK_cell hB hKK hbb.1 hbb.2 (off + k)).trans (hbc k (by omega))
  have HT : Hid (m.taken blk = { m with mem := putWords m.mem (16 * q) blk 16, want := -1, ready := 1, wait := true }) := by
    show _ = _
    unfold Mach.taken
    rw [if_pos ⟨by omega, hw.1⟩, hq]
    congr 2
  have H0 : Hid (StpI KK w W lo b m ∧ AtP W lo b rv (.slice (some ⟨g, 0, none⟩) m.mem.length c) ov m) := ⟨h, ha⟩
  obtain ⟨⟨z0, z1, z2, z3, z4, z5, z6, z7, z8, z9, z10, z11⟩, zf, zl⟩ := twelve_cells ha.box
  have HM : Hid (m.mem.length = 256) := hm
  have HW : Hid (m.want = (q : Int)) := hq
  rw [hq] at z11
  have d0 : 0 < (bl : Int) := by omega
  have hb16 : ((bl : Nat) : Int) = 16 := by omega
  clear h ha hmem hfz hAc hbc hw hm hbl hl hq
  rw [HT.out] at HK
  go_wp2_with fail
  go_loopw [10] (fun i wr => ∃ k : Nat, k ≤ 16 ∧ i = .int .i64 (k : Int) ∧ StpI KK w wr lo b { m with mem := putWords m.mem (16 * q) blk k } ∧ AtP wr lo b rv (.slice (some ⟨g, 0, none⟩) m.mem.length c) ov { m with mem := putWords m.mem (16 * q) blk k }) (fun i _ => 16 - (intOf i).toNat)
  case atStart => exact ⟨0, by omega, rfl, by simpa [putWords] using H0.out.1, by simpa [putWords] using H0.out.2⟩
  case round =>
    obtain ⟨k, hk, rfl, hS, hA⟩ := hrel
    clear z0 z1 z2 z3 z4 z5 z6 z7 z8 z9 z10 z11 zf zl
    obtain ⟨⟨z0, z1, z2, z3, z4, z5, z6, z7, z8, z9, z10, z11⟩, zf, zl⟩ := twelve_cells hA.box
    have HS : Hid (StpI KK w wr lo b { m with mem := putWords m.mem (16 * q) blk k }) := hS
    have HA : Hid (AtP wr lo b rv (.slice (some ⟨g, 0, none⟩) m.mem.length c) ov { m with mem := putWords m.mem (16 * q) blk k }) := hA
    rw [HW.out] at z11
    by_cases hlt : k < 16
    · have hcl := HB.out wr k hS.old hS.box hlt
      obtain ⟨m1, m2, m3⟩ := hA.mem_cell (by show (putWords _ _ _ _).length = 256; rw [putWords_len]; exact HM.out) (k := ((16 * q + k : Nat) : Int)) (by omega) (by omega)
      rw [Int.toNat_natCast] at m1
      have hl1 : (k : Int) < 16 := by omega
      have hl2 : (k : Int) < (bl : Int) := by omega
      have hl3 : 16 * (q : Int) + (k : Int) < (m.mem.length : Int) := by have := HM.out; omega
      have hl4 : 0 ≤ 16 * (q : Int) + (k : Int) := by omega
      have hl5 : (16 * (q : Int) + (k : Int)).toNat = 16 * q + k := by omega
      have hw1 : IntKind.i64.wrap (16 * (q : Int)) = 16 * (q : Int) := IntWalk.i64_in _ (by omega)
      have hw2 : IntKind.i64.wrap (16 * (q : Int) + (k : Int)) = 16 * (q : Int) + (k : Int) := IntWalk.i64_in _ (by omega)
      have hw3 : IntKind.i64.wrap ((k : Int) + 1) = (k : Int) + 1 := IntWalk.i64_in _ (by omega)
      clear hS hA hb16
      go_wp2_with fail
      go_still_tail 12, (by kernel_rfl)
      go_wp2_with fail
      have hN := (HS.out.mem HA.out (16 * q + k) (blk.getD k 0)).below ((Below.refl _ _).drew)
      have hNA := (HA.out.putMem (16 * q + k) (blk.getD k 0)).1.drew
      refine ⟨⟨k + 1, by omega, by go_num, by simpa [putWords] using hN, by simpa [putWords] using hNA⟩, ?_⟩
      simp [intOf]; omega
    · have e : k = 16 := by omega
      subst e
      have HP : Hid (StpI KK w (((wr.setCell ⟨b, 11, none⟩ (.int .i64 (-1))).setCell ⟨b, 10, none⟩ (.int .i64 1)).setCell ⟨b, 4, none⟩ (.bool true)) lo b { m with mem := putWords m.mem (16 * q) blk 16, want := -1, ready := 1, wait := true }) := ((hS.put (hA.setWant (-1)).1).put ((hA.setWant (-1)).1.setReady 1).1).put (((hA.setWant (-1)).1.setReady 1).1.setWait true).1
      clear hS hA HS HA
      go_wp2_with fail
      exact HK.out _ _ _ _ _ _ _ _ _ _ _ _ _ _ _ _ _ _ _ _ _ _ _ _ _ _ _ _ _ HP.out


end Go.Proofs.YtbjlfhpiebokkaaDoor

/- hourglassref.stepped: what the instructions do. (Written by tools/gen_sp.py.) -/

namespace Go.Proofs.YtbjlfhpiebokkaaDoor
open Go.RowKit
variable {KK : Nat → Prop}

set_option maxRecDepth 100000 in
set_option maxHeartbeats 4000000 in
theorem op0 (c0 c1 c2 c5 c6 c7 c9 aa ac ds dt du dv ad ae af ag ah ai aj ak al am an ao ap aq ar au av aw ax ay az bb bc bd be bf bg bh bi bj bl bm bo bp bq br bs bt bu bv bw bx bz ca cb cc cd ce cf cg ch ci cj ck cl cm cn co cp cq cr cs ct cu cv cw cx cy cz da db dc dd de df dg dh di dw dx dy dz ea eb ec ed ee ef eg eh ei ej ek el em en eo ep er es et eu ev ew ex ey ez fa fb fc fd fe ff fg fh fi fj fk fl fm fn fo fp fq fr fs ft fu fv fw fx fy fz ga gc gd gf gg gh gi gj gk gl gm gn gp gq gr gs gu gv gw gx gy gz hb hc hd he hh hj hk hl hn ho hp hr hs ht hu hv hw hx hy hz ia ic ie ig ih ii ij ik il im io ip iq ir it iu iv iw ix iy iz ja jb jc jd je jf jg jh ji jj jk jl jm jn jo jp jq jr js jt ju jv jw jx jy jz ka kc kd ke kf kg kh ki kj kk kl km kn ko kp kq kr ks kt ku kv kw kx ky kz la lb lc ld lf lg lh li lj lk ll lm ln lp lq lr ls lu lv lw lx ly lz ma mb mc md me mf mg dj dk dl dm dn dp dq dr : Value) (m : Mach) (ib : Nat) (a k n value : Int) (R : Mach × Int) (w W : World) (lo b : Nat) (K : Act → World → Prop) (Q : Exit → Act → World → Prop)
    (h : StpI KK w W lo b m) (hm : MayP m) (hf : m.fin = 0) (hi : W.heap[ib]? = some (.cells #[.int .i64 0, .int .i64 a, .int .i64 k, .int .i64 n] 83 (0, 0))) (ba : 0 ≤ a ∧ a ≤ 7) (bk : 0 ≤ k ∧ k ≤ 7) (bn : -1048576 ≤ n ∧ n ≤ 1048575) (hR : R = m.exec 0 a k n value)
    (hK : ∀ (mh mi mj mk ml mm mn mo mp mq mr ms mt mu mw mx my mz na nb nc nd nf ng nh ni nj nk nl nm nn no np nq nr ns nt nu nv nw ny nz oa ob oc od oe og oh oi oj ok ol om oo op oq os ot ou ow ox oy oz pa pb pc pd pe pf pg ph pi pj pk pl pm pn po pp pq pr ps pt pu pv pw px py pz qa qb qc qd qe qf qg qh qi qj qk ql qm qn qo qp qq qr qs qt qu qv qw qx qy qz ra rb rc rd re rf rg rh ri rj rk rl rm rn ro rp rq rr rs rt ru rx ry rz sa sb sc sd se sf sg sh si sj sk sl sm sn so sp sq sr ss st su sv sw sx sy sz ta tb tc td te tf tg th ti tj tk tl tm tn to tp tq tr ts tt tu tv tw tx ty tz ua ub uc ud ue uf ug uh ui uj uk ul um : Value) (M' : Mach) (nx wr : Int) (W' : World), StpI KK w W' lo b M' → (-4398046511104 ≤ nx ∧ nx ≤ 4398046511104) → R = (if M'.fin = 0 then M'.go nx else M', wr) → K ⟨#[c0, c1, c2, .int .i64 value, .pointer (some ⟨b, 0, none⟩), c5, c6, c7, .pointer (some ⟨b + 1, 0, none⟩), c9, aa, .pointer (some ⟨ib, 0, none⟩), ac, .int .i64 nx, .int .i64 wr, mh, mi, mj, mk, ml, mm, ad, ae, af, ag, ah, ai, aj, ak, al, am, an, ao, ap, aq, ar, au, av, aw, ax, ay, az, bb, bc, bd, be, bf, bg, bh, bi, bj, bl, bm, bo, bp, bq, br, bs, bt, bu, bv, bw, bx, bz, ca, cb, cc, cd, ce, cf, cg, ch, ci, cj, ck, cl, cm, cn, co, cp, cq, cr, cs, ct, cu, cv, cw, cx, cy, cz, da, db, dc, dd, de, df, dg, dh, di, mn, mo, mp, mq, mr, ms, mt, mu, mw, mx, my, mz, na, nb, nc, nd, nf, ng, nh, ni, nj, nk, nl, nm, nn, no, np, nq, nr, ns, nt, nu, nv, nw, ny, nz, oa, ob, oc, od, oe, og, oh, oi, oj, ok, ol, om, oo, op, oq, os, ot, ou, ow, ox, oy, oz, pa, pb, pc, pd, pe, pf, pg, ph, pi, pj, pk, pl, pm, pn, po, pp, pq, pr, ps, pt, pu, pv, pw, px, py, pz, qa, qb, qc, qd, qe, qf, qg, qh, qi, qj, qk, ql, qm, qn, qo, qp, qq, qr, qs, qt, qu, qv, qw, qx, qy, qz, ra, rb, rc, rd, re, rf, rg, rh, ri, rj, rk, rl, rm, rn, ro, rp, rq, rr, rs, rt, ru, rx, ry, rz, sa, sb, sc, sd, se, sf, sg, sh, si, sj, sk, sl, sm, sn, so, sp, sq, sr, ss, st, su, sv, sw, sx, sy, sz, ta, tb, tc, td, te, tf, tg, th, ti, tj, tk, tl, tm, tn, to, tp, tq, tr, ts, tt, tu, tv, tw, tx, ty, tz, ua, ub, uc, ud, ue, uf, ug, uh, ui, uj, uk, ul, um, dj, dk, dl, dm, dn, dp, dq, dr], []⟩ W') :
    Code.wp Tryd.prog (stm 12 (Tryd.f34.body.getD .skip)) (Exit.then K Q) ⟨#[c0, c1, c2, .int .i64 value, .pointer (some ⟨b, 0, none⟩), c5, c6, c7, .pointer (some ⟨b + 1, 0, none⟩), c9, aa, .pointer (some ⟨ib, 0, none⟩), ac, .int .i64 (m.pc + 1), .int .i64 (-1), .int .i64 (m.reg a), .int .i64 (m.reg k), ds, dt, du, dv, ad, ae, af, ag, ah, ai, aj, ak, al, am, an, ao, ap, aq, ar, au, av, aw, ax, ay, az, bb, bc, bd, be, bf, bg, bh, bi, bj, bl, bm, bo, bp, bq, br, bs, bt, bu, bv, bw, bx, bz, ca, cb, cc, cd, ce, cf, cg, ch, ci, cj, ck, cl, cm, cn, co, cp, cq, cr, cs, ct, cu, cv, cw, cx, cy, cz, da, db, dc, dd, de, df, dg, dh, di, dw, dx, dy, dz, ea, eb, ec, ed, ee, ef, eg, eh, ei, ej, ek, el, em, en, eo, ep, er, es, et, eu, ev, ew, ex, ey, ez, fa, fb, fc, fd, fe, ff, fg, fh, fi, fj, fk, fl, fm, fn, fo, fp, fq, fr, fs, ft, fu, fv, fw, fx, fy, fz, ga, gc, gd, gf, gg, gh, gi, gj, gk, gl, gm, gn, gp, gq, gr, gs, gu, gv, gw, gx, gy, gz, hb, hc, hd, he, hh, hj, hk, hl, hn, ho, hp, hr, hs, ht, hu, hv, hw, hx, hy, hz, ia, ic, ie, ig, ih, ii, ij, ik, il, im, io, ip, iq, ir, it, iu, iv, iw, ix, iy, iz, ja, jb, jc, jd, je, jf, jg, jh, ji, jj, jk, jl, jm, jn, jo, jp, jq, jr, js, jt, ju, jv, jw, jx, jy, jz, ka, kc, kd, ke, kf, kg, kh, ki, kj, kk, kl, km, kn, ko, kp, kq, kr, ks, kt, ku, kv, kw, kx, ky, kz, la, lb, lc, ld, lf, lg, lh, li, lj, lk, ll, lm, ln, lp, lq, lr, ls, lu, lv, lw, lx, ly, lz, ma, mb, mc, md, me, mf, mg, dj, dk, dl, dm, dn, dp, dq, dr], []⟩ W := by
  have HK : Hid _ := hK
  clear hK
  conv => arg 2; whnf
  obtain ⟨rv, mv, ov, ha⟩ := h.at_
  obtain ⟨g, c, rfl, hg, hreg, hfz⟩ := ha.regs_at hm.regs
  obtain ⟨⟨z0, z1, z2, z3, z4, z5, z6, z7, z8, z9, z10, z11⟩, zf, zl⟩ := twelve_cells ha.box
  obtain ⟨x0, x1, x2, x3, xf, xl⟩ := four_cells hi
  rw [hf] at z7
  obtain ⟨p1, p2⟩ := wordB_iff.1 hm.pc
  have gb : ¬ b = g := ha.ne_regs
  have gb2 : ¬ g = b := fun e => gb e.symm
  have HS : Hid (StpI KK w W lo b m ∧ AtP W lo b (.slice (some ⟨g, 0, none⟩) m.regs.length c) mv ov m) := ⟨h, ha⟩
  have HM : Hid (MayP m) := hm
  have HF : Hid (m.fin = 0) := hf
  have HBD : Hid ((0 ≤ a ∧ a ≤ 7) ∧ (0 ≤ k ∧ k ≤ 7) ∧ (-1048576 ≤ n ∧ n ≤ 1048575)) := ⟨ba, bk, bn⟩
  have HR : Hid (R = m.exec 0 a k n value) := hR
  obtain ⟨a0, a7⟩ := ba
  obtain ⟨k0, k7⟩ := bk
  obtain ⟨n0, n7⟩ := bn
  have ab : a < (m.regs.length : Int) := by have := hm.regs; omega
  have kb : k < (m.regs.length : Int) := by have := hm.regs; omega
  clear h ha hreg hi hm hf hR
  go_wp2_with fail
  refine HK.out _ _ _ _ _ _ _ _ _ _ _ _ _ _ _ _ _ _ _ _ _ _ _ _ _ _ _ _ _ _ _ _ _ _ _ _ _ _ _ _ _ _ _ _ _ _ _ _ _ _ _ _ _ _ _ _ _ _ _ _ _ _ _ _ _ _ _ _ _ _ _ _ _ _ _ _ _ _ _ _ _ _ _ _ _ _ _ _ _ _ _ _ _ _ _ _ _ _ _ _ _ _ _ _ _ _ _ _ _ _ _ _ _ _ _ _ _ _ _ _ _ _ _ _ _ _ _ _ _ _ _ _ _ _ _ _ _ _ _ _ _ _ _ _ _ _ _ _ _ _ _ _ _ _ _ _ _ _ _ _ _ _ _ _ _ _ _ _ _ _ _ _ _ _ _ _ _ _ _ _ _ _ _ _ _ _ _ _ _ _ _ _ _ _ _ _ _ _ _ _ _ _ _ _ _ (m.ends 1) (m.pc + 1) (-1) _ ?_ ⟨by omega, by omega⟩ ?_
  · exact HS.out.1.put (HS.out.2.setFin 1).1
  · rw [HR.out]
    rfl


set_option maxRecDepth 100000 in
set_option maxHeartbeats 4000000 in
theorem op1 (c0 c1 c2 c5 c6 c7 c9 aa ac ds dt du dv ad ae af ag ah ai aj ak al am an ao ap aq ar au av aw ax ay az bb bc bd be bf bg bh bi bj bl bm bo bp bq br bs bt bu bv bw bx bz ca cb cc cd ce cf cg ch ci cj ck cl cm cn co cp cq cr cs ct cu cv cw cx cy cz da db dc dd de df dg dh di dw dx dy dz ea eb ec ed ee ef eg eh ei ej ek el em en eo ep er es et eu ev ew ex ey ez fa fb fc fd fe ff fg fh fi fj fk fl fm fn fo fp fq fr fs ft fu fv fw fx fy fz ga gc gd gf gg gh gi gj gk gl gm gn gp gq gr gs gu gv gw gx gy gz hb hc hd he hh hj hk hl hn ho hp hr hs ht hu hv hw hx hy hz ia ic ie ig ih ii ij ik il im io ip iq ir it iu iv iw ix iy iz ja jb jc jd je jf jg jh ji jj jk jl jm jn jo jp jq jr js jt ju jv jw jx jy jz ka kc kd ke kf kg kh ki kj kk kl km kn ko kp kq kr ks kt ku kv kw kx ky kz la lb lc ld lf lg lh li lj lk ll lm ln lp lq lr ls lu lv lw lx ly lz ma mb mc md me mf mg dj dk dl dm dn dp dq dr : Value) (m : Mach) (ib : Nat) (a k n value : Int) (R : Mach × Int) (w W : World) (lo b : Nat) (K : Act → World → Prop) (Q : Exit → Act → World → Prop)
    (h : StpI KK w W lo b m) (hm : MayP m) (hf : m.fin = 0) (hi : W.heap[ib]? = some (.cells #[.int .i64 1, .int .i64 a, .int .i64 k, .int .i64 n] 83 (0, 0))) (ba : 0 ≤ a ∧ a ≤ 7) (bk : 0 ≤ k ∧ k ≤ 7) (bn : -1048576 ≤ n ∧ n ≤ 1048575) (hR : R = m.exec 1 a k n value)
    (hK : ∀ (mh mi mj mk ml mm mn mo mp mq mr ms mt mu mw mx my mz na nb nc nd nf ng nh ni nj nk nl nm nn no np nq nr ns nt nu nv nw ny nz oa ob oc od oe og oh oi oj ok ol om oo op oq os ot ou ow ox oy oz pa pb pc pd pe pf pg ph pi pj pk pl pm pn po pp pq pr ps pt pu pv pw px py pz qa qb qc qd qe qf qg qh qi qj qk ql qm qn qo qp qq qr qs qt qu qv qw qx qy qz ra rb rc rd re rf rg rh ri rj rk rl rm rn ro rp rq rr rs rt ru rx ry rz sa sb sc sd se sf sg sh si sj sk sl sm sn so sp sq sr ss st su sv sw sx sy sz ta tb tc td te tf tg th ti tj tk tl tm tn to tp tq tr ts tt tu tv tw tx ty tz ua ub uc ud ue uf ug uh ui uj uk ul um : Value) (M' : Mach) (nx wr : Int) (W' : World), StpI KK w W' lo b M' → (-4398046511104 ≤ nx ∧ nx ≤ 4398046511104) → R = (if M'.fin = 0 then M'.go nx else M', wr) → K ⟨#[c0, c1, c2, .int .i64 value, .pointer (some ⟨b, 0, none⟩), c5, c6, c7, .pointer (some ⟨b + 1, 0, none⟩), c9, aa, .pointer (some ⟨ib, 0, none⟩), ac, .int .i64 nx, .int .i64 wr, mh, mi, mj, mk, ml, mm, ad, ae, af, ag, ah, ai, aj, ak, al, am, an, ao, ap, aq, ar, au, av, aw, ax, ay, az, bb, bc, bd, be, bf, bg, bh, bi, bj, bl, bm, bo, bp, bq, br, bs, bt, bu, bv, bw, bx, bz, ca, cb, cc, cd, ce, cf, cg, ch, ci, cj, ck, cl, cm, cn, co, cp, cq, cr, cs, ct, cu, cv, cw, cx, cy, cz, da, db, dc, dd, de, df, dg, dh, di, mn, mo, mp, mq, mr, ms, mt, mu, mw, mx, my, mz, na, nb, nc, nd, nf, ng, nh, ni, nj, nk, nl, nm, nn, no, np, nq, nr, ns, nt, nu, nv, nw, ny, nz, oa, ob, oc, od, oe, og, oh, oi, oj, ok, ol, om, oo, op, oq, os, ot, ou, ow, ox, oy, oz, pa, pb, pc, pd, pe, pf, pg, ph, pi, pj, pk, pl, pm, pn, po, pp, pq, pr, ps, pt, pu, pv, pw, px, py, pz, qa, qb, qc, qd, qe, qf, qg, qh, qi, qj, qk, ql, qm, qn, qo, qp, qq, qr, qs, qt, qu, qv, qw, qx, qy, qz, ra, rb, rc, rd, re, rf, rg, rh, ri, rj, rk, rl, rm, rn, ro, rp, rq, rr, rs, rt, ru, rx, ry, rz, sa, sb, sc, sd, se, sf, sg, sh, si, sj, sk, sl, sm, sn, so, sp, sq, sr, ss, st, su, sv, sw, sx, sy, sz, ta, tb, tc, td, te, tf, tg, th, ti, tj, tk, tl, tm, tn, to, tp, tq, tr, ts, tt, tu, tv, tw, tx, ty, tz, ua, ub, uc, ud, ue, uf, ug, uh, ui, uj, uk, ul, um, dj, dk, dl, dm, dn, dp, dq, dr], []⟩ W') :
    Code.wp Tryd.prog (stm 12 (Tryd.f34.body.getD .skip)) (Exit.then K Q) ⟨#[c0, c1, c2, .int .i64 value, .pointer (some ⟨b, 0, none⟩), c5, c6, c7, .pointer (some ⟨b + 1, 0, none⟩), c9, aa, .pointer (some ⟨ib, 0, none⟩), ac, .int .i64 (m.pc + 1), .int .i64 (-1), .int .i64 (m.reg a), .int .i64 (m.reg k), ds, dt, du, dv, ad, ae, af, ag, ah, ai, aj, ak, al, am, an, ao, ap, aq, ar, au, av, aw, ax, ay, az, bb, bc, bd, be, bf, bg, bh, bi, bj, bl, bm, bo, bp, bq, br, bs, bt, bu, bv, bw, bx, bz, ca, cb, cc, cd, ce, cf, cg, ch, ci, cj, ck, cl, cm, cn, co, cp, cq, cr, cs, ct, cu, cv, cw, cx, cy, cz, da, db, dc, dd, de, df, dg, dh, di, dw, dx, dy, dz, ea, eb, ec, ed, ee, ef, eg, eh, ei, ej, ek, el, em, en, eo, ep, er, es, et, eu, ev, ew, ex, ey, ez, fa, fb, fc, fd, fe, ff, fg, fh, fi, fj, fk, fl, fm, fn, fo, fp, fq, fr, fs, ft, fu, fv, fw, fx, fy, fz, ga, gc, gd, gf, gg, gh, gi, gj, gk, gl, gm, gn, gp, gq, gr, gs, gu, gv, gw, gx, gy, gz, hb, hc, hd, he, hh, hj, hk, hl, hn, ho, hp, hr, hs, ht, hu, hv, hw, hx, hy, hz, ia, ic, ie, ig, ih, ii, ij, ik, il, im, io, ip, iq, ir, it, iu, iv, iw, ix, iy, iz, ja, jb, jc, jd, je, jf, jg, jh, ji, jj, jk, jl, jm, jn, jo, jp, jq, jr, js, jt, ju, jv, jw, jx, jy, jz, ka, kc, kd, ke, kf, kg, kh, ki, kj, kk, kl, km, kn, ko, kp, kq, kr, ks, kt, ku, kv, kw, kx, ky, kz, la, lb, lc, ld, lf, lg, lh, li, lj, lk, ll, lm, ln, lp, lq, lr, ls, lu, lv, lw, lx, ly, lz, ma, mb, mc, md, me, mf, mg, dj, dk, dl, dm, dn, dp, dq, dr], []⟩ W := by
  have HK : Hid _ := hK
  clear hK
  conv => arg 2; whnf
  obtain ⟨rv, mv, ov, ha⟩ := h.at_
  obtain ⟨g, c, rfl, hg, hreg, hfz⟩ := ha.regs_at hm.regs
  obtain ⟨⟨z0, z1, z2, z3, z4, z5, z6, z7, z8, z9, z10, z11⟩, zf, zl⟩ := twelve_cells ha.box
  obtain ⟨x0, x1, x2, x3, xf, xl⟩ := four_cells hi
  rw [hf] at z7
  obtain ⟨p1, p2⟩ := wordB_iff.1 hm.pc
  have gb : ¬ b = g := ha.ne_regs
  have gb2 : ¬ g = b := fun e => gb e.symm
  have HS : Hid (StpI KK w W lo b m ∧ AtP W lo b (.slice (some ⟨g, 0, none⟩) m.regs.length c) mv ov m) := ⟨h, ha⟩
  have HM : Hid (MayP m) := hm
  have HF : Hid (m.fin = 0) := hf
  have HBD : Hid ((0 ≤ a ∧ a ≤ 7) ∧ (0 ≤ k ∧ k ≤ 7) ∧ (-1048576 ≤ n ∧ n ≤ 1048575)) := ⟨ba, bk, bn⟩
  have HR : Hid (R = m.exec 1 a k n value) := hR
  obtain ⟨a0, a7⟩ := ba
  obtain ⟨k0, k7⟩ := bk
  obtain ⟨n0, n7⟩ := bn
  have ab : a < (m.regs.length : Int) := by have := hm.regs; omega
  have kb : k < (m.regs.length : Int) := by have := hm.regs; omega
  have hq := hreg a a0 a7
  clear h ha hreg hi hm hf hR
  go_wp2_with fail
  refine HK.out _ _ _ _ _ _ _ _ _ _ _ _ _ _ _ _ _ _ _ _ _ _ _ _ _ _ _ _ _ _ _ _ _ _ _ _ _ _ _ _ _ _ _ _ _ _ _ _ _ _ _ _ _ _ _ _ _ _ _ _ _ _ _ _ _ _ _ _ _ _ _ _ _ _ _ _ _ _ _ _ _ _ _ _ _ _ _ _ _ _ _ _ _ _ _ _ _ _ _ _ _ _ _ _ _ _ _ _ _ _ _ _ _ _ _ _ _ _ _ _ _ _ _ _ _ _ _ _ _ _ _ _ _ _ _ _ _ _ _ _ _ _ _ _ _ _ _ _ _ _ _ _ _ _ _ _ _ _ _ _ _ _ _ _ _ _ _ _ _ _ _ _ _ _ _ _ _ _ _ _ _ _ _ _ _ _ _ _ _ _ _ _ _ _ _ _ _ _ _ _ _ _ _ _ _ (m.setReg a n) (m.pc + 1) (-1) _ ?_ ⟨by omega, by omega⟩ ?_
  · exact HS.out.1.reg HS.out.2 a.toNat n
  · rw [HR.out]
    simp [Mach.exec, Mach.setReg, HF.out]


set_option maxRecDepth 100000 in
set_option maxHeartbeats 4000000 in
theorem op9 (c0 c1 c2 c5 c6 c7 c9 aa ac ds dt du dv ad ae af ag ah ai aj ak al am an ao ap aq ar au av aw ax ay az bb bc bd be bf bg bh bi bj bl bm bo bp bq br bs bt bu bv bw bx bz ca cb cc cd ce cf cg ch ci cj ck cl cm cn co cp cq cr cs ct cu cv cw cx cy cz da db dc dd de df dg dh di dw dx dy dz ea eb ec ed ee ef eg eh ei ej ek el em en eo ep er es et eu ev ew ex ey ez fa fb fc fd fe ff fg fh fi fj fk fl fm fn fo fp fq fr fs ft fu fv fw fx fy fz ga gc gd gf gg gh gi gj gk gl gm gn gp gq gr gs gu gv gw gx gy gz hb hc hd he hh hj hk hl hn ho hp hr hs ht hu hv hw hx hy hz ia ic ie ig ih ii ij ik il im io ip iq ir it iu iv iw ix iy iz ja jb jc jd je jf jg jh ji jj jk jl jm jn jo jp jq jr js jt ju jv jw jx jy jz ka kc kd ke kf kg kh ki kj kk kl km kn ko kp kq kr ks kt ku kv kw kx ky kz la lb lc ld lf lg lh li lj lk ll lm ln lp lq lr ls lu lv lw lx ly lz ma mb mc md me mf mg dj dk dl dm dn dp dq dr : Value) (m : Mach) (ib : Nat) (a k n value : Int) (R : Mach × Int) (w W : World) (lo b : Nat) (K : Act → World → Prop) (Q : Exit → Act → World → Prop)
    (h : StpI KK w W lo b m) (hm : MayP m) (hf : m.fin = 0) (hi : W.heap[ib]? = some (.cells #[.int .i64 9, .int .i64 a, .int .i64 k, .int .i64 n] 83 (0, 0))) (ba : 0 ≤ a ∧ a ≤ 7) (bk : 0 ≤ k ∧ k ≤ 7) (bn : -1048576 ≤ n ∧ n ≤ 1048575) (hR : R = m.exec 9 a k n value)
    (hK : ∀ (mh mi mj mk ml mm mn mo mp mq mr ms mt mu mw mx my mz na nb nc nd nf ng nh ni nj nk nl nm nn no np nq nr ns nt nu nv nw ny nz oa ob oc od oe og oh oi oj ok ol om oo op oq os ot ou ow ox oy oz pa pb pc pd pe pf pg ph pi pj pk pl pm pn po pp pq pr ps pt pu pv pw px py pz qa qb qc qd qe qf qg qh qi qj qk ql qm qn qo qp qq qr qs qt qu qv qw qx qy qz ra rb rc rd re rf rg rh ri rj rk rl rm rn ro rp rq rr rs rt ru rx ry rz sa sb sc sd se sf sg sh si sj sk sl sm sn so sp sq sr ss st su sv sw sx sy sz ta tb tc td te tf tg th ti tj tk tl tm tn to tp tq tr ts tt tu tv tw tx ty tz ua ub uc ud ue uf ug uh ui uj uk ul um : Value) (M' : Mach) (nx wr : Int) (W' : World), StpI KK w W' lo b M' → (-4398046511104 ≤ nx ∧ nx ≤ 4398046511104) → R = (if M'.fin = 0 then M'.go nx else M', wr) → K ⟨#[c0, c1, c2, .int .i64 value, .pointer (some ⟨b, 0, none⟩), c5, c6, c7, .pointer (some ⟨b + 1, 0, none⟩), c9, aa, .pointer (some ⟨ib, 0, none⟩), ac, .int .i64 nx, .int .i64 wr, mh, mi, mj, mk, ml, mm, ad, ae, af, ag, ah, ai, aj, ak, al, am, an, ao, ap, aq, ar, au, av, aw, ax, ay, az, bb, bc, bd, be, bf, bg, bh, bi, bj, bl, bm, bo, bp, bq, br, bs, bt, bu, bv, bw, bx, bz, ca, cb, cc, cd, ce, cf, cg, ch, ci, cj, ck, cl, cm, cn, co, cp, cq, cr, cs, ct, cu, cv, cw, cx, cy, cz, da, db, dc, dd, de, df, dg, dh, di, mn, mo, mp, mq, mr, ms, mt, mu, mw, mx, my, mz, na, nb, nc, nd, nf, ng, nh, ni, nj, nk, nl, nm, nn, no, np, nq, nr, ns, nt, nu, nv, nw, ny, nz, oa, ob, oc, od, oe, og, oh, oi, oj, ok, ol, om, oo, op, oq, os, ot, ou, ow, ox, oy, oz, pa, pb, pc, pd, pe, pf, pg, ph, pi, pj, pk, pl, pm, pn, po, pp, pq, pr, ps, pt, pu, pv, pw, px, py, pz, qa, qb, qc, qd, qe, qf, qg, qh, qi, qj, qk, ql, qm, qn, qo, qp, qq, qr, qs, qt, qu, qv, qw, qx, qy, qz, ra, rb, rc, rd, re, rf, rg, rh, ri, rj, rk, rl, rm, rn, ro, rp, rq, rr, rs, rt, ru, rx, ry, rz, sa, sb, sc, sd, se, sf, sg, sh, si, sj, sk, sl, sm, sn, so, sp, sq, sr, ss, st, su, sv, sw, sx, sy, sz, ta, tb, tc, td, te, tf, tg, th, ti, tj, tk, tl, tm, tn, to, tp, tq, tr, ts, tt, tu, tv, tw, tx, ty, tz, ua, ub, uc, ud, ue, uf, ug, uh, ui, uj, uk, ul, um, dj, dk, dl, dm, dn, dp, dq, dr], []⟩ W') :
    Code.wp Tryd.prog (stm 12 (Tryd.f34.body.getD .skip)) (Exit.then K Q) ⟨#[c0, c1, c2, .int .i64 value, .pointer (some ⟨b, 0, none⟩), c5, c6, c7, .pointer (some ⟨b + 1, 0, none⟩), c9, aa, .pointer (some ⟨ib, 0, none⟩), ac, .int .i64 (m.pc + 1), .int .i64 (-1), .int .i64 (m.reg a), .int .i64 (m.reg k), ds, dt, du, dv, ad, ae, af, ag, ah, ai, aj, ak, al, am, an, ao, ap, aq, ar, au, av, aw, ax, ay, az, bb, bc, bd, be, bf, bg, bh, bi, bj, bl, bm, bo, bp, bq, br, bs, bt, bu, bv, bw, bx, bz, ca, cb, cc, cd, ce, cf, cg, ch, ci, cj, ck, cl, cm, cn, co, cp, cq, cr, cs, ct, cu, cv, cw, cx, cy, cz, da, db, dc, dd, de, df, dg, dh, di, dw, dx, dy, dz, ea, eb, ec, ed, ee, ef, eg, eh, ei, ej, ek, el, em, en, eo, ep, er, es, et, eu, ev, ew, ex, ey, ez, fa, fb, fc, fd, fe, ff, fg, fh, fi, fj, fk, fl, fm, fn, fo, fp, fq, fr, fs, ft, fu, fv, fw, fx, fy, fz, ga, gc, gd, gf, gg, gh, gi, gj, gk, gl, gm, gn, gp, gq, gr, gs, gu, gv, gw, gx, gy, gz, hb, hc, hd, he, hh, hj, hk, hl, hn, ho, hp, hr, hs, ht, hu, hv, hw, hx, hy, hz, ia, ic, ie, ig, ih, ii, ij, ik, il, im, io, ip, iq, ir, it, iu, iv, iw, ix, iy, iz, ja, jb, jc, jd, je, jf, jg, jh, ji, jj, jk, jl, jm, jn, jo, jp, jq, jr, js, jt, ju, jv, jw, jx, jy, jz, ka, kc, kd, ke, kf, kg, kh, ki, kj, kk, kl, km, kn, ko, kp, kq, kr, ks, kt, ku, kv, kw, kx, ky, kz, la, lb, lc, ld, lf, lg, lh, li, lj, lk, ll, lm, ln, lp, lq, lr, ls, lu, lv, lw, lx, ly, lz, ma, mb, mc, md, me, mf, mg, dj, dk, dl, dm, dn, dp, dq, dr], []⟩ W := by
  have HK : Hid _ := hK
  clear hK
  conv => arg 2; whnf
  obtain ⟨rv, mv, ov, ha⟩ := h.at_
  obtain ⟨g, c, rfl, hg, hreg, hfz⟩ := ha.regs_at hm.regs
  obtain ⟨⟨z0, z1, z2, z3, z4, z5, z6, z7, z8, z9, z10, z11⟩, zf, zl⟩ := twelve_cells ha.box
  obtain ⟨x0, x1, x2, x3, xf, xl⟩ := four_cells hi
  rw [hf] at z7
  obtain ⟨p1, p2⟩ := wordB_iff.1 hm.pc
  have gb : ¬ b = g := ha.ne_regs
  have gb2 : ¬ g = b := fun e => gb e.symm
  have HS : Hid (StpI KK w W lo b m ∧ AtP W lo b (.slice (some ⟨g, 0, none⟩) m.regs.length c) mv ov m) := ⟨h, ha⟩
  have HM : Hid (MayP m) := hm
  have HF : Hid (m.fin = 0) := hf
  have HBD : Hid ((0 ≤ a ∧ a ≤ 7) ∧ (0 ≤ k ∧ k ≤ 7) ∧ (-1048576 ≤ n ∧ n ≤ 1048575)) := ⟨ba, bk, bn⟩
  have HR : Hid (R = m.exec 9 a k n value) := hR
  obtain ⟨a0, a7⟩ := ba
  obtain ⟨k0, k7⟩ := bk
  obtain ⟨n0, n7⟩ := bn
  have ab : a < (m.regs.length : Int) := by have := hm.regs; omega
  have kb : k < (m.regs.length : Int) := by have := hm.regs; omega
  have hwj : IntKind.i64.wrap (m.pc + n) = m.pc + n := IntWalk.i64_in _ (by omega)
  clear h ha hreg hi hm hf hR
  go_wp2_with fail
  refine HK.out _ _ _ _ _ _ _ _ _ _ _ _ _ _ _ _ _ _ _ _ _ _ _ _ _ _ _ _ _ _ _ _ _ _ _ _ _ _ _ _ _ _ _ _ _ _ _ _ _ _ _ _ _ _ _ _ _ _ _ _ _ _ _ _ _ _ _ _ _ _ _ _ _ _ _ _ _ _ _ _ _ _ _ _ _ _ _ _ _ _ _ _ _ _ _ _ _ _ _ _ _ _ _ _ _ _ _ _ _ _ _ _ _ _ _ _ _ _ _ _ _ _ _ _ _ _ _ _ _ _ _ _ _ _ _ _ _ _ _ _ _ _ _ _ _ _ _ _ _ _ _ _ _ _ _ _ _ _ _ _ _ _ _ _ _ _ _ _ _ _ _ _ _ _ _ _ _ _ _ _ _ _ _ _ _ _ _ _ _ _ _ _ _ _ _ _ _ _ _ _ _ _ _ _ _ m (m.pc + n) (-1) _ ?_ ⟨by omega, by omega⟩ ?_
  · exact HS.out.1
  · rw [HR.out]
    simp [Mach.exec, HF.out]


set_option maxRecDepth 100000 in
set_option maxHeartbeats 4000000 in
theorem op15 (c0 c1 c2 c5 c6 c7 c9 aa ac ds dt du dv ad ae af ag ah ai aj ak al am an ao ap aq ar au av aw ax ay az bb bc bd be bf bg bh bi bj bl bm bo bp bq br bs bt bu bv bw bx bz ca cb cc cd ce cf cg ch ci cj ck cl cm cn co cp cq cr cs ct cu cv cw cx cy cz da db dc dd de df dg dh di dw dx dy dz ea eb ec ed ee ef eg eh ei ej ek el em en eo ep er es et eu ev ew ex ey ez fa fb fc fd fe ff fg fh fi fj fk fl fm fn fo fp fq fr fs ft fu fv fw fx fy fz ga gc gd gf gg gh gi gj gk gl gm gn gp gq gr gs gu gv gw gx gy gz hb hc hd he hh hj hk hl hn ho hp hr hs ht hu hv hw hx hy hz ia ic ie ig ih ii ij ik il im io ip iq ir it iu iv iw ix iy iz ja jb jc jd je jf jg jh ji jj jk jl jm jn jo jp jq jr js jt ju jv jw jx jy jz ka kc kd ke kf kg kh ki kj kk kl km kn ko kp kq kr ks kt ku kv kw kx ky kz la lb lc ld lf lg lh li lj lk ll lm ln lp lq lr ls lu lv lw lx ly lz ma mb mc md me mf mg dj dk dl dm dn dp dq dr : Value) (m : Mach) (ib : Nat) (a k n value : Int) (R : Mach × Int) (w W : World) (lo b : Nat) (K : Act → World → Prop) (Q : Exit → Act → World → Prop)
    (h : StpI KK w W lo b m) (hm : MayP m) (hf : m.fin = 0) (hi : W.heap[ib]? = some (.cells #[.int .i64 15, .int .i64 a, .int .i64 k, .int .i64 n] 83 (0, 0))) (ba : 0 ≤ a ∧ a ≤ 7) (bk : 0 ≤ k ∧ k ≤ 7) (bn : -1048576 ≤ n ∧ n ≤ 1048575) (hR : R = m.exec 15 a k n value)
    (hK : ∀ (mh mi mj mk ml mm mn mo mp mq mr ms mt mu mw mx my mz na nb nc nd nf ng nh ni nj nk nl nm nn no np nq nr ns nt nu nv nw ny nz oa ob oc od oe og oh oi oj ok ol om oo op oq os ot ou ow ox oy oz pa pb pc pd pe pf pg ph pi pj pk pl pm pn po pp pq pr ps pt pu pv pw px py pz qa qb qc qd qe qf qg qh qi qj qk ql qm qn qo qp qq qr qs qt qu qv qw qx qy qz ra rb rc rd re rf rg rh ri rj rk rl rm rn ro rp rq rr rs rt ru rx ry rz sa sb sc sd se sf sg sh si sj sk sl sm sn so sp sq sr ss st su sv sw sx sy sz ta tb tc td te tf tg th ti tj tk tl tm tn to tp tq tr ts tt tu tv tw tx ty tz ua ub uc ud ue uf ug uh ui uj uk ul um : Value) (M' : Mach) (nx wr : Int) (W' : World), StpI KK w W' lo b M' → (-4398046511104 ≤ nx ∧ nx ≤ 4398046511104) → R = (if M'.fin = 0 then M'.go nx else M', wr) → K ⟨#[c0, c1, c2, .int .i64 value, .pointer (some ⟨b, 0, none⟩), c5, c6, c7, .pointer (some ⟨b + 1, 0, none⟩), c9, aa, .pointer (some ⟨ib, 0, none⟩), ac, .int .i64 nx, .int .i64 wr, mh, mi, mj, mk, ml, mm, ad, ae, af, ag, ah, ai, aj, ak, al, am, an, ao, ap, aq, ar, au, av, aw, ax, ay, az, bb, bc, bd, be, bf, bg, bh, bi, bj, bl, bm, bo, bp, bq, br, bs, bt, bu, bv, bw, bx, bz, ca, cb, cc, cd, ce, cf, cg, ch, ci, cj, ck, cl, cm, cn, co, cp, cq, cr, cs, ct, cu, cv, cw, cx, cy, cz, da, db, dc, dd, de, df, dg, dh, di, mn, mo, mp, mq, mr, ms, mt, mu, mw, mx, my, mz, na, nb, nc, nd, nf, ng, nh, ni, nj, nk, nl, nm, nn, no, np, nq, nr, ns, nt, nu, nv, nw, ny, nz, oa, ob, oc, od, oe, og, oh, oi, oj, ok, ol, om, oo, op, oq, os, ot, ou, ow, ox, oy, oz, pa, pb, pc, pd, pe, pf, pg, ph, pi, pj, pk, pl, pm, pn, po, pp, pq, pr, ps, pt, pu, pv, pw, px, py, pz, qa, qb, qc, qd, qe, qf, qg, qh, qi, qj, qk, ql, qm, qn, qo, qp, qq, qr, qs, qt, qu, qv, qw, qx, qy, qz, ra, rb, rc, rd, re, rf, rg, rh, ri, rj, rk, rl, rm, rn, ro, rp, rq, rr, rs, rt, ru, rx, ry, rz, sa, sb, sc, sd, se, sf, sg, sh, si, sj, sk, sl, sm, sn, so, sp, sq, sr, ss, st, su, sv, sw, sx, sy, sz, ta, tb, tc, td, te, tf, tg, th, ti, tj, tk, tl, tm, tn, to, tp, tq, tr, ts, tt, tu, tv, tw, tx, ty, tz, ua, ub, uc, ud, ue, uf, ug, uh, ui, uj, uk, ul, um, dj, dk, dl, dm, dn, dp, dq, dr], []⟩ W') :
    Code.wp Tryd.prog (stm 12 (Tryd.f34.body.getD .skip)) (Exit.then K Q) ⟨#[c0, c1, c2, .int .i64 value, .pointer (some ⟨b, 0, none⟩), c5, c6, c7, .pointer (some ⟨b + 1, 0, none⟩), c9, aa, .pointer (some ⟨ib, 0, none⟩), ac, .int .i64 (m.pc + 1), .int .i64 (-1), .int .i64 (m.reg a), .int .i64 (m.reg k), ds, dt, du, dv, ad, ae, af, ag, ah, ai, aj, ak, al, am, an, ao, ap, aq, ar, au, av, aw, ax, ay, az, bb, bc, bd, be, bf, bg, bh, bi, bj, bl, bm, bo, bp, bq, br, bs, bt, bu, bv, bw, bx, bz, ca, cb, cc, cd, ce, cf, cg, ch, ci, cj, ck, cl, cm, cn, co, cp, cq, cr, cs, ct, cu, cv, cw, cx, cy, cz, da, db, dc, dd, de, df, dg, dh, di, dw, dx, dy, dz, ea, eb, ec, ed, ee, ef, eg, eh, ei, ej, ek, el, em, en, eo, ep, er, es, et, eu, ev, ew, ex, ey, ez, fa, fb, fc, fd, fe, ff, fg, fh, fi, fj, fk, fl, fm, fn, fo, fp, fq, fr, fs, ft, fu, fv, fw, fx, fy, fz, ga, gc, gd, gf, gg, gh, gi, gj, gk, gl, gm, gn, gp, gq, gr, gs, gu, gv, gw, gx, gy, gz, hb, hc, hd, he, hh, hj, hk, hl, hn, ho, hp, hr, hs, ht, hu, hv, hw, hx, hy, hz, ia, ic, ie, ig, ih, ii, ij, ik, il, im, io, ip, iq, ir, it, iu, iv, iw, ix, iy, iz, ja, jb, jc, jd, je, jf, jg, jh, ji, jj, jk, jl, jm, jn, jo, jp, jq, jr, js, jt, ju, jv, jw, jx, jy, jz, ka, kc, kd, ke, kf, kg, kh, ki, kj, kk, kl, km, kn, ko, kp, kq, kr, ks, kt, ku, kv, kw, kx, ky, kz, la, lb, lc, ld, lf, lg, lh, li, lj, lk, ll, lm, ln, lp, lq, lr, ls, lu, lv, lw, lx, ly, lz, ma, mb, mc, md, me, mf, mg, dj, dk, dl, dm, dn, dp, dq, dr], []⟩ W := by
  have HK : Hid _ := hK
  clear hK
  conv => arg 2; whnf
  obtain ⟨rv, mv, ov, ha⟩ := h.at_
  obtain ⟨g, c, rfl, hg, hreg, hfz⟩ := ha.regs_at hm.regs
  obtain ⟨⟨z0, z1, z2, z3, z4, z5, z6, z7, z8, z9, z10, z11⟩, zf, zl⟩ := twelve_cells ha.box
  obtain ⟨x0, x1, x2, x3, xf, xl⟩ := four_cells hi
  rw [hf] at z7
  obtain ⟨p1, p2⟩ := wordB_iff.1 hm.pc
  have gb : ¬ b = g := ha.ne_regs
  have gb2 : ¬ g = b := fun e => gb e.symm
  have HS : Hid (StpI KK w W lo b m ∧ AtP W lo b (.slice (some ⟨g, 0, none⟩) m.regs.length c) mv ov m) := ⟨h, ha⟩
  have HM : Hid (MayP m) := hm
  have HF : Hid (m.fin = 0) := hf
  have HBD : Hid ((0 ≤ a ∧ a ≤ 7) ∧ (0 ≤ k ∧ k ≤ 7) ∧ (-1048576 ≤ n ∧ n ≤ 1048575)) := ⟨ba, bk, bn⟩
  have HR : Hid (R = m.exec 15 a k n value) := hR
  obtain ⟨a0, a7⟩ := ba
  obtain ⟨k0, k7⟩ := bk
  obtain ⟨n0, n7⟩ := bn
  have ab : a < (m.regs.length : Int) := by have := hm.regs; omega
  have kb : k < (m.regs.length : Int) := by have := hm.regs; omega
  clear h ha hreg hi hm hf hR
  go_wp2_with fail
  refine HK.out _ _ _ _ _ _ _ _ _ _ _ _ _ _ _ _ _ _ _ _ _ _ _ _ _ _ _ _ _ _ _ _ _ _ _ _ _ _ _ _ _ _ _ _ _ _ _ _ _ _ _ _ _ _ _ _ _ _ _ _ _ _ _ _ _ _ _ _ _ _ _ _ _ _ _ _ _ _ _ _ _ _ _ _ _ _ _ _ _ _ _ _ _ _ _ _ _ _ _ _ _ _ _ _ _ _ _ _ _ _ _ _ _ _ _ _ _ _ _ _ _ _ _ _ _ _ _ _ _ _ _ _ _ _ _ _ _ _ _ _ _ _ _ _ _ _ _ _ _ _ _ _ _ _ _ _ _ _ _ _ _ _ _ _ _ _ _ _ _ _ _ _ _ _ _ _ _ _ _ _ _ _ _ _ _ _ _ _ _ _ _ _ _ _ _ _ _ _ _ _ _ _ _ _ _ m (m.pc + 1) (-1) _ ?_ ⟨by omega, by omega⟩ ?_
  · exact HS.out.1
  · rw [HR.out]
    simp [Mach.exec, HF.out]


end Go.Proofs.YtbjlfhpiebokkaaDoor
