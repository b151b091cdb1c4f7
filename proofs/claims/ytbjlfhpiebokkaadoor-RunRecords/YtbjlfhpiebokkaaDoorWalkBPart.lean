/- Contract of sameInts: it tells whether two lists of numbers are the same. -/
import Derived.Test.YtbjlfhpiebokkaaDoorRecBPart
import Derived.Test.YtbjlfhpiebokkaaDoorGuestPart
import Derived.Test.YtbjlfhpiebokkaaDoorBasePart
import Derived.Maps.AppendAt
import Derived.Laws.AppendOwnNone
import Derived.Test.YtbjlfhpiebokkaaDoorRdJPart
import Derived.Laws.BytesArg
namespace Go.Proofs.YtbjlfhpiebokkaaDoor
open Go.RowKit
set_option maxRecDepth 100000

theorem take_eq_step {la lb : List Int} {k : Nat} (ha : k < la.length) (hb : k < lb.length) (h : la.take k = lb.take k) (e : la.getD k 0 = lb.getD k 0) : la.take (k + 1) = lb.take (k + 1) := by
  rw [List.take_succ_eq_append_getElem ha, List.take_succ_eq_append_getElem hb, h]
  simp [List.getD, ha, hb] at e
  rw [e]

theorem eq_of_take {la lb : List Int} {k : Nat} (hl : la.length = lb.length) (hk : ¬ k < la.length) (h : la.take k = lb.take k) : la = lb := by
  rw [List.take_of_length_le (by omega), List.take_of_length_le (by omega)] at h
  exact h

set_option maxHeartbeats 400000 in
theorem sameInts_any (va vb : Value) (la lb : List Int) (w : World) (ha : IntsAt w va la) (hb : IntsAt w vb lb) :
    Calls Tryd.prog 37 #[va, vb] w fun e w' => e = .returned (.bool (decide (la = lb))) ∧ ∃ n, w' = w.drewN n := by
  obtain ⟨A, ca, rfl, hla, hca⟩ := ha
  obtain ⟨B, cb, rfl, hlb, hcb⟩ := hb
  by_cases hlen : la.length = lb.length
  · have hl1 : (((la.length : Int)) != (lb.length : Int)) = false := by simp [hlen]
    have HL : Hid (la.length = lb.length) := hlen
    have hle1 : la.length ≤ lb.length := by omega
    have hle2 : lb.length ≤ la.length := by omega
    clear hlen
    go_enter Tryd.func37, Tryd.ntmps37
    go_wp2
    go_loopw [5] (fun i wr => ∃ k : Nat, k ≤ la.length ∧ i = .int .i64 k ∧ Hid (la.take k = lb.take k) ∧ ∃ n, wr = w.drewN n) (fun i _ => la.length - (intOf i).toNat)
    case atStart => exact ⟨0, Nat.zero_le _, rfl, by simp [Hid], 0, rfl⟩
    case round =>
      obtain ⟨k, hk, rfl, ht, n, rfl⟩ := hrel
      by_cases hlt : k < la.length
      · obtain ⟨b, off, rfl, hbs, hcell⟩ := hca (by omega)
        obtain ⟨b', off', rfl, hbs', hcell'⟩ := hcb (by omega)
        have h1 := hcell k hlt
        have h2 := hcell' k (by omega)
        clear hcell hcell' hca hcb
        have hx : Hid (la.getD k 0 = la.getD k 0) := rfl
        have hy : Hid (lb.getD k 0 = lb.getD k 0) := rfl
        revert h1 h2 hx hy
        generalize hgx : la.getD k 0 = x
        generalize hgy : lb.getD k 0 = y
        intro h1 h2 _ _
        have HX : Hid (la.getD k 0 = x) := hgx
        have HY : Hid (lb.getD k 0 = y) := hgy
        clear hgx hgy
        by_cases he : x = y
        · subst he
          go_wp2
          go_quiet (fail)
          go_wp2
          refine ⟨⟨k + 1, by omega, by go_num, take_eq_step (by omega) (by omega) ht.out (HX.out.trans HY.out.symm), _, rfl⟩, ?_⟩
          simp [intOf]; omega
        · have hne : (x != y) = true := by simp [he]
          have HE : Hid (x ≠ y) := he
          clear he
          go_wp2
          go_quiet (fail)
          go_wp2
          go_ret
          refine ⟨?_, drewN_two _ _ _⟩
          have : la ≠ lb := fun h => HE.out (by rw [← HX.out, ← HY.out, h])
          simp [this]
      · clear hca hcb
        go_wp2
        go_ret
        refine ⟨?_, _, rfl⟩
        simp [eq_of_take HL.out hlt ht.out]
  · have hl1 : (((la.length : Int)) != (lb.length : Int)) = true := by simp; omega
    have HL : Hid (la ≠ lb) := fun h => hlen (by rw [h])
    clear hlen
    go_enter Tryd.func37, Tryd.ntmps37
    go_wp2
    go_ret
    refine ⟨?_, 0, rfl⟩
    have := HL.out
    simp [this]

end Go.Proofs.YtbjlfhpiebokkaaDoor

/- Contract of sameMachine: two guests that are the same. -/

namespace Go.Proofs.YtbjlfhpiebokkaaDoor
open Go.RowKit

theorem sameInts_same (va vb : Value) (l : List Int) (w : World) (ha : IntsAt w va l) (hb : IntsAt w vb l) :
    Calls Tryd.prog 37 #[va, vb] w fun e w' => e = .returned (.bool true) ∧ ∃ n, w' = w.drewN n := by
  have := sameInts_any va vb l l w ha hb
  simpa using this

set_option maxHeartbeats 4000000 in
theorem sameMachine_same (m : Mach) (rv mv ov rv' mv' ov' : Value) (w : World) (ha : MachAt w rv mv ov m) (hb : MachAt w rv' mv' ov' m) :
    Calls Tryd.prog 11 #[.agg (m.cells rv mv ov), .agg (m.cells rv' mv' ov')] w fun e w' => e = .returned (.bool true) ∧ Below w.heap.size w w' := by
  obtain ⟨r, p, k, i, t, a, n, f, m, o, y, q⟩ := m
  have H1 : Hid (IntsAt w rv r) := ha.regs
  have H2 : Hid (IntsAt w mv m) := ha.mem
  have H3 : Hid (IntsAt w ov o) := ha.out
  have K1 : Hid (IntsAt w rv' r) := hb.regs
  have K2 : Hid (IntsAt w mv' m) := hb.mem
  have K3 : Hid (IntsAt w ov' o) := hb.out
  clear ha hb
  simp only [Mach.cells]
  go_enter Tryd.func11, Tryd.ntmps11
  go_wp2_with fail
  refine (sameInts_same rv rv' r _ (H1.out.below (below_alloc2 _ _ _)) (K1.out.below (below_alloc2 _ _ _))).mono ?_
  rintro e w' ⟨rfl, j1, rfl⟩
  clear H1 K1
  go_wp2_with fail
  refine (sameInts_same mv mv' m _ ((H2.out.below (below_alloc2 _ _ _)).drewN _) ((K2.out.below (below_alloc2 _ _ _)).drewN _)).mono ?_
  rintro e w' ⟨rfl, j2, rfl⟩
  clear H2 K2
  go_wp2_with fail
  refine (sameInts_same ov ov' o _ ((H3.out.below (below_alloc2 _ _ _)).drewN _) ((K3.out.below (below_alloc2 _ _ _)).drewN _)).mono ?_
  rintro e w' ⟨rfl, j3, rfl⟩
  clear H3 K3
  go_wp2_with fail
  go_ret
  exact ⟨rfl, below_drewN (below_alloc2 _ _ _) _⟩

end Go.Proofs.YtbjlfhpiebokkaaDoor

/- append at a step of a region that draws its order. -/

namespace Go.Proofs.YtbjlfhpiebokkaaDoor
open Go.RowKit
variable {P : Program}

theorem step_append_at {ops : Array Oper} {o : Oper} {a : Act} {w : World} {K : Act → World → Prop} {Q : Exit → Act → World → Prop} {E : Prop} (hgd : o.guard = none) (s x : Operand) (t : TypeId)
    (ho : o.op = .call { callee := .builtin .append, args := #[s, x], argTypes := #[t, t] })
    (base : Nat) (e : TypeId) (i : TypeInfo) (z : Value) (size bytes : Nat) (ht : P.underlying t = some (.slice e)) (hi : P.info? e = some i) (hz : i.zero = some z)
    (hsize : i.size = size) (hby : i.bytes = bytes) (hzs : z.cells.size = size) (hsz : 0 < size)
    (v : Value) (n : Nat) (xs : List Value) (hs : a.eval s = v) (hown : w.ownsRow base e size v n xs)
    (ad : Addr) (m c : Nat) (news : List Value) (hx : a.eval x = .slice (some ad) m c) (hl : news.length = m * size) (hnews : ∀ j u, news[j]? = some u → w.cell? (ad.add j) = some u) (h1 : ∀ u ∈ news, u.oneCell' = true)
    (h63 : n + m ≤ maxLen) (hbytes : (n + m) * bytes ≤ 140737488355328) (hbase : base ≤ w.heap.size)
    (h : ∀ v' w', w'.ownsRow base e size v' (n + m) (xs ++ news) → w.grownBy w' v.ownBlock → K (a.put o.dst v') w') :
    if Region.wanted o (yielded ops a.tmps) = true then Oper.wp P o a w K Q else E := by
  have hw : Region.wanted o (yielded ops a.tmps) = true := by simp [Region.wanted, hgd]
  rw [if_pos hw]
  obtain ⟨v', w', hr, h2, h3, -, -⟩ := run_append_own_at (P := P) w base t o.type e i z size bytes ht hi hz hsize hby hzs hsz v n xs hown ad m c news hl hnews h1 h63 hbytes hbase
  unfold Oper.wp execOp
  simp only [ho, resolve, invoke, builtin, Sem.run_bind, Sem.run_pure, Result.andThen_ok, List.map_toArray, List.map_cons, List.map_nil, hs, hx, hr]
  exact h v' w' h2 h3

theorem step_append_none {ops : Array Oper} {o : Oper} {a : Act} {w : World} {K : Act → World → Prop} {Q : Exit → Act → World → Prop} {E : Prop} (hgd : o.guard = none) (s x : Operand) (t : TypeId)
    (ho : o.op = .call { callee := .builtin .append, args := #[s, x], argTypes := #[t, t] })
    (base : Nat) (e : TypeId) (i : TypeInfo) (size : Nat) (ht : P.underlying t = some (.slice e)) (hi : P.info? e = some i)
    (v : Value) (n : Nat) (xs : List Value) (hs : a.eval s = v) (hown : w.ownsRow base e size v n xs) (hx : a.eval x = .slice none 0 0)
    (h : K (a.put o.dst v) w) :
    if Region.wanted o (yielded ops a.tmps) = true then Oper.wp P o a w K Q else E := by
  have hw : Region.wanted o (yielded ops a.tmps) = true := by simp [Region.wanted, hgd]
  rw [if_pos hw]
  have hrun := run_append_owned_none (P := P) (w := w) base t o.type e i size ht hi v n xs hown
  unfold Oper.wp execOp
  simp only [ho, resolve, invoke, builtin, Sem.run_bind, Sem.run_pure, Result.andThen_ok, List.map_toArray, List.map_cons, List.map_nil, hs, hx, hrun]
  exact h

end Go.Proofs.YtbjlfhpiebokkaaDoor

/- A recording's answer in two boxes. (Written by tools/gen_rr.py.) -/

namespace Go.Proofs.YtbjlfhpiebokkaaDoor
open Go.RowKit
set_option maxRecDepth 100000
set_option linter.unusedVariables false

structure RecV (w : World) (lo : Nat) (G : RecA) (A1 : Option Addr) (c1 : Nat) (Ae : Option Addr) (ce : Nat) (B1 : Option Addr) (d1 : Nat) (B2 : Option Addr) (d2 : Nat) (B3 : Option Addr) (d3 : Nat) : Prop where
  im : OwnI w lo (.slice A1 G.im.length c1) G.im
  bs : OwnB w lo (.slice Ae G.bs.length ce) G.bs
  m : OwnM w lo (.slice B1 G.m.regs.length d1) (.slice B2 G.m.mem.length d2) (.slice B3 G.m.out.length d3) G.m
theorem RecV.below {w w' : World} {lo : Nat} {G : RecA} {A1 : Option Addr} {c1 : Nat} {Ae : Option Addr} {ce : Nat} {B1 : Option Addr} {d1 : Nat} {B2 : Option Addr} {d2 : Nat} {B3 : Option Addr} {d3 : Nat} (h : RecV w lo G A1 c1 Ae ce B1 d1 B2 d2 B3 d3) (hb : Below w.heap.size w w') : RecV w' lo G A1 c1 Ae ce B1 d1 B2 d2 B3 d3 :=
  ⟨OwnI.below h.im hb, ownsRow_below h.bs hb, h.m.below hb⟩
theorem RecV.mono {w : World} {lo lo' : Nat} {G : RecA} {A1 : Option Addr} {c1 : Nat} {Ae : Option Addr} {ce : Nat} {B1 : Option Addr} {d1 : Nat} {B2 : Option Addr} {d2 : Nat} {B3 : Option Addr} {d3 : Nat} (h : RecV w lo G A1 c1 Ae ce B1 d1 B2 d2 B3 d3) (hl : lo' ≤ lo) : RecV w lo' G A1 c1 Ae ce B1 d1 B2 d2 B3 d3 :=
  ⟨ownsRow_mono h.im hl, ownsRow_mono h.bs hl, h.m.mono hl⟩
theorem RecV.set {w : World} {lo : Nat} {G : RecA} {A1 : Option Addr} {c1 : Nat} {Ae : Option Addr} {ce : Nat} {B1 : Option Addr} {d1 : Nat} {B2 : Option Addr} {d2 : Nat} {B3 : Option Addr} {d3 : Nat} (h : RecV w lo G A1 c1 Ae ce B1 d1 B2 d2 B3 d3) {p : Nat} {t : TypeId} (hp : IsBoxT w p t) (h1 : 3 ≠ t) (h2 : 5 ≠ t) (i : Nat) (v : Value) : RecV (w.setCell ⟨p, i, none⟩ v) lo G A1 c1 Ae ce B1 d1 B2 d2 B3 d3 :=
  ⟨own_set h.im hp h1 i v, own_set h.bs hp h2 i v, ⟨own_set h.m.regs hp h1 i v, own_set h.m.mem hp h1 i v, own_set h.m.out hp h1 i v, h.m.rm, h.m.ro, h.m.mo⟩⟩
theorem RecV.set3 {w : World} {lo : Nat} {G : RecA} {A1 : Option Addr} {c1 : Nat} {Ae : Option Addr} {ce : Nat} {B1 : Option Addr} {d1 : Nat} {B2 : Option Addr} {d2 : Nat} {B3 : Option Addr} {d3 : Nat} (h : RecV w lo G A1 c1 Ae ce B1 d1 B2 d2 B3 d3) {p : Nat} {t : TypeId} (hp : IsBoxT w p t) (h1 : 3 ≠ t) (h2 : 5 ≠ t) (x0 x1 x2 : Value) : RecV (((w.setCell ⟨p, 0, none⟩ x0).setCell ⟨p, 1, none⟩ x1).setCell ⟨p, 2, none⟩ x2) lo G A1 c1 Ae ce B1 d1 B2 d2 B3 d3 :=
  ((h.set hp h1 h2 0 x0).set (hp.set 0 x0) h1 h2 1 x1).set ((hp.set 0 x0).set 1 x1) h1 h2 2 x2
theorem RecV.set12 {w : World} {lo : Nat} {G : RecA} {A1 : Option Addr} {c1 : Nat} {Ae : Option Addr} {ce : Nat} {B1 : Option Addr} {d1 : Nat} {B2 : Option Addr} {d2 : Nat} {B3 : Option Addr} {d3 : Nat} (h : RecV w lo G A1 c1 Ae ce B1 d1 B2 d2 B3 d3) {p : Nat} {t : TypeId} (hp : IsBoxT w p t) (h1 : 3 ≠ t) (h2 : 5 ≠ t) (x0 x1 x2 x3 x4 x5 x6 x7 x8 x9 x10 x11 : Value) : RecV (set12 w p x0 x1 x2 x3 x4 x5 x6 x7 x8 x9 x10 x11) lo G A1 c1 Ae ce B1 d1 B2 d2 B3 d3 :=
  ⟨own_set12 h.im hp h1 _ _ _ _ _ _ _ _ _ _ _ _, own_set12 h.bs hp h2 _ _ _ _ _ _ _ _ _ _ _ _, ⟨own_set12 h.m.regs hp h1 _ _ _ _ _ _ _ _ _ _ _ _, own_set12 h.m.mem hp h1 _ _ _ _ _ _ _ _ _ _ _ _, own_set12 h.m.out hp h1 _ _ _ _ _ _ _ _ _ _ _ _, h.m.rm, h.m.ro, h.m.mo⟩⟩
theorem box_set3 {w : World} {p : Nat} {a b c : Value} {t : TypeId} (h : w.heap[p]? = some (.cells #[a, b, c] t (0, 0))) (x0 x1 x2 : Value) : (((w.setCell ⟨p, 0, none⟩ x0).setCell ⟨p, 1, none⟩ x1).setCell ⟨p, 2, none⟩ x2).heap[p]? = some (.cells #[x0, x1, x2] t (0, 0)) := by
  exact box_set (i := 2) (box_set (i := 1) (box_set (i := 0) h x0) x1) x2
theorem heap_set3 {w : World} {b c : Nat} (hne : b ≠ c) (x0 x1 x2 : Value) : (((w.setCell ⟨c, 0, none⟩ x0).setCell ⟨c, 1, none⟩ x1).setCell ⟨c, 2, none⟩ x2).heap[b]? = w.heap[b]? := by
  rw [Go.Deep.blk_setCell_other _ _ _ _ (by simpa using hne), Go.Deep.blk_setCell_other _ _ _ _ (by simpa using hne), Go.Deep.blk_setCell_other _ _ _ _ (by simpa using hne)]
theorem below_set3 {w0 w : World} {B p : Nat} (h : Below B w0 w) (h1 : B ≤ p) (x0 x1 x2 : Value) : Below B w0 (((w.setCell ⟨p, 0, none⟩ x0).setCell ⟨p, 1, none⟩ x1).setCell ⟨p, 2, none⟩ x2) :=
  ((h.setCell (p := ⟨p, 0, none⟩) h1 x0).setCell (p := ⟨p, 1, none⟩) h1 x1).setCell (p := ⟨p, 2, none⟩) h1 x2

structure RecF (w wx : World) (wv : Array Value) (p q : Nat) (G : RecA) (A1 : Option Addr) (c1 : Nat) (Ae : Option Addr) (ce : Nat) (B1 : Option Addr) (d1 : Nat) (B2 : Option Addr) (d2 : Nat) (B3 : Option Addr) (d3 : Nat) : Prop where
  tb : wx.heap[p]? = some (.cells #[.slice A1 G.im.length c1, .slice Ae G.bs.length ce, .int .i64 G.cnt] 28 (0, 0))
  mb : wx.heap[q]? = some (.cells #[.slice B1 G.m.regs.length d1, .int .i64 G.m.pc, .int .i64 G.m.back, .bool G.m.ints, .bool G.m.wait, .int .i64 G.m.table, .int .i64 G.m.count, .int .i64 G.m.fin, .slice B2 G.m.mem.length d2, .slice B3 G.m.out.length d3, .int .i64 G.m.ready, .int .i64 G.m.want] 30 (0, 0))
  v : RecV wx w.heap.size G A1 c1 Ae ce B1 d1 B2 d2 B3 d3
  old : Below w.heap.size w wx
  wb : wx.heap[w.heap.size]? = some (.cells wv 25 (0, 0))
theorem fin_bb {G : RecA} {A1 : Option Addr} {c1 : Nat} {Ae : Option Addr} {ce : Nat} {B1 : Option Addr} {d1 : Nat} {B2 : Option Addr} {d2 : Nat} {B3 : Option Addr} {d3 : Nat} {w w6 : World} {wv : Array Value} {lo p q : Nat} (h7 : w6.heap[p]? = some (.cells zeroT 28 (0, 0))) (h8 : w6.heap[q]? = some (.cells zeroM 30 (0, 0))) (hp : w.heap.size ≤ p) (hq : w.heap.size ≤ q) (hW : w6.heap[w.heap.size]? = some (.cells wv 25 (0, 0))) (hV : RecV w6 lo G A1 c1 Ae ce B1 d1 B2 d2 B3 d3) (hB : Below w.heap.size w w6) (hl : w.heap.size ≤ lo) : RecF w (set12 (((w6.setCell ⟨p, 0, none⟩ (.slice A1 G.im.length c1)).setCell ⟨p, 1, none⟩ (.slice Ae G.bs.length ce)).setCell ⟨p, 2, none⟩ (.int .i64 G.cnt)) q (.slice B1 G.m.regs.length d1) (.int .i64 G.m.pc) (.int .i64 G.m.back) (.bool G.m.ints) (.bool G.m.wait) (.int .i64 G.m.table) (.int .i64 G.m.count) (.int .i64 G.m.fin) (.slice B2 G.m.mem.length d2) (.slice B3 G.m.out.length d3) (.int .i64 G.m.ready) (.int .i64 G.m.want)) wv p q G A1 c1 Ae ce B1 d1 B2 d2 B3 d3 := by
  have hlo := hB.size
  have hne : p ≠ q := blk_ne h7 h8 (by decide)
  have hT : IsBoxT w6 p 28 := ⟨_, h7⟩
  have hM : IsBoxT w6 q 30 := ⟨_, h8⟩
  exact ⟨(heap_set12 hne _ _ _ _ _ _ _ _ _ _ _ _).trans (box_set3 h7 _ _ _), box_set12 ((heap_set3 (Ne.symm hne) _ _ _).trans h8) rfl _ _ _ _ _ _ _ _ _ _ _ _, (((hV.mono hl).set3 hT (by decide) (by decide) _ _ _)).set12 (((hM.set _ _).set _ _).set _ _) (by decide) (by decide) _ _ _ _ _ _ _ _ _ _ _ _, below_set12 (below_set3 hB hp _ _ _) hq _ _ _ _ _ _ _ _ _ _ _ _, (heap_set12 (blk_ne hW h8 (by decide)) _ _ _ _ _ _ _ _ _ _ _ _).trans ((heap_set3 (blk_ne hW h7 (by decide)) _ _ _).trans hW)⟩
theorem fin_ba {G : RecA} {A1 : Option Addr} {c1 : Nat} {Ae : Option Addr} {ce : Nat} {B1 : Option Addr} {d1 : Nat} {B2 : Option Addr} {d2 : Nat} {B3 : Option Addr} {d3 : Nat} {w w6 : World} {wv : Array Value} {lo p q : Nat} (h7 : w6.heap[p]? = some (.cells zeroT 28 (0, 0))) (hp : w.heap.size ≤ p) (hW : w6.heap[w.heap.size]? = some (.cells wv 25 (0, 0))) (hV : RecV w6 lo G A1 c1 Ae ce B1 d1 B2 d2 B3 d3) (hB : Below w.heap.size w w6) (hl : w.heap.size ≤ lo) : RecF w ((((w6.setCell ⟨p, 0, none⟩ (.slice A1 G.im.length c1)).setCell ⟨p, 1, none⟩ (.slice Ae G.bs.length ce)).setCell ⟨p, 2, none⟩ (.int .i64 G.cnt)).alloc (.cells #[.slice B1 G.m.regs.length d1, .int .i64 G.m.pc, .int .i64 G.m.back, .bool G.m.ints, .bool G.m.wait, .int .i64 G.m.table, .int .i64 G.m.count, .int .i64 G.m.fin, .slice B2 G.m.mem.length d2, .slice B3 G.m.out.length d3, .int .i64 G.m.ready, .int .i64 G.m.want] 30)) wv p w6.heap.size G A1 c1 Ae ce B1 d1 B2 d2 B3 d3 := by
  have hlo := hB.size
  have hT : IsBoxT w6 p 28 := ⟨_, h7⟩
  have hlt := lt_of_block h7
  have hA := below_alloc (((w6.setCell ⟨p, 0, none⟩ (.slice A1 G.im.length c1)).setCell ⟨p, 1, none⟩ (.slice Ae G.bs.length ce)).setCell ⟨p, 2, none⟩ (.int .i64 G.cnt)) (.cells #[.slice B1 G.m.regs.length d1, .int .i64 G.m.pc, .int .i64 G.m.back, .bool G.m.ints, .bool G.m.wait, .int .i64 G.m.table, .int .i64 G.m.count, .int .i64 G.m.fin, .slice B2 G.m.mem.length d2, .slice B3 G.m.out.length d3, .int .i64 G.m.ready, .int .i64 G.m.want] 30)
  have hs : (((w6.setCell ⟨p, 0, none⟩ (.slice A1 G.im.length c1)).setCell ⟨p, 1, none⟩ (.slice Ae G.bs.length ce)).setCell ⟨p, 2, none⟩ (.int .i64 G.cnt)).heap.size = w6.heap.size := by simp
  have hq := Go.Deep.blk_alloc_new (((w6.setCell ⟨p, 0, none⟩ (.slice A1 G.im.length c1)).setCell ⟨p, 1, none⟩ (.slice Ae G.bs.length ce)).setCell ⟨p, 2, none⟩ (.int .i64 G.cnt)) (.cells #[.slice B1 G.m.regs.length d1, .int .i64 G.m.pc, .int .i64 G.m.back, .bool G.m.ints, .bool G.m.wait, .int .i64 G.m.table, .int .i64 G.m.count, .int .i64 G.m.fin, .slice B2 G.m.mem.length d2, .slice B3 G.m.out.length d3, .int .i64 G.m.ready, .int .i64 G.m.want] 30)
  rw [hs] at hq
  exact ⟨(hA.block _ (by simp; omega)).trans (box_set3 h7 _ _ _), hq, ((hV.mono hl).set3 hT (by decide) (by decide) _ _ _).below hA, (below_set3 hB hp _ _ _).trans (hA.mono (by simp; omega)), (hA.block _ (by simp; have := lt_of_block hW; omega)).trans ((heap_set3 (blk_ne hW h7 (by decide)) _ _ _).trans hW)⟩
theorem fin_ab {G : RecA} {A1 : Option Addr} {c1 : Nat} {Ae : Option Addr} {ce : Nat} {B1 : Option Addr} {d1 : Nat} {B2 : Option Addr} {d2 : Nat} {B3 : Option Addr} {d3 : Nat} {w w6 : World} {wv : Array Value} {lo p q : Nat} (h8 : w6.heap[q]? = some (.cells zeroM 30 (0, 0))) (hq : w.heap.size ≤ q) (hW : w6.heap[w.heap.size]? = some (.cells wv 25 (0, 0))) (hV : RecV w6 lo G A1 c1 Ae ce B1 d1 B2 d2 B3 d3) (hB : Below w.heap.size w w6) (hl : w.heap.size ≤ lo) : RecF w ((set12 w6 q (.slice B1 G.m.regs.length d1) (.int .i64 G.m.pc) (.int .i64 G.m.back) (.bool G.m.ints) (.bool G.m.wait) (.int .i64 G.m.table) (.int .i64 G.m.count) (.int .i64 G.m.fin) (.slice B2 G.m.mem.length d2) (.slice B3 G.m.out.length d3) (.int .i64 G.m.ready) (.int .i64 G.m.want)).alloc (.cells #[.slice A1 G.im.length c1, .slice Ae G.bs.length ce, .int .i64 G.cnt] 28)) wv w6.heap.size q G A1 c1 Ae ce B1 d1 B2 d2 B3 d3 := by
  have hlo := hB.size
  have hM : IsBoxT w6 q 30 := ⟨_, h8⟩
  have hlt := lt_of_block h8
  have hA := below_alloc (set12 w6 q (.slice B1 G.m.regs.length d1) (.int .i64 G.m.pc) (.int .i64 G.m.back) (.bool G.m.ints) (.bool G.m.wait) (.int .i64 G.m.table) (.int .i64 G.m.count) (.int .i64 G.m.fin) (.slice B2 G.m.mem.length d2) (.slice B3 G.m.out.length d3) (.int .i64 G.m.ready) (.int .i64 G.m.want)) (.cells #[.slice A1 G.im.length c1, .slice Ae G.bs.length ce, .int .i64 G.cnt] 28)
  have hs : (set12 w6 q (.slice B1 G.m.regs.length d1) (.int .i64 G.m.pc) (.int .i64 G.m.back) (.bool G.m.ints) (.bool G.m.wait) (.int .i64 G.m.table) (.int .i64 G.m.count) (.int .i64 G.m.fin) (.slice B2 G.m.mem.length d2) (.slice B3 G.m.out.length d3) (.int .i64 G.m.ready) (.int .i64 G.m.want)).heap.size = w6.heap.size := by simp [set12]
  have hp := Go.Deep.blk_alloc_new (set12 w6 q (.slice B1 G.m.regs.length d1) (.int .i64 G.m.pc) (.int .i64 G.m.back) (.bool G.m.ints) (.bool G.m.wait) (.int .i64 G.m.table) (.int .i64 G.m.count) (.int .i64 G.m.fin) (.slice B2 G.m.mem.length d2) (.slice B3 G.m.out.length d3) (.int .i64 G.m.ready) (.int .i64 G.m.want)) (.cells #[.slice A1 G.im.length c1, .slice Ae G.bs.length ce, .int .i64 G.cnt] 28)
  rw [hs] at hp
  exact ⟨hp, (hA.block _ (by rw [hs]; omega)).trans (box_set12 h8 rfl _ _ _ _ _ _ _ _ _ _ _ _), ((hV.mono hl).set12 hM (by decide) (by decide) _ _ _ _ _ _ _ _ _ _ _ _).below hA, (below_set12 hB hq _ _ _ _ _ _ _ _ _ _ _ _).trans (hA.mono (by rw [hs]; omega)), (hA.block _ (by rw [hs]; have := lt_of_block hW; omega)).trans ((heap_set12 (blk_ne hW h8 (by decide)) _ _ _ _ _ _ _ _ _ _ _ _).trans hW)⟩
theorem fin_tm {G : RecA} {A1 : Option Addr} {c1 : Nat} {Ae : Option Addr} {ce : Nat} {B1 : Option Addr} {d1 : Nat} {B2 : Option Addr} {d2 : Nat} {B3 : Option Addr} {d3 : Nat} {w w6 : World} {wv : Array Value} {lo p q : Nat}  (hW : w6.heap[w.heap.size]? = some (.cells wv 25 (0, 0))) (hV : RecV w6 lo G A1 c1 Ae ce B1 d1 B2 d2 B3 d3) (hB : Below w.heap.size w w6) (hl : w.heap.size ≤ lo) : RecF w ((w6.alloc (.cells #[.slice A1 G.im.length c1, .slice Ae G.bs.length ce, .int .i64 G.cnt] 28)).alloc (.cells #[.slice B1 G.m.regs.length d1, .int .i64 G.m.pc, .int .i64 G.m.back, .bool G.m.ints, .bool G.m.wait, .int .i64 G.m.table, .int .i64 G.m.count, .int .i64 G.m.fin, .slice B2 G.m.mem.length d2, .slice B3 G.m.out.length d3, .int .i64 G.m.ready, .int .i64 G.m.want] 30)) wv w6.heap.size (w6.heap.size + 1) G A1 c1 Ae ce B1 d1 B2 d2 B3 d3 := by
  have hlo := hB.size
  obtain ⟨b0, b1, b2⟩ := two_boxes (Below.refl ((w6.alloc (.cells #[.slice A1 G.im.length c1, .slice Ae G.bs.length ce, .int .i64 G.cnt] 28)).alloc (.cells #[.slice B1 G.m.regs.length d1, .int .i64 G.m.pc, .int .i64 G.m.back, .bool G.m.ints, .bool G.m.wait, .int .i64 G.m.table, .int .i64 G.m.count, .int .i64 G.m.fin, .slice B2 G.m.mem.length d2, .slice B3 G.m.out.length d3, .int .i64 G.m.ready, .int .i64 G.m.want] 30)).heap.size ((w6.alloc (.cells #[.slice A1 G.im.length c1, .slice Ae G.bs.length ce, .int .i64 G.cnt] 28)).alloc (.cells #[.slice B1 G.m.regs.length d1, .int .i64 G.m.pc, .int .i64 G.m.back, .bool G.m.ints, .bool G.m.wait, .int .i64 G.m.table, .int .i64 G.m.count, .int .i64 G.m.fin, .slice B2 G.m.mem.length d2, .slice B3 G.m.out.length d3, .int .i64 G.m.ready, .int .i64 G.m.want] 30)))
  exact ⟨b0, b1, (hV.mono hl).below b2, hB.trans (b2.mono hlo), (b2.block _ (lt_of_block hW)).trans hW⟩
theorem fin_mt {G : RecA} {A1 : Option Addr} {c1 : Nat} {Ae : Option Addr} {ce : Nat} {B1 : Option Addr} {d1 : Nat} {B2 : Option Addr} {d2 : Nat} {B3 : Option Addr} {d3 : Nat} {w w6 : World} {wv : Array Value} {lo p q : Nat}  (hW : w6.heap[w.heap.size]? = some (.cells wv 25 (0, 0))) (hV : RecV w6 lo G A1 c1 Ae ce B1 d1 B2 d2 B3 d3) (hB : Below w.heap.size w w6) (hl : w.heap.size ≤ lo) : RecF w ((w6.alloc (.cells #[.slice B1 G.m.regs.length d1, .int .i64 G.m.pc, .int .i64 G.m.back, .bool G.m.ints, .bool G.m.wait, .int .i64 G.m.table, .int .i64 G.m.count, .int .i64 G.m.fin, .slice B2 G.m.mem.length d2, .slice B3 G.m.out.length d3, .int .i64 G.m.ready, .int .i64 G.m.want] 30)).alloc (.cells #[.slice A1 G.im.length c1, .slice Ae G.bs.length ce, .int .i64 G.cnt] 28)) wv (w6.heap.size + 1) w6.heap.size G A1 c1 Ae ce B1 d1 B2 d2 B3 d3 := by
  have hlo := hB.size
  obtain ⟨b0, b1, b2⟩ := two_boxes (Below.refl ((w6.alloc (.cells #[.slice B1 G.m.regs.length d1, .int .i64 G.m.pc, .int .i64 G.m.back, .bool G.m.ints, .bool G.m.wait, .int .i64 G.m.table, .int .i64 G.m.count, .int .i64 G.m.fin, .slice B2 G.m.mem.length d2, .slice B3 G.m.out.length d3, .int .i64 G.m.ready, .int .i64 G.m.want] 30)).alloc (.cells #[.slice A1 G.im.length c1, .slice Ae G.bs.length ce, .int .i64 G.cnt] 28)).heap.size ((w6.alloc (.cells #[.slice B1 G.m.regs.length d1, .int .i64 G.m.pc, .int .i64 G.m.back, .bool G.m.ints, .bool G.m.wait, .int .i64 G.m.table, .int .i64 G.m.count, .int .i64 G.m.fin, .slice B2 G.m.mem.length d2, .slice B3 G.m.out.length d3, .int .i64 G.m.ready, .int .i64 G.m.want] 30)).alloc (.cells #[.slice A1 G.im.length c1, .slice Ae G.bs.length ce, .int .i64 G.cnt] 28)))
  exact ⟨b1, b0, (hV.mono hl).below b2, hB.trans (b2.mono hlo), (b2.block _ (lt_of_block hW)).trans hW⟩

end Go.Proofs.YtbjlfhpiebokkaaDoor
