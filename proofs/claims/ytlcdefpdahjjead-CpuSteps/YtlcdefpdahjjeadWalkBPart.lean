/- Contract of sameInts: it tells whether two lists of numbers are the same. -/
import Derived.Test.YtlcdefpdahjjeadIn
import Derived.Test.YtlcdefpdahjjeadGuest
import Derived.Test.YtlcdefpdahjjeadBase
import Derived.Maps.AppendAt
import Derived.Laws.AppendOwnNone
import Derived.Test.YtlcdefpdahjjeadProg
import Derived.ProofKit
import Derived.OpenShut
import Derived.SizedLaws
import Derived.Lib.SmallJoins
import Derived.Deep.Matrix
namespace Go.Proofs.Ytlcdefpdahjjead
open Go.RowKit

theorem take_eq_step {la lb : List Int} {k : Nat} (ha : k < la.length) (hb : k < lb.length) (h : la.take k = lb.take k) (e : la.getD k 0 = lb.getD k 0) : la.take (k + 1) = lb.take (k + 1) := by
  rw [List.take_succ_eq_append_getElem ha, List.take_succ_eq_append_getElem hb, h]
  simp [List.getD, ha, hb] at e
  rw [e]

theorem eq_of_take {la lb : List Int} {k : Nat} (hl : la.length = lb.length) (hk : ¬ k < la.length) (h : la.take k = lb.take k) : la = lb := by
  rw [List.take_of_length_le (by omega), List.take_of_length_le (by omega)] at h
  exact h

set_option maxHeartbeats 400000 in
theorem sameInts_any (va vb : Value) (la lb : List Int) (w : World) (ha : IntsAt w va la) (hb : IntsAt w vb lb) :
    Calls Try.prog 29 #[va, vb] w fun e w' => e = .returned (.bool (decide (la = lb))) ∧ ∃ n, w' = w.drewN n := by
  obtain ⟨A, ca, rfl, hla, hca⟩ := ha
  obtain ⟨B, cb, rfl, hlb, hcb⟩ := hb
  by_cases hlen : la.length = lb.length
  · have hl1 : (((la.length : Int)) != (lb.length : Int)) = false := by simp [hlen]
    have HL : Hid (la.length = lb.length) := hlen
    have hle1 : la.length ≤ lb.length := by omega
    have hle2 : lb.length ≤ la.length := by omega
    clear hlen
    go_enter Try.func29, Try.ntmps29
    go_wp2
    go_loopw [5] (fun i wr => ∃ k : Nat, k ≤ la.length ∧ i = .int .i64 k ∧ Hid (la.take k = lb.take k) ∧ ∃ n, wr = w.drewN n) (fun i _ => la.length - (intOf i).toNat)
    case atStart => exact ⟨0, Nat.zero_le _, rfl, by simp [Hid], 0, rfl⟩
    case round =>
      obtain ⟨k, hk, rfl, ht, n, rfl⟩ := hrel
      by_cases hlt : k < la.length
      · obtain ⟨b, off, rfl, hbs, hcell⟩ := hca (by omega)
        obtain ⟨b', off', rfl, hbs', hcell'⟩ := hcb (by omega)
        have h1 := hcell k hlt
        have h2 := hcell' k (by omega)
        clear hcell hcell' hca hcb
        have hx : Hid (la.getD k 0 = la.getD k 0) := rfl
        have hy : Hid (lb.getD k 0 = lb.getD k 0) := rfl
        revert h1 h2 hx hy
        generalize hgx : la.getD k 0 = x
        generalize hgy : lb.getD k 0 = y
        intro h1 h2 _ _
        have HX : Hid (la.getD k 0 = x) := hgx
        have HY : Hid (lb.getD k 0 = y) := hgy
        clear hgx hgy
        by_cases he : x = y
        · subst he
          go_wp2
          go_quiet (fail)
          go_wp2
          refine ⟨⟨k + 1, by omega, by go_num, take_eq_step (by omega) (by omega) ht.out (HX.out.trans HY.out.symm), _, rfl⟩, ?_⟩
          simp [intOf]; omega
        · have hne : (x != y) = true := by simp [he]
          have HE : Hid (x ≠ y) := he
          clear he
          go_wp2
          go_quiet (fail)
          go_wp2
          go_ret
          refine ⟨?_, drewN_two _ _ _⟩
          have : la ≠ lb := fun h => HE.out (by rw [← HX.out, ← HY.out, h])
          simp [this]
      · clear hca hcb
        go_wp2
        go_ret
        refine ⟨?_, _, rfl⟩
        simp [eq_of_take HL.out hlt ht.out]
  · have hl1 : (((la.length : Int)) != (lb.length : Int)) = true := by simp; omega
    have HL : Hid (la ≠ lb) := fun h => hlen (by rw [h])
    clear hlen
    go_enter Try.func29, Try.ntmps29
    go_wp2
    go_ret
    refine ⟨?_, 0, rfl⟩
    have := HL.out
    simp [this]

end Go.Proofs.Ytlcdefpdahjjead

/- Contract of sameMachine: two guests that are the same. -/

namespace Go.Proofs.Ytlcdefpdahjjead
open Go.RowKit

theorem sameInts_same (va vb : Value) (l : List Int) (w : World) (ha : IntsAt w va l) (hb : IntsAt w vb l) :
    Calls Try.prog 29 #[va, vb] w fun e w' => e = .returned (.bool true) ∧ ∃ n, w' = w.drewN n := by
  have := sameInts_any va vb l l w ha hb
  simpa using this

set_option maxHeartbeats 4000000 in
theorem sameMachine_same (m : Mach) (rv mv ov rv' mv' ov' : Value) (w : World) (ha : MachAt w rv mv ov m) (hb : MachAt w rv' mv' ov' m) :
    Calls Try.prog 12 #[.agg (m.cells rv mv ov), .agg (m.cells rv' mv' ov')] w fun e w' => e = .returned (.bool true) ∧ Below w.heap.size w w' := by
  obtain ⟨r, p, k, i, t, a, n, f, m, o, y, q⟩ := m
  have H1 : Hid (IntsAt w rv r) := ha.regs
  have H2 : Hid (IntsAt w mv m) := ha.mem
  have H3 : Hid (IntsAt w ov o) := ha.out
  have K1 : Hid (IntsAt w rv' r) := hb.regs
  have K2 : Hid (IntsAt w mv' m) := hb.mem
  have K3 : Hid (IntsAt w ov' o) := hb.out
  clear ha hb
  simp only [Mach.cells]
  go_enter Try.func12, Try.ntmps12
  go_wp2_with fail
  refine (sameInts_same rv rv' r _ (H1.out.below (below_alloc2 _ _ _)) (K1.out.below (below_alloc2 _ _ _))).mono ?_
  rintro e w' ⟨rfl, j1, rfl⟩
  clear H1 K1
  go_wp2_with fail
  refine (sameInts_same mv mv' m _ ((H2.out.below (below_alloc2 _ _ _)).drewN _) ((K2.out.below (below_alloc2 _ _ _)).drewN _)).mono ?_
  rintro e w' ⟨rfl, j2, rfl⟩
  clear H2 K2
  go_wp2_with fail
  refine (sameInts_same ov ov' o _ ((H3.out.below (below_alloc2 _ _ _)).drewN _) ((K3.out.below (below_alloc2 _ _ _)).drewN _)).mono ?_
  rintro e w' ⟨rfl, j3, rfl⟩
  clear H3 K3
  go_wp2_with fail
  go_ret
  exact ⟨rfl, below_drewN (below_alloc2 _ _ _) _⟩

end Go.Proofs.Ytlcdefpdahjjead

/- append at a step of a region that draws its order. -/

namespace Go.Proofs.Ytlcdefpdahjjead
open Go.RowKit
variable {P : Program}

/-- What lies somewhere is appended to a row of the call's own. -/
theorem step_append_at {ops : Array Oper} {o : Oper} {a : Act} {w : World} {K : Act → World → Prop} {Q : Exit → Act → World → Prop} {E : Prop} (hgd : o.guard = none) (s x : Operand) (t : TypeId)
    (ho : o.op = .call { callee := .builtin .append, args := #[s, x], argTypes := #[t, t] })
    (base : Nat) (e : TypeId) (i : TypeInfo) (z : Value) (size bytes : Nat) (ht : P.underlying t = some (.slice e)) (hi : P.info? e = some i) (hz : i.zero = some z)
    (hsize : i.size = size) (hby : i.bytes = bytes) (hzs : z.cells.size = size) (hsz : 0 < size)
    (v : Value) (n : Nat) (xs : List Value) (hs : a.eval s = v) (hown : w.ownsRow base e size v n xs)
    (ad : Addr) (m c : Nat) (news : List Value) (hx : a.eval x = .slice (some ad) m c) (hl : news.length = m * size) (hnews : ∀ j u, news[j]? = some u → w.cell? (ad.add j) = some u) (h1 : ∀ u ∈ news, u.oneCell' = true)
    (h63 : n + m ≤ maxLen) (hbytes : (n + m) * bytes ≤ 140737488355328) (hbase : base ≤ w.heap.size)
    (h : ∀ v' w', w'.ownsRow base e size v' (n + m) (xs ++ news) → w.grownBy w' v.ownBlock → K (a.put o.dst v') w') :
    if Region.wanted o (yielded ops a.tmps) = true then Oper.wp P o a w K Q else E := by
  have hw : Region.wanted o (yielded ops a.tmps) = true := by simp [Region.wanted, hgd]
  rw [if_pos hw]
  obtain ⟨v', w', hr, h2, h3, -, -⟩ := run_append_own_at (P := P) w base t o.type e i z size bytes ht hi hz hsize hby hzs hsz v n xs hown ad m c news hl hnews h1 h63 hbytes hbase
  unfold Oper.wp execOp
  simp only [ho, resolve, invoke, builtin, Sem.run_bind, Sem.run_pure, Result.andThen_ok, List.map_toArray, List.map_cons, List.map_nil, hs, hx, hr]
  exact h v' w' h2 h3

/-- Nothing is appended. -/
theorem step_append_none {ops : Array Oper} {o : Oper} {a : Act} {w : World} {K : Act → World → Prop} {Q : Exit → Act → World → Prop} {E : Prop} (hgd : o.guard = none) (s x : Operand) (t : TypeId)
    (ho : o.op = .call { callee := .builtin .append, args := #[s, x], argTypes := #[t, t] })
    (base : Nat) (e : TypeId) (i : TypeInfo) (size : Nat) (ht : P.underlying t = some (.slice e)) (hi : P.info? e = some i)
    (v : Value) (n : Nat) (xs : List Value) (hs : a.eval s = v) (hown : w.ownsRow base e size v n xs) (hx : a.eval x = .slice none 0 0)
    (h : K (a.put o.dst v) w) :
    if Region.wanted o (yielded ops a.tmps) = true then Oper.wp P o a w K Q else E := by
  have hw : Region.wanted o (yielded ops a.tmps) = true := by simp [Region.wanted, hgd]
  rw [if_pos hw]
  have hrun := run_append_owned_none (P := P) (w := w) base t o.type e i size ht hi v n xs hown
  unfold Oper.wp execOp
  simp only [ho, resolve, invoke, builtin, Sem.run_bind, Sem.run_pure, Result.andThen_ok, List.map_toArray, List.map_cons, List.map_nil, hs, hx, hrun]
  exact h

end Go.Proofs.Ytlcdefpdahjjead

/- Numbers and slices of numbers that are handed in, opened. -/

namespace Go.Proofs.Ytlcdefpdahjjead
open Go.ChangeShapes Go.WideShapes Go.ChangeAt Go.RowKit Go.Deep Go.Joins

theorem own : ownKnob Try.prog.godebug = none := by kernel_rfl
theorem laidOut : laidOutB Try.prog = true := by kernel_rfl
theorem cellsInts : Try.prog.cellsOf 22 = 1 := by kernel_rfl
theorem cellsInt : Try.prog.cellsOf 3 = 1 := by kernel_rfl
theorem bytesInts : Try.prog.bytesOf 22 = 24 := by kernel_rfl
theorem bytesInt : Try.prog.bytesOf 3 = 8 := by kernel_rfl
theorem reach_is : reachBytes = 140737488351232 := rfl

theorem weightsAll_mem {H : Type} {P : Program} {e : TypeId} : ∀ {l : List (DataW H)} {d : DataW H}, d ∈ l → ∀ n ∈ d.weights P e, n ∈ DataW.weightsAll P e l
  | x :: l, d, hd, n, hn => by
    simp only [DataW.weightsAll, List.mem_append]
    rcases List.mem_cons.1 hd with rfl | h
    · exact Or.inl hn
    · exact Or.inr (weightsAll_mem h n hn)

/-- A slice of numbers that is handed in. -/
theorem intsAt_of {H : Type} {enc : TypeId × Value → H} {W : World} {fuel : Nat} {v : Value} {x : DataW H × List MemPlace}
    (h : DataW.trod enc Try.prog W 0 (fun _ => true) true fuel 22 [v] = some x) (hs : ∀ n ∈ x.1.weights Try.prog 22, n ≤ reachBytes) :
    ∃ l, IntsAt W v l ∧ ∀ n ∈ l, (Lit.int .i64 n).wf = true := by
  rcases open_ints Try.underlying22 Try.underlying3 cellsInt h with ⟨hcs, _⟩ | ⟨a, len, cap, zs, hcs, _, hl, hm, hz, hx, hcell, hwz⟩
  · simp at hcs
    exact ⟨[], ⟨none, 0, by simpa using hcs, by simp, fun h => by simp at h⟩, by simp⟩
  · simp at hcs
    subst hcs
    simp only [if_true] at hz
    have hlen : (zs.take len).length = len := by simp; omega
    refine ⟨zs.take len, ⟨some a, cap, by rw [hlen], ?_, fun h0 => ?_⟩, fun n hn => hwz n (List.mem_of_mem_take hn)⟩
    · have := hs ((zs.take len).length * 8 + (zs.drop len).length * 8) (by
        rw [hx]
        simp only [DataW.weights, Try.underlying22, bytesInt, List.mem_cons]
        left
        simp [lits]
        omega)
      rw [reach_is] at this
      omega
    · rw [hlen] at h0 ⊢
      obtain ⟨b, off, rfl, hc⟩ := ints_at hcell (by omega)
      refine ⟨b, off, rfl, World.block_lt_of_cell? _ _ (hc 0 (by omega)), fun j hj => ?_⟩
      rw [hc j (by omega)]
      simp [List.getD, hj]

end Go.Proofs.Ytlcdefpdahjjead

/- Instructions and guests that are handed in, opened. -/

namespace Go.Proofs.Ytlcdefpdahjjead
open Go.ChangeShapes Go.WideShapes Go.ChangeAt Go.RowKit Go.Deep Go.Joins

theorem cellsMach : Try.prog.cellsOf 24 = 12 := by kernel_rfl
theorem cellsBool : Try.prog.cellsOf 4 = 1 := by kernel_rfl

theorem array12 {α : Type} {cs : Array α} (h : cs.size = 12) : ∃ c0 c1 c2 c3 c4 c5 c6 c7 c8 c9 c10 c11, cs = #[c0, c1, c2, c3, c4, c5, c6, c7, c8, c9, c10, c11] := by
  obtain ⟨l⟩ := cs
  match l, h with
  | [c0, c1, c2, c3, c4, c5, c6, c7, c8, c9, c10, c11], _ => exact ⟨c0, c1, c2, c3, c4, c5, c6, c7, c8, c9, c10, c11, rfl⟩

/-- What holds of a guest's numbers as such. -/
structure MachWf (m : Mach) : Prop where
  regs : ∀ n ∈ m.regs, (Lit.int .i64 n).wf = true
  pc : (Lit.int .i64 m.pc).wf = true
  back : (Lit.int .i64 m.back).wf = true
  table : (Lit.int .i64 m.table).wf = true
  count : (Lit.int .i64 m.count).wf = true
  fin : (Lit.int .i64 m.fin).wf = true
  mem : ∀ n ∈ m.mem, (Lit.int .i64 n).wf = true
  out : ∀ n ∈ m.out, (Lit.int .i64 n).wf = true
  ready : (Lit.int .i64 m.ready).wf = true
  want : (Lit.int .i64 m.want).wf = true

set_option maxRecDepth 100000 in
/-- A guest that is handed in. -/
theorem machAt_of {H : Type} {enc : TypeId × Value → H} {W : World} {base : Nat} {v : Value} {d : DataW H} {p : List MemPlace}
    (hv : Value.okWide Try.prog W .any base 24 v) (h : DataW.Trod enc Try.prog W 0 (fun _ => true) true 24 v d p) (hs : ∀ n ∈ d.weights Try.prog 24, n ≤ reachBytes) :
    ∃ rv mv ov m, v = .agg (Mach.cells m rv mv ov) ∧ MachAt W rv mv ov m ∧ MachWf m := by
  obtain ⟨cs, rfl, hsz⟩ := okWide_struct Try.underlying24 hv
  obtain ⟨c0, c1, c2, c3, c4, c5, c6, c7, c8, c9, c10, c11, rfl⟩ := array12 (hsz.trans cellsMach)
  obtain ⟨fuel, hf⟩ := h
  obtain ⟨xs, n, _, hx, hl, hlen, hfs⟩ := DataW.trod_struct Try.underlying24 hf
  obtain ⟨y0, y1, y2, y3, y4, y5, y6, y7, y8, y9, y10, y11, rfl⟩ : ∃ y0 y1 y2 y3 y4 y5 y6 y7 y8 y9 y10 y11, xs = [y0, y1, y2, y3, y4, y5, y6, y7, y8, y9, y10, y11] := by
    match xs, hlen with
    | [y0, y1, y2, y3, y4, y5, y6, y7, y8, y9, y10, y11], _ => exact ⟨y0, y1, y2, y3, y4, y5, y6, y7, y8, y9, y10, y11, rfl⟩
  simp only [Prod.mk.injEq] at hx
  obtain ⟨hd, -⟩ := hx
  subst hd
  have t0 := hfs 0 _ rfl
  simp [Value.cells, cellsInts] at t0
  have t1 := hfs 1 _ rfl
  simp [Value.cells, cellsInt] at t1
  have t2 := hfs 2 _ rfl
  simp [Value.cells, cellsInt] at t2
  have t3 := hfs 3 _ rfl
  simp [Value.cells, cellsBool] at t3
  have t4 := hfs 4 _ rfl
  simp [Value.cells, cellsBool] at t4
  have t5 := hfs 5 _ rfl
  simp [Value.cells, cellsInt] at t5
  have t6 := hfs 6 _ rfl
  simp [Value.cells, cellsInt] at t6
  have t7 := hfs 7 _ rfl
  simp [Value.cells, cellsInt] at t7
  have t8 := hfs 8 _ rfl
  simp [Value.cells, cellsInts] at t8
  have t9 := hfs 9 _ rfl
  simp [Value.cells, cellsInts] at t9
  have t10 := hfs 10 _ rfl
  simp [Value.cells, cellsInt] at t10
  have t11 := hfs 11 _ rfl
  simp [Value.cells, cellsInt] at t11
  obtain ⟨x0, e0, w0⟩ := intsAt_of t0 (fun n hn => hs n (by
    simp only [DataW.weights, Try.underlying24]
    exact DataW.weights_mem_each (j := 0) rfl rfl n hn))
  obtain ⟨x1, e1, _, w1⟩ := DataW.trod_int Try.underlying3 t1
  obtain ⟨x2, e2, _, w2⟩ := DataW.trod_int Try.underlying3 t2
  obtain ⟨x3, e3, _⟩ := DataW.trod_bool Try.underlying4 t3
  obtain ⟨x4, e4, _⟩ := DataW.trod_bool Try.underlying4 t4
  obtain ⟨x5, e5, _, w5⟩ := DataW.trod_int Try.underlying3 t5
  obtain ⟨x6, e6, _, w6⟩ := DataW.trod_int Try.underlying3 t6
  obtain ⟨x7, e7, _, w7⟩ := DataW.trod_int Try.underlying3 t7
  obtain ⟨x8, e8, w8⟩ := intsAt_of t8 (fun n hn => hs n (by
    simp only [DataW.weights, Try.underlying24]
    exact DataW.weights_mem_each (j := 8) rfl rfl n hn))
  obtain ⟨x9, e9, w9⟩ := intsAt_of t9 (fun n hn => hs n (by
    simp only [DataW.weights, Try.underlying24]
    exact DataW.weights_mem_each (j := 9) rfl rfl n hn))
  obtain ⟨x10, e10, _, w10⟩ := DataW.trod_int Try.underlying3 t10
  obtain ⟨x11, e11, _, w11⟩ := DataW.trod_int Try.underlying3 t11
  simp at e1
  simp at e2
  simp at e3
  simp at e4
  simp at e5
  simp at e6
  simp at e7
  simp at e10
  simp at e11
  subst e1 e2 e3 e4 e5 e6 e7 e10 e11
  exact ⟨c0, c8, c9, ⟨x0, x1, x2, x3, x4, x5, x6, x7, x8, x9, x10, x11⟩, rfl, ⟨e0, e8, e9⟩, ⟨w0, w1, w2, w5, w6, w7, w8, w9, w10, w11⟩⟩

end Go.Proofs.Ytlcdefpdahjjead

/- A slice that is handed in is nil, or it has an address. -/

namespace Go.Proofs.Ytlcdefpdahjjead
open Go.ChangeShapes Go.WideShapes Go.ChangeAt Go.RowKit Go.Deep Go.Joins

theorem nilOr_of {H : Type} {enc : TypeId × Value → H} {W : World} {fuel : Nat} {v : Value} {x : DataW H × List MemPlace}
    (h : DataW.trod enc Try.prog W 0 (fun _ => true) true fuel 22 [v] = some x) : v = .slice none 0 0 ∨ ∃ a n c, v = .slice (some a) n c := by
  rcases open_ints Try.underlying22 Try.underlying3 cellsInt h with ⟨hcs, _⟩ | ⟨a, len, cap, zs, hcs, _, hl, hm, hz, hx, hcell, hwz⟩
  · simp at hcs
    exact Or.inl hcs
  · simp at hcs
    exact Or.inr ⟨a, len, cap, hcs⟩

end Go.Proofs.Ytlcdefpdahjjead
