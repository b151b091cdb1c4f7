/- Contracts of Host.Join, Leave. -/
import Derived.Test.YtecpblabaelopaaGreatDoorHoAPart
import Derived.Test.YtecpblabaelopaaGreatDoorOwnPart
import Derived.Laws.CopyOwn
import Derived.Deep.OwnRows
import Derived.Test.YtecpblabaelopaaGreatDoorBasePart
import Derived.Deep.RegionLaw
import Derived.Deep.RegionHeld3
import Derived.Deep.DeepCutAuto
namespace Go.Proofs.YtecpblabaelopaaGreatDoor
open Go.RowKit

set_option maxHeartbeats 400000 in
theorem Join_ok (lo hp : Nat) (v : HV) (D : List (List Int)) (R : List Int) (n : Nat) (w : World) (h : HostAt w lo hp v D R) (hn : n < R.length) (h0 : 1 ≤ R.getD n 0) (h200 : R.getD n 0 < 200) :
    Calls Tryz.prog 169 #[hptr hp, .int .i64 n] w fun e w' => e = .returned (.int .i64 0) ∧ HostTo w lo hp v D (R.set n (R.getD n 0 + 1)) w' := by
  obtain ⟨hx0, hx1, hxf, hxl⟩ := two_cells h.box
  obtain ⟨gd, cd, gr, cr, e1, e2, l2, l4, hne, n1, n2, q1, q2, q3, q4⟩ := h.opened (by omega)
  have HI : Hid (IntsAt w v.rv R) := h.refs
  have HN : Hid (kno R n = 0) := kno_ok hn (by omega)
  have h1 := q3 n hn
  have z1 := q4 n
  have hki : (n : Int) < (R.length : Int) := by omega
  have hR := h.few
  obtain ⟨x, hx⟩ : ∃ x, x = R.getD n 0 := ⟨_, rfl⟩
  rw [← hx] at h1 h0 h200 ⊢
  have g1 : (x == 200) = false := by simp; omega
  have HX : Hid (w.cell? ⟨hp, 1, none⟩ = some (.slice (some ⟨gr, 0, none⟩) R.length cr) ∧ w.cell? ⟨gr, n, none⟩ = some (.int .i64 x)) := ⟨by rw [← e2]; exact hx1, h1⟩
  have HF : Hid (∀ w1, Below w.heap.size w w1 → HostTo w lo hp v D (R.set n (x + 1)) (w1.setCell ⟨gr, n, none⟩ (.int .i64 (x + 1)))) := fun w1 hb => (h.below hb).putRef e2 n (x + 1) |> HostTo.trans (fun _ e => Or.inl e) (Chg.of_below hb)
  have hw : IntKind.i64.wrap (x + 1) = x + 1 := IntWalk.i64_in _ (by omega)
  clear h1 q1 q2 q3 q4 h e1 e2 hxf hx
  go_enter Tryz.func169, Tryz.ntmps169
  go_wp2_with fail
  refine (known_any _ _ R n _ HI.out).mono ?_
  rw [HN.out]
  rintro e w1 ⟨rfl, hb1⟩
  have HB : Hid (Below w.heap.size w w1) := hb1
  have y1 := (hb1.cell (p := ⟨hp, 1, none⟩) hxl).trans HX.out.1
  have y2 := (hb1.cell (p := ⟨gr, n, none⟩) l4).trans HX.out.2
  have y3 := (hb1.frozen (p := ⟨gr, n, none⟩) l4).trans z1
  have y4 : (⟨gr, n, none⟩ : Addr).block < w1.heap.size := Nat.lt_of_lt_of_le l4 hb1.size
  clear hb1 hx0 hx1 z1
  go_wp2
  go_ret
  exact ⟨rfl, HF.out _ HB.out⟩

def left (D : List (List Int)) (n : Nat) (x : Int) : List (List Int) := if x = 1 then D.set n [] else D
set_option maxHeartbeats 1000000 in
theorem Leave_ok (lo hp : Nat) (v : HV) (D : List (List Int)) (R : List Int) (n : Nat) (w : World) (h : HostAt w lo hp v D R) (hn : n < R.length) (h0 : 1 ≤ R.getD n 0) (h200 : R.getD n 0 ≤ 200) :
    Calls Tryz.prog 157 #[hptr hp, .int .i64 n] w fun e w' => e = .returned (.int .i64 0) ∧ HostTo w lo hp v (left D n (R.getD n 0)) (R.set n (R.getD n 0 - 1)) w' := by
  obtain ⟨hx0, hx1, hxf, hxl⟩ := two_cells h.box
  obtain ⟨gd, cd, gr, cr, e1, e2, l2, l4, hne, n1, n2, q1, q2, q3, q4⟩ := h.opened (by omega)
  have HI : Hid (IntsAt w v.rv R) := h.refs
  have HN : Hid (kno R n = 0) := kno_ok hn (by omega)
  have h1 := q3 n hn
  have z1 := q4 n
  have z5 := q2 n
  have z6 := q1 n hn
  have hki : (n : Int) < (R.length : Int) := by omega
  have hR := h.few
  obtain ⟨x, hx⟩ : ∃ x, x = R.getD n 0 := ⟨_, rfl⟩
  rw [← hx] at h1 h0 h200 ⊢
  have HX : Hid (w.cell? ⟨hp, 0, none⟩ = some (.slice (some ⟨gd, 0, none⟩) R.length cd) ∧ w.cell? ⟨hp, 1, none⟩ = some (.slice (some ⟨gr, 0, none⟩) R.length cr) ∧ w.cell? ⟨gr, n, none⟩ = some (.int .i64 x)) := ⟨by rw [← e1]; exact hx0, by rw [← e2]; exact hx1, h1⟩
  have HF : Hid (∀ w1, Below w.heap.size w w1 → HostTo w lo hp v D (R.set n (x - 1)) (w1.setCell ⟨gr, n, none⟩ (.int .i64 (x - 1)))) := fun w1 hb => (h.below hb).putRef e2 n (x - 1) |> HostTo.trans (fun _ e => Or.inl e) (Chg.of_below hb)
  have HF2 : Hid (∀ w1, Below w.heap.size w w1 → HostTo w lo hp v (D.set n []) (R.set n (x - 1)) ((w1.setCell ⟨gr, n, none⟩ (.int .i64 (x - 1))).setCell ⟨gd, n, none⟩ nilv)) := fun w1 hb => by
    obtain ⟨v1, a1, f1, c1⟩ := HF.out w1 hb
    obtain ⟨d1, d2⟩ := HostTo.dv h a1 c1
    obtain ⟨v2, _, _, _, a2, f2, c2⟩ := a1.putRow (d1.trans e1) (i := n) (by simpa using hn) (ownNil _ _) (fun g hg => by simp [Value.ownBlock] at hg)
    exact HostTo.trans f1 c1 ⟨v2, a2, fun g e => by rcases f2 g e with e | e; exact Or.inl e; simp [Value.ownBlock] at e, c2⟩
  have hw : IntKind.i64.wrap (x - 1) = x - 1 := IntWalk.i64_in _ (by omega)
  have hne' : gr ≠ gd := fun e => hne e.symm
  clear h1 q1 q2 q3 q4 h e1 e2 hxf hx
  by_cases hx1' : x = 1
  · subst hx1'
    have HL : Hid (left D n 1 = D.set n []) := if_pos rfl
    simp only [Int.sub_self] at HF2 HF ⊢
    go_enter Tryz.func157, Tryz.ntmps157
    go_wp2_with fail
    refine (known_any _ _ R n _ HI.out).mono ?_
    rw [HN.out]
    rintro e w1 ⟨rfl, hb1⟩
    have HB : Hid (Below w.heap.size w w1) := hb1
    have y0 := (hb1.cell (p := ⟨hp, 0, none⟩) hxl).trans HX.out.1
    have y1 := (hb1.cell (p := ⟨hp, 1, none⟩) hxl).trans HX.out.2.1
    have y2 := (hb1.cell (p := ⟨gr, n, none⟩) l4).trans HX.out.2.2
    have y3 := (hb1.frozen (p := ⟨gr, n, none⟩) l4).trans z1
    have y5 := (hb1.frozen (p := ⟨gd, n, none⟩) l2).trans z5
    have y6 := (hb1.cell (p := ⟨gd, n, none⟩) l2).trans z6
    have y4 : (⟨gr, n, none⟩ : Addr).block < w1.heap.size := Nat.lt_of_lt_of_le l4 hb1.size
    clear hb1 hx0 hx1 z1 z5 z6
    go_wp2
    go_ret
    exact ⟨rfl, by rw [HL.out]; exact HF2.out _ HB.out⟩
  · have HL : Hid (left D n x = D) := if_neg hx1'
    have g1 : (x - 1 == 0) = false := by simp; omega
    clear hx1'
    go_enter Tryz.func157, Tryz.ntmps157
    go_wp2_with fail
    refine (known_any _ _ R n _ HI.out).mono ?_
    rw [HN.out]
    rintro e w1 ⟨rfl, hb1⟩
    have HB : Hid (Below w.heap.size w w1) := hb1
    have y1 := (hb1.cell (p := ⟨hp, 1, none⟩) hxl).trans HX.out.2.1
    have y2 := (hb1.cell (p := ⟨gr, n, none⟩) l4).trans HX.out.2.2
    have y3 := (hb1.frozen (p := ⟨gr, n, none⟩) l4).trans z1
    have y4 : (⟨gr, n, none⟩ : Addr).block < w1.heap.size := Nat.lt_of_lt_of_le l4 hb1.size
    clear hb1 hx0 hx1 z1 z5 z6
    go_wp2
    go_ret
    exact ⟨rfl, by rw [HL.out]; exact HF.out _ HB.out⟩

end Go.Proofs.YtecpblabaelopaaGreatDoor

/- Laws on copying numbers into new memory. -/

namespace Go.Proofs.YtecpblabaelopaaGreatDoor
open Go.RowKit

theorem infoInts : (Tryz.prog.info? 24).map (fun i => (i.zero, i.size, i.bytes)) = some (some (.slice none 0 0), 1, 24) := by kernel_rfl

theorem splice_all (l : List Int) (n : Nat) (h : n = l.length) : splice (madeCells #[Value.int .i64 0] n).toList 0 (l.map (Value.int .i64)) = l.map (Value.int .i64) := by
  subst h
  simp [splice, size_madeCells]

theorem OwnI.made {w : World} {l : List Int} {lo g : Nat} (hlo : lo ≤ g) (hl : l.length * 8 ≤ 140737488351232) (h : w.heap[g]? = some (.cells (l.map (Value.int .i64)).toArray 3 (0, 0))) : OwnI w lo (.slice (some ⟨g, 0, none⟩) l.length l.length) l :=
  ⟨by simp, Or.inr ⟨g, l.length, _, rfl, hlo, h, Nat.le_refl _, by unfold maxLen; omega, by simp, by simp [List.take_of_length_le]⟩⟩

theorem copy_src {w : World} {l : List Int} {A : Option Addr} {g : Nat} (o : Obj)
    (hc : 0 < l.length → ∃ b off, A = some ⟨b, off, none⟩ ∧ b < w.heap.size ∧ ∀ j, j < l.length → w.cell? ⟨b, off + j, none⟩ = some (.int .i64 (l.getD j 0))) :
    0 < (l.map (Value.int .i64)).length → (some ⟨g, 0, none⟩ : Option Addr) = some ⟨g, 0, none⟩ ∧ ∃ ad, A = some ad ∧ ∀ j v, (l.map (Value.int .i64))[j]? = some v → (w.alloc o).cell? (ad.add j) = some v := by
  intro h0
  obtain ⟨b, off, rfl, hb, hj⟩ := hc (by simpa using h0)
  refine ⟨rfl, _, rfl, fun j v hv => ?_⟩
  have hjl : j < l.length := by
    by_cases h : j < l.length
    · exact h
    · simp [List.getElem?_eq_none (show l.length ≤ j by omega)] at hv
  rw [Go.WideShapes.add_plain]
  rw [(below_alloc w o).cell (p := ⟨b, off + j, none⟩) hb, hj j hjl]
  simp [hjl] at hv
  simp [List.getD, hjl, hv]

theorem made_at (w : World) (n : Nat) : (w.alloc (.cells (madeCells #[Value.int .i64 0] n) 3)).heap[w.heap.size]? = some (.cells (madeCells #[Value.int .i64 0] n).toList.toArray 3 (0, 0)) := by
  rw [Go.Deep.blk_alloc_new]

end Go.Proofs.YtecpblabaelopaaGreatDoor

/- copy at a step of a region that draws its order. -/

namespace Go.Proofs.YtecpblabaelopaaGreatDoor
open Go.RowKit

theorem step_copy_row1 {P : Program} {ops : Array Oper} {o : Oper} {a : Act} {w : World} {K : Act → World → Prop} {Q : Exit → Act → World → Prop} {E : Prop} (hgd : o.guard = none) (d s : Operand) (dT sT : TypeId)
    (ho : o.op = .call { callee := .builtin .copy, args := #[d, s], argTypes := #[dT, sT] }) (elem : TypeId) (hu : P.underlying dT = some (.slice elem)) (hsz : (P.info? elem).map (·.size) = some 1)
    (g off dLen dCap : Nat) (ad : Addr) (sLen sCap : Nat) (hd : a.eval d = .slice (some ⟨g, off, none⟩) dLen dCap) (hs : a.eval s = .slice (some ad) sLen sCap)
    (cur : Array Value) (t : TypeId) (hg : w.heap[g]? = some (.cells cur t (0, 0))) (cs : List Value) (hn : cs.length = Nat.min sLen dLen)
    (hsrc : ∀ j v, cs[j]? = some v → w.cell? (ad.add j) = some v) (hfit : off + cs.length ≤ cur.size) (h1 : ∀ v ∈ cs, v.oneCell' = true)
    (h : ∀ w', w' = w.setRow g (cur.toList.take off ++ cs ++ cur.toList.drop (off + cs.length)).toArray → K (a.put o.dst (goInt cs.length)) w') :
    if Region.wanted o (yielded ops a.tmps) = true then Oper.wp P o a w K Q else E := by
  have hw : Region.wanted o (yielded ops a.tmps) = true := by simp [Region.wanted, hgd]
  rw [if_pos hw]
  have hrun := run_copy_row (P := P) w dT sT o.type elem g off dLen dCap ad sLen sCap cur t cs hu hsz hg hn hsrc hfit h1
  unfold Oper.wp
  simp [execOp, ho, resolve, invoke, builtin, hd, hs, hrun, Result.andThen]
  exact h _ (by simp)

end Go.Proofs.YtecpblabaelopaaGreatDoor

/- Contract of Host.Put. -/

namespace Go.Proofs.YtecpblabaelopaaGreatDoor
open Go.RowKit
set_option maxRecDepth 100000

theorem OwnF.rowOnly {w w' : World} {lo : Nat} {dv rv : Value} {rows : List Value} {D : List (List Int)} {R l : List Int} (h : OwnF w lo dv rv rows D R) {k g : Nat} (hk : k < D.length) (hg : (rows.getD k nilv).ownBlock = some g)
    (hc : Chg (fun b => b = g) w w') (hu : OwnI w' lo (rows.getD k nilv) l) : OwnF w' lo dv rv rows (D.set k l) R := by
  have h1 : dv.ownBlock ≠ some g := fun e => by
    rcases (h.dat.each k hk).2 with ⟨e2, _⟩ | ⟨g', cap, cur, e2, _, hh, _⟩
    · rw [e2] at hg; simp [Value.ownBlock] at hg
    · rw [e2] at hg
      simp [Value.ownBlock] at hg
      subst hg
      exact own_ne h.dat.top hh (by decide) e
  refine ⟨⟨by simpa using hc.owns h.dat.top (fun b e e2 => h1 (e2 ▸ e)), fun i hi => ?_, fun i j hi hj => h.dat.apart i j (by simpa using hi) (by simpa using hj)⟩, hc.own h.ref (fun b e e2 => h.off k hk b e (e2 ▸ hg)), fun i hi => h.off i (by simpa using hi)⟩
  simp at hi
  rw [getD_set _ _ _ _ _ hk]
  by_cases e : i = k
  · rw [if_pos e, e]; exact hu
  · rw [if_neg e]
    exact hc.own (h.dat.each i hi) (fun b e1 e2 => h.dat.apart i k hi hk e b e1 (e2 ▸ hg))
theorem chg_setRow {w : World} {g : Nat} {c : Array Value} : Chg (fun b => b = g) w (w.setRow g c) :=
  ⟨rfl, rfl, rfl, by simp [World.setRow], fun b _ hn => by simp [World.setRow, Array.getElem?_modify, Ne.symm hn]⟩
theorem own_setRow {w : World} {lo g c : Nat} {l row : List Int} {cur : Array Value} (h : OwnI w lo (.slice (some ⟨g, 0, none⟩) 16 c) l) (hg : w.heap[g]? = some (.cells cur 3 (0, 0))) (hr : row.length = 16) :
    OwnI (w.setRow g (cur.toList.take 0 ++ row.map (Value.int .i64) ++ cur.toList.drop (0 + (row.map (Value.int .i64)).length)).toArray) lo (.slice (some ⟨g, 0, none⟩) 16 c) row := by
  obtain ⟨h1, h2⟩ := h
  rcases h2 with ⟨e, _⟩ | ⟨g', cap, cur', e, hl, hh, a, b, sz, tk⟩
  · simp at e
  · simp only [Value.slice.injEq, Option.some.injEq, Addr.mk.injEq, and_true] at e
    obtain ⟨rfl, e2, rfl⟩ := e
    rw [hg] at hh
    simp at hh
    subst hh
    have h16 : l.length = 16 := by omega
    refine ⟨by simp, Or.inr ⟨g, c, (cur.toList.take 0 ++ row.map (Value.int .i64) ++ cur.toList.drop (0 + (row.map (Value.int .i64)).length)).toArray, by rw [hr], hl, ?_, by omega, b, ?_, ?_⟩⟩
    · simp [World.setRow, Array.getElem?_modify, hg]
    · simp at sz ⊢
      omega
    · simp [hr]
theorem HostAt.copyRow {w : World} {lo hp : Nat} {v : HV} {D : List (List Int)} {R row : List Int} (h : HostAt w lo hp v D R) {k g c : Nat} {cur : Array Value} (hk : k < R.length) (hr : v.rows.getD k nilv = .slice (some ⟨g, 0, none⟩) 16 c) (hg : w.heap[g]? = some (.cells cur 3 (0, 0))) (hl : row.length = 16) :
    HostAt (w.setRow g (cur.toList.take 0 ++ row.map (Value.int .i64) ++ cur.toList.drop (0 + (row.map (Value.int .i64)).length)).toArray) lo hp v (D.set k row) R ∧ Chg v.foot w (w.setRow g (cur.toList.take 0 ++ row.map (Value.int .i64) ++ cur.toList.drop (0 + (row.map (Value.int .i64)).length)).toArray) := by
  have hkD : k < D.length := by have := h.len; omega
  have hf : v.foot g := Or.inr (Or.inr ⟨k, by rw [hr]; rfl⟩)
  have hu := h.own.dat.each k hkD
  rw [hr] at hu
  have hu2 := own_setRow hu hg hl
  have hC := chg_setRow (w := w) (g := g) (c := (cur.toList.take 0 ++ row.map (Value.int .i64) ++ cur.toList.drop (0 + (row.map (Value.int .i64)).length)).toArray)
  refine ⟨⟨hC.box h.box (fun e => h.off h.box (by decide) (by decide) (by rw [e]; exact hf)), h.own.rowOnly hkD (g := g) (by rw [hr]; rfl) hC (by rw [hr]; exact hu2), by simpa using h.len, h.few, h.le⟩, hC.mono (fun b _ e => by rw [e]; exact hf)⟩

set_option maxHeartbeats 400000 in
theorem Put_one (lo hp : Nat) (v : HV) (D : List (List Int)) (R : List Int) (n i : Nat) (x : Int) (w : World) (h : HostAt w lo hp v D R) (hn : n < R.length) (h0 : R.getD n 0 = 1) (hi : i < 16) (hl : (D.getD n []).length = 16) :
    Calls Tryz.prog 179 #[hptr hp, .int .i64 n, .int .i64 i, .int .i64 x] w fun e w' => e = .returned (.tuple #[.int .i64 n, .int .i64 0]) ∧ HostTo w lo hp v (D.set n ((D.getD n []).set i x)) R w' := by
  obtain ⟨hx0, hx1, hxf, hxl⟩ := two_cells h.box
  obtain ⟨gd, cd, gr, cr, e1, e2, l2, l4, hne, n1, n2, q1, q2, q3, q4⟩ := h.opened (by omega)
  obtain ⟨g, c, e3, l5, l6, r1, r2⟩ := h.frame hn hl
  have HI : Hid (IntsAt w v.rv R) := h.refs
  have HN : Hid (knoW R n i = 0) := by show _ = _; unfold knoW; rw [if_pos (kno_ok hn (by omega)), if_pos (by omega)]
  have h1 := q3 n hn
  have h2 := q1 n hn
  rw [h0] at h1
  rw [e3] at h2
  have z1 := r1 i hi
  have z2 := r2 i
  have hki : (n : Int) < (R.length : Int) := by omega
  have hii : (i : Int) < 16 := by omega
  have hR := h.few
  have HX : Hid (w.cell? ⟨hp, 0, none⟩ = some (.slice (some ⟨gd, 0, none⟩) R.length cd) ∧ w.cell? ⟨hp, 1, none⟩ = some (.slice (some ⟨gr, 0, none⟩) R.length cr) ∧ w.cell? ⟨gr, n, none⟩ = some (.int .i64 1) ∧ w.cell? ⟨gd, n, none⟩ = some (.slice (some ⟨g, 0, none⟩) 16 c)) := ⟨by rw [← e1]; exact hx0, by rw [← e2]; exact hx1, h1, h2⟩
  have HF : Hid (∀ w1, Below w.heap.size w w1 → HostTo w lo hp v (D.set n ((D.getD n []).set i x)) R (w1.setCell ⟨g, i, none⟩ (.int .i64 x))) := fun w1 hb => (h.below hb).putWord hn e3 x |> HostTo.trans (fun _ e => Or.inl e) (Chg.of_below hb)
  clear h1 h2 q1 q2 q3 q4 h e1 e2 hxf r1 r2 e3 l5 h0
  go_enter Tryz.func179, Tryz.ntmps179
  go_wp2_with fail
  refine (word_any _ _ R n i _ HI.out).mono ?_
  rw [HN.out]
  rintro e w1 ⟨rfl, hb1⟩
  have HB : Hid (Below w.heap.size w w1) := hb1
  have y0 := (hb1.cell (p := ⟨hp, 0, none⟩) hxl).trans HX.out.1
  have y1 := (hb1.cell (p := ⟨hp, 1, none⟩) hxl).trans HX.out.2.1
  have y2 := (hb1.cell (p := ⟨gr, n, none⟩) l4).trans HX.out.2.2.1
  have y3 := (hb1.cell (p := ⟨gd, n, none⟩) l2).trans HX.out.2.2.2
  have y4 := (hb1.cell (p := ⟨g, i, none⟩) l6).trans z1
  have y5 := (hb1.frozen (p := ⟨g, i, none⟩) l6).trans z2
  have y6 : (⟨g, i, none⟩ : Addr).block < w1.heap.size := Nat.lt_of_lt_of_le l6 hb1.size
  clear hb1 hx0 hx1 z1 z2
  go_wp2
  go_ret2
  exact ⟨rfl, HF.out _ HB.out⟩

set_option maxHeartbeats 400000 in
theorem Put_full (lo hp : Nat) (v : HV) (D : List (List Int)) (R : List Int) (n i : Nat) (x : Int) (w : World) (h : HostAt w lo hp v D R) (hn : n < R.length) (h0 : 1 < R.getD n 0) (hi : i < 16) (hnf : NoneFree R) :
    Calls Tryz.prog 179 #[hptr hp, .int .i64 n, .int .i64 i, .int .i64 x] w fun e w' => e = .returned (.tuple #[.int .i64 0, .int .i64 7]) ∧ Below w.heap.size w w' := by
  obtain ⟨hx0, hx1, hxf, hxl⟩ := two_cells h.box
  obtain ⟨gd, cd, gr, cr, e1, e2, l2, l4, hne, n1, n2, q1, q2, q3, q4⟩ := h.opened (by omega)
  have HI : Hid (IntsAt w v.rv R) := h.refs
  have HN : Hid (knoW R n i = 0) := by show _ = _; unfold knoW; rw [if_pos (kno_ok hn (by omega)), if_pos (by omega)]
  have h1 := q3 n hn
  obtain ⟨y, hy⟩ : ∃ y, y = R.getD n 0 := ⟨_, rfl⟩
  rw [← hy] at h1 h0
  have hki : (n : Int) < (R.length : Int) := by omega
  have hR := h.few
  have HX : Hid (w.cell? ⟨hp, 1, none⟩ = some (.slice (some ⟨gr, 0, none⟩) R.length cr) ∧ w.cell? ⟨gr, n, none⟩ = some (.int .i64 y)) := ⟨by rw [← e2]; exact hx1, h1⟩
  have HH : Hid (HostAt w lo hp v D R ∧ NoneFree R) := ⟨h, hnf⟩
  clear h1 q1 q2 q3 q4 h e1 e2 hxf hnf hy
  go_enter Tryz.func179, Tryz.ntmps179
  go_wp2_with fail
  refine (word_any _ _ R n i _ HI.out).mono ?_
  rw [HN.out]
  rintro e w1 ⟨rfl, hb1⟩
  have HB : Hid (Below w.heap.size w w1) := hb1
  have y1 := (hb1.cell (p := ⟨hp, 1, none⟩) hxl).trans HX.out.1
  have y2 := (hb1.cell (p := ⟨gr, n, none⟩) l4).trans HX.out.2
  clear hb1 hx0 hx1
  go_wp2_with fail
  refine (Occupy_full lo hp v D R _ (HH.out.1.below HB.out) HH.out.2).mono ?_
  rintro e w2 ⟨rfl, rfl⟩
  go_wp2
  go_ret2
  exact ⟨rfl, HB.out⟩

end Go.Proofs.YtecpblabaelopaaGreatDoor

/- Contract of Host.Put where several know the frame. -/

namespace Go.Proofs.YtecpblabaelopaaGreatDoor
open Go.RowKit
set_option maxRecDepth 100000

theorem getD_set_other {α : Type} (l : List α) (i j : Nat) (x d : α) (h : j ≠ i) : (l.set i x).getD j d = l.getD j d := by simp [List.getD, Ne.symm h]
theorem getD_set_same {α : Type} (l : List α) (i : Nat) (x d : α) (h : i < l.length) : (l.set i x).getD i d = x := by simp [List.getD, h]

set_option maxHeartbeats 1000000 in
theorem Put_many (lo hp : Nat) (v : HV) (D : List (List Int)) (R : List Int) (n i k : Nat) (x : Int) (w : World) (h : HostAt w lo hp v D R) (hn : n < R.length) (h0 : 1 < R.getD n 0) (h2 : R.getD n 0 ≤ 200) (hi : i < 16) (hl : (D.getD n []).length = 16) (hk : FirstAt R k) :
    Calls Tryz.prog 179 #[hptr hp, .int .i64 n, .int .i64 i, .int .i64 x] w fun e w' => e = .returned (.tuple #[.int .i64 k, .int .i64 0]) ∧ HostTo w lo hp v (D.set k ((D.getD n []).set i x)) ((R.set k 1).set n (R.getD n 0 - 1)) w' := by
  obtain ⟨hx0, hx1, hxf, hxl⟩ := two_cells h.box
  obtain ⟨gd, cd, gr, cr, e1, e2, l2, l4, hne, n1, n2, q1, q2, q3, q4⟩ := h.opened (by omega)
  have HI : Hid (IntsAt w v.rv R) := h.refs
  have HN : Hid (knoW R n i = 0) := by show _ = _; unfold knoW; rw [if_pos (kno_ok hn (by omega)), if_pos (by omega)]
  have h1 := q3 n hn
  have hnk : n ≠ k := fun e => by have := hk.2.1; rw [← e] at this; omega
  have hkR : k < R.length := hk.1
  have hDR := h.len
  have hki : (n : Int) < (R.length : Int) := by omega
  have hkk : (k : Int) < (R.length : Int) := by omega
  have hii : (i : Int) < 16 := by omega
  have hR := h.few
  obtain ⟨y, hy⟩ : ∃ y, y = R.getD n 0 := ⟨_, rfl⟩
  have HY : Hid (y = R.getD n 0) := hy
  rw [← hy] at h1 h0 h2 ⊢
  obtain ⟨row, hrow⟩ : ∃ row, row = D.getD n [] := ⟨_, rfl⟩
  have HROW : Hid (row = D.getD n []) := hrow
  rw [← hrow] at hl ⊢
  have hw : IntKind.i64.wrap (y - 1) = y - 1 := IntWalk.i64_in _ (by omega)
  have HL : Hid (row.length = 16) := hl
  have HX : Hid (w.cell? ⟨hp, 0, none⟩ = some (.slice (some ⟨gd, 0, none⟩) R.length cd) ∧ w.cell? ⟨hp, 1, none⟩ = some (.slice (some ⟨gr, 0, none⟩) R.length cr) ∧ w.cell? ⟨gr, n, none⟩ = some (.int .i64 y)) := ⟨by rw [← e1]; exact hx0, by rw [← e2]; exact hx1, h1⟩
  have HH : Hid (HostAt w lo hp v D R ∧ FirstAt R k ∧ D.length = R.length ∧ n < R.length ∧ k < R.length ∧ v.dv = .slice (some ⟨gd, 0, none⟩) R.length cd ∧ v.rv = .slice (some ⟨gr, 0, none⟩) R.length cr ∧ n ≠ k) := ⟨h, hk, hDR, hn, hkR, e1, e2, hnk⟩
  clear h1 q1 q2 q3 q4 h e1 e2 hxf hy hl hk hrow hn hkR hDR
  go_enter Tryz.func179, Tryz.ntmps179
  go_wp2_with fail
  refine (word_any _ _ R n i _ HI.out).mono ?_
  rw [HN.out]
  rintro e w1 ⟨rfl, hb1⟩
  have HB : Hid (Below w.heap.size w w1) := hb1
  have y1 := (hb1.cell (p := ⟨hp, 1, none⟩) hxl).trans HX.out.2.1
  have y2 := (hb1.cell (p := ⟨gr, n, none⟩) l4).trans HX.out.2.2
  clear hb1 hx0 hx1
  go_wp2_with fail
  refine (Occupy_ok lo hp v D R k _ (HH.out.1.below HB.out) HH.out.2.1).mono ?_
  rintro e w2 ⟨rfl, v2, H2, F2, C2⟩
  clear y1 y2
  have hd2 := HostTo.dv (HH.out.1.below HB.out) H2 C2
  obtain ⟨y0, y1, yf, yl⟩ := two_cells H2.box
  rw [hd2.1, HH.out.2.2.2.2.2.1] at y0
  rw [hd2.2, HH.out.2.2.2.2.2.2.1] at y1
  have hkR2 : k < (R.set k 1).length := by simpa using HH.out.2.2.2.2.1
  have hnR2 : n < (R.set k 1).length := by simpa using HH.out.2.2.2.1
  have hkD : k < D.length := by have := HH.out.2.2.1; have := HH.out.2.2.2.2.1; omega
  have er : (D.set k (List.replicate 16 0)).getD n [] = row := by rw [getD_set_other _ _ _ _ _ hnk, HROW.out]
  have ek : (D.set k (List.replicate 16 0)).getD k [] = List.replicate 16 0 := getD_set_same _ _ _ _ hkD
  obtain ⟨g1, c1, a1, a2, a3, a4, a5⟩ := H2.frame hnR2 (by rw [er]; exact HL.out)
  obtain ⟨g2, c2, b1, b2, b3, b4, b5⟩ := H2.frame hkR2 (by rw [ek]; simp)
  rw [er] at a4
  obtain ⟨gd', cd', gr', cr', s1, s2, s3, s4, s5, s6, s7, s8, s9, s10, s11⟩ := H2.opened (by omega)
  rw [hd2.1, HH.out.2.2.2.2.2.1] at s1
  rw [hd2.2, HH.out.2.2.2.2.2.2.1] at s2
  simp only [Value.slice.injEq, Option.some.injEq, Addr.mk.injEq, and_true] at s1 s2
  obtain ⟨rfl, s1', rfl⟩ := s1
  obtain ⟨rfl, s2', rfl⟩ := s2
  have t1 := s8 n hnR2
  have t2 := s8 k hkR2
  rw [a1] at t1
  rw [b1] at t2
  have t3 := s10 n hnR2
  rw [getD_set_other _ _ _ _ _ hnk, ← HY.out] at t3
  have t4 := s11 n
  have ⟨cur, hcur⟩ : ∃ cur, w2.heap[g2]? = some (.cells cur 3 (0, 0)) := by
    have := H2.own.dat.each k (by have := H2.len; omega)
    rw [b1] at this
    exact (own_block this).1
  have hcap : 16 ≤ cur.size := by
    have := H2.own.dat.each k (by have := H2.len; omega)
    rw [b1, ek] at this
    rcases this.2 with ⟨e, _⟩ | ⟨g', cap, cur', e, _, hh, a, _, sz, _⟩
    · simp at e
    · simp only [Value.slice.injEq, Option.some.injEq, Addr.mk.injEq, and_true] at e
      obtain ⟨rfl, e2, rfl⟩ := e
      rw [hcur] at hh
      simp at hh
      subst hh
      simp at a sz
      omega
  have hsi : (Tryz.prog.info? 3).map (·.size) = some 1 := by kernel_rfl
  have HSRC : Hid (∀ (j : Nat) (u : Value), (row.map (Value.int .i64))[j]? = some u → w2.drew.cell? ((⟨g1, 0, none⟩ : Addr).add j) = some u) := fun j u hu => by
    have hjl : j < row.length := by
      by_cases hh : j < row.length
      · exact hh
      · simp [List.getElem?_eq_none (show row.length ≤ j by omega)] at hu
    have := a4 j (by have := HL.out; omega)
    rw [Go.WideShapes.add_plain, Nat.zero_add]
    simp [hjl] at hu
    simpa [List.getD, hjl, hu] using this
  have HEND : Hid (∀ w3, w3 = w2.drew.setRow g2 (cur.toList.take 0 ++ row.map (Value.int .i64) ++ cur.toList.drop (0 + (row.map (Value.int .i64)).length)).toArray →
      w3.cell? ⟨hp, 0, none⟩ = some (.slice (some ⟨gd, 0, none⟩) R.length cd) ∧ w3.cell? ⟨hp, 1, none⟩ = some (.slice (some ⟨gr, 0, none⟩) R.length cr) ∧ w3.cell? ⟨gr, n, none⟩ = some (.int .i64 y) ∧ w3.frozen? ⟨gr, n, none⟩ = false ∧ w3.cell? ⟨gd, k, none⟩ = some (.slice (some ⟨g2, 0, none⟩) 16 c2) ∧ w3.cell? ⟨g2, i, none⟩ = some (.int .i64 (row.getD i 0)) ∧ w3.frozen? ⟨g2, i, none⟩ = false ∧ hp < w3.heap.size ∧ gr < w3.heap.size ∧ gd < w3.heap.size ∧ g2 < w3.heap.size ∧ g2 ≠ gr ∧ g2 ≠ gd ∧ hp ≠ g2 ∧ HostTo w lo hp v (D.set k (row.set i x)) ((R.set k 1).set n (y - 1)) ((w3.setCell ⟨gr, n, none⟩ (.int .i64 (y - 1))).setCell ⟨g2, i, none⟩ (.int .i64 x))) := fun w3 e => by
    subst e
    obtain ⟨H3, C3⟩ := H2.drew.copyRow (row := row) hkR2 b1 hcur HL.out
    rw [List.set_set] at H3
    have hW : Chg v.foot w w1 := Chg.of_below HB.out
    have F2' : ∀ g, v2.foot g → v.foot g ∨ w.heap.size ≤ g := fun g hg => by rcases F2 g hg with e | e; exact Or.inl e; exact Or.inr (Nat.le_trans HB.out.size e)
    have C3' : Chg v.foot w (w2.drew.setRow g2 (cur.toList.take 0 ++ row.map (Value.int .i64) ++ cur.toList.drop (0 + (row.map (Value.int .i64)).length)).toArray) := ((hW.trans C2 (fun g e => Or.inl e)).drew).trans C3 F2'
    obtain ⟨z0, z1, zf, zl⟩ := two_cells H3.box
    rw [hd2.1, HH.out.2.2.2.2.2.1] at z0
    rw [hd2.2, HH.out.2.2.2.2.2.2.1] at z1
    obtain ⟨gd', cd', gr', cr', u1, u2, u3, u4, u5, u6, u7, u8, u9, u10, u11⟩ := H3.opened (by omega)
    rw [hd2.1, HH.out.2.2.2.2.2.1] at u1
    rw [hd2.2, HH.out.2.2.2.2.2.2.1] at u2
    simp only [Value.slice.injEq, Option.some.injEq, Addr.mk.injEq, and_true] at u1 u2
    obtain ⟨rfl, -, rfl⟩ := u1
    obtain ⟨rfl, -, rfl⟩ := u2
    have ek3 : (D.set k row).getD k [] = row := getD_set_same _ _ _ _ hkD
    obtain ⟨g3, c3, p1, p2, p3, p4, p5⟩ := H3.frame hkR2 (by rw [ek3]; exact HL.out)
    rw [b1] at p1
    simp only [Value.slice.injEq, Option.some.injEq, Addr.mk.injEq, and_true, true_and] at p1
    obtain ⟨rfl, rfl⟩ := p1
    rw [ek3] at p4
    have j1 := u8 k hkR2
    rw [b1] at j1
    have j2 := u10 n hnR2
    rw [getD_set_other _ _ _ _ _ hnk, ← HY.out] at j2
    have m1 : g2 ≠ gr := fun e => H3.own.off k (by simpa using hkD) gr (by rw [hd2.2, HH.out.2.2.2.2.2.2.1]; rfl) (by rw [b1, e]; rfl)
    have m2 : g2 ≠ gd := fun e => by
      have hu := H3.own.dat.each k (by simpa using hkD)
      rw [b1] at hu
      obtain ⟨⟨cc, hcc⟩, _⟩ := own_block hu
      exact own_ne (g := g2) H3.own.dat.top hcc (by decide) (by rw [hd2.1, HH.out.2.2.2.2.2.1, e]; rfl)
    have m3 : hp ≠ g2 := fun e => H3.off H3.box (by decide) (by decide) (e ▸ p2)
    refine ⟨z0, z1, j2, u11 n, j1, p4 i hi, p5 i, zl, u4, u3, p3, m1, m2, m3, ?_⟩
    obtain ⟨v4, H4, F4, C4⟩ := H3.putRef (hd2.2.trans HH.out.2.2.2.2.2.2.1) n (y - 1)
    have hrw : v4.rows.getD k nilv = .slice (some ⟨g2, 0, none⟩) 16 c2 := by
      have hc := u8 k hkR2
      obtain ⟨gd5, cd5, gr5, cr5, x1, x2, x3, x4, x5, x6, x7, x8, x9, x10, x11⟩ := H4.opened (by simp; omega)
      have d4 := HostTo.dv H3 H4 C4
      rw [d4.1, hd2.1, HH.out.2.2.2.2.2.1] at x1
      simp only [Value.slice.injEq, Option.some.injEq, Addr.mk.injEq, and_true] at x1
      obtain ⟨rfl, -, rfl⟩ := x1
      have a := x8 k (by simpa using hkR2)
      rw [World.cell?_of_block (a := ⟨gd, k, none⟩) (Go.Deep.blk_setCell_other _ _ _ _ (by simpa using hne)), hc] at a
      rw [← Option.some.inj a, b1]
    have hfin := H4.putWord (k := i) (i := k) (by simpa using hkR2) hrw x
    rw [ek3, List.set_set] at hfin
    exact HostTo.trans F2' C3' (HostTo.trans F4 C4 hfin)
  have hdl : (⟨gd, k, none⟩ : Addr).block < w2.heap.size := s3
  clear a2 a3 a4 a5 b2 b3 b4 b5 s5 s6 s7 s8 s9 s10 s11 C2 F2 H2 hd2 er ek yf t4 s1' s2' hkR2 hnR2
  have HCUR : Hid (w2.drew.heap[g2]? = some (.cells cur 3 (0, 0)) ∧ 16 ≤ cur.size ∧ (row.map (Value.int .i64)).length = Nat.min 16 16 ∧ row.length = 16) := ⟨hcur, hcap, by simpa using HL.out, HL.out⟩
  clear hcur hcap
  go_wp2_with fail
  go_region_law ((refine step_copy_row1 rfl (.tmp 48) (.tmp 56) 24 24 rfl 3 Tryz.underlying24 hsi g2 0 16 c2 ⟨g1, 0, none⟩ 16 c1 (by rfl) (by rfl) cur 3 HCUR.out.1 (row.map (Value.int .i64)) HCUR.out.2.2.1 HSRC.out (by simp; have := HCUR.out.2.1; have := HCUR.out.2.2.2; omega) (ints_oneCell _ _) ?_; intro w4 hw4; have HN4 : Hid (_) := HEND.out w4 hw4; clear hw4))
  all_goals
    obtain ⟨f1, f2, f3, f4, f5, f6, f7, f8, f9, f10, f11, f12, f13, f14, f15⟩ := HN4.out
    have HFIN : Hid (_) := f15
    have f12' : ¬ g2 = gr := f12
    have f12'' : ¬ gr = g2 := fun e => f12 e.symm
    clear f15 HN4 HEND y0 y1 yl t1 t2 t3
    go_wp2
    go_ret2
    exact ⟨rfl, HFIN.out⟩

end Go.Proofs.YtecpblabaelopaaGreatDoor

/- Contract of Space.Set. -/

namespace Go.Proofs.YtecpblabaelopaaGreatDoor
open Go.RowKit
set_option maxRecDepth 100000

def SetPost (w : World) (lo hp sp : Nat) (v : HV) (D : List (List Int)) (R s : List Int) (n p i : Nat) (x : Int) (e : Ending) (w' : World) : Prop :=
  (e = .returned (.int .i64 0) ∧ ∃ D' R' s', SetTo D R s p i x D' R' s' ∧ SpTo w lo hp sp v D' R' s' w') ∨ (e = .returned (.int .i64 7) ∧ R.length < 16 * n ∧ SpTo w lo hp sp v D R s w')

theorem SpTo.page {w w' : World} {lo hp sp : Nat} {v : HV} {D : List (List Int)} {R s : List Int} (h : SpTo w lo hp sp v D R s w') {p : Nat} (hp' : p < 16) {x : Int} (hx : s.getD p 0 = x) : w'.cell? ⟨sp, 1 + p, none⟩ = some (.int .i64 x) := by
  obtain ⟨_, _, b, _⟩ := h
  rw [← hx]; exact b.cell hp'
theorem SpTo.hostp {w w' : World} {lo hp sp : Nat} {v : HV} {D : List (List Int)} {R s : List Int} (h : SpTo w lo hp sp v D R s w') : w'.cell? ⟨sp, 0, none⟩ = some (hptr hp) := by
  obtain ⟨_, _, b, _⟩ := h
  exact b.host.1
set_option maxHeartbeats 1000000 in
theorem Set_newfull (lo hp sp : Nat) (v : HV) (D : List (List Int)) (R s : List Int) (p i : Nat) (a x : Int) (w : World) (h : HostAt w lo hp v D R) (hs : SpAt w hp sp s) (hp' : p < 16) (ha : 0 ≤ a ∧ a ≤ 255 ∧ a / 16 = (p : Int) ∧ a % 16 = (i : Int)) (h1 : s.getD p 0 = -1) (hn : NoneFree R) :
    Calls Tryz.prog 171 #[hptr sp, .int .i64 a, .int .i64 x] w fun e w' => e = .returned (.int .i64 7) ∧ w' = w := by
  obtain ⟨a1, a2, a3, a4⟩ := ha
  have q1 := hs.cell hp'
  rw [h1] at q1
  obtain ⟨q0, q2, q3⟩ := hs.host
  have hpi : (p : Int) < 16 := by omega
  have HH : Hid (HostAt w lo hp v D R ∧ NoneFree R) := ⟨h, hn⟩
  clear h hs hn h1
  go_enter Tryz.func171, Tryz.ntmps171
  go_wp2_with fail
  refine (Occupy_full lo hp v D R _ HH.out.1 HH.out.2).mono ?_
  rintro e w2 ⟨rfl, hw'⟩
  rw [hw']
  go_wp2
  go_ret
  exact ⟨rfl, rfl⟩

set_option maxHeartbeats 1000000 in
theorem Set_one (lo hp sp : Nat) (v : HV) (D : List (List Int)) (R s : List Int) (p i j : Nat) (a x : Int) (w : World) (h : HostAt w lo hp v D R) (hs : SpAt w hp sp s) (hp' : p < 16) (hi : i < 16) (ha : 0 ≤ a ∧ a ≤ 255 ∧ a / 16 = (p : Int) ∧ a % 16 = (i : Int)) (h1 : s.getD p 0 = (j : Int)) (hj : j < R.length) (hr : R.getD j 0 = 1) (hl : (D.getD j []).length = 16) :
    Calls Tryz.prog 171 #[hptr sp, .int .i64 a, .int .i64 x] w fun e w' => e = .returned (.int .i64 0) ∧ SpTo w lo hp sp v (D.set j ((D.getD j []).set i x)) R (s.set p (j : Int)) w' := by
  obtain ⟨a1, a2, a3, a4⟩ := ha
  have q1 := hs.cell hp'
  rw [h1] at q1
  obtain ⟨q0, q2, q3⟩ := hs.host
  have hpi : (p : Int) < 16 := by omega
  have HM : Hid (a.tmod 16 = (i : Int)) := (Int.tmod_eq_emod_of_nonneg a1).trans a4
  have hj1 : ((j : Int) == -1) = false := by simp
  have HP : Hid (∀ W, Below w.heap.size w W → Calls Tryz.prog 179 #[hptr hp, .int .i64 j, .int .i64 i, .int .i64 x] W fun e w' => e = .returned (.tuple #[.int .i64 j, .int .i64 0]) ∧ SpTo w lo hp sp v (D.set j ((D.getD j []).set i x)) R s w') := fun W hW => (Put_one lo hp v D R j i x W (h.below hW) hj hr hi hl).mono fun e w' ⟨he, hT⟩ => ⟨he, SpTo.of_host h hs (HostTo.trans (fun _ e => Or.inl e) (Chg.of_below hW) hT)⟩
  have h1s : Hid (s.getD p 0 = (j : Int)) := h1
  clear h hs h1
  go_enter Tryz.func171, Tryz.ntmps171
  go_wp2_with fail
  go_region_held3 (fun w' => w'.cell? ⟨sp, 0, none⟩ = some (hptr hp) ∧ w'.cell? ⟨sp, 1 + p, none⟩ = some (.int .i64 j)) (go_keep)
    (first
      | (go_at_call 179; rw [HM.out]; refine (HP.out _ ((Below.refl _ w).drew)).mono ?_; rintro e w2 ⟨rfl, HT⟩; have q1' := HT.page hp' h1s.out; have q0' := HT.hostp))
  all_goals
    have HE : Hid (_) := HT.put p (j : Int)
    obtain ⟨v', b1, b2, b3, b4⟩ := HT
    have q1' := b2.cell hp'
    obtain ⟨q0', q2', q3'⟩ := b2.host
    clear b1 b2 b3 b4 q1 q0 q2 q3
    go_wp2
    go_ret
    exact ⟨rfl, HE.out⟩

set_option maxHeartbeats 1000000 in
theorem Set_many (lo hp sp : Nat) (v : HV) (D : List (List Int)) (R s : List Int) (p i j k : Nat) (a x : Int) (w : World) (h : HostAt w lo hp v D R) (hs : SpAt w hp sp s) (hp' : p < 16) (hi : i < 16) (ha : 0 ≤ a ∧ a ≤ 255 ∧ a / 16 = (p : Int) ∧ a % 16 = (i : Int)) (h1 : s.getD p 0 = (j : Int)) (hj : j < R.length) (hr : 1 < R.getD j 0) (hr2 : R.getD j 0 ≤ 200) (hl : (D.getD j []).length = 16) (hk : FirstAt R k) :
    Calls Tryz.prog 171 #[hptr sp, .int .i64 a, .int .i64 x] w fun e w' => e = .returned (.int .i64 0) ∧ SpTo w lo hp sp v (D.set k ((D.getD j []).set i x)) ((R.set k 1).set j (R.getD j 0 - 1)) (s.set p (k : Int)) w' := by
  obtain ⟨a1, a2, a3, a4⟩ := ha
  have q1 := hs.cell hp'
  rw [h1] at q1
  obtain ⟨q0, q2, q3⟩ := hs.host
  have hpi : (p : Int) < 16 := by omega
  have HM : Hid (a.tmod 16 = (i : Int)) := (Int.tmod_eq_emod_of_nonneg a1).trans a4
  have hj1 : ((j : Int) == -1) = false := by simp
  have HP : Hid (∀ W, Below w.heap.size w W → Calls Tryz.prog 179 #[hptr hp, .int .i64 j, .int .i64 i, .int .i64 x] W fun e w' => e = .returned (.tuple #[.int .i64 k, .int .i64 0]) ∧ SpTo w lo hp sp v (D.set k ((D.getD j []).set i x)) ((R.set k 1).set j (R.getD j 0 - 1)) s w') := fun W hW => (Put_many lo hp v D R j i k x W (h.below hW) hj hr hr2 hi hl hk).mono fun e w' ⟨he, hT⟩ => ⟨he, SpTo.of_host h hs (HostTo.trans (fun _ e => Or.inl e) (Chg.of_below hW) hT)⟩
  have h1s : Hid (s.getD p 0 = (j : Int)) := h1
  clear h hs h1 hk
  go_enter Tryz.func171, Tryz.ntmps171
  go_wp2_with fail
  go_region_held3 (fun w' => w'.cell? ⟨sp, 0, none⟩ = some (hptr hp) ∧ w'.cell? ⟨sp, 1 + p, none⟩ = some (.int .i64 j)) (go_keep)
    (first
      | (go_at_call 179; rw [HM.out]; refine (HP.out _ ((Below.refl _ w).drew)).mono ?_; rintro e w2 ⟨rfl, HT⟩; have q1' := HT.page hp' h1s.out; have q0' := HT.hostp))
  all_goals
    have HE : Hid (_) := HT.put p (k : Int)
    obtain ⟨v', b1, b2, b3, b4⟩ := HT
    have q1' := b2.cell hp'
    obtain ⟨q0', q2', q3'⟩ := b2.host
    clear b1 b2 b3 b4 q1 q0 q2 q3
    go_wp2
    go_ret
    exact ⟨rfl, HE.out⟩

set_option maxHeartbeats 1000000 in
theorem Set_manyfull (lo hp sp : Nat) (v : HV) (D : List (List Int)) (R s : List Int) (p i j : Nat) (a x : Int) (w : World) (h : HostAt w lo hp v D R) (hs : SpAt w hp sp s) (hp' : p < 16) (hi : i < 16) (ha : 0 ≤ a ∧ a ≤ 255 ∧ a / 16 = (p : Int) ∧ a % 16 = (i : Int)) (h1 : s.getD p 0 = (j : Int)) (hj : j < R.length) (hr : 1 < R.getD j 0) (hn : NoneFree R) :
    Calls Tryz.prog 171 #[hptr sp, .int .i64 a, .int .i64 x] w fun e w' => e = .returned (.int .i64 7) ∧ SpTo w lo hp sp v D R s w' := by
  obtain ⟨a1, a2, a3, a4⟩ := ha
  have q1 := hs.cell hp'
  rw [h1] at q1
  obtain ⟨q0, q2, q3⟩ := hs.host
  have hpi : (p : Int) < 16 := by omega
  have HM : Hid (a.tmod 16 = (i : Int)) := (Int.tmod_eq_emod_of_nonneg a1).trans a4
  have hj1 : ((j : Int) == -1) = false := by simp
  have HP : Hid (∀ W, Below w.heap.size w W → Calls Tryz.prog 179 #[hptr hp, .int .i64 j, .int .i64 i, .int .i64 x] W fun e w' => e = .returned (.tuple #[.int .i64 0, .int .i64 7]) ∧ SpTo w lo hp sp v D R s w') := fun W hW => (Put_full lo hp v D R j i x W (h.below hW) hj hr hi hn).mono fun e w' ⟨he, hT⟩ => ⟨he, SpTo.same h hs (hW.trans (hT.mono hW.size))⟩
  have h1s : Hid (s.getD p 0 = (j : Int)) := h1
  clear h hs h1 hn
  go_enter Tryz.func171, Tryz.ntmps171
  go_wp2_with fail
  go_region_held3 (fun w' => w'.cell? ⟨sp, 0, none⟩ = some (hptr hp) ∧ w'.cell? ⟨sp, 1 + p, none⟩ = some (.int .i64 j)) (go_keep)
    (first
      | (go_at_call 179; rw [HM.out]; refine (HP.out _ ((Below.refl _ w).drew)).mono ?_; rintro e w2 ⟨rfl, HT⟩; have q1' := HT.page hp' h1s.out; have q0' := HT.hostp))
  all_goals
    have HE : Hid (_) := HT
    clear HT q1 q0 q2 q3
    go_wp2
    go_ret
    exact ⟨rfl, HE.out⟩

set_option maxHeartbeats 1000000 in
theorem Set_new (lo hp sp : Nat) (v : HV) (D : List (List Int)) (R s : List Int) (p i k : Nat) (a x : Int) (w : World) (h : HostAt w lo hp v D R) (hs : SpAt w hp sp s) (hp' : p < 16) (hi : i < 16) (ha : 0 ≤ a ∧ a ≤ 255 ∧ a / 16 = (p : Int) ∧ a % 16 = (i : Int)) (h1 : s.getD p 0 = -1) (hk : FirstAt R k) :
    Calls Tryz.prog 171 #[hptr sp, .int .i64 a, .int .i64 x] w fun e w' => e = .returned (.int .i64 0) ∧ SpTo w lo hp sp v (D.set k (zeros16.set i x)) (R.set k 1) (s.set p (k : Int)) w' := by
  obtain ⟨a1, a2, a3, a4⟩ := ha
  have q1 := hs.cell hp'
  rw [h1] at q1
  obtain ⟨q0, q2, q3⟩ := hs.host
  have hpi : (p : Int) < 16 := by omega
  have hsl := hs.len
  have hkR := hk.1
  have hkD : k < D.length := by have := h.len; omega
  have HM : Hid (a.tmod 16 = (i : Int)) := (Int.tmod_eq_emod_of_nonneg a1).trans a4
  have HO : Hid (∀ W, Below w.heap.size w W → Calls Tryz.prog 178 #[hptr hp] W fun e w' => e = .returned (.tuple #[.int .i64 k, .int .i64 0]) ∧ SpTo w lo hp sp v (D.set k zeros16) (R.set k 1) s w') := fun W hW => (Occupy_ok lo hp v D R k W (h.below hW) hk).mono fun e w' ⟨he, hT⟩ => ⟨he, SpTo.of_host h hs (HostTo.trans (fun _ e => Or.inl e) (Chg.of_below hW) hT)⟩
  have hrk : (R.set k 1).getD k 0 = 1 := by rw [gset _ _ _ _ _ hkR, if_pos rfl]
  have hdk : (D.set k zeros16).getD k [] = zeros16 := by rw [gset _ _ _ _ _ hkD, if_pos rfl]
  have HSP : Hid ((s.set p (k : Int)).getD p 0 = (k : Int)) := by show _ = _; rw [gset _ _ _ _ _ (by omega), if_pos rfl]
  have HP : Hid (∀ W1 W, SpTo w lo hp sp v (D.set k zeros16) (R.set k 1) (s.set p (k : Int)) W1 → Below W1.heap.size W1 W → Calls Tryz.prog 179 #[hptr hp, .int .i64 k, .int .i64 i, .int .i64 x] W fun e w' => e = .returned (.tuple #[.int .i64 k, .int .i64 0]) ∧ SpTo w lo hp sp v (D.set k (zeros16.set i x)) (R.set k 1) (s.set p (k : Int)) w') := fun W1 W h1 hW => by
    obtain ⟨v1, H1, S1, f1, c1⟩ := h1
    refine (Put_one lo hp v1 (D.set k zeros16) (R.set k 1) k i x W (H1.below hW) (by simpa using hkR) hrk hi (by rw [hdk]; simp [zeros16])).mono fun e w' ⟨he, hT⟩ => ⟨he, ?_⟩
    rw [hdk, List.set_set] at hT
    exact SpTo.trans f1 c1 (SpTo.of_host H1 S1 (HostTo.trans (fun _ e => Or.inl e) (Chg.of_below hW) hT))
  clear h hs h1 hk
  go_enter Tryz.func171, Tryz.ntmps171
  go_wp2_with fail
  refine (HO.out _ (Below.refl _ _)).mono ?_
  rintro e w2 ⟨rfl, HT0⟩
  have HT1 : Hid (_) := HT0.put p (k : Int)
  have q1' := HT0.page hp' rfl
  have q0' := HT0.hostp
  obtain ⟨v', b1, b2, b3, b4⟩ := HT0
  obtain ⟨_, q2', q3'⟩ := b2.host
  clear b1 b2 b3 b4 q1 q0 q2 q3
  go_upto_region 9 with fail
  have q1 := SpTo.page HT1.out hp' HSP.out
  have q0 := SpTo.hostp HT1.out
  obtain ⟨W1, hW1⟩ : ∃ W1, W1 = w2.setCell ⟨sp, 1 + p, none⟩ (.int .i64 (k : Int)) := ⟨_, rfl⟩
  rw [← hW1] at q1 q0 ⊢
  have HT2 : Hid (SpTo w lo hp sp v (D.set k zeros16) (R.set k 1) (s.set p (k : Int)) W1) := by rw [hW1]; exact HT1.out
  clear q1' q0' q2' q3' HT1 hW1
  obtain ⟨hq2, hq3⟩ : (∀ j, W1.frozen? ⟨sp, j, none⟩ = false) ∧ sp < W1.heap.size := by
    obtain ⟨_, _, b, _⟩ := HT2.out
    exact b.host.2
  go_region_held3 (fun w' => w'.cell? ⟨sp, 0, none⟩ = some (hptr hp) ∧ w'.cell? ⟨sp, 1 + p, none⟩ = some (.int .i64 k)) (go_keep)
    (first
      | (go_at_call 179; rw [HM.out]; refine (HP.out W1 _ HT2.out ((Below.refl _ W1).drew)).mono ?_; rintro e w2 ⟨rfl, HT⟩; have q1' := HT.page hp' HSP.out; have q0' := HT.hostp))
  all_goals
    have HE := HT.put p (k : Int)
    rw [List.set_set] at HE
    have HE : Hid (_) := HE
    obtain ⟨v', b1, b2, b3, b4⟩ := HT
    have q1' := b2.cell hp'
    obtain ⟨q0', q2', q3'⟩ := b2.host
    clear b1 b2 b3 b4 q1 q0 hq2 hq3
    go_wp2
    go_ret
    exact ⟨rfl, HE.out⟩

theorem Set_any (lo hp sp : Nat) (v : HV) (D : List (List Int)) (R s : List Int) (Ss : List (List Int)) (p i : Nat) (a x : Int) (w : World) (h : HostAt w lo hp v D R) (hs : SpAt w hp sp s) (hS : Sys D R (s :: Ss)) (hn : Ss.length ≤ 11) (hp' : p < 16) (hi : i < 16) (ha : a = ((16 * p + i : Nat) : Int)) :
    Calls Tryz.prog 171 #[hptr sp, .int .i64 a, .int .i64 x] w fun e w' => SetPost w lo hp sp v D R s (Ss.length + 1) p i x e w' := by
  have ha' : 0 ≤ a ∧ a ≤ 255 ∧ a / 16 = (p : Int) ∧ a % 16 = (i : Int) := by omega
  have hfull : ∀ {e}, NoneFree R → (s.getD p 0 = -1 ∨ ∃ j : Nat, s.getD p 0 = (j : Int) ∧ 1 < R.getD j 0) → e → R.length < 16 * (Ss.length + 1) := fun {e} h1 h2 _ => by
    have := hS.full h1 (s := s) (by simp) hp' h2
    simpa using this
  rcases hS.page_ok (s := s) (by simp) hp' with e | ⟨j, e, hj, h1⟩
  · rcases first_or R with hf | ⟨k, hk⟩
    · exact (Set_newfull lo hp sp v D R s p i a x w h hs hp' ha' e hf).mono fun e' w' ⟨he, hw⟩ => Or.inr ⟨he, hfull hf (Or.inl e) trivial, by rw [hw]; exact SpTo.same h hs (Below.refl _ _)⟩
    · exact (Set_new lo hp sp v D R s p i k a x w h hs hp' hi ha' e hk).mono fun e' w' ⟨he, hw⟩ => Or.inl ⟨he, _, _, _, SetTo.new k e hk, hw⟩
  · have hl := hS.known_len hj h1
    have hfw := hS.few hj
    simp only [List.length_cons] at hfw
    by_cases e1 : R.getD j 0 = 1
    · exact (Set_one lo hp sp v D R s p i j a x w h hs hp' hi ha' e hj e1 hl).mono fun e' w' ⟨he, hw⟩ => Or.inl ⟨he, _, _, _, SetTo.one j e e1, hw⟩
    · rcases first_or R with hf | ⟨k, hk⟩
      · exact (Set_manyfull lo hp sp v D R s p i j a x w h hs hp' hi ha' e hj (by omega) hf).mono fun e' w' ⟨he, hw⟩ => Or.inr ⟨he, hfull hf (Or.inr ⟨j, e, by omega⟩) trivial, hw⟩
      · exact (Set_many lo hp sp v D R s p i j k a x w h hs hp' hi ha' e hj (by omega) (by omega) hl hk).mono fun e' w' ⟨he, hw⟩ => Or.inl ⟨he, _, _, _, SetTo.many j k e (by omega) hk, hw⟩

end Go.Proofs.YtecpblabaelopaaGreatDoor
