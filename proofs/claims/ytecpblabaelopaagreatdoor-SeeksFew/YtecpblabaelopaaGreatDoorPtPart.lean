/- A point of a tape in memory; contracts of point.whole and point.fork. -/
import Derived.Test.YtecpblabaelopaaGreatDoorSpcFPart
import Derived.Test.YtecpblabaelopaaGreatDoorBasePart
import Derived.Deep.RegionHeld3
import Derived.Deep.RegionLaw
import Derived.Deep.RegionWith
import Derived.Deep.DeepCutAuto
namespace Go.Proofs.YtecpblabaelopaaGreatDoor
open Go.RowKit
set_option maxRecDepth 100000

abbrev zerM : Array Value := #[.slice none 0 0, .int .i64 0, .int .i64 0, .bool false, .bool false, .int .i64 0, .int .i64 0, .int .i64 0, .slice none 0 0, .slice none 0 0, .int .i64 0, .int .i64 0]
structure PtV where
  place : Int
  rv : Value
  ov : Value
  m : Mach
  sp : Nat
  wrote : Int
def PtV.cells (p : PtV) : List Value :=
  [.int .i64 p.place, p.rv, .int .i64 p.m.pc, .int .i64 p.m.back, .bool p.m.ints, .bool p.m.wait, .int .i64 p.m.table, .int .i64 p.m.count, .int .i64 p.m.fin, nilv, p.ov, .int .i64 p.m.ready, .int .i64 p.m.want, hptr p.sp, .int .i64 p.wrote]
structure PtOk (w : World) (lo : Nat) (F : Nat → Prop) (p : PtV) : Prop where
  regs : OwnI w lo p.rv p.m.regs
  out : OwnI w lo p.ov p.m.out
  offr : Off F p.rv
  offo : Off F p.ov

set_option maxHeartbeats 1000000 in
theorem whole_any (lo hp : Nat) (v : HV) (D : List (List Int)) (R s : List Int) (Ss : List (List Int)) (p : PtV) (w : World) (h : HostAt w lo hp v D R) (hs : SpAt w hp p.sp s) (hS : Sys D R Ss) (hin : s ∈ Ss) (hr : ∃ A n c, p.rv = .slice A n c) (ho : ∃ A n c, p.ov = .slice A n c) :
    Calls Tryz.prog 100 #[.agg p.cells.toArray] w fun e w' => ∃ u, e = .returned (.agg (p.m.cells p.rv u p.ov)) ∧ OwnI w' w.heap.size u (wordsOf D s) ∧ Below w.heap.size w w' := by
  have HW : Hid (∀ W, Below w.heap.size w W → Calls Tryz.prog 139 #[hptr p.sp] W fun e w' => ∃ u, e = .returned u ∧ OwnI w' W.heap.size u (wordsOf D s) ∧ Below W.heap.size W w') := fun W hW => Words_any lo hp p.sp v D R s Ss W (h.below hW) (hs.below hW) hS hin
  clear h hs hS hin
  obtain ⟨place, rv, ov, m, sp, wrote⟩ := p
  simp only [PtV.cells, Mach.cells] at HW ⊢
  simp only at hr ho
  obtain ⟨A, n, c, rfl⟩ := hr
  obtain ⟨A', n', c', rfl⟩ := ho
  go_enter Tryz.func100, Tryz.ntmps100
  go_wp2_with fail
  obtain ⟨W, hW⟩ : ∃ W, W = (((w.alloc (.cells #[.int .i64 place, .slice A n c, .int .i64 m.pc, .int .i64 m.back, .bool m.ints, .bool m.wait, .int .i64 m.table, .int .i64 m.count, .int .i64 m.fin, nilv, .slice A' n' c', .int .i64 m.ready, .int .i64 m.want, hptr sp, .int .i64 wrote] 153)).alloc (.cells zerM 37)).alloc (.cells #[.slice A n c, .int .i64 m.pc, .int .i64 m.back, .bool m.ints, .bool m.wait, .int .i64 m.table, .int .i64 m.count, .int .i64 m.fin, nilv, .slice A' n' c', .int .i64 m.ready, .int .i64 m.want] 37)) := ⟨_, rfl⟩
  have hb : Below w.heap.size w W ∧ W.heap[w.heap.size + 1]? = some (.cells zerM 37 (0, 0)) ∧ W.heap[w.heap.size + 1 + 1]? = some (.cells #[.slice A n c, .int .i64 m.pc, .int .i64 m.back, .bool m.ints, .bool m.wait, .int .i64 m.table, .int .i64 m.count, .int .i64 m.fin, nilv, .slice A' n' c', .int .i64 m.ready, .int .i64 m.want] 37 (0, 0)) := by
    rw [hW]
    refine ⟨((below_alloc _ _).alloc (by simp) _).alloc (by simp; omega) _, ?_, ?_⟩
    · rw [(below_alloc _ _).block _ (by simp)]
      have := Go.Deep.blk_alloc_new (w.alloc (.cells #[.int .i64 place, .slice A n c, .int .i64 m.pc, .int .i64 m.back, .bool m.ints, .bool m.wait, .int .i64 m.table, .int .i64 m.count, .int .i64 m.fin, nilv, .slice A' n' c', .int .i64 m.ready, .int .i64 m.want, hptr sp, .int .i64 wrote] 153)) (.cells zerM 37)
      rwa [World.size_alloc] at this
    · have := Go.Deep.blk_alloc_new ((w.alloc (.cells #[.int .i64 place, .slice A n c, .int .i64 m.pc, .int .i64 m.back, .bool m.ints, .bool m.wait, .int .i64 m.table, .int .i64 m.count, .int .i64 m.fin, nilv, .slice A' n' c', .int .i64 m.ready, .int .i64 m.want, hptr sp, .int .i64 wrote] 153)).alloc (.cells zerM 37)) (.cells #[.slice A n c, .int .i64 m.pc, .int .i64 m.back, .bool m.ints, .bool m.wait, .int .i64 m.table, .int .i64 m.count, .int .i64 m.fin, nilv, .slice A' n' c', .int .i64 m.ready, .int .i64 m.want] 37)
      rwa [World.size_alloc, World.size_alloc] at this
  rw [← hW]
  clear hW
  refine (HW.out _ hb.1).mono ?_
  rintro e w2 ⟨u, rfl, ho, hb2⟩
  obtain ⟨g, cu, hu, hg1, hg2, -, -⟩ := ho.opened (by rw [wordsOf_len]; omega)
  rw [wordsOf_len] at hu
  subst hu
  have h1 := hb.2.1
  have h2 := hb.2.2
  rw [← hb2.block _ (lt_of_block h1)] at h1
  rw [← hb2.block _ (lt_of_block h2)] at h2
  have HB : Hid (Below w.heap.size w w2) := hb.1.trans (hb2.mono hb.1.size)
  have HO : Hid (OwnI w2 w.heap.size (.slice (some ⟨g, 0, none⟩) 256 cu) (wordsOf D s)) := ownsRow_mono ho hb.1.size
  have hne : g ≠ w.heap.size + 1 ∧ g ≠ w.heap.size + 1 + 1 := by
    have s1 := lt_of_block hb.2.1
    have s2 := lt_of_block hb.2.2
    omega
  obtain ⟨⟨x0, x1, x2, x3, x4, x5, x6, x7, x8, x9, x10, x11⟩, xf, xl⟩ := twelve_cells h2
  obtain ⟨⟨y0, y1, y2, y3, y4, y5, y6, y7, y8, y9, y10, y11⟩, yf, yl⟩ := twelve_cells h1
  clear h1 h2 ho hb2 hb hg1 hg2
  go_wp2_with fail
  refine bodyPost_ret (v := .agg #[.slice A n c, .int .i64 m.pc, .int .i64 m.back, .bool m.ints, .bool m.wait, .int .i64 m.table, .int .i64 m.count, .int .i64 m.fin, .slice (some ⟨g, 0, none⟩) 256 cu, .slice A' n' c', .int .i64 m.ready, .int .i64 m.want]) (by simp [results, Tryz.results100, go_sem, y0, y1, y2, y3, y4, y5, y6, y7, y8, y9, y10, y11]) rfl ?_
  refine ⟨_, rfl, ?_, ?_⟩
  · refine Chg.own (F := fun b => b = w.heap.size + 1 ∨ b = w.heap.size + 1 + 1) ?_ HO.out (fun b hb e => ?_)
    · repeat (refine Chg.set ?_ (Or.inl (by first | exact Or.inl rfl | exact Or.inr rfl)) _)
      exact Chg.refl _ _
    · simp [Value.ownBlock] at hb
      subst hb
      rcases e with e | e
      · exact hne.1 e
      · exact hne.2 e
  · repeat (refine Below.setCell ?_ (by first | (simp; done) | (simp; omega)) _)
    exact HB.out

end Go.Proofs.YtecpblabaelopaaGreatDoor

/- Contract of point.fork. -/

namespace Go.Proofs.YtecpblabaelopaaGreatDoor
open Go.RowKit
set_option maxRecDepth 100000

theorem OwnF.chg {G : Nat → Prop} {w w' : World} {lo : Nat} {v : HV} {D : List (List Int)} {R : List Int} (h : OwnF w lo v.dv v.rv v.rows D R) (hc : Chg G w w') (hG : ∀ g, G g → ¬ v.foot g) : OwnF w' lo v.dv v.rv v.rows D R :=
  ⟨⟨hc.owns h.dat.top (fun g e e2 => hG g e2 (Or.inl e)), fun i hi => hc.own (h.dat.each i hi) (fun g e e2 => hG g e2 (Or.inr (Or.inr ⟨i, e⟩))), h.dat.apart⟩, hc.own h.ref (fun g e e2 => hG g e2 (Or.inr (Or.inl e))), h.off⟩
theorem HostAt.chg {G : Nat → Prop} {w w' : World} {lo hp : Nat} {v : HV} {D : List (List Int)} {R : List Int} (h : HostAt w lo hp v D R) (hc : Chg G w w') (hG : ∀ g, G g → ¬ v.foot g ∧ g ≠ hp) : HostAt w' lo hp v D R :=
  ⟨hc.box h.box (fun e => (hG _ e).2 rfl), h.own.chg hc (fun g e => (hG g e).1), h.len, h.few, h.le⟩
def BoxT (w : World) (g : Nat) (t : TypeId) : Prop := ∃ cur, w.heap[g]? = some (.cells cur t (0, 0))
theorem BoxT.off {w : World} {lo hp g : Nat} {t : TypeId} {v : HV} {D : List (List Int)} {R : List Int} (hb : BoxT w g t) (h : HostAt w lo hp v D R) (h1 : 3 ≠ t) (h2 : 24 ≠ t) (h3 : 189 ≠ t) : ¬ v.foot g ∧ g ≠ hp := by
  obtain ⟨cur, hg⟩ := hb
  refine ⟨h.off hg h1 h2, fun e => ?_⟩
  rw [e, h.box] at hg
  simp at hg
  exact h3 hg.2
theorem HostTo.more {G : Nat → Prop} {w w2 w3 : World} {lo hp : Nat} {v : HV} {D : List (List Int)} {R : List Int} (h : HostTo w lo hp v D R w2) (hc : Chg G w2 w3) (hG : ∀ g, G g → w.heap.size ≤ g ∧ ∃ t, BoxT w2 g t ∧ 3 ≠ t ∧ 24 ≠ t ∧ 189 ≠ t) : HostTo w lo hp v D R w3 := by
  obtain ⟨v', a, b, c⟩ := h
  refine ⟨v', a.chg hc (fun g e => ?_), b, c.trans hc (fun g e => Or.inr (hG g e).1)⟩
  obtain ⟨_, t, hb, h1, h2, h3⟩ := hG g e
  exact hb.off a h1 h2 h3

def PForkPost (w : World) (lo hp : Nat) (v : HV) (D : List (List Int)) (R s : List Int) (Ss : List (List Int)) (p : PtV) (e : Ending) (w' : World) : Prop :=
  ∃ fp R', e = .returned (.tuple #[.agg ({ p with sp := fp } : PtV).cells.toArray, .int .i64 0]) ∧ w.heap.size ≤ fp ∧ SpAt w' hp fp s ∧ Sys D R' (s :: s :: Ss) ∧ R'.length = R.length ∧ HostTo w lo hp v D R' w'

theorem fifteen_cells {w : World} {b : Nat} {x0 x1 x2 x3 x4 x5 x6 x7 x8 x9 x10 x11 x12 x13 x14 : Value} {t : TypeId} (h : w.heap[b]? = some (.cells #[x0, x1, x2, x3, x4, x5, x6, x7, x8, x9, x10, x11, x12, x13, x14] t (0, 0))) :
    (w.cell? ⟨b, 0, none⟩ = some x0 ∧ w.cell? ⟨b, 1, none⟩ = some x1 ∧ w.cell? ⟨b, 2, none⟩ = some x2 ∧ w.cell? ⟨b, 3, none⟩ = some x3 ∧ w.cell? ⟨b, 4, none⟩ = some x4 ∧ w.cell? ⟨b, 5, none⟩ = some x5 ∧ w.cell? ⟨b, 6, none⟩ = some x6 ∧ w.cell? ⟨b, 7, none⟩ = some x7 ∧ w.cell? ⟨b, 8, none⟩ = some x8 ∧ w.cell? ⟨b, 9, none⟩ = some x9 ∧ w.cell? ⟨b, 10, none⟩ = some x10 ∧ w.cell? ⟨b, 11, none⟩ = some x11 ∧ w.cell? ⟨b, 12, none⟩ = some x12 ∧ w.cell? ⟨b, 13, none⟩ = some x13 ∧ w.cell? ⟨b, 14, none⟩ = some x14) ∧ (∀ j, w.frozen? ⟨b, j, none⟩ = false) ∧ b < w.heap.size :=
  ⟨⟨by simp [World.cell?, h], by simp [World.cell?, h], by simp [World.cell?, h], by simp [World.cell?, h], by simp [World.cell?, h], by simp [World.cell?, h], by simp [World.cell?, h], by simp [World.cell?, h], by simp [World.cell?, h], by simp [World.cell?, h], by simp [World.cell?, h], by simp [World.cell?, h], by simp [World.cell?, h], by simp [World.cell?, h], by simp [World.cell?, h]⟩, fun j => by simp [World.frozen?, h], lt_of_block h⟩
abbrev zerP : Array Value := #[.int .i64 0, .slice none 0 0, .int .i64 0, .int .i64 0, .bool false, .bool false, .int .i64 0, .int .i64 0, .int .i64 0, .slice none 0 0, .slice none 0 0, .int .i64 0, .int .i64 0, .pointer none, .int .i64 0]

set_option maxHeartbeats 1000000 in
theorem pfork_any (lo hp : Nat) (v : HV) (D : List (List Int)) (R s : List Int) (Ss : List (List Int)) (p : PtV) (w : World) (h : HostAt w lo hp v D R) (hs : SpAt w hp p.sp s) (hS : Sys D R (s :: Ss)) (hn : Ss.length ≤ 10) (hr : ∃ A n c, p.rv = .slice A n c) (ho : ∃ A n c, p.ov = .slice A n c) :
    Calls Tryz.prog 134 #[.agg p.cells.toArray] w fun e w' => PForkPost w lo hp v D R s Ss p e w' := by
  have HW : Hid (∀ W, Below w.heap.size w W → Calls Tryz.prog 155 #[hptr p.sp] W fun e w' => ∃ fp R', e = .returned (.tuple #[hptr fp, .int .i64 0]) ∧ W.heap.size ≤ fp ∧ SpAt w' hp fp s ∧ Sys D R' (s :: s :: Ss) ∧ R'.length = R.length ∧ HostTo W lo hp v D R' w') := fun W hW => Fork_any lo hp p.sp v D R s Ss W (h.below hW) (hs.below hW) hS hn
  have HH : Hid (HostAt w lo hp v D R) := h
  clear h hs hS hn
  obtain ⟨place, rv, ov, m, sp, wrote⟩ := p
  simp only at hr ho
  obtain ⟨A, n, c, rfl⟩ := hr
  obtain ⟨A', n', c', rfl⟩ := ho
  obtain ⟨pv, hpv⟩ : ∃ pv : PtV, pv = ⟨place, .slice A n c, .slice A' n' c', m, sp, wrote⟩ := ⟨_, rfl⟩
  have HPV : Hid (pv = ⟨place, .slice A n c, .slice A' n' c', m, sp, wrote⟩) := hpv
  rw [← hpv]
  clear hpv
  rw [HPV.out]
  simp only [PtV.cells] at HW ⊢
  go_enter Tryz.func134, Tryz.ntmps134
  go_wp2_with fail
  obtain ⟨W, hW⟩ : ∃ W, W = ((w.alloc (.cells #[.int .i64 place, .slice A n c, .int .i64 m.pc, .int .i64 m.back, .bool m.ints, .bool m.wait, .int .i64 m.table, .int .i64 m.count, .int .i64 m.fin, nilv, .slice A' n' c', .int .i64 m.ready, .int .i64 m.want, hptr sp, .int .i64 wrote] 153)).alloc (.cells zerP 153)) := ⟨_, rfl⟩
  have hb : Below w.heap.size w W ∧ W.heap[w.heap.size]? = some (.cells #[.int .i64 place, .slice A n c, .int .i64 m.pc, .int .i64 m.back, .bool m.ints, .bool m.wait, .int .i64 m.table, .int .i64 m.count, .int .i64 m.fin, nilv, .slice A' n' c', .int .i64 m.ready, .int .i64 m.want, hptr sp, .int .i64 wrote] 153 (0, 0)) ∧ W.heap[w.heap.size + 1]? = some (.cells zerP 153 (0, 0)) := by
    rw [hW]
    refine ⟨(below_alloc _ _).alloc (by simp) _, ?_, ?_⟩
    · rw [(below_alloc _ _).block _ (by simp)]
      exact Go.Deep.blk_alloc_new _ _
    · have := Go.Deep.blk_alloc_new (w.alloc (.cells #[.int .i64 place, .slice A n c, .int .i64 m.pc, .int .i64 m.back, .bool m.ints, .bool m.wait, .int .i64 m.table, .int .i64 m.count, .int .i64 m.fin, nilv, .slice A' n' c', .int .i64 m.ready, .int .i64 m.want, hptr sp, .int .i64 wrote] 153)) (.cells zerP 153)
      rwa [World.size_alloc] at this
  rw [← hW]
  clear hW
  refine (HW.out _ hb.1).mono ?_
  rintro e w2 ⟨fp, R', rfl, hfp, hsp, hsys, hRl, hT⟩
  have h1 := hb.2.1
  have h2 := hb.2.2
  have hT2 : HostTo w lo hp v D R' w2 := HostTo.trans (fun _ e => Or.inl e) (Chg.of_below hb.1) hT
  obtain ⟨v', c1, c2, c3⟩ := hT
  have k1 := c3.box h1 ((HH.out.below hb.1).off h1 (by decide) (by decide))
  have k2 := c3.box h2 ((HH.out.below hb.1).off h2 (by decide) (by decide))
  have HT : Hid (HostTo w lo hp v D R' w2 ∧ w.heap.size ≤ fp ∧ SpAt w2 hp fp s ∧ Sys D R' (s :: s :: Ss) ∧ R'.length = R.length ∧ BoxT w2 w.heap.size 153 ∧ BoxT w2 (w.heap.size + 1) 153 ∧ w.heap.size + 1 < fp) := ⟨hT2, Nat.le_trans hb.1.size hfp, hsp, hsys, hRl, ⟨_, k1⟩, ⟨_, k2⟩, Nat.lt_of_lt_of_le (lt_of_block hb.2.2) hfp⟩
  obtain ⟨⟨x0, x1, x2, x3, x4, x5, x6, x7, x8, x9, x10, x11, x12, x13, x14⟩, xf, xl⟩ := fifteen_cells k1
  obtain ⟨⟨y0, y1, y2, y3, y4, y5, y6, y7, y8, y9, y10, y11, y12, y13, y14⟩, yf, yl⟩ := fifteen_cells k2
  clear h1 h2 hsp hsys hRl hT2 c1 c2 c3 hb k1 k2 hfp
  go_wp2_with fail
  refine bodyPost_ret (v := .tuple #[.agg #[.int .i64 place, .slice A n c, .int .i64 m.pc, .int .i64 m.back, .bool m.ints, .bool m.wait, .int .i64 m.table, .int .i64 m.count, .int .i64 m.fin, nilv, .slice A' n' c', .int .i64 m.ready, .int .i64 m.want, hptr fp, .int .i64 wrote], .int .i64 0]) (by simp [results, Tryz.results134, go_sem, y0, y1, y2, y3, y4, y5, y6, y7, y8, y9, y10, y11, y12, y13, y14]) rfl ?_
  obtain ⟨t1, t2, t3, t4, t5, t6, t7, t8⟩ := HT.out
  have hfin : ∀ W', Chg (fun b => b = w.heap.size ∨ b = w.heap.size + 1) w2 W' → PForkPost w lo hp v D R s Ss ⟨place, .slice A n c, .slice A' n' c', m, sp, wrote⟩ (.returned (.tuple #[.agg ({ (⟨place, .slice A n c, .slice A' n' c', m, sp, wrote⟩ : PtV) with sp := fp } : PtV).cells.toArray, .int .i64 0])) W' := fun W' hC => by
    refine ⟨fp, R', rfl, t2, t3.chg hC (by rintro (e | e) <;> omega), t4, t5, t1.more hC fun g e => ?_⟩
    rcases e with e | e
    · rw [e]; exact ⟨Nat.le_refl _, _, t6, by decide, by decide, by decide⟩
    · rw [e]; exact ⟨by omega, _, t7, by decide, by decide, by decide⟩
  refine hfin _ ?_
  repeat (refine Chg.set ?_ (Or.inl (by first | exact Or.inl rfl | exact Or.inr rfl)) _)
  exact Chg.refl _ _

end Go.Proofs.YtecpblabaelopaaGreatDoor

/- Contract of point.become: another guest at the same point. -/

namespace Go.Proofs.YtecpblabaelopaaGreatDoor
open Go.RowKit
set_option maxRecDepth 100000

def putAt (cur : Array Value) (o : Nat) (vs : List Value) : Array Value := (cur.toList.take o ++ vs ++ cur.toList.drop (o + vs.length)).toArray
theorem putAt_size {cur : Array Value} {o : Nat} {vs : List Value} (h : o + vs.length ≤ cur.size) : (putAt cur o vs).size = cur.size := by simp [putAt]; omega
theorem heap_setCells {b : Nat} {t : TypeId} {fr : Nat × Nat} : ∀ (vs : List Value) (o : Nat) (w : World) (cur : Array Value), w.heap[b]? = some (.cells cur t fr) → o + vs.length ≤ cur.size → (w.setCells b o vs).heap[b]? = some (.cells (putAt cur o vs) t fr)
  | [], o, w, cur, h, _ => by
    have : putAt cur o [] = cur := by simp [putAt]
    rw [this]; exact h
  | x :: r, o, w, cur, h, hs => by
    simp only [List.length_cons] at hs
    have h1 : (w.setCell ⟨b, o, none⟩ x).heap[b]? = some (.cells (cur.setIfInBounds o x) t fr) := by simp [World.setCell, Array.getElem?_modify, h]
    have ih := heap_setCells r (o + 1) (w.setCell ⟨b, o, none⟩ x) (cur.setIfInBounds o x) h1 (by simp; omega)
    show ((w.setCell ⟨b, o, none⟩ x).setCells b (o + 1) r).heap[b]? = _
    rw [ih]
    congr 2
    apply Array.ext'
    have ho : o < cur.toList.length := by simp; omega
    simp only [putAt, List.length_cons, Array.toList_setIfInBounds]
    rw [List.take_succ_eq_append_getElem (by simp; omega), List.take_set_of_le (by omega), List.getElem_set_self, List.drop_set_of_lt (by omega), List.append_assoc, List.append_assoc]
    simp [Nat.add_assoc, Nat.add_comm 1]
theorem chg_setCells {b o : Nat} {w : World} {vs : List Value} : Chg (fun g => g = b) w (w.setCells b o vs) := by
  have : ∀ (vs : List Value) (o : Nat) (w : World), Chg (fun g => g = b) w (w.setCells b o vs) := fun vs => by
    induction vs with
    | nil => exact fun o w => Chg.refl _ _
    | cons x r ih => exact fun o w => (Chg.set (F := fun g => g = b) (Chg.refl _ w) (a := ⟨b, o, none⟩) (Or.inl rfl) x).trans (ih (o + 1) _) (fun g e => Or.inl e)
  exact this vs o w

def AllZ (w : World) (lo hp sp : Nat) (v : HV) (D : List (List Int)) (R : List Int) (Ss : List (List Int)) (L : List Int) (z : Int) (w' : World) : Prop :=
  ∃ D' R' s', Sys D' R' (s' :: Ss) ∧ (∀ t ∈ Ss, wordsOf D' t = wordsOf D t) ∧ R'.length = R.length ∧ SpTo w lo hp sp v D' R' s' w' ∧ ((z = 0 ∧ wordsOf D' s' = L) ∨ (z = 7 ∧ R.length < 16 * (Ss.length + 1)))
theorem AllPost.z {w w' : World} {lo hp sp : Nat} {v : HV} {D : List (List Int)} {R : List Int} {Ss : List (List Int)} {L : List Int} {e : Ending} (h : AllPost w lo hp sp v D R Ss L e w') : ∃ z, e = .returned (.int .i64 z) ∧ AllZ w lo hp sp v D R Ss L z w' := by
  obtain ⟨D', R', s', h1, h2, h3, h4, h5⟩ := h
  rcases h5 with ⟨he, h5⟩ | ⟨he, h5⟩
  · exact ⟨0, he, D', R', s', h1, h2, h3, h4, Or.inl ⟨rfl, h5⟩⟩
  · exact ⟨7, he, D', R', s', h1, h2, h3, h4, Or.inr ⟨rfl, h5⟩⟩
theorem AllZ.chg {w w' : World} {lo hp sp : Nat} {v : HV} {D : List (List Int)} {R : List Int} {Ss : List (List Int)} {L : List Int} {z : Int} (h : AllZ w lo hp sp v D R Ss L z w') : Chg (fun g => v.foot g ∨ g = sp) w w' := by
  obtain ⟨_, _, _, _, _, _, ⟨_, _, _, _, c⟩, _⟩ := h
  exact c

theorem guest_one (m : Mach) (A A' : Option Addr) (n c n' c' : Nat) : (#[.slice A n c, .int .i64 m.pc, .int .i64 m.back, .bool m.ints, .bool m.wait, .int .i64 m.table, .int .i64 m.count, .int .i64 m.fin, nilv, .slice A' n' c', .int .i64 m.ready, .int .i64 m.want] : Array Value).all (·.oneCell') = true :=
  all_oneCell_toArray (cs := [.slice A n c, .int .i64 m.pc, .int .i64 m.back, .bool m.ints, .bool m.wait, .int .i64 m.table, .int .i64 m.count, .int .i64 m.fin, nilv, .slice A' n' c', .int .i64 m.ready, .int .i64 m.want]) (by intro v hv; simp at hv; rcases hv with rfl | rfl | rfl | rfl | rfl | rfl | rfl | rfl | rfl | rfl | rfl | rfl <;> rfl)
theorem SpTo.chg' {w w' : World} {lo hp sp : Nat} {v : HV} {D : List (List Int)} {R s : List Int} (h : SpTo w lo hp sp v D R s w') : Chg (fun g => v.foot g ∨ g = sp) w w' := by
  obtain ⟨_, _, _, _, c⟩ := h
  exact c

def guestCells (m : Mach) (rv ov : Value) : List Value := [rv, .int .i64 m.pc, .int .i64 m.back, .bool m.ints, .bool m.wait, .int .i64 m.table, .int .i64 m.count, .int .i64 m.fin, nilv, ov, .int .i64 m.ready, .int .i64 m.want]
def BecomePost (w : World) (lo hp sp b o : Nat) (cur : Array Value) (tb : TypeId) (v : HV) (D : List (List Int)) (R : List Int) (Ss : List (List Int)) (m : Mach) (rv ov : Value) (e : Ending) (w' : World) : Prop :=
  ∃ v' D' R' s', HostAt w' lo hp v' D' R' ∧ SpAt w' hp sp s' ∧ Sys D' R' (s' :: Ss) ∧ (∀ t ∈ Ss, wordsOf D' t = wordsOf D t) ∧ R'.length = R.length ∧ (∀ g, v'.foot g → v.foot g ∨ w.heap.size ≤ g) ∧ Chg (fun g => (v.foot g ∨ g = sp) ∨ g = b) w w' ∧
    ((e = .returned (.int .i64 0) ∧ wordsOf D' s' = m.mem ∧ w'.heap[b]? = some (.cells (putAt cur (o + 1) (guestCells m rv ov)) tb (0, 0))) ∨ (e = .returned (.int .i64 7) ∧ R.length < 16 * (Ss.length + 1) ∧ w'.heap[b]? = some (.cells cur tb (0, 0))))

set_option maxHeartbeats 1000000 in
theorem become_any (lo hp sp b o : Nat) (cur : Array Value) (tb : TypeId) (v : HV) (D : List (List Int)) (R s : List Int) (Ss : List (List Int)) (m : Mach) (rv mv ov : Value) (w : World) (h : HostAt w lo hp v D R) (hs : SpAt w hp sp s) (hS : Sys D R (s :: Ss)) (hn : Ss.length ≤ 11)
    (hb : w.heap[b]? = some (.cells cur tb (0, 0))) (hcs : o + 15 ≤ cur.size) (hcm : cur[o + 13]? = some (hptr sp)) (ht : 3 ≠ tb ∧ 24 ≠ tb ∧ 189 ≠ tb ∧ 211 ≠ tb)
    (hm : IntsAt w mv m.mem) (hl : m.mem.length = 256) (hoff : Off (fun g => v.foot g ∨ g = sp) mv) (hr : ∃ A n c, rv = .slice A n c) (ho : ∃ A n c, ov = .slice A n c) :
    Calls Tryz.prog 137 #[.pointer (some ⟨b, o, none⟩), .agg (m.cells rv mv ov)] w fun e w' => BecomePost w lo hp sp b o cur tb v D R Ss m rv ov e w' := by
  obtain ⟨A, n, c, rfl⟩ := hr
  obtain ⟨A', n', c', rfl⟩ := ho
  obtain ⟨A2, c2, rfl, -, -⟩ := id hm
  have hbl := lt_of_block hb
  have hbo := BoxT.off (w := w) (g := b) (t := tb) ⟨_, hb⟩ h ht.1 ht.2.1 ht.2.2.1
  have hbs : b ≠ sp := fun e => by
    have := hs.box
    rw [← e, hb] at this
    simp at this
    exact ht.2.2.2 this.2.symm
  have HW : Hid (∀ W, Below w.heap.size w W → Calls Tryz.prog 158 #[hptr sp, .slice A2 m.mem.length c2] W fun e w' => AllPost W lo hp sp v D R Ss m.mem e w') := fun W hW => SetAll_any lo hp sp v D R s Ss _ m.mem W (h.below hW) (hs.below hW) hS hn (hm.below hW) hl hoff
  have hcell : w.cell? ⟨b, o + 13, none⟩ = some (hptr sp) := by unfold World.cell?; simp only [hb]; exact hcm
  have HH : Hid (HostAt w lo hp v D R ∧ SpAt w hp sp s ∧ w.heap[b]? = some (.cells cur tb (0, 0)) ∧ o + 15 ≤ cur.size ∧ ¬ v.foot b ∧ b ≠ sp) := ⟨h, hs, hb, hcs, hbo.1, hbs⟩
  clear h hs hS hn hm hb hoff hcm hcs hbo hbs
  obtain ⟨ln, hln⟩ : ∃ ln, ln = m.mem.length := ⟨_, rfl⟩
  rw [← hln] at HW
  simp only [Mach.cells]
  rw [← hln]
  clear hln hl
  go_enter Tryz.func137, Tryz.ntmps137
  go_wp2_with fail
  obtain ⟨W, hW⟩ : ∃ W, W = w.alloc (.cells #[.slice A n c, .int .i64 m.pc, .int .i64 m.back, .bool m.ints, .bool m.wait, .int .i64 m.table, .int .i64 m.count, .int .i64 m.fin, .slice A2 ln c2, .slice A' n' c', .int .i64 m.ready, .int .i64 m.want] 37) := ⟨_, rfl⟩
  have hbx : W.heap[w.heap.size]? = some (.cells #[.slice A n c, .int .i64 m.pc, .int .i64 m.back, .bool m.ints, .bool m.wait, .int .i64 m.table, .int .i64 m.count, .int .i64 m.fin, .slice A2 ln c2, .slice A' n' c', .int .i64 m.ready, .int .i64 m.want] 37 (0, 0)) := by rw [hW]; exact Go.Deep.blk_alloc_new _ _
  have HB : Hid (Below w.heap.size w W) := by show Below _ _ _; rw [hW]; exact below_alloc _ _
  rw [← hW]
  have hc1 := (HB.out.cell (p := ⟨b, o + 13, none⟩) hbl).trans hcell
  obtain ⟨⟨x0, x1, x2, x3, x4, x5, x6, x7, x8, x9, x10, x11⟩, xf, xl⟩ := twelve_cells hbx
  have HBX : Hid (_) := hbx
  clear hW hbx hcell
  have HCK : Hid (∀ w2, Chg (fun g => v.foot g ∨ g = sp) W.drew w2 → w2.cell? ⟨b, o + 13, none⟩ = some (hptr sp) ∧ w2.cell? ⟨w.heap.size, 8, none⟩ = some (.slice A2 ln c2)) := fun w2 hC => by
    have k1 : w2.heap[b]? = some (.cells cur tb (0, 0)) := hC.box (by rw [HB.out.drew.block _ hbl]; exact HH.out.2.2.1) (by rintro (e | e); exact HH.out.2.2.2.2.1 e; exact HH.out.2.2.2.2.2 e)
    have k2 := hC.box (w := W.drew) HBX.out (by
      rintro (e | e)
      · have := (HH.out.1.foot_lt e).2; omega
      · have := HH.out.2.1.host.2.2; omega)
    refine ⟨?_, (twelve_cells k2).1.2.2.2.2.2.2.2.2.1⟩
    unfold World.cell?
    simp only [k1]
    have := hc1
    unfold World.cell? at this
    rw [HB.out.block _ hbl, HH.out.2.2.1] at this
    exact this
  go_region_held3 (fun w' => w'.cell? ⟨b, o + 13, none⟩ = some (hptr sp) ∧ w'.cell? ⟨w.heap.size, 8, none⟩ = some (.slice A2 ln c2)) (go_keep)
    (first
      | (go_at_call 158; refine (HW.out _ (HB.out.drew)).mono ?_; rintro e w2 hT; obtain ⟨z, rfl, hZ⟩ := AllPost.z hT; have q1 := HCK.out w2 hZ.chg))
  all_goals
    clear hc1 x0 x1 x2 x3 x4 x5 x6 x7 x8 x9 x10 x11 xf xl hT
    have HZ : Hid (AllZ W.drew lo hp sp v D R Ss m.mem z w2) := hZ
    obtain ⟨D', R', s', z1, z2, z3, z4, z5⟩ := hZ
    have HZ2 : Hid (_ ∧ _ ∧ _ ∧ _) := ⟨z1, z2, z3, z4⟩
    clear z1 z2 z3 z4 q1
    have hC := SpTo.chg' HZ2.out.2.2.2
    have k1 : w2.heap[b]? = some (.cells cur tb (0, 0)) := hC.box (by rw [HB.out.drew.block _ hbl]; exact HH.out.2.2.1) (by rintro (e | e); exact HH.out.2.2.2.2.1 e; exact HH.out.2.2.2.2.2 e)
    have k2 := hC.box (w := W.drew) HBX.out (by
      rintro (e | e)
      · have := (HH.out.1.foot_lt e).2; omega
      · have := HH.out.2.1.host.2.2; omega)
    have HK : Hid (w2.heap[b]? = some (.cells cur tb (0, 0)) ∧ w2.heap[w.heap.size]? = some (.cells #[.slice A n c, .int .i64 m.pc, .int .i64 m.back, .bool m.ints, .bool m.wait, .int .i64 m.table, .int .i64 m.count, .int .i64 m.fin, .slice A2 ln c2, .slice A' n' c', .int .i64 m.ready, .int .i64 m.want] 37 (0, 0))) := ⟨k1, k2⟩
    have HT : Hid (SpTo w lo hp sp v D' R' s' w2) := SpTo.trans (fun _ e => Or.inl e) (Chg.of_below HB.out.drew) HZ2.out.2.2.2
    clear hC k1 HCK HW
    obtain ⟨⟨y0, y1, y2, y3, y4, y5, y6, y7, y8, y9, y10, y11⟩, yf, yl⟩ := twelve_cells k2
    have hbn : w.heap.size ≠ b := by omega
    clear k2
    rcases z5 with ⟨rfl, z5⟩ | ⟨rfl, z5⟩
    · have HE : Hid (wordsOf D' s' = m.mem) := z5
      have hTH : Hid ((w2.setCell ⟨w.heap.size, 8, none⟩ nilv).there b (o + 1) 12) := fun j hj => by
        have hk : (w2.setCell ⟨w.heap.size, 8, none⟩ nilv).heap[b]? = some (.cells cur tb (0, 0)) := by rw [Below.heap_setCell _ _ _ _ (Ne.symm hbn)]; exact HK.out.1
        have hcs := HH.out.2.2.2.1
        refine ⟨?_, by simp [World.frozen?, hk]⟩
        unfold World.cell?
        simp only [hk]
        simp [show o + 1 + j < cur.size by omega]
      have HINF : Hid ((Tryz.prog.info? 37).map (·.size) = some 12) := by show _ = _; kernel_rfl
      clear z5
      go_wp2_with (first
        | (refine wpList_store_mid rfl 37 (.tmp 20) (.tmp 18) rfl b (o + 1) #[.slice A n c, .int .i64 m.pc, .int .i64 m.back, .bool m.ints, .bool m.wait, .int .i64 m.table, .int .i64 m.count, .int .i64 m.fin, nilv, .slice A' n' c', .int .i64 m.ready, .int .i64 m.want] rfl rfl hTH.out HINF.out (guest_one _ _ _ _ _ _ _) ?_))
      go_ret
      obtain ⟨v', b1, b2, b3, b4⟩ := HT.out
      have hC1 : Chg (fun g => g = w.heap.size ∨ g = b) w2 ((w2.setCell ⟨w.heap.size, 8, none⟩ nilv).setCells b (o + 1) (guestCells m (.slice A n c) (.slice A' n' c'))) := ((Chg.refl _ _).set (Or.inl (Or.inl rfl)) _).trans chg_setCells (fun g e => Or.inl (Or.inr e))
      have hoff : ∀ g, (g = w.heap.size ∨ g = b) → ¬ v'.foot g ∧ g ≠ hp := fun g e => by
        rcases e with e | e
        · rw [e]; exact BoxT.off (t := 37) ⟨_, HK.out.2⟩ b1 (by decide) (by decide) (by decide)
        · rw [e]; exact BoxT.off (t := tb) ⟨_, HK.out.1⟩ b1 ht.1 ht.2.1 ht.2.2.1
      have hk : (w2.setCell ⟨w.heap.size, 8, none⟩ nilv).heap[b]? = some (.cells cur tb (0, 0)) := by rw [Below.heap_setCell _ _ _ _ (Ne.symm hbn)]; exact HK.out.1
      refine ⟨v', D', R', s', b1.chg hC1 hoff, b2.chg hC1 ?_, HZ2.out.1, HZ2.out.2.1, HZ2.out.2.2.1, b3, (b4.mono (fun g _ e => Or.inl e)).trans hC1 ?_, Or.inl ⟨rfl, HE.out, heap_setCells _ _ _ _ hk (by have := HH.out.2.2.2.1; simp; omega)⟩⟩
      · rintro (e | e)
        · have := HH.out.2.1.host.2.2; omega
        · exact HH.out.2.2.2.2.2 e.symm
      · rintro g (e | e)
        · exact Or.inr (by omega)
        · exact Or.inl (Or.inr e)
    · have HE : Hid (R.length < 16 * (Ss.length + 1)) := z5
      clear z5
      go_wp2
      go_ret
      obtain ⟨v', b1, b2, b3, b4⟩ := HT.out
      exact ⟨v', D', R', s', b1, b2, HZ2.out.1, HZ2.out.2.1, HZ2.out.2.2.1, b3, b4.mono (fun g _ e => Or.inl e), Or.inr ⟨rfl, HE.out, HK.out.1⟩⟩

end Go.Proofs.YtecpblabaelopaaGreatDoor

/- Contracts of cpu.outside, of the closure that it makes, and of what is no word. -/

namespace Go.Proofs.YtecpblabaelopaaGreatDoor
open Go.RowKit

abbrev clo (p q : Nat) : Value := .func (.func 162) #[] #[.pointer (some ⟨p, 0, none⟩), .pointer (some ⟨q, 0, none⟩)]
structure CloAt (w : World) (p q : Nat) (lo hi : Int) : Prop where
  c1 : w.cell? ⟨p, 0, none⟩ = some (.int .i64 lo)
  c2 : w.cell? ⟨q, 0, none⟩ = some (.int .i64 hi)
  l1 : p < w.heap.size
  l2 : q < w.heap.size
theorem CloAt.below {w w' : World} {p q : Nat} {lo hi : Int} (h : CloAt w p q lo hi) (hb : Below w.heap.size w w') : CloAt w' p q lo hi :=
  ⟨(hb.cell (p := ⟨p, 0, none⟩) h.l1).trans h.c1, (hb.cell (p := ⟨q, 0, none⟩) h.l2).trans h.c2, Nat.lt_of_lt_of_le h.l1 hb.size, Nat.lt_of_lt_of_le h.l2 hb.size⟩
theorem CloAt.drew {w : World} {p q : Nat} {lo hi : Int} (h : CloAt w p q lo hi) : CloAt w.drew p q lo hi := h.below ((Below.refl _ w).drew)

theorem one_cell {w : World} {b : Nat} {x : Value} {t : TypeId} (h : w.heap[b]? = some (.cells #[x] t (0, 0))) : w.cell? ⟨b, 0, none⟩ = some x := by simp [World.cell?, h]

theorem outside_any (lo hi : Int) (w : World) : Calls Tryz.prog 145 #[.int .i64 lo, .int .i64 hi] w fun e w' => ∃ p q, e = .returned (clo p q) ∧ CloAt w' p q lo hi ∧ Below w.heap.size w w' := by
  go_enter Tryz.func145, Tryz.ntmps145
  go_wp2
  go_ret
  obtain ⟨b0, b1, b2⟩ := two_boxes (Below.refl ((w.alloc (.cells #[.int .i64 lo] 3)).alloc (.cells #[.int .i64 hi] 3)).heap.size ((w.alloc (.cells #[.int .i64 lo] 3)).alloc (.cells #[.int .i64 hi] 3)))
  exact ⟨_, _, rfl, ⟨one_cell b0, one_cell b1, by simp; omega, by simp⟩, b2⟩

theorem clo_any (x lo hi : Int) (p q : Nat) (w : World) (h : CloAt w p q lo hi) :
    Calls Tryz.prog 162 #[.int .i64 x, .pointer (some ⟨p, 0, none⟩), .pointer (some ⟨q, 0, none⟩)] w fun e w' => e = .returned (.bool (!inB x lo hi)) ∧ w' = w := by
  obtain ⟨c1, c2, -, -⟩ := h
  by_cases h1 : x < lo
  · have hI : (!inB x lo hi) = true := by simp [inB]; omega
    rw [hI]
    go_enter Tryz.func162, Tryz.ntmps162
    go_wp2
    go_ret
    exact ⟨rfl, rfl⟩
  · by_cases h2 : hi < x
    · have hI : (!inB x lo hi) = true := by simp [inB]; omega
      rw [hI]
      go_enter Tryz.func162, Tryz.ntmps162
      go_wp2
      go_ret
      exact ⟨rfl, rfl⟩
    · have hI : (!inB x lo hi) = false := by simp [inB]; omega
      rw [hI]
      go_enter Tryz.func162, Tryz.ntmps162
      go_wp2
      go_ret
      exact ⟨rfl, rfl⟩

end Go.Proofs.YtecpblabaelopaaGreatDoor

/- Contracts of cpu.isNoWord, haveNoWord and of what they call: is one of these no word? -/

namespace Go.Proofs.YtecpblabaelopaaGreatDoor
open Go.RowKit

theorem isNoWord_any (w : World) : Calls Tryz.prog 107 #[] w fun e w' => ∃ p q, e = .returned (clo p q) ∧ CloAt w' p q (-1099511627776) 1099511627776 ∧ Below w.heap.size w w' := by
  go_enter Tryz.func107, Tryz.ntmps107
  go_wp2_with (go_at_call 145; refine (outside_any _ _ _).mono ?_; rintro e w' ⟨p, q, rfl, hc, hb⟩)
  go_ret
  exact ⟨p, q, rfl, hc, hb⟩

theorem word_clo (x : Int) (p q : Nat) (w : World) (h : CloAt w p q (-1099511627776) 1099511627776) :
    Calls Tryz.prog 162 #[.int .i64 x, .pointer (some ⟨p, 0, none⟩), .pointer (some ⟨q, 0, none⟩)] w fun e w' => e = .returned (.bool (!wordB x)) ∧ w' = w := clo_any x _ _ p q w h

set_option maxHeartbeats 400000 in
theorem IndexFunc_word (v : Value) (l : List Int) (p q : Nat) (w : World) (h : IntsAt w v l) (hq : CloAt w p q (-1099511627776) 1099511627776) :
    Calls Tryz.prog 63 #[v, clo p q] w fun e w' => ∃ r : Int, e = .returned (.int .i64 r) ∧ decide (0 ≤ r) = !allB l ∧ w' = w := by
  obtain ⟨A, c, rfl, hl, hc⟩ := h
  have HQ : Hid (CloAt w p q (-1099511627776) 1099511627776) := hq
  clear hq
  go_enter Tryz.func63, Tryz.ntmps63
  go_wp2
  go_loopw [8] (fun i wr => ∃ k : Nat, k ≤ l.length ∧ i = .int .i64 k ∧ Hid (∀ i, i < k → wordB (l.getD i 0) = true) ∧ wr = w) (fun i _ => l.length - (intOf i).toNat)
  case atStart => exact ⟨0, Nat.zero_le _, rfl, fun i hi => absurd hi (Nat.not_lt_zero _), rfl⟩
  case round =>
    obtain ⟨k, hk, rfl, ht, hw⟩ := hrel
    subst wr
    by_cases hlt : k < l.length
    · obtain ⟨b, off, rfl, hbs, hcell⟩ := hc (by omega)
      have h1 := hcell k hlt
      cases hw : wordB (l.getD k 0) with
      | false =>
        have HN : Hid (true = !allB l) := by show _ = _; rw [allB_no hlt hw]; rfl
        clear hcell hc
        revert h1 hw
        generalize l.getD k 0 = x
        intro h1 hw
        go_wp2_with (go_at_call 162; refine (word_clo _ p q _ HQ.out).mono ?_; rintro e w' ⟨rfl, rfl⟩)
        go_ret
        exact ⟨k, rfl, by rw [← HN.out]; simp, rfl⟩
      | true =>
        have HN : Hid (∀ i, i < k + 1 → wordB (l.getD i 0) = true) := allB_step ht.out hw
        clear hcell hc
        revert h1 hw
        generalize l.getD k 0 = x
        intro h1 hw
        go_wp2_with (go_at_call 162; refine (word_clo _ p q _ HQ.out).mono ?_; rintro e w' ⟨rfl, rfl⟩)
        refine ⟨⟨k + 1, by omega, by go_num, HN, trivial⟩, ?_⟩
        simp [intOf]; omega
    · have HN : Hid (false = !allB l) := by show _ = _; rw [allB_iff.2 fun i hi => ht.out i (by omega)]; rfl
      clear hc
      go_wp2
      go_ret
      exact ⟨-1, rfl, by rw [← HN.out]; rfl, rfl⟩

theorem ContainsFunc_word (v : Value) (l : List Int) (p q : Nat) (w : World) (h : IntsAt w v l) (hq : CloAt w p q (-1099511627776) 1099511627776) :
    Calls Tryz.prog 36 #[v, clo p q] w fun e w' => e = .returned (.bool (!allB l)) ∧ w' = w := by
  go_enter Tryz.func36, Tryz.ntmps36
  go_wp2_with (go_at_call 63; refine (IndexFunc_word v l p q _ h hq).mono ?_; rintro e w' ⟨r, rfl, hr, rfl⟩)
  go_ret
  exact ⟨rfl, rfl⟩

theorem haveNoWord_any (v : Value) (l : List Int) (w : World) (h : IntsAt w v l) :
    Calls Tryz.prog 73 #[v] w fun e w' => e = .returned (.bool (!allB l)) ∧ Below w.heap.size w w' := by
  have H : Hid (IntsAt w v l) := h
  clear h
  go_enter Tryz.func73, Tryz.ntmps73
  go_wp2_with fail
  refine (isNoWord_any _).mono ?_
  rintro e w1 ⟨p, q, rfl, hc, hb⟩
  have HC : Hid (CloAt w1 p q (-1099511627776) 1099511627776) := hc
  have HB : Hid (Below w.heap.size w w1) := hb
  clear hc hb
  go_wp2_with fail
  refine (ContainsFunc_word v l p q _ (H.out.below HB.out) HC.out).mono ?_
  rintro e w2 ⟨rfl, rfl⟩
  go_wp2_with fail
  go_ret
  exact ⟨rfl, HB.out⟩

end Go.Proofs.YtecpblabaelopaaGreatDoor
