/- Contracts of frames.checkKnown, checkWord (of frames that may be), Host.Occupy, Join, Leave, Known. -/
import Derived.Test.YtecpblabaelopaaGreatDoorOwnPart
import Derived.Test.YtecpblabaelopaaGreatDoorBasePart
import Derived.Deep.MidRow
import Derived.Laws.CopyOwn
import Derived.Maps.AppendAt
namespace Go.Proofs.YtecpblabaelopaaGreatDoor
open Go.RowKit

def kno (R : List Int) (n : Int) : Int := if 0 ≤ n ∧ n < R.length ∧ R.getD n.toNat 0 ≠ 0 then 0 else 6
theorem kno_ok {R : List Int} {n : Nat} (h : n < R.length) (h0 : R.getD n 0 ≠ 0) : kno R n = 0 := by
  unfold kno; rw [if_pos ⟨by omega, by omega, by simpa using h0⟩]
theorem kno_or (R : List Int) (n : Int) : kno R n = 0 ∨ kno R n = 6 := by unfold kno; split <;> simp

set_option maxHeartbeats 400000 in
theorem known_any (dv rv : Value) (R : List Int) (n : Int) (w : World) (hr : IntsAt w rv R) :
    Calls Tryz.prog 170 #[.agg #[dv, rv], .int .i64 n] w fun e w' => e = .returned (.int .i64 (kno R n)) ∧ Below w.heap.size w w' := by
  obtain ⟨B, cb, rfl, hlb, hcb⟩ := hr
  by_cases c1 : n < 0
  · have HE : Hid (kno R n = 6) := by show _ = _; unfold kno; rw [if_neg (by omega)]
    clear hcb
    go_enter Tryz.func170, Tryz.ntmps170
    go_wp2
    go_ret
    exact ⟨ret_int HE.out.symm, below_alloc _ _⟩
  · obtain ⟨j, rfl⟩ := Int.eq_ofNat_of_zero_le (show 0 ≤ n by omega)
    by_cases c2 : j < R.length
    · obtain ⟨b, off, rfl, hbs, hcell⟩ := hcb (by omega)
      have h1 := hcell j c2
      have hj : (j : Int) < (R.length : Int) := by omega
      have HE : Hid (kno R j = if R.getD j 0 = 0 then 6 else 0) := by
        show _ = _
        unfold kno
        by_cases e : R.getD j 0 = 0
        · rw [if_neg (by rintro ⟨_, _, h⟩; exact h (by simpa using e)), if_pos e]
        · rw [if_pos ⟨by omega, hj, by simpa using e⟩, if_neg e]
      clear hcb hcell c1
      revert h1 HE
      generalize R.getD j 0 = x
      intro h1 HE
      by_cases c3 : x = 0
      · have hr0 : (x == 0) = true := by simp [c3]
        have HE2 : Hid (kno R j = 6) := by show _ = _; rw [HE.out, if_pos c3]
        clear c3 HE
        go_enter Tryz.func170, Tryz.ntmps170
        go_wp2
        go_ret
        exact ⟨ret_int HE2.out.symm, below_alloc _ _⟩
      · have hr0 : (x == 0) = false := by simp [c3]
        have HE2 : Hid (kno R j = 0) := by show _ = _; rw [HE.out, if_neg c3]
        clear c3 HE
        go_enter Tryz.func170, Tryz.ntmps170
        go_wp2
        go_ret
        exact ⟨ret_int HE2.out.symm, below_alloc _ _⟩
    · have hj : (R.length : Int) ≤ (j : Int) := by omega
      have HE : Hid (kno R j = 6) := by show _ = _; unfold kno; rw [if_neg (by omega)]
      clear hcb c1
      go_enter Tryz.func170, Tryz.ntmps170
      go_wp2
      go_ret
      exact ⟨ret_int HE.out.symm, below_alloc _ _⟩

def knoW (R : List Int) (n i : Int) : Int := if kno R n = 0 then (if 0 ≤ i ∧ i < 16 then 0 else 2) else 6
set_option maxHeartbeats 400000 in
theorem word_any (dv rv : Value) (R : List Int) (n i : Int) (w : World) (hr : IntsAt w rv R) :
    Calls Tryz.prog 181 #[.agg #[dv, rv], .int .i64 n, .int .i64 i] w fun e w' => e = .returned (.int .i64 (knoW R n i)) ∧ Below w.heap.size w w' := by
  rcases kno_or R n with hk | hk
  · have HK : Hid (kno R n = 0) := hk
    by_cases c1 : i < 0
    · have HE : Hid (knoW R n i = 2) := by show _ = _; unfold knoW; rw [if_pos hk, if_neg (by omega)]
      clear hk
      go_enter Tryz.func181, Tryz.ntmps181
      go_wp2_with fail
      refine (known_any dv rv R n _ (hr.below (below_alloc _ _))).mono ?_
      rw [HK.out]
      rintro e w1 ⟨rfl, hb1⟩
      have HB : Hid (Below w.heap.size w w1) := (below_alloc _ _).trans (hb1.mono (by simp))
      clear hb1
      go_wp2
      go_ret
      exact ⟨ret_int HE.out.symm, HB.out⟩
    · by_cases c2 : i < 16
      · have HE : Hid (knoW R n i = 0) := by show _ = _; unfold knoW; rw [if_pos hk, if_pos (by omega)]
        clear hk
        go_enter Tryz.func181, Tryz.ntmps181
        go_wp2_with fail
        refine (known_any dv rv R n _ (hr.below (below_alloc _ _))).mono ?_
        rw [HK.out]
        rintro e w1 ⟨rfl, hb1⟩
        have HB : Hid (Below w.heap.size w w1) := (below_alloc _ _).trans (hb1.mono (by simp))
        clear hb1
        go_wp2
        go_ret
        exact ⟨ret_int HE.out.symm, HB.out⟩
      · have HE : Hid (knoW R n i = 2) := by show _ = _; unfold knoW; rw [if_pos hk, if_neg (by omega)]
        clear hk
        go_enter Tryz.func181, Tryz.ntmps181
        go_wp2_with fail
        refine (known_any dv rv R n _ (hr.below (below_alloc _ _))).mono ?_
        rw [HK.out]
        rintro e w1 ⟨rfl, hb1⟩
        have HB : Hid (Below w.heap.size w w1) := (below_alloc _ _).trans (hb1.mono (by simp))
        clear hb1
        go_wp2
        go_ret
        exact ⟨ret_int HE.out.symm, HB.out⟩
  · have HK : Hid (kno R n = 6) := hk
    have HE : Hid (knoW R n i = 6) := by show _ = _; unfold knoW; rw [if_neg (by omega)]
    clear hk
    go_enter Tryz.func181, Tryz.ntmps181
    go_wp2_with fail
    refine (known_any dv rv R n _ (hr.below (below_alloc _ _))).mono ?_
    rw [HK.out]
    rintro e w1 ⟨rfl, hb1⟩
    have HB : Hid (Below w.heap.size w w1) := (below_alloc _ _).trans (hb1.mono (by simp))
    clear hb1
    go_wp2
    go_ret
    exact ⟨ret_int HE.out.symm, HB.out⟩

abbrev hptr (b : Nat) : Value := .pointer (some ⟨b, 0, none⟩)
theorem make16h (w : World) : (Instr.makeSlice 24 (.int .i64 16) (.int .i64 16)).run Tryz.prog w = .ok (.slice (some ⟨w.heap.size, 0, none⟩) 16 16) (w.alloc (.cells (madeCells #[.int .i64 0] 16) 3)) := by
  have := run_make_row' (P := Tryz.prog) 24 3 (.int .i64 0) 8 Tryz.underlying24 infoInt rfl .i64 .i64 16 (by decide) (by decide) w
  simpa using this

set_option maxHeartbeats 400000 in
theorem Occupy_full (lo hp : Nat) (v : HV) (D : List (List Int)) (R : List Int) (w : World) (h : HostAt w lo hp v D R) (hn : NoneFree R) :
    Calls Tryz.prog 178 #[hptr hp] w fun e w' => e = .returned (.tuple #[.int .i64 0, .int .i64 7]) ∧ w' = w := by
  obtain ⟨A, c, B, c', e1, e2⟩ := h.shape
  obtain ⟨hx0, hx1, hxf, hxl⟩ := two_cells h.box
  obtain ⟨A', c2, e3, hlb, hcb⟩ := h.refs
  rw [e2] at hx1 e3
  simp only [Value.slice.injEq, true_and] at e3
  obtain ⟨rfl, rfl⟩ := e3
  have H3 : Hid (NoneFree R) := hn
  have hR := h.few
  clear hn h e1 e2 hxf hx0
  go_enter Tryz.func178, Tryz.ntmps178
  go_wp2
  go_loop [12] (fun i => ∃ j : Nat, j ≤ R.length ∧ i = .int .i64 j) (fun i => R.length - (intOf i).toNat)
  case atStart => exact ⟨0, Nat.zero_le _, rfl⟩
  case round =>
    obtain ⟨j, hj, rfl⟩ := hrel
    by_cases hlt : j < R.length
    · obtain ⟨b, off, rfl, hbs, hcell⟩ := hcb (by omega)
      have h1 := hcell j hlt
      have h3 := H3.out j hlt
      have hji : (j : Int) < (R.length : Int) := by omega
      clear hcell hcb
      revert h1 h3
      generalize R.getD j 0 = x
      intro h1 h3
      have h4 : (x == 0) = false := by simp [h3]
      go_wp2
      go_round
      case rel => exact ⟨j + 1, by omega, by go_num⟩
      case measure => simp [intOf]; omega
    · clear hcb
      go_wp2
      go_ret2
      exact ⟨rfl, rfl⟩

set_option maxHeartbeats 1000000 in
theorem Occupy_ok (lo hp : Nat) (v : HV) (D : List (List Int)) (R : List Int) (k : Nat) (w : World) (h : HostAt w lo hp v D R) (hk : FirstAt R k) :
    Calls Tryz.prog 178 #[hptr hp] w fun e w' => e = .returned (.tuple #[.int .i64 k, .int .i64 0]) ∧ HostTo w lo hp v (D.set k (List.replicate 16 0)) (R.set k 1) w' := by
  obtain ⟨hx0, hx1, hxf, hxl⟩ := two_cells h.box
  obtain ⟨hk1, hk2, hk3⟩ := hk
  obtain ⟨gd, cd, gr, cr, e1, e2, l2, l4, hne, n1, n2, q1, q2, q3, q4⟩ := h.opened (by omega)
  rw [e1] at hx0
  rw [e2] at hx1
  have HF : Hid (HostTo w lo hp v (D.set k (List.replicate 16 0)) (R.set k 1) (((w.setCell ⟨gr, k, none⟩ (.int .i64 1)).alloc (.cells (madeCells #[.int .i64 0] 16) 3)).setCell ⟨gd, k, none⟩ (.slice (some ⟨w.heap.size, 0, none⟩) 16 16))) := h.occupy e1 e2 hk1
  have hmk := make16h
  have H2 : Hid (R.getD k 0 = 0) := hk2
  have H3 : Hid (∀ j, j < k → R.getD j 0 ≠ 0) := hk3
  have HC : Hid (∀ j, j < R.length → w.cell? ⟨gr, j, none⟩ = some (.int .i64 (R.getD j 0))) := q3
  have HR : Hid (R.length ≤ 200) := h.few
  have hR := h.few
  have hD := q1 k hk1
  have z1 := q2 k
  have z2 := q4 k
  have hz : (⟨gd, k, none⟩ : Addr).block < w.heap.size := l2
  have hki : (k : Int) < (R.length : Int) := by omega
  clear hk2 hk3 h e1 e2 q1 q2 q3 q4 hxf
  go_enter Tryz.func178, Tryz.ntmps178
  go_wp2
  go_loopw [12] (fun i wr => ∃ j : Nat, j ≤ k ∧ i = .int .i64 j ∧ wr = w) (fun i _ => R.length - (intOf i).toNat)
  case atStart => exact ⟨0, Nat.zero_le _, rfl, rfl⟩
  case round =>
    obtain ⟨j, hj, rfl, rfl⟩ := hrel
    have h1 := HC.out j (by omega)
    have hji : (j : Int) < (R.length : Int) := by omega
    by_cases hjk : j = k
    · subst hjk
      rw [H2.out] at h1
      go_wp2
      go_region
      all_goals
        go_wp2
        go_ret2
        refine ⟨rfl, ?_⟩
        have := HF.out.drew
        first
          | exact this
          | (have := HF.out; rw [World.setCell_alloc_past _ _ _ _ (by simpa using l2)] at this; exact this.drew)
    · have h3 := H3.out j (by omega)
      revert h1 h3
      generalize R.getD j 0 = x
      intro h1 h3
      have h4 : (x == 0) = false := by simp [h3]
      go_wp2
      refine ⟨⟨j + 1, by omega, by go_num, trivial⟩, ?_⟩
      simp [intOf]; omega

end Go.Proofs.YtecpblabaelopaaGreatDoor

/- A space in memory: its host, and the frame of each page; contract of space.Blank. -/

namespace Go.Proofs.YtecpblabaelopaaGreatDoor
open Go.RowKit
set_option maxRecDepth 100000

def spc (hp : Nat) (s : List Int) : Array Value := (hptr hp :: s.map (Value.int .i64)).toArray
structure SpAt (w : World) (hp sp : Nat) (s : List Int) : Prop where
  box : w.heap[sp]? = some (.cells (spc hp s) 211 (0, 0))
  len : s.length = 16
theorem SpAt.host {w : World} {hp sp : Nat} {s : List Int} (h : SpAt w hp sp s) : w.cell? ⟨sp, 0, none⟩ = some (hptr hp) ∧ (∀ j, w.frozen? ⟨sp, j, none⟩ = false) ∧ sp < w.heap.size :=
  ⟨by simp [World.cell?, h.box, spc], fun j => by simp [World.frozen?, h.box], lt_of_block h.box⟩
theorem SpAt.cell {w : World} {hp sp : Nat} {s : List Int} (h : SpAt w hp sp s) {p : Nat} (hp' : p < 16) : w.cell? ⟨sp, 1 + p, none⟩ = some (.int .i64 (s.getD p 0)) := by
  have hl := h.len
  simp [World.cell?, h.box, spc, List.getD, Nat.add_comm 1 p, show p < s.length by omega]
theorem SpAt.set {w : World} {hp sp : Nat} {s : List Int} (h : SpAt w hp sp s) (p : Nat) (x : Int) : SpAt (w.setCell ⟨sp, 1 + p, none⟩ (.int .i64 x)) hp sp (s.set p x) := by
  refine ⟨?_, by rw [List.length_set]; exact h.len⟩
  have : (w.setCell ⟨sp, 1 + p, none⟩ (.int .i64 x)).heap[sp]? = some (.cells ((spc hp s).setIfInBounds (1 + p) (.int .i64 x)) 211 (0, 0)) := by simp [World.setCell, Array.getElem?_modify, h.box]
  rw [this]
  congr 2
  apply Array.ext'
  simp [spc, Nat.add_comm 1 p, List.map_set]
theorem SpAt.chg {F : Nat → Prop} {w w' : World} {hp sp : Nat} {s : List Int} (h : SpAt w hp sp s) (hc : Chg F w w') (hn : ¬ F sp) : SpAt w' hp sp s := ⟨hc.box h.box hn, h.len⟩
theorem SpAt.below {w w' : World} {hp sp : Nat} {s : List Int} (h : SpAt w hp sp s) (hb : Below w.heap.size w w') : SpAt w' hp sp s := ⟨by rw [hb.block _ (lt_of_block h.box)]; exact h.box, h.len⟩
theorem SpAt.off {w : World} {lo hp sp : Nat} {s : List Int} {v : HV} {D : List (List Int)} {R : List Int} (h : SpAt w hp sp s) (k : HostAt w lo hp v D R) : ¬ v.foot sp ∧ sp ≠ hp :=
  ⟨k.off h.box (by decide) (by decide), fun e => by
    have := h.box
    rw [e, k.box] at this
    simp at this⟩
def SpTo (w : World) (lo hp sp : Nat) (v : HV) (D : List (List Int)) (R s : List Int) (w' : World) : Prop :=
  ∃ v' : HV, HostAt w' lo hp v' D R ∧ SpAt w' hp sp s ∧ (∀ g, v'.foot g → v.foot g ∨ w.heap.size ≤ g) ∧ Chg (fun g => v.foot g ∨ g = sp) w w'
theorem SpTo.trans {w w1 w2 : World} {lo hp sp : Nat} {v v1 : HV} {D2 : List (List Int)} {R2 s2 : List Int} (hf : ∀ g, v1.foot g → v.foot g ∨ w.heap.size ≤ g) (hc : Chg (fun g => v.foot g ∨ g = sp) w w1) (k : SpTo w1 lo hp sp v1 D2 R2 s2 w2) : SpTo w lo hp sp v D2 R2 s2 w2 := by
  obtain ⟨v2, h2, hs2, f2, c2⟩ := k
  refine ⟨v2, h2, hs2, fun g e => ?_, hc.trans c2 fun g e => ?_⟩
  · rcases f2 g e with e | e
    · exact hf g e
    · exact Or.inr (Nat.le_trans hc.size e)
  · rcases e with e | e
    · rcases hf g e with e | e
      · exact Or.inl (Or.inl e)
      · exact Or.inr e
    · exact Or.inl (Or.inr e)
theorem SpTo.of_host {w w' : World} {lo hp sp : Nat} {v : HV} {D D0 : List (List Int)} {R R0 s : List Int} (h0 : HostAt w lo hp v D0 R0) (hs : SpAt w hp sp s) (h : HostTo w lo hp v D R w') : SpTo w lo hp sp v D R s w' := by
  obtain ⟨v', a, b, c⟩ := h
  exact ⟨v', a, hs.chg c (hs.off h0).1, b, c.mono fun g _ e => Or.inl e⟩
theorem SpTo.same {w w' : World} {lo hp sp : Nat} {v : HV} {D : List (List Int)} {R s : List Int} (h : HostAt w lo hp v D R) (hs : SpAt w hp sp s) (hb : Below w.heap.size w w') : SpTo w lo hp sp v D R s w' := SpTo.of_host h hs (HostTo.same h hb)
theorem SpTo.put {w w' : World} {lo hp sp : Nat} {v : HV} {D : List (List Int)} {R s : List Int} (h : SpTo w lo hp sp v D R s w') (p : Nat) (x : Int) : SpTo w lo hp sp v D R (s.set p x) (w'.setCell ⟨sp, 1 + p, none⟩ (.int .i64 x)) := by
  obtain ⟨v', a, b, c, d⟩ := h
  exact ⟨v', a.other b.box (b.off a).2 (by decide) (by decide) _ _, b.set p x, c, d.set (Or.inl (Or.inr rfl)) _⟩
theorem SpTo.drew {w w' : World} {lo hp sp : Nat} {v : HV} {D : List (List Int)} {R s : List Int} (h : SpTo w lo hp sp v D R s w') : SpTo w lo hp sp v D R s w'.drew := by
  obtain ⟨v', a, b, c, d⟩ := h
  exact ⟨v', a.drew, ⟨b.box, b.len⟩, c, d.drew⟩

def blK (k : Nat) : List Int := List.replicate k (-1) ++ List.replicate (16 - k) 0
theorem blK_set {k : Nat} (h : k < 16) : (blK k).set k (-1) = blK (k + 1) := by
  have h1 : 16 - k = (16 - (k + 1)) + 1 := by omega
  unfold blK
  rw [h1, List.replicate_succ, List.set_append_right _ _ (by simp), List.length_replicate, Nat.sub_self, List.set_cons_zero, List.replicate_succ', List.append_assoc]
  rfl
theorem blK_len {k : Nat} (h : k ≤ 16) : (blK k).length = 16 := by simp [blK]; omega

set_option maxHeartbeats 1000000 in
theorem Blank_any (hp : Nat) (w : World) :
    Calls Tryz.prog 154 #[hptr hp] w fun e w' => e = .returned (hptr w.heap.size) ∧ SpAt w' hp w.heap.size blankS ∧ Below w.heap.size w w' := by
  have HS : Hid (SpAt (w.alloc (.cells #[hptr hp, .int .i64 0, .int .i64 0, .int .i64 0, .int .i64 0, .int .i64 0, .int .i64 0, .int .i64 0, .int .i64 0, .int .i64 0, .int .i64 0, .int .i64 0, .int .i64 0, .int .i64 0, .int .i64 0, .int .i64 0, .int .i64 0] 211)) hp w.heap.size (blK 0) ∧ Below w.heap.size w (w.alloc (.cells #[hptr hp, .int .i64 0, .int .i64 0, .int .i64 0, .int .i64 0, .int .i64 0, .int .i64 0, .int .i64 0, .int .i64 0, .int .i64 0, .int .i64 0, .int .i64 0, .int .i64 0, .int .i64 0, .int .i64 0, .int .i64 0, .int .i64 0] 211))) := ⟨⟨Go.Deep.blk_alloc_new _ _, blK_len (by omega)⟩, below_alloc _ _⟩
  go_enter Tryz.func154, Tryz.ntmps154
  go_wp2_with fail
  go_loopw [8] (fun i wr => ∃ k : Nat, k ≤ 16 ∧ i = .int .i64 (k : Int) ∧ Hid (SpAt wr hp w.heap.size (blK k) ∧ Below w.heap.size w wr)) (fun i _ => 16 - (intOf i).toNat)
  case atStart => exact ⟨0, Nat.zero_le _, rfl, HS⟩
  case round =>
    obtain ⟨k, hk, rfl, hS⟩ := hrel
    by_cases hlt : k < 16
    · have c1 := hS.out.1.cell hlt
      obtain ⟨_, c2, c3⟩ := hS.out.1.host
      have hl : (k : Int) < 16 := by omega
      have HN : Hid (SpAt (wr.setCell ⟨w.heap.size, 1 + k, none⟩ (.int .i64 (-1))) hp w.heap.size (blK (k + 1)) ∧ Below w.heap.size w (wr.setCell ⟨w.heap.size, 1 + k, none⟩ (.int .i64 (-1)))) := ⟨by rw [← blK_set hlt]; exact hS.out.1.set k _, hS.out.2.setCell (by simp) _⟩
      clear hS HS
      go_wp2_with fail
      refine ⟨⟨k + 1, by omega, by go_num, HN⟩, ?_⟩
      simp [intOf]; omega
    · have e : k = 16 := by omega
      subst e
      go_wp2_with fail
      go_ret
      exact ⟨rfl, hS.out.1, hS.out.2⟩

end Go.Proofs.YtecpblabaelopaaGreatDoor

/- Contract of Host.Page: a frame's words, as an array. -/

namespace Go.Proofs.YtecpblabaelopaaGreatDoor
open Go.RowKit
set_option maxRecDepth 100000

def nums (l : List Int) : Array Value := (l.map (Value.int .i64)).toArray
theorem nums_one (l : List Int) : (nums l).all (·.oneCell') = true := all_oneCell_toArray (ints_oneCell _ _)
theorem nums_range {w : World} {g o : Nat} {l : List Int} (h : ∀ j, j < l.length → w.cell? ⟨g, o + j, none⟩ = some (.int .i64 (l.getD j 0))) : w.rangeAt g o (l.map (Value.int .i64)) := fun j v hv => by
  have hjl : j < l.length := by
    by_cases hh : j < l.length
    · exact hh
    · simp [List.getElem?_eq_none (show l.length ≤ j by omega)] at hv
  rw [h j hjl, ← hv]
  simp [List.getD, hjl]
theorem l16 {s : List Int} (h : s.length = 16) : ∃ x0 x1 x2 x3 x4 x5 x6 x7 x8 x9 x10 x11 x12 x13 x14 x15, s = [x0, x1, x2, x3, x4, x5, x6, x7, x8, x9, x10, x11, x12, x13, x14, x15] := by
  rcases s with _ | ⟨a0, _ | ⟨a1, _ | ⟨a2, _ | ⟨a3, _ | ⟨a4, _ | ⟨a5, _ | ⟨a6, _ | ⟨a7, _ | ⟨a8, _ | ⟨a9, _ | ⟨a10, _ | ⟨a11, _ | ⟨a12, _ | ⟨a13, _ | ⟨a14, _ | ⟨a15, _ | ⟨a16, l⟩⟩⟩⟩⟩⟩⟩⟩⟩⟩⟩⟩⟩⟩⟩⟩⟩ <;> simp at h
  exact ⟨a0, a1, a2, a3, a4, a5, a6, a7, a8, a9, a10, a11, a12, a13, a14, a15, rfl⟩
theorem c16cells {w : World} {b : Nat} {x0 x1 x2 x3 x4 x5 x6 x7 x8 x9 x10 x11 x12 x13 x14 x15 : Value} {t : TypeId} (h : w.heap[b]? = some (.cells #[x0, x1, x2, x3, x4, x5, x6, x7, x8, x9, x10, x11, x12, x13, x14, x15] t (0, 0))) :
    (w.cell? ⟨b, 0, none⟩ = some x0 ∧ w.cell? ⟨b, 1, none⟩ = some x1 ∧ w.cell? ⟨b, 2, none⟩ = some x2 ∧ w.cell? ⟨b, 3, none⟩ = some x3 ∧ w.cell? ⟨b, 4, none⟩ = some x4 ∧ w.cell? ⟨b, 5, none⟩ = some x5 ∧ w.cell? ⟨b, 6, none⟩ = some x6 ∧ w.cell? ⟨b, 7, none⟩ = some x7 ∧ w.cell? ⟨b, 8, none⟩ = some x8 ∧ w.cell? ⟨b, 9, none⟩ = some x9 ∧ w.cell? ⟨b, 10, none⟩ = some x10 ∧ w.cell? ⟨b, 11, none⟩ = some x11 ∧ w.cell? ⟨b, 12, none⟩ = some x12 ∧ w.cell? ⟨b, 13, none⟩ = some x13 ∧ w.cell? ⟨b, 14, none⟩ = some x14 ∧ w.cell? ⟨b, 15, none⟩ = some x15) ∧ (∀ j, w.frozen? ⟨b, j, none⟩ = false) ∧ b < w.heap.size :=
  ⟨⟨by simp [World.cell?, h], by simp [World.cell?, h], by simp [World.cell?, h], by simp [World.cell?, h], by simp [World.cell?, h], by simp [World.cell?, h], by simp [World.cell?, h], by simp [World.cell?, h], by simp [World.cell?, h], by simp [World.cell?, h], by simp [World.cell?, h], by simp [World.cell?, h], by simp [World.cell?, h], by simp [World.cell?, h], by simp [World.cell?, h], by simp [World.cell?, h]⟩, fun j => by simp [World.frozen?, h], lt_of_block h⟩
theorem arr16 (g c : Nat) (W : World) : (Instr.arrayAt 209 (.slice (some ⟨g, 0, none⟩) 16 c)).run Tryz.prog W = .ok (.pointer (some ⟨g, 0, none⟩)) W := by
  simp [Instr.arrayAt, go_sem]
abbrev zar16 : Array Value := #[.int .i64 0, .int .i64 0, .int .i64 0, .int .i64 0, .int .i64 0, .int .i64 0, .int .i64 0, .int .i64 0, .int .i64 0, .int .i64 0, .int .i64 0, .int .i64 0, .int .i64 0, .int .i64 0, .int .i64 0, .int .i64 0]

set_option maxHeartbeats 1000000 in
theorem Page_ok (lo hp : Nat) (v : HV) (D : List (List Int)) (R : List Int) (n : Nat) (w : World) (h : HostAt w lo hp v D R) (hn : n < R.length) (h0 : R.getD n 0 ≠ 0) (hl : (D.getD n []).length = 16) :
    Calls Tryz.prog 160 #[hptr hp, .int .i64 n] w fun e w' => e = .returned (.tuple #[.agg (nums (D.getD n [])), .int .i64 0]) ∧ Below w.heap.size w w' := by
  obtain ⟨hx0, hx1, hxf, hxl⟩ := two_cells h.box
  obtain ⟨gd, cd, gr, cr, e1, e2, l2, l4, hne, n1, n2, q1, q2, q3, q4⟩ := h.opened (by omega)
  obtain ⟨g, c, e3, l5, l6, r1, r2⟩ := h.frame hn hl
  have HI : Hid (IntsAt w v.rv R) := h.refs
  have HN : Hid (kno R n = 0) := kno_ok hn h0
  have h2 := q1 n hn
  rw [e3] at h2
  have hki : (n : Int) < (R.length : Int) := by omega
  have hR := h.few
  have HX : Hid (w.cell? ⟨hp, 0, none⟩ = some (.slice (some ⟨gd, 0, none⟩) R.length cd) ∧ w.cell? ⟨gd, n, none⟩ = some (.slice (some ⟨g, 0, none⟩) 16 c)) := ⟨by rw [← e1]; exact hx0, h2⟩
  obtain ⟨row, hrow⟩ : ∃ row, row = D.getD n [] := ⟨_, rfl⟩
  rw [← hrow] at hl r1 ⊢
  have HRG : Hid (∀ w1, Below w.heap.size w w1 → w1.rangeAt g 0 (row.map (Value.int .i64))) := fun w1 hb => nums_range fun j hj => by
    rw [Nat.zero_add]
    exact (hb.cell (p := ⟨g, j, none⟩) l6).trans (r1 j (by omega))
  have HSZ : Hid ((Tryz.prog.info? 209).map (·.size) = some (row.map (Value.int .i64)).length ∧ (Tryz.prog.info? 209).map (·.size) = some (nums row).size ∧ zar16.size = (nums row).size ∧ (nums row).all (·.oneCell') = true) := ⟨by rw [List.length_map, hl]; kernel_rfl, by simp only [nums, List.size_toArray, List.length_map, hl]; kernel_rfl, by simp [nums, hl], nums_one _⟩
  clear h2 q1 q2 q3 q4 h e1 e2 hxf r1 r2 e3 l5 h0 hrow hl
  have harr := arr16 g c
  go_enter Tryz.func160, Tryz.ntmps160
  go_wp2_with fail
  refine (known_any _ _ R n _ (HI.out.below (below_alloc _ _))).mono ?_
  rw [HN.out]
  rintro e w1 ⟨rfl, hb1⟩
  have hres : w1.heap[w.heap.size]? = some (.cells zar16 209 (0, 0)) := box_kept hb1
  have HB : Hid (Below w.heap.size w w1) := (below_alloc _ _).trans (hb1.mono (by simp))
  have y0 := (HB.out.cell (p := ⟨hp, 0, none⟩) hxl).trans HX.out.1
  have y3 := (HB.out.cell (p := ⟨gd, n, none⟩) l2).trans HX.out.2
  have HRES : Hid (_) := hres
  clear hb1 hx0 hx1 hres
  go_wp2_with (first
    | (refine wpList_load_mid rfl 209 (.tmp 25) rfl g 0 rfl (row.map (Value.int .i64)) _ (HRG.out _ HB.out) Tryz.underlying209 rfl HSZ.out.1 ?_)
    | (refine wpList_store_row rfl 209 (.tmp 4) (.tmp 26) rfl w.heap.size (nums row) rfl rfl 209 _ HRES.out HSZ.out.2.1 HSZ.out.2.2.1 HSZ.out.2.2.2 ?_))
  have hb2 : (w1.setRow w.heap.size (nums row)).heap[w.heap.size]? = some (.cells (nums row) 209 (0, 0)) := setRow_heap _ _ _ _ _ _ HRES.out
  have hl16 : row.length = 16 := by have := HSZ.out.2.2.1; simp [nums] at this; omega
  obtain ⟨W2, hW2⟩ : ∃ W2, W2 = w1.setRow w.heap.size (nums row) := ⟨_, rfl⟩
  have HBW : Hid (Below w.heap.size w W2) := by rw [hW2]; exact below_setRow HB.out (Nat.le_refl _) _
  rw [← hW2] at hb2 ⊢
  clear hW2 HSZ HRG HRES
  obtain ⟨x0, x1, x2, x3, x4, x5, x6, x7, x8, x9, x10, x11, x12, x13, x14, x15, rfl⟩ := l16 hl16
  obtain ⟨⟨z0, z1, z2, z3, z4, z5, z6, z7, z8, z9, z10, z11, z12, z13, z14, z15⟩, zf, zl⟩ := c16cells (show W2.heap[w.heap.size]? = some (.cells #[.int .i64 x0, .int .i64 x1, .int .i64 x2, .int .i64 x3, .int .i64 x4, .int .i64 x5, .int .i64 x6, .int .i64 x7, .int .i64 x8, .int .i64 x9, .int .i64 x10, .int .i64 x11, .int .i64 x12, .int .i64 x13, .int .i64 x14, .int .i64 x15] 209 (0, 0)) from hb2)
  refine bodyPost_ret (v := .tuple #[.agg (nums [x0, x1, x2, x3, x4, x5, x6, x7, x8, x9, x10, x11, x12, x13, x14, x15]), .int .i64 0]) (by simp [results, Tryz.results160, go_sem, nums, z0, z1, z2, z3, z4, z5, z6, z7, z8, z9, z10, z11, z12, z13, z14, z15]) rfl ⟨rfl, HBW.out⟩

end Go.Proofs.YtecpblabaelopaaGreatDoor

/- Contract of Space.Words: the words of a space, page by page. -/

namespace Go.Proofs.YtecpblabaelopaaGreatDoor
open Go.RowKit
set_option maxRecDepth 100000

def upTo (D : List (List Int)) (s : List Int) (k : Nat) : List Int := (List.range (16 * k)).map (wordAt D s)
theorem upTo_len (D : List (List Int)) (s : List Int) (k : Nat) : (upTo D s k).length = 16 * k := by simp [upTo]
theorem upTo_16 (D : List (List Int)) (s : List Int) : upTo D s 16 = wordsOf D s := rfl
theorem upTo_next (D : List (List Int)) (s : List Int) {k : Nat} (hl : (pageW D (s.getD k 0)).length = 16) : upTo D s (k + 1) = upTo D s k ++ pageW D (s.getD k 0) := by
  have hw : ∀ i, i < 16 → wordAt D s (16 * k + i) = (pageW D (s.getD k 0)).getD i 0 := fun i hi => by
    unfold wordAt
    rw [show (16 * k + i) / 16 = k by omega, show (16 * k + i) % 16 = i by omega]
  unfold upTo
  rw [show 16 * (k + 1) = 16 * k + 16 by omega, List.range_add, List.map_append]
  congr 1
  revert hl hw
  generalize pageW D (s.getD k 0) = row
  intro hl hw
  refine List.ext_getElem (by simp [hl]) fun i h1 h2 => ?_
  simp only [List.getElem_map, List.getElem_range]
  rw [hw i (by omega)]
  simp [List.getD, h2]

theorem index16 (s : List Int) (hs : s.length = 16) (k : Nat) (hk : k < 16) (w : World) : (Instr.index 209 (.agg (nums s)) (.int .i64 (k : Int))).run Tryz.prog w = .ok (.int .i64 (s.getD k 0)) w := by
  have h2 : (nums s)[k]? = some (.int .i64 (s.getD k 0)) := by simp [nums, List.getD, hs, hk]
  simp [Instr.index, go_sem, h2]
  intro h
  omega
theorem make0 (w : World) : (Instr.makeSlice 24 (.int .i64 0) (.int .i64 256)).run Tryz.prog w = .ok (.slice (some ⟨w.heap.size, 0, none⟩) 0 256) (w.alloc (.cells (madeCells #[.int .i64 0] 256) 3)) := by
  obtain ⟨i0, hi, hz0, hz1, hz2⟩ := info_parts infoInt
  have := run_make (P := Tryz.prog) w 24 3 i0 (.int .i64 0) Tryz.underlying24 hi hz0 .i64 .i64 0 256 (by decide) (by decide) (by rw [hz2]; decide) (by decide)
  rw [hz1] at this
  simp at this
  exact this
theorem make0_own (w : World) (lo : Nat) (h : lo ≤ w.heap.size) : OwnI (w.alloc (.cells (madeCells #[.int .i64 0] 256) 3)) lo (.slice (some ⟨w.heap.size, 0, none⟩) 0 256) [] :=
  show World.ownsRow _ lo 3 1 _ 0 [] from ⟨rfl, Or.inr ⟨w.heap.size, 256, _, rfl, h, Go.Deep.blk_alloc_new _ _, by omega, by unfold maxLen; omega, size_madeCells _ _, by simp⟩⟩

theorem src_of {w : World} {g : Nat} {row : List Int} {t : TypeId} (h : w.heap[g]? = some (.cells (nums row) t (0, 0))) : ∀ (j : Nat) (u : Value), (row.map (Value.int .i64))[j]? = some u → w.cell? ((⟨g, 0, none⟩ : Addr).add j) = some u := fun j u hu => by
  have hjl : j < row.length := by
    by_cases hh : j < row.length
    · exact hh
    · simp [List.getElem?_eq_none (show row.length ≤ j by omega)] at hu
  rw [Go.WideShapes.add_plain, Nat.zero_add]
  unfold World.cell?
  simp only [h]
  simpa [nums, hjl] using hu

theorem words_next {w wr W w3 : World} {A5 : Option Addr} {len c5 : Nat} {v3 : Value} {L L' row : List Int} (hb : Below w.heap.size w wr) (hW : Below wr.heap.size wr W) (hl : L.length = len) (ho : OwnI wr w.heap.size (.slice A5 len c5) L) (he : L' = L ++ row) (hr : row.length = 16)
    (hown : w3.ownsRow w.heap.size 3 1 v3 (len + 16) (L.map (Value.int .i64) ++ row.map (Value.int .i64))) (hgrow : W.grownBy w3 (Value.slice A5 len c5).ownBlock) : OwnI w3 w.heap.size v3 L' ∧ Below w.heap.size w w3 := by
  subst he
  refine ⟨?_, ?_⟩
  · show w3.ownsRow w.heap.size 3 1 v3 (L ++ row).length ((L ++ row).map (Value.int .i64))
    rw [List.length_append, hl, hr, List.map_append]
    exact hown
  · exact (hb.trans (hW.mono hb.size)).grown hgrow (Nat.le_trans hb.size hW.size) (fun g e => (World.ownsRow.lt ho g e).1)

set_option maxHeartbeats 1000000 in
theorem Words_any (lo hp sp : Nat) (v : HV) (D : List (List Int)) (R s : List Int) (Ss : List (List Int)) (w : World) (h : HostAt w lo hp v D R) (hs : SpAt w hp sp s) (hS : Sys D R Ss) (hin : s ∈ Ss) :
    Calls Tryz.prog 139 #[hptr sp] w fun e w' => ∃ u, e = .returned u ∧ OwnI w' w.heap.size u (wordsOf D s) ∧ Below w.heap.size w w' := by
  obtain ⟨q0, qf, ql⟩ := hs.host
  have hsl := hs.len
  obtain ⟨i0, hi, hz0, hz1, hz2⟩ := info_parts infoInt
  have HRG : Hid (∀ w1, Below w.heap.size w w1 → w1.rangeAt sp 1 (s.map (Value.int .i64))) := fun w1 hb => nums_range fun j hj => (hb.cell (p := ⟨sp, 1 + j, none⟩) ql).trans (hs.cell (by omega))
  have HSZ : Hid ((Tryz.prog.info? 209).map (·.size) = some (s.map (Value.int .i64)).length) := by show _ = _; rw [List.length_map, hsl]; kernel_rfl
  have HH : Hid (HostAt w lo hp v D R ∧ Sys D R Ss ∧ s ∈ Ss) := ⟨h, hS, hin⟩
  have hmk := make0
  have HM0 : Hid (OwnI (w.alloc (.cells (madeCells #[.int .i64 0] 256) 3)) w.heap.size (.slice (some ⟨w.heap.size, 0, none⟩) 0 256) (upTo D s 0) ∧ Below w.heap.size w (w.alloc (.cells (madeCells #[.int .i64 0] 256) 3))) := ⟨make0_own w _ (Nat.le_refl _), below_alloc _ _⟩
  obtain ⟨ar, har⟩ : ∃ ar, ar = (s.map (Value.int .i64)).toArray := ⟨_, rfl⟩
  have HIX : Hid (∀ (k : Nat) W, k < 16 → (Instr.index 209 (.agg ar) (.int .i64 (k : Int))).run Tryz.prog W = .ok (.int .i64 (s.getD k 0)) W) := fun k W hk => by rw [har]; exact index16 s hsl k hk W
  have HAR : Hid (ar = (s.map (Value.int .i64)).toArray) := har
  clear h hS hin hs har
  go_enter Tryz.func139, Tryz.ntmps139
  go_wp2_with (first
    | (refine wpList_load_mid rfl 209 (.tmp 10) rfl sp 1 rfl (s.map (Value.int .i64)) _ (HRG.out _ HM0.out.2) Tryz.underlying209 rfl HSZ.out ?_; rw [← HAR.out]))
  go_loopw [3, 12] (fun o i wr => ∃ (k : Nat) (u : Value), k ≤ 16 ∧ i = .int .i64 (k : Int) ∧ o = u ∧ Hid (OwnI wr w.heap.size u (upTo D s k) ∧ Below w.heap.size w wr)) (fun _ i _ => 16 - (intOf i).toNat)
  case atStart => exact ⟨0, _, by omega, rfl, rfl, HM0⟩
  case round =>
    obtain ⟨k, u, hk, rfl, rfl, HI⟩ := hrel
    by_cases hlt : k < 16
    · have hl : (k : Int) < 16 := by omega
      have hix := HIX.out k wr hlt
      obtain ⟨A5, c5, rfl⟩ := HI.out.1.shape
      have HUL : Hid ((upTo D s k).length = 16 * k) := upTo_len D s k
      have HUN : Hid (upTo D s (k + 1) = upTo D s k ++ pageW D (s.getD k 0)) := upTo_next D s (HH.out.2.1.page_len HH.out.2.2 hlt)
      have HPO : Hid (s.getD k 0 = -1 ∨ ∃ j : Nat, s.getD k 0 = (j : Int) ∧ j < R.length ∧ 1 ≤ R.getD j 0) := HH.out.2.1.page_ok HH.out.2.2 hlt
      revert hix HUN HPO
      generalize s.getD k 0 = x
      intro hix HUN HPO
      have hw2 : IntKind.i64.wrap ((k : Int) + 1) = (k : Int) + 1 := IntWalk.i64_in _ (by omega)
      obtain ⟨len, hlen⟩ : ∃ len, len = (upTo D s k).length := ⟨_, rfl⟩
      have hlen2 : len ≤ 240 := by have := HUL.out; omega
      have HOW : Hid (OwnI wr w.heap.size (.slice A5 len c5) (upTo D s k)) := by rw [hlen]; exact HI.out.1
      have HLE : Hid ((upTo D s k).length = len) := hlen.symm
      have HBW : Hid (Below w.heap.size w wr) := HI.out.2
      rw [← hlen]
      clear HI hlen
      by_cases hx1 : x = -1
      · have d0 : (x != -1) = false := by simp [hx1]
        have HZ : Hid (upTo D s (k + 1) = upTo D s k ++ zeros16) := by show _ = _; rw [HUN.out, hx1, pageW_neg]
        have hnew := Go.Deep.blk_alloc_new wr (.cells zar16 209)
        have HSRC : Hid (∀ (j : Nat) (u : Value), (zeros16.map (Value.int .i64))[j]? = some u → (wr.alloc (.cells zar16 209)).cell? ((⟨wr.heap.size, 0, none⟩ : Addr).add j) = some u) := src_of (row := zeros16) hnew
        have HO2 : Hid (OwnI (wr.alloc (.cells zar16 209)) w.heap.size (.slice A5 len c5) (upTo D s k)) := HOW.out.below (below_alloc _ _)
        have HXS : Hid (((upTo D s k).map (Value.int .i64)).length = len) := by show _ = _; simpa using HLE.out
        have hsz := HBW.out.size
        clear HUN HPO hx1 hnew
        go_wp2_with (first
          | (at_builtin; refine wpList_append_own_at _ rfl _ _ 24 rfl w.heap.size 3 i0 (.int .i64 0) 1 8 Tryz.underlying24 hi hz0 hz1 hz2 rfl (by decide) (.slice A5 len c5) len ((upTo D s k).map (Value.int .i64)) rfl (by rw [← HLE.out]; have := HO2.out; rw [← HLE.out] at this; exact this) ⟨wr.heap.size, 0, none⟩ 16 16 (zeros16.map (Value.int .i64)) rfl rfl HSRC.out (ints_oneCell _ _) ?c3 ?c4 ?c5 ?_))
        case c3 => unfold maxLen; omega
        case c4 => omega
        case c5 => simp; omega
        intro v3 w3 hown hgrow _ _
        have HI3 : Hid (OwnI w3 w.heap.size v3 (upTo D s (k + 1)) ∧ Below w.heap.size w w3) := words_next HBW.out (below_alloc _ _) HLE.out HOW.out HZ.out (by simp [zeros16]) hown hgrow
        clear hown hgrow
        go_wp2_with fail
        refine ⟨⟨k + 1, v3, by omega, by go_num, rfl, HI3⟩, ?_⟩
        simp [intOf]; omega
      · have d0 : (x != -1) = true := by simpa using hx1
        obtain ⟨j, hj, hjR, hj1⟩ : ∃ j : Nat, x = (j : Int) ∧ j < R.length ∧ 1 ≤ R.getD j 0 := by
          rcases HPO.out with e | e
          · exact absurd e hx1
          · exact e
        have hlrow := HH.out.2.1.known_len hjR hj1
        have HZ : Hid (upTo D s (k + 1) = upTo D s k ++ D.getD j []) := by show _ = _; rw [HUN.out, hj, pageW_at]
        have HPG : Hid (∀ W, Below w.heap.size w W → Calls Tryz.prog 160 #[hptr hp, .int .i64 x] W fun e w' => e = .returned (.tuple #[.agg (nums (D.getD j [])), .int .i64 0]) ∧ Below W.heap.size W w') := fun W hW => by
          rw [hj]
          exact Page_ok lo hp v D R j W (HH.out.1.below hW) hjR (by omega) hlrow
        have HZ16 : Hid ((Tryz.prog.info? 209).map (·.size) = some (nums (D.getD j [])).size ∧ zar16.size = (nums (D.getD j [])).size ∧ (nums (D.getD j [])).all (·.oneCell') = true) := ⟨by simp only [nums, List.size_toArray, List.length_map, hlrow]; kernel_rfl, by show 16 = _; simp only [nums, List.size_toArray, List.length_map, hlrow], nums_one _⟩
        have HRL : Hid ((D.getD j []).length = 16) := hlrow
        clear hj hjR hj1 hlrow
        revert HZ HPG HZ16 HRL
        generalize D.getD j [] = row
        intro HZ HPG HZ16 HRL
        have HXS : Hid (((upTo D s k).map (Value.int .i64)).length = len) := by show _ = _; simpa using HLE.out
        have hsz := HBW.out.size
        have HBA : Hid (Below w.heap.size w (wr.alloc (.cells zar16 209))) := HBW.out.trans ((below_alloc _ _).mono HBW.out.size)
        obtain ⟨W1, hW1⟩ : ∃ W1, W1 = wr.alloc (.cells zar16 209) := ⟨_, rfl⟩
        have HW1 : Hid (W1 = wr.alloc (.cells zar16 209)) := hW1
        have y0 : (wr.alloc (.cells zar16 209)).cell? ⟨sp, 0, none⟩ = some (hptr hp) := (HBA.out.cell (p := ⟨sp, 0, none⟩) ql).trans q0
        clear HUN HPO hx1 q0 hW1
        go_wp2_with fail
        refine (HPG.out _ HBA.out).mono ?_
        rintro e w2 ⟨rfl, hb2⟩
        have hnew := box_kept hb2
        have HNEW : Hid (_) := hnew
        have HB2 : Hid (Below wr.heap.size wr w2) := (below_alloc _ _).trans (hb2.mono (by simp))
        have hnew2 : (w2.setRow wr.heap.size (nums row)).heap[wr.heap.size]? = some (.cells (nums row) 209 (0, 0)) := setRow_heap _ _ _ _ _ _ hnew
        have HB3 : Hid (Below wr.heap.size wr (w2.setRow wr.heap.size (nums row))) := below_setRow HB2.out (Nat.le_refl _) _
        have HSRC : Hid (∀ (j : Nat) (u : Value), (row.map (Value.int .i64))[j]? = some u → (w2.setRow wr.heap.size (nums row)).cell? ((⟨wr.heap.size, 0, none⟩ : Addr).add j) = some u) := src_of (row := row) hnew2
        have HO2 : Hid (OwnI (w2.setRow wr.heap.size (nums row)) w.heap.size (.slice A5 len c5) (upTo D s k)) := HOW.out.below HB3.out
        clear hb2 hnew hnew2 y0
        go_wp2_with (first
          | (refine wpList_store_row rfl 209 (.tmp 6) (.tmp 24) rfl wr.heap.size (nums row) rfl rfl 209 _ HNEW.out HZ16.out.1 HZ16.out.2.1 HZ16.out.2.2 ?_)
          | (at_builtin; refine wpList_append_own_at _ rfl _ _ 24 rfl w.heap.size 3 i0 (.int .i64 0) 1 8 Tryz.underlying24 hi hz0 hz1 hz2 rfl (by decide) (.slice A5 len c5) len ((upTo D s k).map (Value.int .i64)) rfl (by rw [← HLE.out]; have := HO2.out; rw [← HLE.out] at this; exact this) ⟨wr.heap.size, 0, none⟩ 16 16 (row.map (Value.int .i64)) rfl (by simpa using HRL.out) HSRC.out (ints_oneCell _ _) ?c3 ?c4 ?c5 ?_))
        case c3 => unfold maxLen; omega
        case c4 => omega
        case c5 => have := HB3.out.size; omega
        intro v3 w3 hown hgrow _ _
        have HI3 : Hid (OwnI w3 w.heap.size v3 (upTo D s (k + 1)) ∧ Below w.heap.size w w3) := words_next HBW.out HB3.out HLE.out HOW.out HZ.out (by exact HRL.out) hown hgrow
        clear hown hgrow
        go_wp2_with fail
        refine ⟨⟨k + 1, v3, by omega, by go_num, rfl, HI3⟩, ?_⟩
        simp [intOf]; omega
    · have e : k = 16 := by omega
      subst e
      go_wp2_with fail
      go_ret
      exact ⟨_, rfl, by have := HI.out.1; rwa [upTo_16] at this, HI.out.2⟩

end Go.Proofs.YtecpblabaelopaaGreatDoor
