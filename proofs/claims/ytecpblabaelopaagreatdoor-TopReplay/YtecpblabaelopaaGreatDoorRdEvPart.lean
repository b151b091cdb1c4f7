/- Contract of reader.event. -/
import Derived.Test.YtecpblabaelopaaGreatDoorBySpoilPart
namespace Go.Proofs.YtecpblabaelopaaGreatDoor
open Go.RowKit
set_option maxRecDepth 100000

theorem Sans.put {b lo : Nat} {w w1 : World} (h : Sans b lo w w1) (hlo : lo ≤ w.heap.size) {p : Addr} (hp : w.heap.size ≤ p.block) (u : Value) : Sans b lo w (w1.setCell p u) :=
  ⟨h.old.setCell (Nat.le_trans hlo hp) u, by simpa [World.setCell] using h.size, fun g hg hn => by
    rw [Below.heap_setCell _ _ _ _ (by omega)]
    exact h.block g hg hn⟩
theorem RdAt.put {w : World} {lo b : Nat} {v : Value} {l : List Int} (h : RdAt w lo b v l) {p : Addr} (hp : lo ≤ p.block) (hb : b ≠ p.block) (u : Value) : RdAt (w.setCell p u) lo b v l :=
  ⟨by rw [Below.heap_setCell _ _ _ _ hb]; exact h.box, h.own, h.bys.below ((Below.refl _ w).setCell hp u)⟩

structure EvS (w w1 : World) (lo b : Nat) (v : Value) (l : List Int) : Prop where
  rd : RdAt w1 lo b v l
  sans : Sans b lo w w1
  res : w1.heap[w.heap.size]? = some (.cells #[.int .i64 0, .int .i64 0, .slice none 0 0] 62 (0, 0))
  blt : b < w.heap.size
structure EvX (w w1 : World) (lo b : Nat) (v : Value) (l : List Int) (x : Nat) (a k : Int) (u : Value) : Prop where
  s : EvS w w1 lo b v l
  box : w1.heap[x]? = some (.cells #[.int .i64 a, .int .i64 k, u] 62 (0, 0))
  lt : w.heap.size < x
theorem EvS.start {w w1 : World} {lo b : Nat} {v : Value} {l : List Int} (h : RdAt w lo b v l) (q : NumQ (w.alloc (.cells #[.int .i64 0, .int .i64 0, .slice none 0 0] 62)) w1 lo b v l) : Sans b lo w w1 ∧ w1.heap[w.heap.size]? = some (.cells #[.int .i64 0, .int .i64 0, .slice none 0 0] 62 (0, 0)) ∧ ((numD l).no = 0 → ∃ v', EvS w w1 lo b v' (numD l).rest) := by
  have hlt := h.lt
  have hown := h.own
  have hs : Sans b lo w w1 := (Sans.of_below (below_alloc _ _) (by omega)).trans q.sans
  have hr : w1.heap[w.heap.size]? = some (.cells #[.int .i64 0, .int .i64 0, .slice none 0 0] 62 (0, 0)) := by
    rw [q.sans.block _ (by simp) (by omega)]
    exact Go.Deep.blk_alloc_new _ _
  refine ⟨hs, hr, fun h0 => ?_⟩
  obtain ⟨v', hv⟩ := q.rd h0
  exact ⟨v', hv, hs, hr, hlt⟩
theorem EvS.boxed {w w1 : World} {lo b : Nat} {v : Value} {l : List Int} (h : EvS w w1 lo b v l) (a k : Int) : EvX w (w1.alloc (.cells #[.int .i64 a, .int .i64 k, .slice none 0 0] 62)) lo b v l w1.heap.size a k (.slice none 0 0) := by
  have hB := below_alloc w1 (.cells #[.int .i64 a, .int .i64 k, .slice none 0 0] 62)
  have hl := lt_of_block h.res
  have := h.rd.own
  have := h.rd.lt
  exact ⟨⟨h.rd.below hB, h.sans.trans (Sans.of_below hB (by omega)), by rw [hB.block _ hl]; exact h.res, h.blt⟩, Go.Deep.blk_alloc_new _ _, hl⟩
theorem EvX.on {w w1 w2 : World} {lo b x : Nat} {v v' u : Value} {l l' : List Int} {a k : Int} (h : EvX w w1 lo b v l x a k u) (hs : Sans b lo w1 w2) (hr : RdAt w2 lo b v' l') : EvX w w2 lo b v' l' x a k u := by
  have := h.s.blt
  have := h.lt
  exact ⟨⟨hr, h.s.sans.trans hs, by rw [hs.block _ (lt_of_block h.s.res) (by omega)]; exact h.s.res, h.s.blt⟩, by rw [hs.block _ (lt_of_block h.box) (by omega)]; exact h.box, h.lt⟩

set_option maxHeartbeats 2000000 in
theorem event_no (b lo : Nat) (v : Value) (l : List Int) (last : Int) (w : World) (h : RdAt w lo b v l) (hn : (numD l).no ≠ 0) :
    Calls Tryz.prog 129 #[.pointer (some ⟨b, 0, none⟩), .int .i64 last] w fun e w' => e = .returned (.tuple #[.agg #[.int .i64 0, .int .i64 0, .slice none 0 0], .int .i64 (numD l).no]) ∧ Sans b lo w w' := by
  have hlo : lo ≤ w.heap.size := by have := h.own; have := h.lt; omega
  have HN : Hid (Calls Tryz.prog 128 #[.pointer (some ⟨b, 0, none⟩)] (w.alloc (.cells #[.int .i64 0, .int .i64 0, .slice none 0 0] 62)) fun e w' => e = .returned (.tuple #[.int .i64 (numD l).val, .int .i64 (numD l).no]) ∧ Sans b lo w w' ∧ w'.heap[w.heap.size]? = some (.cells #[.int .i64 0, .int .i64 0, .slice none 0 0] 62 (0, 0))) := (number_any b lo v l _ (h.below (below_alloc _ _))).mono fun e w' ⟨h1, h2⟩ => ⟨h1, (EvS.start h h2).1, (EvS.start h h2).2.1⟩
  clear h
  revert hn HN
  generalize (numD l).no = en
  generalize (numD l).val = x
  intro hn HN
  have hn' : (en == 0) = false := by simpa using hn
  go_enter Tryz.func129, Tryz.ntmps129
  go_wp2_with fail
  refine HN.out.mono ?_
  rintro e w1 ⟨rfl, hb, hr⟩
  have HB : Hid (Sans b lo w w1) := hb
  obtain ⟨e0, e1, e2, ef, el⟩ := three_cells hr
  clear hb hr HN
  go_wp2_with fail
  refine bodyPost_ret (v := .tuple #[.agg #[.int .i64 0, .int .i64 0, .slice none 0 0], .int .i64 en]) (by simp [results, Tryz.results129, go_sem, e0, e1, e2]) rfl ?_
  exact ⟨rfl, ((HB.out.put hlo (by simp) _).put hlo (by simp) _).put hlo (by simp) _⟩

theorem number_ev (b lo : Nat) (v : Value) (l : List Int) (w : World) (h : RdAt w lo b v l) (hn : (numD l).no = 0) (n : Int) (r : List Int) (hv : (numD l).val = n) (hr : (numD l).rest = r) :
    Calls Tryz.prog 128 #[.pointer (some ⟨b, 0, none⟩)] (w.alloc (.cells #[.int .i64 0, .int .i64 0, .slice none 0 0] 62)) fun e w' => e = .returned (.tuple #[.int .i64 n, .int .i64 0]) ∧ (0 ≤ n ∧ n < 562949953421312) ∧ ∃ v', EvS w w' lo b v' r := by
  subst hv hr
  exact (number_any b lo v l _ (h.below (below_alloc _ _))).mono fun e w' ⟨h1, h2⟩ => ⟨by rw [h1, hn], h2.val, (EvS.start h h2).2.2 hn⟩

set_option maxHeartbeats 2000000 in
theorem event_one (b lo : Nat) (v : Value) (l : List Int) (last n : Int) (r : List Int) (w : World) (h : RdAt w lo b v l) (hn : (numD l).no = 0) (hv : (numD l).val = n) (hr : (numD l).rest = r) (hk : n % 4 = 1) (hl : 0 ≤ last ∧ last ≤ 1152921504606846976) :
    Calls Tryz.prog 129 #[.pointer (some ⟨b, 0, none⟩), .int .i64 last] w fun e w' => e = .returned (.tuple #[.agg #[.int .i64 (last + n / 4), .int .i64 1, .slice none 0 0], .int .i64 0]) ∧ Sans b lo w w' ∧ ∃ v', RdAt w' lo b v' r := by
  have hlo : lo ≤ w.heap.size := by have := h.own; have := h.lt; omega
  have HN : Hid (Calls Tryz.prog 128 #[.pointer (some ⟨b, 0, none⟩)] (w.alloc (.cells #[.int .i64 0, .int .i64 0, .slice none 0 0] 62)) fun e w' => e = .returned (.tuple #[.int .i64 n, .int .i64 0]) ∧ (0 ≤ n ∧ n < 562949953421312) ∧ ∃ v', EvS w w' lo b v' r) := number_ev b lo v l w h hn n r hv hr
  clear h hn hv hr
  go_enter Tryz.func129, Tryz.ntmps129
  go_wp2_with fail
  refine HN.out.mono ?_
  rintro e w1 ⟨rfl, ⟨hn0, hn1⟩, v1, hs⟩
  have HS : Hid (EvS w w1 lo b v1 r) := hs
  obtain ⟨e0, e1, e2, ef, el⟩ := three_cells hs.res
  clear hs HN
  have hq : Int.tdiv n 4 = n / 4 := Int.tdiv_eq_ediv_of_nonneg hn0
  have hm : Int.tmod n 4 = 1 := by rw [Int.tmod_eq_emod_of_nonneg hn0]; exact hk
  have hw : IntKind.i64.wrap (last + n / 4) = last + n / 4 := IntWalk.i64_in _ (by omega)
  clear hk
  go_wp2_with fail
  refine bodyPost_ret (v := .tuple #[.agg #[.int .i64 (last + n / 4), .int .i64 1, .slice none 0 0], .int .i64 0]) (by simp [results, Tryz.results129, go_sem, e0, e1, e2, el]) rfl ?_
  have hz := HS.out.sans.size
  exact ⟨rfl, (((HS.out.sans.put hlo (by simp) _).put hlo (by simp) _).put hlo (by simp) _).trans (Sans.of_below (below_alloc _ _) (by simp; omega)), v1, (((HS.out.rd.put (by simpa using hlo) (by have := HS.out.blt; simp; omega) _).put (by simpa using hlo) (by have := HS.out.blt; simp; omega) _).put (by simpa using hlo) (by have := HS.out.blt; simp; omega) _).below (below_alloc _ _)⟩

theorem EvX.done {w w2 : World} {lo b x : Nat} {v n : Value} {r : List Int} {a k : Int} (h : EvX w w2 lo b v r x a k n) (hlo : lo ≤ w.heap.size) (u y0 y1 y2 : Value) :
    Sans b lo w ((((w2.setCell ⟨x, 2, none⟩ u).setCell ⟨w.heap.size, 0, none⟩ y0).setCell ⟨w.heap.size, 1, none⟩ y1).setCell ⟨w.heap.size, 2, none⟩ y2) ∧
    RdAt ((((w2.setCell ⟨x, 2, none⟩ u).setCell ⟨w.heap.size, 0, none⟩ y0).setCell ⟨w.heap.size, 1, none⟩ y1).setCell ⟨w.heap.size, 2, none⟩ y2) lo b v r ∧
    ∀ (lo' : Nat) (d : List Int) (z : Value), OwnI w2 lo' z d → OwnI ((((w2.setCell ⟨x, 2, none⟩ u).setCell ⟨w.heap.size, 0, none⟩ y0).setCell ⟨w.heap.size, 1, none⟩ y1).setCell ⟨w.heap.size, 2, none⟩ y2) lo' z d := by
  have hb := h.s.blt
  have hx := h.lt
  refine ⟨(((h.s.sans.put hlo (by simp; omega) _).put hlo (by simp) _).put hlo (by simp) _).put hlo (by simp) _, (((h.s.rd.put (by simp; omega) (by simp; omega) _).put (by simpa using hlo) (by simp; omega) _).put (by simpa using hlo) (by simp; omega) _).put (by simpa using hlo) (by simp; omega) _, fun lo' d z ho => ?_⟩
  have n1 := own_ne ho h.box (by decide)
  have n2 := own_ne ho h.s.res (by decide)
  exact ownsRow_setCell_other (a := ⟨w.heap.size, 2, none⟩) (ownsRow_setCell_other (a := ⟨w.heap.size, 1, none⟩) (ownsRow_setCell_other (a := ⟨w.heap.size, 0, none⟩) (ownsRow_setCell_other (a := ⟨x, 2, none⟩) ho n1 _) n2 _) n2 _) n2 _

set_option maxHeartbeats 2000000 in
theorem event_two (b lo : Nat) (v : Value) (l : List Int) (last n : Int) (r : List Int) (w : World) (h : RdAt w lo b v l) (hL : Laid w) (h0 : 0 < lo) (hn : (numD l).no = 0) (hv : (numD l).val = n) (hr : (numD l).rest = r) (hk : n % 4 = 2) (hl : 0 ≤ last ∧ last ≤ 1152921504606846976) (hg : (runsD 16 [] 0 r).no = 0) :
    Calls Tryz.prog 129 #[.pointer (some ⟨b, 0, none⟩), .int .i64 last] w fun e w' => ∃ u, e = .returned (.tuple #[.agg #[.int .i64 (last + n / 4), .int .i64 2, u], .int .i64 0]) ∧ OwnI w' w.heap.size u (runsD 16 [] 0 r).val ∧ Sans b lo w w' ∧ ∃ v', RdAt w' lo b v' (runsD 16 [] 0 r).rest := by
  have hlo : lo ≤ w.heap.size := by have := h.own; have := h.lt; omega
  have HN : Hid (Calls Tryz.prog 128 #[.pointer (some ⟨b, 0, none⟩)] (w.alloc (.cells #[.int .i64 0, .int .i64 0, .slice none 0 0] 62)) fun e w' => e = .returned (.tuple #[.int .i64 n, .int .i64 0]) ∧ (0 ≤ n ∧ n < 562949953421312) ∧ ∃ v', EvS w w' lo b v' r) := number_ev b lo v l w h hn n r hv hr
  have HG : Hid ((runsD 16 [] 0 r).no = 0) := hg
  have HC : Hid (w.cell? ⟨0, 2, none⟩ = some (.int .i64 16)) := hL.2.2.1
  clear h hn hv hr hg hL
  go_enter Tryz.func129, Tryz.ntmps129
  go_wp2_with fail
  refine HN.out.mono ?_
  rintro e w1 ⟨rfl, ⟨hn0, hn1⟩, v1, hs⟩
  have HX : Hid (EvX w (w1.alloc (.cells #[.int .i64 (last + n / 4), .int .i64 2, .slice none 0 0] 62)) lo b v1 r w1.heap.size (last + n / 4) 2 (.slice none 0 0)) := hs.boxed _ _
  have c2 : w1.cell? ⟨0, 2, none⟩ = some (.int .i64 16) := (hs.sans.old.cell (p := ⟨0, 2, none⟩) h0).trans HC.out
  have el := lt_of_block hs.res
  have hs1 := hs.sans.size
  have h01 : ¬ 0 = w1.heap.size := by omega
  have h02 : 0 < w1.heap.size := by omega
  clear hs HN HC
  have hq : Int.tdiv n 4 = n / 4 := Int.tdiv_eq_ediv_of_nonneg hn0
  have hm : Int.tmod n 4 = 2 := by rw [Int.tmod_eq_emod_of_nonneg hn0]; exact hk
  have hw : IntKind.i64.wrap (last + n / 4) = last + n / 4 := IntWalk.i64_in _ (by omega)
  clear hk
  go_wp2_with fail
  refine (runs_any b lo v1 r _ HX.out.s.rd (by simp; omega)).mono ?_
  rintro e w2 ⟨u, rfl, hq2⟩
  obtain ⟨ho, v2, hr2⟩ := hq2.ok HG.out
  have HX2 : Hid (EvX w w2 lo b v2 (runsD 16 [] 0 r).rest w1.heap.size (last + n / 4) 2 (.slice none 0 0)) := HX.out.on hq2.sans hr2
  have HO : Hid (OwnI w2 w.heap.size u (runsD 16 [] 0 r).val) := ownsRow_mono ho (by simp; omega)
  obtain ⟨A, c, rfl⟩ := ho.shape
  obtain ⟨e0, e1, e2, ef, el2⟩ := three_cells HX2.out.box
  obtain ⟨f0, f1, f2, ff, fl⟩ := three_cells HX2.out.s.res
  have hne : ¬ w.heap.size = w1.heap.size := by omega
  have hne2 : ¬ w1.heap.size = w.heap.size := by omega
  rw [HG.out]
  clear ho hr2 hq2 HX HG c2 h01 h02
  obtain ⟨m, hm2⟩ : ∃ m, m = (runsD 16 [] 0 r).val.length := ⟨_, rfl⟩
  rw [← hm2] at HO ⊢
  clear hm2
  go_wp2_with fail
  refine bodyPost_ret (v := .tuple #[.agg #[.int .i64 (last + n / 4), .int .i64 2, .slice A m c], .int .i64 0]) (by simp [results, Tryz.results129, go_sem, f0, f1, f2]) rfl ?_
  obtain ⟨d1, d2, d3⟩ := HX2.out.done hlo (.slice A m c) (.int .i64 (last + n / 4)) (.int .i64 2) (.slice A m c)
  exact ⟨_, rfl, d3 _ _ _ HO.out, d1, v2, d2⟩

set_option maxHeartbeats 2000000 in
theorem event_two_no (b lo : Nat) (v : Value) (l : List Int) (last n : Int) (r : List Int) (w : World) (h : RdAt w lo b v l) (hL : Laid w) (h0 : 0 < lo) (hn : (numD l).no = 0) (hv : (numD l).val = n) (hr : (numD l).rest = r) (hk : n % 4 = 2) (hl : 0 ≤ last ∧ last ≤ 1152921504606846976) (hg : (runsD 16 [] 0 r).no ≠ 0) :
    Calls Tryz.prog 129 #[.pointer (some ⟨b, 0, none⟩), .int .i64 last] w fun e w' => e = .returned (.tuple #[.agg #[.int .i64 0, .int .i64 0, .slice none 0 0], .int .i64 (runsD 16 [] 0 r).no]) ∧ Sans b lo w w' := by
  have hlo : lo ≤ w.heap.size := by have := h.own; have := h.lt; omega
  have HN : Hid (Calls Tryz.prog 128 #[.pointer (some ⟨b, 0, none⟩)] (w.alloc (.cells #[.int .i64 0, .int .i64 0, .slice none 0 0] 62)) fun e w' => e = .returned (.tuple #[.int .i64 n, .int .i64 0]) ∧ (0 ≤ n ∧ n < 562949953421312) ∧ ∃ v', EvS w w' lo b v' r) := number_ev b lo v l w h hn n r hv hr
  have HG : Hid ((runsD 16 [] 0 r).no ≠ 0) := hg
  have HC : Hid (w.cell? ⟨0, 2, none⟩ = some (.int .i64 16)) := hL.2.2.1
  clear h hn hv hr hg hL
  go_enter Tryz.func129, Tryz.ntmps129
  go_wp2_with fail
  refine HN.out.mono ?_
  rintro e w1 ⟨rfl, ⟨hn0, hn1⟩, v1, hs⟩
  have HX : Hid (EvX w (w1.alloc (.cells #[.int .i64 (last + n / 4), .int .i64 2, .slice none 0 0] 62)) lo b v1 r w1.heap.size (last + n / 4) 2 (.slice none 0 0)) := hs.boxed _ _
  have c2 : w1.cell? ⟨0, 2, none⟩ = some (.int .i64 16) := (hs.sans.old.cell (p := ⟨0, 2, none⟩) h0).trans HC.out
  have el := lt_of_block hs.res
  have hs1 := hs.sans.size
  have h01 : ¬ 0 = w1.heap.size := by omega
  have h02 : 0 < w1.heap.size := by omega
  clear hs HN HC
  have hq : Int.tdiv n 4 = n / 4 := Int.tdiv_eq_ediv_of_nonneg hn0
  have hm : Int.tmod n 4 = 2 := by rw [Int.tmod_eq_emod_of_nonneg hn0]; exact hk
  have hw : IntKind.i64.wrap (last + n / 4) = last + n / 4 := IntWalk.i64_in _ (by omega)
  clear hk
  go_wp2_with fail
  refine (runs_any b lo v1 r _ HX.out.s.rd (by simp; omega)).mono ?_
  rintro e w2 ⟨u, rfl, hq2⟩
  obtain rfl := hq2.no HG.out
  have hbl := HX.out.s.blt
  have hbx : w2.heap[w1.heap.size]? = some (.cells #[.int .i64 (last + n / 4), .int .i64 2, .slice none 0 0] 62 (0, 0)) := by rw [hq2.sans.block _ (by simp) (by omega)]; exact HX.out.box
  have hrs : w2.heap[w.heap.size]? = some (.cells #[.int .i64 0, .int .i64 0, .slice none 0 0] 62 (0, 0)) := by rw [hq2.sans.block _ (by simp; omega) (by omega)]; exact HX.out.s.res
  obtain ⟨e0, e1, e2, ef, el2⟩ := three_cells hbx
  obtain ⟨f0, f1, f2, ff, fl⟩ := three_cells hrs
  have HB : Hid (Sans b lo w w2) := HX.out.s.sans.trans hq2.sans
  have hne : ¬ w.heap.size = w1.heap.size := by omega
  have hne2 : ¬ w1.heap.size = w.heap.size := by omega
  have hgg := HG.out
  clear hq2 HX HG c2 h01 h02 hbx hrs
  obtain ⟨en, hen⟩ : ∃ en, en = (runsD 16 [] 0 r).no := ⟨_, rfl⟩
  have HE : Hid (en = (runsD 16 [] 0 r).no) := hen
  rw [← hen] at hgg ⊢
  clear hen
  have hen' : (en == 0) = false := by simpa using hgg
  go_wp2_with fail
  refine bodyPost_ret (v := .tuple #[.agg #[.int .i64 0, .int .i64 0, .slice none 0 0], .int .i64 en]) (by simp [results, Tryz.results129, go_sem, f0, f1, f2]) rfl ?_
  exact ⟨by rw [HE.out], (((HB.out.put hlo (by simp; omega) _).put hlo (by simp) _).put hlo (by simp) _).put hlo (by simp) _⟩

set_option maxHeartbeats 2000000 in
theorem event_three (b lo : Nat) (v : Value) (l : List Int) (last n : Int) (r : List Int) (w : World) (h : RdAt w lo b v l) (hn : (numD l).no = 0) (hv : (numD l).val = n) (hr : (numD l).rest = r) (hk : n % 4 = 3) (hl : 0 ≤ last ∧ last ≤ 1152921504606846976) (hg : (numD r).no = 0) :
    Calls Tryz.prog 129 #[.pointer (some ⟨b, 0, none⟩), .int .i64 last] w fun e w' => ∃ u, e = .returned (.tuple #[.agg #[.int .i64 (last + n / 4), .int .i64 3, u], .int .i64 0]) ∧ OwnI w' w.heap.size u [anyK (numD r).val] ∧ Sans b lo w w' ∧ ∃ v', RdAt w' lo b v' (numD r).rest := by
  have hlo : lo ≤ w.heap.size := by have := h.own; have := h.lt; omega
  have HN : Hid (Calls Tryz.prog 128 #[.pointer (some ⟨b, 0, none⟩)] (w.alloc (.cells #[.int .i64 0, .int .i64 0, .slice none 0 0] 62)) fun e w' => e = .returned (.tuple #[.int .i64 n, .int .i64 0]) ∧ (0 ≤ n ∧ n < 562949953421312) ∧ ∃ v', EvS w w' lo b v' r) := number_ev b lo v l w h hn n r hv hr
  have HG : Hid ((numD r).no = 0) := hg
  clear h hn hv hr hg
  go_enter Tryz.func129, Tryz.ntmps129
  go_wp2_with fail
  refine HN.out.mono ?_
  rintro e w1 ⟨rfl, ⟨hn0, hn1⟩, v1, hs⟩
  have HX : Hid (EvX w (w1.alloc (.cells #[.int .i64 (last + n / 4), .int .i64 3, .slice none 0 0] 62)) lo b v1 r w1.heap.size (last + n / 4) 3 (.slice none 0 0)) := hs.boxed _ _
  have el := lt_of_block hs.res
  have hs1 := hs.sans.size
  clear hs HN
  have hq : Int.tdiv n 4 = n / 4 := Int.tdiv_eq_ediv_of_nonneg hn0
  have hm : Int.tmod n 4 = 3 := by rw [Int.tmod_eq_emod_of_nonneg hn0]; exact hk
  have hw : IntKind.i64.wrap (last + n / 4) = last + n / 4 := IntWalk.i64_in _ (by omega)
  clear hk
  go_wp2_with fail
  refine (word_ok b lo v1 r _ HX.out.s.rd HG.out).mono ?_
  rintro e w2 ⟨g, v2, rfl, ho, hr2, hq2⟩
  have HX2 : Hid (EvX w w2 lo b v2 (numD r).rest w1.heap.size (last + n / 4) 3 (.slice none 0 0)) := HX.out.on hq2 hr2
  have HO : Hid (OwnI w2 w.heap.size (.slice (some ⟨g, 0, none⟩) 1 1) [anyK (numD r).val]) := ownsRow_mono ho (by simp; omega)
  obtain ⟨e0, e1, e2, ef, el2⟩ := three_cells HX2.out.box
  obtain ⟨f0, f1, f2, ff, fl⟩ := three_cells HX2.out.s.res
  have hne : ¬ w.heap.size = w1.heap.size := by omega
  have hne2 : ¬ w1.heap.size = w.heap.size := by omega
  clear ho hr2 hq2 HX HG
  go_wp2_with fail
  refine bodyPost_ret (v := .tuple #[.agg #[.int .i64 (last + n / 4), .int .i64 3, .slice (some ⟨g, 0, none⟩) 1 1], .int .i64 0]) (by simp [results, Tryz.results129, go_sem, f0, f1, f2]) rfl ?_
  obtain ⟨d1, d2, d3⟩ := HX2.out.done hlo (.slice (some ⟨g, 0, none⟩) 1 1) (.int .i64 (last + n / 4)) (.int .i64 3) (.slice (some ⟨g, 0, none⟩) 1 1)
  exact ⟨_, rfl, d3 _ _ _ HO.out, d1, v2, d2⟩

set_option maxHeartbeats 2000000 in
theorem event_three_no (b lo : Nat) (v : Value) (l : List Int) (last n : Int) (r : List Int) (w : World) (h : RdAt w lo b v l) (hn : (numD l).no = 0) (hv : (numD l).val = n) (hr : (numD l).rest = r) (hk : n % 4 = 3) (hl : 0 ≤ last ∧ last ≤ 1152921504606846976) (hg : (numD r).no ≠ 0) :
    Calls Tryz.prog 129 #[.pointer (some ⟨b, 0, none⟩), .int .i64 last] w fun e w' => e = .returned (.tuple #[.agg #[.int .i64 0, .int .i64 0, .slice none 0 0], .int .i64 (numD r).no]) ∧ Sans b lo w w' := by
  have hlo : lo ≤ w.heap.size := by have := h.own; have := h.lt; omega
  have HN : Hid (Calls Tryz.prog 128 #[.pointer (some ⟨b, 0, none⟩)] (w.alloc (.cells #[.int .i64 0, .int .i64 0, .slice none 0 0] 62)) fun e w' => e = .returned (.tuple #[.int .i64 n, .int .i64 0]) ∧ (0 ≤ n ∧ n < 562949953421312) ∧ ∃ v', EvS w w' lo b v' r) := number_ev b lo v l w h hn n r hv hr
  have HG : Hid ((numD r).no ≠ 0) := hg
  clear h hn hv hr hg
  go_enter Tryz.func129, Tryz.ntmps129
  go_wp2_with fail
  refine HN.out.mono ?_
  rintro e w1 ⟨rfl, ⟨hn0, hn1⟩, v1, hs⟩
  have HX : Hid (EvX w (w1.alloc (.cells #[.int .i64 (last + n / 4), .int .i64 3, .slice none 0 0] 62)) lo b v1 r w1.heap.size (last + n / 4) 3 (.slice none 0 0)) := hs.boxed _ _
  have el := lt_of_block hs.res
  have hs1 := hs.sans.size
  clear hs HN
  have hq : Int.tdiv n 4 = n / 4 := Int.tdiv_eq_ediv_of_nonneg hn0
  have hm : Int.tmod n 4 = 3 := by rw [Int.tmod_eq_emod_of_nonneg hn0]; exact hk
  have hw : IntKind.i64.wrap (last + n / 4) = last + n / 4 := IntWalk.i64_in _ (by omega)
  clear hk
  go_wp2_with fail
  refine (word_no b lo v1 r _ HX.out.s.rd HG.out).mono ?_
  rintro e w2 ⟨rfl, hq2⟩
  have hbl := HX.out.s.blt
  have hbx : w2.heap[w1.heap.size]? = some (.cells #[.int .i64 (last + n / 4), .int .i64 3, .slice none 0 0] 62 (0, 0)) := by rw [hq2.block _ (by simp) (by omega)]; exact HX.out.box
  have hrs : w2.heap[w.heap.size]? = some (.cells #[.int .i64 0, .int .i64 0, .slice none 0 0] 62 (0, 0)) := by rw [hq2.block _ (by simp; omega) (by omega)]; exact HX.out.s.res
  obtain ⟨e0, e1, e2, ef, el2⟩ := three_cells hbx
  obtain ⟨f0, f1, f2, ff, fl⟩ := three_cells hrs
  have HB : Hid (Sans b lo w w2) := HX.out.s.sans.trans hq2
  have hne : ¬ w.heap.size = w1.heap.size := by omega
  have hne2 : ¬ w1.heap.size = w.heap.size := by omega
  have hgg := HG.out
  clear hq2 HX HG hbx hrs
  obtain ⟨en, hen⟩ : ∃ en, en = (numD r).no := ⟨_, rfl⟩
  have HE : Hid (en = (numD r).no) := hen
  rw [← hen] at hgg ⊢
  clear hen
  have hen' : (en == 0) = false := by simpa using hgg
  go_wp2_with fail
  refine bodyPost_ret (v := .tuple #[.agg #[.int .i64 0, .int .i64 0, .slice none 0 0], .int .i64 en]) (by simp [results, Tryz.results129, go_sem, f0, f1, f2]) rfl ?_
  exact ⟨by rw [HE.out], (((HB.out.put hlo (by simp; omega) _).put hlo (by simp) _).put hlo (by simp) _).put hlo (by simp) _⟩

set_option maxHeartbeats 2000000 in
theorem event_zero (b lo : Nat) (v : Value) (l : List Int) (last n : Int) (r : List Int) (w : World) (h : RdAt w lo b v l) (hn : (numD l).no = 0) (hv : (numD l).val = n) (hr : (numD l).rest = r) (hk : n % 4 = 0) (hl : 0 ≤ last ∧ last ≤ 1152921504606846976) :
    Calls Tryz.prog 129 #[.pointer (some ⟨b, 0, none⟩), .int .i64 last] w fun e w' => e = .returned (.tuple #[.agg #[.int .i64 0, .int .i64 0, .slice none 0 0], .int .i64 3]) ∧ Sans b lo w w' := by
  have hlo : lo ≤ w.heap.size := by have := h.own; have := h.lt; omega
  have HN : Hid (Calls Tryz.prog 128 #[.pointer (some ⟨b, 0, none⟩)] (w.alloc (.cells #[.int .i64 0, .int .i64 0, .slice none 0 0] 62)) fun e w' => e = .returned (.tuple #[.int .i64 n, .int .i64 0]) ∧ (0 ≤ n ∧ n < 562949953421312) ∧ ∃ v', EvS w w' lo b v' r) := number_ev b lo v l w h hn n r hv hr
  clear h hn hv hr
  go_enter Tryz.func129, Tryz.ntmps129
  go_wp2_with fail
  refine HN.out.mono ?_
  rintro e w1 ⟨rfl, ⟨hn0, hn1⟩, v1, hs⟩
  have HS : Hid (EvS w w1 lo b v1 r) := hs
  obtain ⟨e0, e1, e2, ef, el⟩ := three_cells hs.res
  clear hs HN
  have hq : Int.tdiv n 4 = n / 4 := Int.tdiv_eq_ediv_of_nonneg hn0
  have hm : Int.tmod n 4 = 0 := by rw [Int.tmod_eq_emod_of_nonneg hn0]; exact hk
  have hw : IntKind.i64.wrap (last + n / 4) = last + n / 4 := IntWalk.i64_in _ (by omega)
  clear hk
  go_wp2_with fail
  refine bodyPost_ret (v := .tuple #[.agg #[.int .i64 0, .int .i64 0, .slice none 0 0], .int .i64 3]) (by simp [results, Tryz.results129, go_sem, e0, e1, e2, el]) rfl ?_
  have hz := HS.out.sans.size
  exact ⟨rfl, (((HS.out.sans.put hlo (by simp) _).put hlo (by simp) _).put hlo (by simp) _).trans (Sans.of_below (below_alloc _ _) (by simp; omega))⟩

end Go.Proofs.YtecpblabaelopaaGreatDoor

/- Events are read as they were written, and no others: plain. -/

namespace Go.Proofs.YtecpblabaelopaaGreatDoor
open Go.RowKit
set_option maxRecDepth 100000

def Up : Int → List Ev → Prop
  | _, [] => True
  | last, x :: L => evNo x = 0 ∧ 0 ≤ last ∧ last ≤ x.at_ ∧ Up x.at_ L
theorem up_of {L : List Ev} (h : chkNo L = 0) : Up 0 L := by
  have key : ∀ n k, L.length - k = n → Up (prevAt L k) (L.drop k) := by
    intro n
    induction n with
    | zero =>
      intro k hk
      rw [List.drop_eq_nil_of_le (by omega)]
      exact trivial
    | succ n ih =>
      intro k hk
      have hlt : k < L.length := by omega
      obtain ⟨h1, h2, h3⟩ := ok_at h k hlt
      have h4 := ih (k + 1) (by omega)
      rw [prevAt_succ] at h4
      rw [List.drop_eq_getElem_cons hlt]
      have : L[k] = L.getD k noEv := by simp [List.getD, hlt]
      rw [this]
      exact ⟨h1, h2, h3, h4⟩
  have := key L.length 0 rfl
  simpa [prevAt] using this

theorem eventD_evB {last : Int} {x : Ev} (t : List Int) (h : evNo x = 0) (h0 : 0 ≤ last) (h1 : last ≤ x.at_) : eventD last (evB last x ++ t) = ⟨0, x, t⟩ := by
  obtain ⟨a, k, d⟩ := x
  obtain ⟨hk, ha, hw, hl⟩ := evNo_bd h
  simp only at hk ha hw hl h1
  obtain ⟨n, hn⟩ : ∃ n : Nat, (n : Int) = 4 * (a - last) + k := ⟨(4 * (a - last) + k).toNat, by omega⟩
  have n1 : numD (evB last ⟨a, k, d⟩ ++ t) = ⟨0, (n : Int), dataB ⟨a, k, d⟩ ++ t⟩ := by
    unfold evB
    simp only
    rw [show (4 * (a - last) + k).toNat = n by omega, List.append_assoc, numD_sevens _ (by omega)]
  have hm := allB_mem hw
  have hat : last + (n : Int) / 4 = a := by omega
  unfold eventD
  rw [n1]
  simp only
  rw [if_neg (by simp)]
  have h3 : k = 1 ∨ k = 2 ∨ k = 3 := by omega
  rcases h3 with rfl | rfl | rfl
  · obtain rfl : d = [] := by simpa [wordsN] using hl
    rw [if_pos (by omega), hat]
    simp [dataB]
  · have h16 : d.length = 16 := by simp [wordsN] at hl; omega
    have hr : runsD 16 [] 0 (dataB ⟨a, 2, d⟩ ++ t) = ⟨0, d, t⟩ := by
      rw [show dataB ⟨a, 2, d⟩ = runsB 0 0 d by simp [dataB]]
      have := runsD_runsB 16 [] 0 d t (by simpa using h16) (by omega) (by simp) hm (by simp)
      simpa using this
    rw [if_neg (by omega), if_pos (by omega), hr]
    simp only
    rw [if_neg (by simp), hat]
  · obtain ⟨z, rfl⟩ : ∃ z, d = [z] := List.length_eq_one_iff.1 (by simp [wordsN] at hl; omega)
    have hz := hm z (by simp)
    obtain ⟨m, z1, z2, z3, z4⟩ := zigs_of (z := z)
    have hd : numD (dataB ⟨a, 3, [z]⟩ ++ t) = ⟨0, (m : Int), t⟩ := by
      rw [show dataB ⟨a, 3, [z]⟩ = zigs z by simp [dataB], z1, numD_sevens _ (z3 (by omega) (by omega))]
    rw [if_neg (by omega), if_neg (by omega), if_pos (by omega), hd]
    simp only
    rw [if_neg (by simp), hat, z2]

theorem eventsD_enc : ∀ (L : List Ev) (last : Int) (got : List Ev) (t : List Int), Up last L → eventsD L.length last got (encFrom last L ++ t) = ⟨0, got ++ L, t⟩
  | [], last, got, t, _ => by simp [eventsD, encFrom]
  | x :: L, last, got, t, h => by
    obtain ⟨h1, h2, h3, h4⟩ := h
    have e := eventD_evB (encFrom x.at_ L ++ t) h1 h2 h3
    rw [List.length_cons, eventsD, encFrom, List.append_assoc, e]
    simp only
    rw [if_neg (by simp), eventsD_enc L x.at_ _ t h4, List.append_assoc, List.singleton_append]
theorem allD_enc {L : List Ev} (h : chkNo L = 0) : allD (encB L) = ⟨0, L, []⟩ := by
  have hl := (chk_zero h).1
  have n1 : numD (encB L) = ⟨0, (L.length : Int), encFrom 0 L⟩ := by unfold encB; rw [numD_sevens _ (by omega)]
  have e := eventsD_enc L 0 [] [] (up_of h)
  simp only [List.append_nil, List.nil_append] at e
  unfold allD
  rw [n1]
  simp only
  rw [if_neg (by simp), if_neg (by omega), Int.toNat_natCast, e]
  simp
theorem full_cut (L : List Ev) : (fullB L).length - 4 = (encB L).length ∧ (fullB L).take ((fullB L).length - 4) = encB L ∧ (fullB L).drop ((fullB L).length - 4) = sumB (encB L) := by
  have h4 : (sumB (encB L)).length = 4 := rfl
  have hl : (fullB L).length - 4 = (encB L).length := by unfold fullB; rw [List.length_append, h4]; omega
  rw [hl]
  exact ⟨rfl, List.take_left, List.drop_left⟩
theorem encB_pos (L : List Ev) : 0 < (encB L).length := by have := sevens_ne L.length; simp [encB]; omega
theorem decD_full {L : List Ev} (h : chkNo L = 0) (h6 : (fullB L).length ≤ 60000) : decD (fullB L) = (0, L) := by
  obtain ⟨c1, c2, c3⟩ := full_cut L
  have := encB_pos L
  have e := allD_enc h
  unfold decD
  rw [if_neg (by omega), if_neg (by omega), c2, c3, if_neg (by simp), e]
  simp only
  rw [if_neg (by simp), h, if_neg (by simp)]

theorem eventD_back {last : Int} {l : List Int} (hb : ∀ x ∈ l, 0 ≤ x ∧ x ≤ 255) (h : (eventD last l).no = 0) : l = evB last (eventD last l).val ++ (eventD last l).rest := by
  unfold eventD at h ⊢
  split at h
  · rename_i h1
    exact absurd h h1
  · rename_i h1
    rw [if_neg h1]
    simp only [ne_eq, Decidable.not_not] at h1
    obtain ⟨n, a1, a2, a3⟩ := numD_back hb h1
    rw [a2] at h ⊢
    have hb1 := rest_byte hb a1
    have hat : ∀ k : Int, (n : Int) % 4 = k → (4 * (last + (n : Int) / 4 - last) + k).toNat = n := fun k hk => by omega
    split at h
    · rename_i h2
      rw [if_pos h2]
      simp only [evB, hat 1 h2, dataB]
      simpa using a1
    · rename_i h2
      rw [if_neg h2]
      split at h
      · rename_i h3
        rw [if_pos h3]
        split at h
        · rename_i h4
          exact absurd h h4
        · rename_i h4
          rw [if_neg h4]
          simp only [ne_eq, Decidable.not_not] at h4
          obtain ⟨e, c1, c2, c3, c4⟩ := runsD_back 16 [] 0 _ hb1 (by simp) (by simp) h4
          simp only [List.nil_append] at c1
          simp only [evB, hat 2 h3, dataB, if_pos]
          rw [c1, List.append_assoc, ← c3, ← a1]
      · rename_i h3
        rw [if_neg h3]
        split at h
        · rename_i h5
          rw [if_pos h5]
          split at h
          · rename_i h4
            exact absurd h h4
          · rename_i h4
            rw [if_neg h4]
            simp only [ne_eq, Decidable.not_not] at h4
            obtain ⟨m, b1, b2, b3⟩ := numD_back hb1 h4
            have hd : dataB ⟨last + (n : Int) / 4, 3, [anyK (m : Int)]⟩ = sevens m := by simp [dataB, zigs_anyK]
            rw [b2]
            simp only [evB, hat 3 h5, hd]
            rw [List.append_assoc, ← b1, ← a1]
        · simp at h
theorem eventsD_back : ∀ (n : Nat) (last : Int) (got : List Ev) (l : List Int), (∀ x ∈ l, 0 ≤ x ∧ x ≤ 255) → (eventsD n last got l).no = 0 → ∃ L, (eventsD n last got l).val = got ++ L ∧ L.length = n ∧ l = encFrom last L ++ (eventsD n last got l).rest
  | 0, last, got, l, hb, h => ⟨[], by simp [eventsD], rfl, by simp [eventsD, encFrom]⟩
  | n + 1, last, got, l, hb, h => by
    rw [eventsD] at h ⊢
    split at h
    · rename_i h1
      exact absurd h h1
    · rename_i h1
      rw [if_neg h1]
      simp only [ne_eq, Decidable.not_not] at h1
      have a1 := eventD_back hb h1
      obtain ⟨L, c1, c2, c3⟩ := eventsD_back n _ _ _ (rest_byte hb a1) h
      refine ⟨(eventD last l).val :: L, by rw [c1, List.append_assoc]; rfl, by simp [c2], ?_⟩
      rw [encFrom, List.append_assoc, ← c3, ← a1]
theorem allD_back {l : List Int} (hb : ∀ x ∈ l, 0 ≤ x ∧ x ≤ 255) (h : (allD l).no = 0) : l = encB (allD l).val := by
  unfold allD at h ⊢
  split at h
  · rename_i h1
    exact absurd h h1
  · rename_i h1
    rw [if_neg h1]
    simp only [ne_eq, Decidable.not_not] at h1
    obtain ⟨n, a1, a2, a3⟩ := numD_back hb h1
    rw [a2, Int.toNat_natCast] at h ⊢
    split at h
    · simp at h
    · rename_i h2
      rw [if_neg h2]
      split at h
      · rename_i h3
        exact absurd h h3
      · rename_i h3
        rw [if_neg h3]
        split at h
        · simp at h
        · rename_i h4
          rw [if_neg h4]
          obtain ⟨L, c1, c2, c3⟩ := eventsD_back n 0 [] _ (rest_byte hb a1) h
          have hr : (eventsD n 0 [] (numD l).rest).rest = [] := List.length_eq_zero_iff.1 (by omega)
          rw [hr, List.append_nil] at c3
          rw [c1, List.nil_append, encB, c2, ← c3, ← a1]
theorem decD_back {l : List Int} (hb : ∀ x ∈ l, 0 ≤ x ∧ x ≤ 255) (h : (decD l).1 = 0) : l = fullB (decD l).2 ∧ chkNo (decD l).2 = 0 ∧ l.length ≤ 60000 := by
  unfold decD at h ⊢
  split at h
  · simp at h
  · rename_i h1
    rw [if_neg h1]
    split at h
    · simp at h
    · rename_i h2
      rw [if_neg h2]
      split at h
      · simp at h
      · rename_i h3
        rw [if_neg h3]
        simp only [ne_eq, Decidable.not_not] at h3
        split at h
        · rename_i h4
          exact absurd h h4
        · rename_i h4
          rw [if_neg h4]
          simp only [ne_eq, Decidable.not_not] at h4
          split at h
          · rename_i h5
            exact absurd h h5
          · rename_i h5
            rw [if_neg h5]
            simp only [ne_eq, Decidable.not_not] at h5
            refine ⟨?_, h5, by omega⟩
            have e := allD_back (fun x hx => hb x (List.mem_of_mem_take hx)) h4
            unfold fullB
            rw [← e, ← h3, List.take_append_drop]
end Go.Proofs.YtecpblabaelopaaGreatDoor
