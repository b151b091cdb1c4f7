/- Contract of reader.event. -/
import Derived.Test.YtbjlfhpiebokkaaDoorRdWPart
namespace Go.Proofs.YtbjlfhpiebokkaaDoor
open Go.RowKit
set_option maxRecDepth 100000

theorem Sans.put {b lo : Nat} {w w1 : World} (h : Sans b lo w w1) (hlo : lo ≤ w.heap.size) {p : Addr} (hp : w.heap.size ≤ p.block) (u : Value) : Sans b lo w (w1.setCell p u) :=
  ⟨h.old.setCell (Nat.le_trans hlo hp) u, by simpa [World.setCell] using h.size, fun g hg hn => by
    rw [Below.heap_setCell _ _ _ _ (by omega)]
    exact h.block g hg hn⟩
theorem RdAt.put {w : World} {lo b : Nat} {v : Value} {l : List Int} (h : RdAt w lo b v l) {p : Addr} (hp : lo ≤ p.block) (hb : b ≠ p.block) (u : Value) : RdAt (w.setCell p u) lo b v l :=
  ⟨by rw [Below.heap_setCell _ _ _ _ hb]; exact h.box, h.own, h.bys.below ((Below.refl _ w).setCell hp u)⟩

structure EvS (w w1 : World) (lo b : Nat) (v : Value) (l : List Int) : Prop where
  rd : RdAt w1 lo b v l
  sans : Sans b lo w w1
  res : w1.heap[w.heap.size]? = some (.cells #[.int .i64 0, .int .i64 0, .slice none 0 0] 54 (0, 0))
  blt : b < w.heap.size
structure EvX (w w1 : World) (lo b : Nat) (v : Value) (l : List Int) (x : Nat) (a k : Int) (u : Value) : Prop where
  s : EvS w w1 lo b v l
  box : w1.heap[x]? = some (.cells #[.int .i64 a, .int .i64 k, u] 54 (0, 0))
  lt : w.heap.size < x
theorem EvS.start {w w1 : World} {lo b : Nat} {v : Value} {l : List Int} (h : RdAt w lo b v l) (q : NumQ (w.alloc (.cells #[.int .i64 0, .int .i64 0, .slice none 0 0] 54)) w1 lo b v l) : Sans b lo w w1 ∧ w1.heap[w.heap.size]? = some (.cells #[.int .i64 0, .int .i64 0, .slice none 0 0] 54 (0, 0)) ∧ ((numD l).no = 0 → ∃ v', EvS w w1 lo b v' (numD l).rest) := by
  have hlt := h.lt
  have hown := h.own
  have hs : Sans b lo w w1 := (Sans.of_below (below_alloc _ _) (by omega)).trans q.sans
  have hr : w1.heap[w.heap.size]? = some (.cells #[.int .i64 0, .int .i64 0, .slice none 0 0] 54 (0, 0)) := by
    rw [q.sans.block _ (by simp) (by omega)]
    exact Go.Deep.blk_alloc_new _ _
  refine ⟨hs, hr, fun h0 => ?_⟩
  obtain ⟨v', hv⟩ := q.rd h0
  exact ⟨v', hv, hs, hr, hlt⟩
theorem EvS.boxed {w w1 : World} {lo b : Nat} {v : Value} {l : List Int} (h : EvS w w1 lo b v l) (a k : Int) : EvX w (w1.alloc (.cells #[.int .i64 a, .int .i64 k, .slice none 0 0] 54)) lo b v l w1.heap.size a k (.slice none 0 0) := by
  have hB := below_alloc w1 (.cells #[.int .i64 a, .int .i64 k, .slice none 0 0] 54)
  have hl := lt_of_block h.res
  have := h.rd.own
  have := h.rd.lt
  exact ⟨⟨h.rd.below hB, h.sans.trans (Sans.of_below hB (by omega)), by rw [hB.block _ hl]; exact h.res, h.blt⟩, Go.Deep.blk_alloc_new _ _, hl⟩
theorem EvX.on {w w1 w2 : World} {lo b x : Nat} {v v' u : Value} {l l' : List Int} {a k : Int} (h : EvX w w1 lo b v l x a k u) (hs : Sans b lo w1 w2) (hr : RdAt w2 lo b v' l') : EvX w w2 lo b v' l' x a k u := by
  have := h.s.blt
  have := h.lt
  exact ⟨⟨hr, h.s.sans.trans hs, by rw [hs.block _ (lt_of_block h.s.res) (by omega)]; exact h.s.res, h.s.blt⟩, by rw [hs.block _ (lt_of_block h.box) (by omega)]; exact h.box, h.lt⟩

set_option maxHeartbeats 2000000 in
theorem event_no (b lo : Nat) (v : Value) (l : List Int) (last : Int) (w : World) (h : RdAt w lo b v l) (hn : (numD l).no ≠ 0) :
    Calls Tryd.prog 109 #[.pointer (some ⟨b, 0, none⟩), .int .i64 last] w fun e w' => e = .returned (.tuple #[.agg #[.int .i64 0, .int .i64 0, .slice none 0 0], .int .i64 (numD l).no]) ∧ Sans b lo w w' := by
  have hlo : lo ≤ w.heap.size := by have := h.own; have := h.lt; omega
  have HN : Hid (Calls Tryd.prog 108 #[.pointer (some ⟨b, 0, none⟩)] (w.alloc (.cells #[.int .i64 0, .int .i64 0, .slice none 0 0] 54)) fun e w' => e = .returned (.tuple #[.int .i64 (numD l).val, .int .i64 (numD l).no]) ∧ Sans b lo w w' ∧ w'.heap[w.heap.size]? = some (.cells #[.int .i64 0, .int .i64 0, .slice none 0 0] 54 (0, 0))) := (number_any b lo v l _ (h.below (below_alloc _ _))).mono fun e w' ⟨h1, h2⟩ => ⟨h1, (EvS.start h h2).1, (EvS.start h h2).2.1⟩
  clear h
  revert hn HN
  generalize (numD l).no = en
  generalize (numD l).val = x
  intro hn HN
  have hn' : (en == 0) = false := by simpa using hn
  go_enter Tryd.func109, Tryd.ntmps109
  go_wp2_with fail
  refine HN.out.mono ?_
  rintro e w1 ⟨rfl, hb, hr⟩
  have HB : Hid (Sans b lo w w1) := hb
  obtain ⟨e0, e1, e2, ef, el⟩ := three_cells hr
  clear hb hr HN
  go_wp2_with fail
  refine bodyPost_ret (v := .tuple #[.agg #[.int .i64 0, .int .i64 0, .slice none 0 0], .int .i64 en]) (by simp [results, Tryd.results109, go_sem, e0, e1, e2]) rfl ?_
  exact ⟨rfl, ((HB.out.put hlo (by simp) _).put hlo (by simp) _).put hlo (by simp) _⟩

theorem number_ev (b lo : Nat) (v : Value) (l : List Int) (w : World) (h : RdAt w lo b v l) (hn : (numD l).no = 0) (n : Int) (r : List Int) (hv : (numD l).val = n) (hr : (numD l).rest = r) :
    Calls Tryd.prog 108 #[.pointer (some ⟨b, 0, none⟩)] (w.alloc (.cells #[.int .i64 0, .int .i64 0, .slice none 0 0] 54)) fun e w' => e = .returned (.tuple #[.int .i64 n, .int .i64 0]) ∧ (0 ≤ n ∧ n < 562949953421312) ∧ ∃ v', EvS w w' lo b v' r := by
  subst hv hr
  exact (number_any b lo v l _ (h.below (below_alloc _ _))).mono fun e w' ⟨h1, h2⟩ => ⟨by rw [h1, hn], h2.val, (EvS.start h h2).2.2 hn⟩

set_option maxHeartbeats 2000000 in
theorem event_one (b lo : Nat) (v : Value) (l : List Int) (last n : Int) (r : List Int) (w : World) (h : RdAt w lo b v l) (hn : (numD l).no = 0) (hv : (numD l).val = n) (hr : (numD l).rest = r) (hk : n % 4 = 1) (hl : 0 ≤ last ∧ last ≤ 1152921504606846976) :
    Calls Tryd.prog 109 #[.pointer (some ⟨b, 0, none⟩), .int .i64 last] w fun e w' => e = .returned (.tuple #[.agg #[.int .i64 (last + n / 4), .int .i64 1, .slice none 0 0], .int .i64 0]) ∧ Sans b lo w w' ∧ ∃ v', RdAt w' lo b v' r := by
  have hlo : lo ≤ w.heap.size := by have := h.own; have := h.lt; omega
  have HN : Hid (Calls Tryd.prog 108 #[.pointer (some ⟨b, 0, none⟩)] (w.alloc (.cells #[.int .i64 0, .int .i64 0, .slice none 0 0] 54)) fun e w' => e = .returned (.tuple #[.int .i64 n, .int .i64 0]) ∧ (0 ≤ n ∧ n < 562949953421312) ∧ ∃ v', EvS w w' lo b v' r) := number_ev b lo v l w h hn n r hv hr
  clear h hn hv hr
  go_enter Tryd.func109, Tryd.ntmps109
  go_wp2_with fail
  refine HN.out.mono ?_
  rintro e w1 ⟨rfl, ⟨hn0, hn1⟩, v1, hs⟩
  have HS : Hid (EvS w w1 lo b v1 r) := hs
  obtain ⟨e0, e1, e2, ef, el⟩ := three_cells hs.res
  clear hs HN
  have hq : Int.tdiv n 4 = n / 4 := Int.tdiv_eq_ediv_of_nonneg hn0
  have hm : Int.tmod n 4 = 1 := by rw [Int.tmod_eq_emod_of_nonneg hn0]; exact hk
  have hw : IntKind.i64.wrap (last + n / 4) = last + n / 4 := IntWalk.i64_in _ (by omega)
  clear hk
  go_wp2_with fail
  refine bodyPost_ret (v := .tuple #[.agg #[.int .i64 (last + n / 4), .int .i64 1, .slice none 0 0], .int .i64 0]) (by simp [results, Tryd.results109, go_sem, e0, e1, e2, el]) rfl ?_
  have hz := HS.out.sans.size
  exact ⟨rfl, (((HS.out.sans.put hlo (by simp) _).put hlo (by simp) _).put hlo (by simp) _).trans (Sans.of_below (below_alloc _ _) (by simp; omega)), v1, (((HS.out.rd.put (by simpa using hlo) (by have := HS.out.blt; simp; omega) _).put (by simpa using hlo) (by have := HS.out.blt; simp; omega) _).put (by simpa using hlo) (by have := HS.out.blt; simp; omega) _).below (below_alloc _ _)⟩

theorem EvX.done {w w2 : World} {lo b x : Nat} {v n : Value} {r : List Int} {a k : Int} (h : EvX w w2 lo b v r x a k n) (hlo : lo ≤ w.heap.size) (u y0 y1 y2 : Value) :
    Sans b lo w ((((w2.setCell ⟨x, 2, none⟩ u).setCell ⟨w.heap.size, 0, none⟩ y0).setCell ⟨w.heap.size, 1, none⟩ y1).setCell ⟨w.heap.size, 2, none⟩ y2) ∧
    RdAt ((((w2.setCell ⟨x, 2, none⟩ u).setCell ⟨w.heap.size, 0, none⟩ y0).setCell ⟨w.heap.size, 1, none⟩ y1).setCell ⟨w.heap.size, 2, none⟩ y2) lo b v r ∧
    ∀ (lo' : Nat) (d : List Int) (z : Value), OwnI w2 lo' z d → OwnI ((((w2.setCell ⟨x, 2, none⟩ u).setCell ⟨w.heap.size, 0, none⟩ y0).setCell ⟨w.heap.size, 1, none⟩ y1).setCell ⟨w.heap.size, 2, none⟩ y2) lo' z d := by
  have hb := h.s.blt
  have hx := h.lt
  refine ⟨(((h.s.sans.put hlo (by simp; omega) _).put hlo (by simp) _).put hlo (by simp) _).put hlo (by simp) _, (((h.s.rd.put (by simp; omega) (by simp; omega) _).put (by simpa using hlo) (by simp; omega) _).put (by simpa using hlo) (by simp; omega) _).put (by simpa using hlo) (by simp; omega) _, fun lo' d z ho => ?_⟩
  have n1 := own_ne ho h.box (by decide)
  have n2 := own_ne ho h.s.res (by decide)
  exact ownsRow_setCell_other (a := ⟨w.heap.size, 2, none⟩) (ownsRow_setCell_other (a := ⟨w.heap.size, 1, none⟩) (ownsRow_setCell_other (a := ⟨w.heap.size, 0, none⟩) (ownsRow_setCell_other (a := ⟨x, 2, none⟩) ho n1 _) n2 _) n2 _) n2 _

set_option maxHeartbeats 2000000 in
theorem event_two (b lo : Nat) (v : Value) (l : List Int) (last n : Int) (r : List Int) (w : World) (h : RdAt w lo b v l) (hL : Laid w) (h0 : 0 < lo) (hn : (numD l).no = 0) (hv : (numD l).val = n) (hr : (numD l).rest = r) (hk : n % 4 = 2) (hl : 0 ≤ last ∧ last ≤ 1152921504606846976) (hg : (runsD 16 [] 0 r).no = 0) :
    Calls Tryd.prog 109 #[.pointer (some ⟨b, 0, none⟩), .int .i64 last] w fun e w' => ∃ u, e = .returned (.tuple #[.agg #[.int .i64 (last + n / 4), .int .i64 2, u], .int .i64 0]) ∧ OwnI w' w.heap.size u (runsD 16 [] 0 r).val ∧ Sans b lo w w' ∧ ∃ v', RdAt w' lo b v' (runsD 16 [] 0 r).rest := by
  have hlo : lo ≤ w.heap.size := by have := h.own; have := h.lt; omega
  have HN : Hid (Calls Tryd.prog 108 #[.pointer (some ⟨b, 0, none⟩)] (w.alloc (.cells #[.int .i64 0, .int .i64 0, .slice none 0 0] 54)) fun e w' => e = .returned (.tuple #[.int .i64 n, .int .i64 0]) ∧ (0 ≤ n ∧ n < 562949953421312) ∧ ∃ v', EvS w w' lo b v' r) := number_ev b lo v l w h hn n r hv hr
  have HG : Hid ((runsD 16 [] 0 r).no = 0) := hg
  have HC : Hid (w.cell? ⟨0, 2, none⟩ = some (.int .i64 16)) := hL.2.2.1
  clear h hn hv hr hg hL
  go_enter Tryd.func109, Tryd.ntmps109
  go_wp2_with fail
  refine HN.out.mono ?_
  rintro e w1 ⟨rfl, ⟨hn0, hn1⟩, v1, hs⟩
  have HX : Hid (EvX w (w1.alloc (.cells #[.int .i64 (last + n / 4), .int .i64 2, .slice none 0 0] 54)) lo b v1 r w1.heap.size (last + n / 4) 2 (.slice none 0 0)) := hs.boxed _ _
  have c2 : w1.cell? ⟨0, 2, none⟩ = some (.int .i64 16) := (hs.sans.old.cell (p := ⟨0, 2, none⟩) h0).trans HC.out
  have el := lt_of_block hs.res
  have hs1 := hs.sans.size
  have h01 : ¬ 0 = w1.heap.size := by omega
  have h02 : 0 < w1.heap.size := by omega
  clear hs HN HC
  have hq : Int.tdiv n 4 = n / 4 := Int.tdiv_eq_ediv_of_nonneg hn0
  have hm : Int.tmod n 4 = 2 := by rw [Int.tmod_eq_emod_of_nonneg hn0]; exact hk
  have hw : IntKind.i64.wrap (last + n / 4) = last + n / 4 := IntWalk.i64_in _ (by omega)
  clear hk
  go_wp2_with fail
  refine (runs_any b lo v1 r _ HX.out.s.rd (by simp; omega)).mono ?_
  rintro e w2 ⟨u, rfl, hq2⟩
  obtain ⟨ho, v2, hr2⟩ := hq2.ok HG.out
  have HX2 : Hid (EvX w w2 lo b v2 (runsD 16 [] 0 r).rest w1.heap.size (last + n / 4) 2 (.slice none 0 0)) := HX.out.on hq2.sans hr2
  have HO : Hid (OwnI w2 w.heap.size u (runsD 16 [] 0 r).val) := ownsRow_mono ho (by simp; omega)
  obtain ⟨A, c, rfl⟩ := ho.shape
  obtain ⟨e0, e1, e2, ef, el2⟩ := three_cells HX2.out.box
  obtain ⟨f0, f1, f2, ff, fl⟩ := three_cells HX2.out.s.res
  have hne : ¬ w.heap.size = w1.heap.size := by omega
  have hne2 : ¬ w1.heap.size = w.heap.size := by omega
  rw [HG.out]
  clear ho hr2 hq2 HX HG c2 h01 h02
  obtain ⟨m, hm2⟩ : ∃ m, m = (runsD 16 [] 0 r).val.length := ⟨_, rfl⟩
  rw [← hm2] at HO ⊢
  clear hm2
  go_wp2_with fail
  refine bodyPost_ret (v := .tuple #[.agg #[.int .i64 (last + n / 4), .int .i64 2, .slice A m c], .int .i64 0]) (by simp [results, Tryd.results109, go_sem, f0, f1, f2]) rfl ?_
  obtain ⟨d1, d2, d3⟩ := HX2.out.done hlo (.slice A m c) (.int .i64 (last + n / 4)) (.int .i64 2) (.slice A m c)
  exact ⟨_, rfl, d3 _ _ _ HO.out, d1, v2, d2⟩

set_option maxHeartbeats 2000000 in
theorem event_two_no (b lo : Nat) (v : Value) (l : List Int) (last n : Int) (r : List Int) (w : World) (h : RdAt w lo b v l) (hL : Laid w) (h0 : 0 < lo) (hn : (numD l).no = 0) (hv : (numD l).val = n) (hr : (numD l).rest = r) (hk : n % 4 = 2) (hl : 0 ≤ last ∧ last ≤ 1152921504606846976) (hg : (runsD 16 [] 0 r).no ≠ 0) :
    Calls Tryd.prog 109 #[.pointer (some ⟨b, 0, none⟩), .int .i64 last] w fun e w' => e = .returned (.tuple #[.agg #[.int .i64 0, .int .i64 0, .slice none 0 0], .int .i64 (runsD 16 [] 0 r).no]) ∧ Sans b lo w w' := by
  have hlo : lo ≤ w.heap.size := by have := h.own; have := h.lt; omega
  have HN : Hid (Calls Tryd.prog 108 #[.pointer (some ⟨b, 0, none⟩)] (w.alloc (.cells #[.int .i64 0, .int .i64 0, .slice none 0 0] 54)) fun e w' => e = .returned (.tuple #[.int .i64 n, .int .i64 0]) ∧ (0 ≤ n ∧ n < 562949953421312) ∧ ∃ v', EvS w w' lo b v' r) := number_ev b lo v l w h hn n r hv hr
  have HG : Hid ((runsD 16 [] 0 r).no ≠ 0) := hg
  have HC : Hid (w.cell? ⟨0, 2, none⟩ = some (.int .i64 16)) := hL.2.2.1
  clear h hn hv hr hg hL
  go_enter Tryd.func109, Tryd.ntmps109
  go_wp2_with fail
  refine HN.out.mono ?_
  rintro e w1 ⟨rfl, ⟨hn0, hn1⟩, v1, hs⟩
  have HX : Hid (EvX w (w1.alloc (.cells #[.int .i64 (last + n / 4), .int .i64 2, .slice none 0 0] 54)) lo b v1 r w1.heap.size (last + n / 4) 2 (.slice none 0 0)) := hs.boxed _ _
  have c2 : w1.cell? ⟨0, 2, none⟩ = some (.int .i64 16) := (hs.sans.old.cell (p := ⟨0, 2, none⟩) h0).trans HC.out
  have el := lt_of_block hs.res
  have hs1 := hs.sans.size
  have h01 : ¬ 0 = w1.heap.size := by omega
  have h02 : 0 < w1.heap.size := by omega
  clear hs HN HC
  have hq : Int.tdiv n 4 = n / 4 := Int.tdiv_eq_ediv_of_nonneg hn0
  have hm : Int.tmod n 4 = 2 := by rw [Int.tmod_eq_emod_of_nonneg hn0]; exact hk
  have hw : IntKind.i64.wrap (last + n / 4) = last + n / 4 := IntWalk.i64_in _ (by omega)
  clear hk
  go_wp2_with fail
  refine (runs_any b lo v1 r _ HX.out.s.rd (by simp; omega)).mono ?_
  rintro e w2 ⟨u, rfl, hq2⟩
  obtain rfl := hq2.no HG.out
  have hbl := HX.out.s.blt
  have hbx : w2.heap[w1.heap.size]? = some (.cells #[.int .i64 (last + n / 4), .int .i64 2, .slice none 0 0] 54 (0, 0)) := by rw [hq2.sans.block _ (by simp) (by omega)]; exact HX.out.box
  have hrs : w2.heap[w.heap.size]? = some (.cells #[.int .i64 0, .int .i64 0, .slice none 0 0] 54 (0, 0)) := by rw [hq2.sans.block _ (by simp; omega) (by omega)]; exact HX.out.s.res
  obtain ⟨e0, e1, e2, ef, el2⟩ := three_cells hbx
  obtain ⟨f0, f1, f2, ff, fl⟩ := three_cells hrs
  have HB : Hid (Sans b lo w w2) := HX.out.s.sans.trans hq2.sans
  have hne : ¬ w.heap.size = w1.heap.size := by omega
  have hne2 : ¬ w1.heap.size = w.heap.size := by omega
  have hgg := HG.out
  clear hq2 HX HG c2 h01 h02 hbx hrs
  obtain ⟨en, hen⟩ : ∃ en, en = (runsD 16 [] 0 r).no := ⟨_, rfl⟩
  have HE : Hid (en = (runsD 16 [] 0 r).no) := hen
  rw [← hen] at hgg ⊢
  clear hen
  have hen' : (en == 0) = false := by simpa using hgg
  go_wp2_with fail
  refine bodyPost_ret (v := .tuple #[.agg #[.int .i64 0, .int .i64 0, .slice none 0 0], .int .i64 en]) (by simp [results, Tryd.results109, go_sem, f0, f1, f2]) rfl ?_
  exact ⟨by rw [HE.out], (((HB.out.put hlo (by simp; omega) _).put hlo (by simp) _).put hlo (by simp) _).put hlo (by simp) _⟩

set_option maxHeartbeats 2000000 in
theorem event_three (b lo : Nat) (v : Value) (l : List Int) (last n : Int) (r : List Int) (w : World) (h : RdAt w lo b v l) (hn : (numD l).no = 0) (hv : (numD l).val = n) (hr : (numD l).rest = r) (hk : n % 4 = 3) (hl : 0 ≤ last ∧ last ≤ 1152921504606846976) (hg : (numD r).no = 0) :
    Calls Tryd.prog 109 #[.pointer (some ⟨b, 0, none⟩), .int .i64 last] w fun e w' => ∃ u, e = .returned (.tuple #[.agg #[.int .i64 (last + n / 4), .int .i64 3, u], .int .i64 0]) ∧ OwnI w' w.heap.size u [anyK (numD r).val] ∧ Sans b lo w w' ∧ ∃ v', RdAt w' lo b v' (numD r).rest := by
  have hlo : lo ≤ w.heap.size := by have := h.own; have := h.lt; omega
  have HN : Hid (Calls Tryd.prog 108 #[.pointer (some ⟨b, 0, none⟩)] (w.alloc (.cells #[.int .i64 0, .int .i64 0, .slice none 0 0] 54)) fun e w' => e = .returned (.tuple #[.int .i64 n, .int .i64 0]) ∧ (0 ≤ n ∧ n < 562949953421312) ∧ ∃ v', EvS w w' lo b v' r) := number_ev b lo v l w h hn n r hv hr
  have HG : Hid ((numD r).no = 0) := hg
  clear h hn hv hr hg
  go_enter Tryd.func109, Tryd.ntmps109
  go_wp2_with fail
  refine HN.out.mono ?_
  rintro e w1 ⟨rfl, ⟨hn0, hn1⟩, v1, hs⟩
  have HX : Hid (EvX w (w1.alloc (.cells #[.int .i64 (last + n / 4), .int .i64 3, .slice none 0 0] 54)) lo b v1 r w1.heap.size (last + n / 4) 3 (.slice none 0 0)) := hs.boxed _ _
  have el := lt_of_block hs.res
  have hs1 := hs.sans.size
  clear hs HN
  have hq : Int.tdiv n 4 = n / 4 := Int.tdiv_eq_ediv_of_nonneg hn0
  have hm : Int.tmod n 4 = 3 := by rw [Int.tmod_eq_emod_of_nonneg hn0]; exact hk
  have hw : IntKind.i64.wrap (last + n / 4) = last + n / 4 := IntWalk.i64_in _ (by omega)
  clear hk
  go_wp2_with fail
  refine (word_ok b lo v1 r _ HX.out.s.rd HG.out).mono ?_
  rintro e w2 ⟨g, v2, rfl, ho, hr2, hq2⟩
  have HX2 : Hid (EvX w w2 lo b v2 (numD r).rest w1.heap.size (last + n / 4) 3 (.slice none 0 0)) := HX.out.on hq2 hr2
  have HO : Hid (OwnI w2 w.heap.size (.slice (some ⟨g, 0, none⟩) 1 1) [anyK (numD r).val]) := ownsRow_mono ho (by simp; omega)
  obtain ⟨e0, e1, e2, ef, el2⟩ := three_cells HX2.out.box
  obtain ⟨f0, f1, f2, ff, fl⟩ := three_cells HX2.out.s.res
  have hne : ¬ w.heap.size = w1.heap.size := by omega
  have hne2 : ¬ w1.heap.size = w.heap.size := by omega
  clear ho hr2 hq2 HX HG
  go_wp2_with fail
  refine bodyPost_ret (v := .tuple #[.agg #[.int .i64 (last + n / 4), .int .i64 3, .slice (some ⟨g, 0, none⟩) 1 1], .int .i64 0]) (by simp [results, Tryd.results109, go_sem, f0, f1, f2]) rfl ?_
  obtain ⟨d1, d2, d3⟩ := HX2.out.done hlo (.slice (some ⟨g, 0, none⟩) 1 1) (.int .i64 (last + n / 4)) (.int .i64 3) (.slice (some ⟨g, 0, none⟩) 1 1)
  exact ⟨_, rfl, d3 _ _ _ HO.out, d1, v2, d2⟩

set_option maxHeartbeats 2000000 in
theorem event_three_no (b lo : Nat) (v : Value) (l : List Int) (last n : Int) (r : List Int) (w : World) (h : RdAt w lo b v l) (hn : (numD l).no = 0) (hv : (numD l).val = n) (hr : (numD l).rest = r) (hk : n % 4 = 3) (hl : 0 ≤ last ∧ last ≤ 1152921504606846976) (hg : (numD r).no ≠ 0) :
    Calls Tryd.prog 109 #[.pointer (some ⟨b, 0, none⟩), .int .i64 last] w fun e w' => e = .returned (.tuple #[.agg #[.int .i64 0, .int .i64 0, .slice none 0 0], .int .i64 (numD r).no]) ∧ Sans b lo w w' := by
  have hlo : lo ≤ w.heap.size := by have := h.own; have := h.lt; omega
  have HN : Hid (Calls Tryd.prog 108 #[.pointer (some ⟨b, 0, none⟩)] (w.alloc (.cells #[.int .i64 0, .int .i64 0, .slice none 0 0] 54)) fun e w' => e = .returned (.tuple #[.int .i64 n, .int .i64 0]) ∧ (0 ≤ n ∧ n < 562949953421312) ∧ ∃ v', EvS w w' lo b v' r) := number_ev b lo v l w h hn n r hv hr
  have HG : Hid ((numD r).no ≠ 0) := hg
  clear h hn hv hr hg
  go_enter Tryd.func109, Tryd.ntmps109
  go_wp2_with fail
  refine HN.out.mono ?_
  rintro e w1 ⟨rfl, ⟨hn0, hn1⟩, v1, hs⟩
  have HX : Hid (EvX w (w1.alloc (.cells #[.int .i64 (last + n / 4), .int .i64 3, .slice none 0 0] 54)) lo b v1 r w1.heap.size (last + n / 4) 3 (.slice none 0 0)) := hs.boxed _ _
  have el := lt_of_block hs.res
  have hs1 := hs.sans.size
  clear hs HN
  have hq : Int.tdiv n 4 = n / 4 := Int.tdiv_eq_ediv_of_nonneg hn0
  have hm : Int.tmod n 4 = 3 := by rw [Int.tmod_eq_emod_of_nonneg hn0]; exact hk
  have hw : IntKind.i64.wrap (last + n / 4) = last + n / 4 := IntWalk.i64_in _ (by omega)
  clear hk
  go_wp2_with fail
  refine (word_no b lo v1 r _ HX.out.s.rd HG.out).mono ?_
  rintro e w2 ⟨rfl, hq2⟩
  have hbl := HX.out.s.blt
  have hbx : w2.heap[w1.heap.size]? = some (.cells #[.int .i64 (last + n / 4), .int .i64 3, .slice none 0 0] 54 (0, 0)) := by rw [hq2.block _ (by simp) (by omega)]; exact HX.out.box
  have hrs : w2.heap[w.heap.size]? = some (.cells #[.int .i64 0, .int .i64 0, .slice none 0 0] 54 (0, 0)) := by rw [hq2.block _ (by simp; omega) (by omega)]; exact HX.out.s.res
  obtain ⟨e0, e1, e2, ef, el2⟩ := three_cells hbx
  obtain ⟨f0, f1, f2, ff, fl⟩ := three_cells hrs
  have HB : Hid (Sans b lo w w2) := HX.out.s.sans.trans hq2
  have hne : ¬ w.heap.size = w1.heap.size := by omega
  have hne2 : ¬ w1.heap.size = w.heap.size := by omega
  have hgg := HG.out
  clear hq2 HX HG hbx hrs
  obtain ⟨en, hen⟩ : ∃ en, en = (numD r).no := ⟨_, rfl⟩
  have HE : Hid (en = (numD r).no) := hen
  rw [← hen] at hgg ⊢
  clear hen
  have hen' : (en == 0) = false := by simpa using hgg
  go_wp2_with fail
  refine bodyPost_ret (v := .tuple #[.agg #[.int .i64 0, .int .i64 0, .slice none 0 0], .int .i64 en]) (by simp [results, Tryd.results109, go_sem, f0, f1, f2]) rfl ?_
  exact ⟨by rw [HE.out], (((HB.out.put hlo (by simp; omega) _).put hlo (by simp) _).put hlo (by simp) _).put hlo (by simp) _⟩

set_option maxHeartbeats 2000000 in
theorem event_zero (b lo : Nat) (v : Value) (l : List Int) (last n : Int) (r : List Int) (w : World) (h : RdAt w lo b v l) (hn : (numD l).no = 0) (hv : (numD l).val = n) (hr : (numD l).rest = r) (hk : n % 4 = 0) (hl : 0 ≤ last ∧ last ≤ 1152921504606846976) :
    Calls Tryd.prog 109 #[.pointer (some ⟨b, 0, none⟩), .int .i64 last] w fun e w' => e = .returned (.tuple #[.agg #[.int .i64 0, .int .i64 0, .slice none 0 0], .int .i64 3]) ∧ Sans b lo w w' := by
  have hlo : lo ≤ w.heap.size := by have := h.own; have := h.lt; omega
  have HN : Hid (Calls Tryd.prog 108 #[.pointer (some ⟨b, 0, none⟩)] (w.alloc (.cells #[.int .i64 0, .int .i64 0, .slice none 0 0] 54)) fun e w' => e = .returned (.tuple #[.int .i64 n, .int .i64 0]) ∧ (0 ≤ n ∧ n < 562949953421312) ∧ ∃ v', EvS w w' lo b v' r) := number_ev b lo v l w h hn n r hv hr
  clear h hn hv hr
  go_enter Tryd.func109, Tryd.ntmps109
  go_wp2_with fail
  refine HN.out.mono ?_
  rintro e w1 ⟨rfl, ⟨hn0, hn1⟩, v1, hs⟩
  have HS : Hid (EvS w w1 lo b v1 r) := hs
  obtain ⟨e0, e1, e2, ef, el⟩ := three_cells hs.res
  clear hs HN
  have hq : Int.tdiv n 4 = n / 4 := Int.tdiv_eq_ediv_of_nonneg hn0
  have hm : Int.tmod n 4 = 0 := by rw [Int.tmod_eq_emod_of_nonneg hn0]; exact hk
  have hw : IntKind.i64.wrap (last + n / 4) = last + n / 4 := IntWalk.i64_in _ (by omega)
  clear hk
  go_wp2_with fail
  refine bodyPost_ret (v := .tuple #[.agg #[.int .i64 0, .int .i64 0, .slice none 0 0], .int .i64 3]) (by simp [results, Tryd.results109, go_sem, e0, e1, e2, el]) rfl ?_
  have hz := HS.out.sans.size
  exact ⟨rfl, (((HS.out.sans.put hlo (by simp) _).put hlo (by simp) _).put hlo (by simp) _).trans (Sans.of_below (below_alloc _ _) (by simp; omega))⟩

end Go.Proofs.YtbjlfhpiebokkaaDoor
