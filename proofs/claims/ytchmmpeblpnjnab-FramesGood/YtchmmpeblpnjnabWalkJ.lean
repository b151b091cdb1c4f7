/- Contract of hourglassref.FramesCopy: the same frames in new memory. -/
import Derived.Test.YtchmmpeblpnjnabMake
import Derived.Test.YtchmmpeblpnjnabWalkE
import Derived.Deep.AppendLies
import Derived.Deep.RegionLaw
namespace Go.Proofs.Ytchmmpeblpnjnab
open Go.RowKit

theorem MakeInv.below {w wr w1 : World} {r b : Nat} {D : List (List Int)} {R : List Int} {dv rv : Value} {rows : List Value} (h : MakeInv w r b D R dv rv rows wr) (hb : Below wr.heap.size wr w1) : MakeInv w r b D R dv rv rows w1 := by
  obtain ⟨x, y, hres⟩ := h.res
  exact ⟨h.old.trans (hb.mono h.old.size), h.lo, ⟨x, y, by rw [hb.block _ (lt_of_block hres)]; exact hres⟩, by rw [hb.block _ (lt_of_block h.box)]; exact h.box, h.own.below hb⟩

theorem copyRef_start {w w1 : World} {dA rB rv : Value} {R : List Int} (hb : Below ((w.alloc (.cells #[dA, rB] 25)).alloc (.cells #[nilv, nilv] 25)).heap.size ((w.alloc (.cells #[dA, rB] 25)).alloc (.cells #[nilv, nilv] 25)) w1)
    (hv : OwnI w1 ((w.alloc (.cells #[dA, rB] 25)).alloc (.cells #[nilv, nilv] 25)).heap.size rv R) :
    MakeInv w (w.heap.size + 1) w1.heap.size [] R nilv rv [] (w1.alloc (.cells #[nilv, rv] 25)) ∧ w1.heap[w.heap.size]? = some (.cells #[dA, rB] 25 (0, 0)) := by
  have hs := hb.size
  simp only [World.size_alloc] at hs
  have hbox : w1.heap[w.heap.size]? = some (.cells #[dA, rB] 25 (0, 0)) := by
    rw [hb.block _ (by simp; omega), Go.Deep.blk_alloc_lt _ _ _ (by simp), Go.Deep.blk_alloc_new]
  have hres : w1.heap[w.heap.size + 1]? = some (.cells #[nilv, nilv] 25 (0, 0)) := by
    rw [hb.block _ (by simp)]
    have := Go.Deep.blk_alloc_new (w.alloc (.cells #[dA, rB] 25)) (.cells #[nilv, nilv] 25)
    simpa using this
  refine ⟨⟨?_, ⟨by omega, by omega, by omega⟩, ⟨nilv, nilv, ?_⟩, Go.Deep.blk_alloc_new _ _, ?_⟩, hbox⟩
  · exact ((((below_alloc _ _).alloc (by simp) _).trans (hb.mono (by simp; omega))).alloc (by omega) _)
  · rw [Go.Deep.blk_alloc_lt _ _ _ (by omega)]; exact hres
  · exact ⟨(OwnF.empty _ _).dat, ownsRow_mono (hv.below (below_alloc _ _)) (by simp; omega), fun i hi => by simp at hi⟩

theorem far_cell {w2 w3 : World} {o : Obj} {dv v : Value} {p : Addr} (hg : (w2.alloc o).grownBy w3 dv.ownBlock) (hne : dv.ownBlock ≠ some p.block) (hc : w2.cell? p = some v) : w3.cell? p = some v :=
  hg.cell ((World.cell?_alloc_lt _ _ _ (World.block_lt_of_cell? _ _ hc)).trans hc) (fun e => hne e.symm)

theorem MakeInv.top {w wr : World} {r b k : Nat} {D : List (List Int)} {R : List Int} {dv rv : Value} {rows : List Value} (h : MakeInv w r b (D.take k) R dv rv rows wr) (hk : k ≤ D.length) : wr.ownsRow w.heap.size 23 1 dv k rows := by
  have := h.own.dat.top
  rwa [List.length_take, Nat.min_eq_left hk] at this

theorem copyRef_step {w wr w2 w3 : World} {r b k s : Nat} {D : List (List Int)} {R row : List Int} {dv rv dv' u x y : Value} {rows : List Value} (h : MakeInv w r b (D.take k) R dv rv rows wr) (hk : k < D.length) (hrow : row = D.getD k []) (hs : wr.heap[s]? = some (.cells #[x, y] 25 (0, 0))) (hsb : s ≠ b) (hb : Below wr.heap.size wr w2) (hu : OwnI w2 wr.drew.heap.size u row)
    {o : Obj} (hg : (w2.alloc o).grownBy w3 dv.ownBlock) (ho : w3.ownsRow w.heap.size 23 1 dv' (k + 1) (rows ++ [u])) :
    w3.heap[b]? = some (.cells #[dv, rv] 25 (0, 0)) ∧ MakeInv w r b (D.take (k + 1)) R dv' rv (rows ++ [u]) (w3.setCell ⟨b, 0, none⟩ dv') ∧ (w3.setCell ⟨b, 0, none⟩ dv').heap[s]? = some (.cells #[x, y] 25 (0, 0)) := by
  have hu' : OwnI w2 wr.heap.size u row := hu
  have hlen : (D.take k).length = k := by simp; omega
  have e : D.take (k + 1) = D.take k ++ [row] := by
    rw [hrow, List.take_succ_eq_append_getElem hk]; simp [List.getD, hk]
  rw [e]
  obtain ⟨h1, h2⟩ := (h.below hb).snocD (ownsRow_mono hu' h.old.size) (fun j hj g hg e => by
    have h1 := (World.ownsRow.lt (h.own.dat.each j hj) g e).2
    have h2 := (World.ownsRow.lt hu' g hg).1
    omega) (fun g hg e => by
    have h1 := (World.ownsRow.lt h.own.ref g hg).2
    have h2 := (World.ownsRow.lt hu' g e).1
    omega) o hg (by rw [hlen]; exact ho)
  refine ⟨h1, h2, ?_⟩
  rw [Go.Deep.blk_setCell_other _ _ _ _ hsb]
  refine block_grown ?_ hg (own_ne h.own.dat.top hs (by decide))
  rw [Go.Deep.blk_alloc_lt _ _ _ (Nat.lt_of_lt_of_le (lt_of_block hs) hb.size), hb.block _ (lt_of_block hs)]
  exact hs

set_option maxRecDepth 100000 in
set_option maxHeartbeats 1000000 in
theorem FramesCopy_some (dv rv : Value) (D : List (List Int)) (R : List Int) (w : World) (hd : RowsAt w dv D) (hr : IntsAt w rv R) :
    Calls Try.prog 10 #[.agg #[dv, rv]] w fun e w' => ∃ dv' rv' rows, e = .returned (.agg #[dv', rv']) ∧ OwnF w' w.heap.size dv' rv' rows D R ∧ Below w.heap.size w w' := by
  obtain ⟨i1, hi1, hz10, hz11, hz12⟩ := info_parts infoInts
  have HR : Hid (IntsAt w rv R) := hr
  obtain ⟨A, ca, rfl, hla, hca⟩ := hd
  obtain ⟨B, cb, rfl, hlb, hcb⟩ := hr
  clear hcb
  go_enter Try.func10, Try.ntmps10
  go_wp2_with fail
  refine (words_any _ R _ ((HR.out.below (below_alloc _ _)).below (below_alloc _ _))).mono ?_
  rintro e w1 ⟨A2, c2, rfl, hv1, hb1⟩
  obtain ⟨hst, hbx⟩ := copyRef_start hb1 hv1
  have HST : Hid (_) := hst
  obtain ⟨hx0, hx1, hxf, hxl⟩ := two_cells hbx
  have HBX : Hid (_) := hbx
  clear hst hbx hv1 hb1
  go_wp2_with fail
  go_loopw [4] (fun i wr => ∃ k dv rows, k ≤ D.length ∧ i = .int .i64 (k : Nat) ∧ MakeInv w (w.heap.size + 1) w1.heap.size (D.take k) R dv (.slice A2 R.length c2) rows wr ∧ wr.heap[w.heap.size]? = some (.cells #[.slice A D.length ca, .slice B R.length cb] 25 (0, 0))) (fun i _ => D.length - (intOf i).toNat)
  case atStart => exact ⟨0, nilv, [], Nat.zero_le _, rfl, HST.out, by rw [Go.Deep.blk_alloc_lt _ _ _ hxl]; exact HBX.out⟩
  case round =>
    have hww : w.heap.size < w1.heap.size := hxl
    clear hx0 hx1 hxf hxl HST HBX
    obtain ⟨k, dv, rows, hk, rfl, hinv, hbx⟩ := hrel
    obtain ⟨hx0, hx1, hxf, hxl⟩ := two_cells hbx
    obtain ⟨hy0, hy1, hyf, hyl⟩ := two_cells hinv.box
    by_cases hlt : k < D.length
    · obtain ⟨b, off, rfl, hbs, hcell⟩ := hca (by omega)
      obtain ⟨u, h1, hrow⟩ := hcell k hlt
      obtain ⟨row, hrowe⟩ : ∃ row, row = D.getD k [] := ⟨_, rfl⟩
      rw [← hrowe] at hrow
      have HROW : Hid (row = D.getD k []) := hrowe
      have h2 : wr.cell? ⟨b, off + k, none⟩ = some u := (hinv.old.cell (p := ⟨b, off + k, none⟩) hbs).trans h1
      have hrow2 : Hid (IntsAt wr u row) := hrow.below hinv.old
      obtain ⟨A1, cc, rfl, hl8, h3⟩ := hrow
      have hlt1 : (0 : Int) ≤ (k : Int) := by omega
      have hlt2 : (k : Int) < (D.length : Int) := by omega
      have hbs2 : b < wr.heap.size := Nat.lt_of_lt_of_le hbs hinv.old.size
      have HI : Hid (_) := hinv
      have HB : Hid (_) := hbx
      clear h3 hcell hca h1 hrowe hinv hbx
      go_wp2_with fail
      have ag : Hid (dv.ownBlock ≠ some w1.heap.size) := own_ne HI.out.own.dat.top HI.out.box (by decide)
      have ak : Hid (dv.ownBlock ≠ some w.heap.size) := own_ne HI.out.own.dat.top HB.out (by decide)
      have av : Hid (dv.ownBlock ≠ some b) := fun e => by have := (HI.out.own.dat.top.lt b e).1; omega
      go_region_law
        (first
          | (refine step_append_lies _ (by rfl) _ _ _ (by rfl) w.heap.size 23 i1 nilv 1 24 Try.underlying22 hi1 hz10 hz11 hz12 rfl (by decide) dv k rows (by rfl) ((HI2.out.top (by omega)).alloc _) ⟨w2.heap.size, 0, none⟩ 1 1 [.slice A3 row.length c3] (by rfl) (by rfl) (cell_one_new _ _ _) (by intro u hu; simp at hu; subst hu; rfl) (by decide) (by unfold maxLen; omega) (by omega) (by simp; have := HI.out.old.size; omega) (w2.heap.size + 1) (by simp) ?_; intro g cap w3 hown3 hgrow hat hlt3; obtain ⟨hb4, hinv4⟩ := copyRef_step HI.out hlt HROW.out HB.out (by omega) hb3 hv2 hgrow hown3; have HI4 : Hid (_) := hinv4; obtain ⟨hp0, hp1, hpf, hpl⟩ := two_cells hb4; clear hinv4)
          | (go_simp; go_at_call 25; refine (words_any _ row _ (by exact hrow2.out)).mono ?_; rintro e w2 ⟨A3, c3, rfl, hv2, hb2⟩; have HB2 : Hid (_) := hb2; have hb3 : Below wr.heap.size wr w2 := ((Below.refl _ wr).drew).trans hb2; have hs2 := hb3.size; have hyl2 : w1.heap.size < w2.heap.size := Nat.lt_of_lt_of_le hyl hs2; have hxl2 : w.heap.size < w2.heap.size := Nat.lt_of_lt_of_le hxl hs2; have hbl2 : b < w2.heap.size := Nat.lt_of_lt_of_le hbs2 hs2; have hy2 : w2.cell? ⟨w1.heap.size, 0, none⟩ = some dv := (hb3.cell (p := ⟨w1.heap.size, 0, none⟩) hyl).trans hy0; have hinv2 := HI.out.below hb3; have HI2 : Hid (_) := hinv2; clear hinv2))
      all_goals
        go_wp2
        refine ⟨⟨k + 1, _, _, by omega, by go_num, HI4.out.1, HI4.out.2⟩, ?_⟩
        simp [intOf]; omega
    · clear hca
      obtain ⟨x, y, hres⟩ := hinv.res
      obtain ⟨hz0, hz1, hzf, hzl⟩ := two_cells hres
      have e : D.take k = D := List.take_of_length_le (by omega)
      rw [e] at hinv
      obtain ⟨A', c', _, _, rfl, _⟩ := hinv.own.shape
      have HI : Hid (_) := hinv
      clear hinv e
      go_wp2
      refine bodyPost_ret (v := .agg #[.slice A' D.length c', .slice A2 R.length c2]) (by simp [results, Try.results10, go_sem, hz0, hz1]) rfl ⟨_, _, _, rfl, OwnF.store2 HI.out.own hres (by decide) (by decide) _ _, (HI.out.old.setCell (by simp) _).setCell (by simp) _⟩

theorem FramesCopy_any (dv rv : Value) (D : List (List Int)) (R : List Int) (w : World) (hd : RowsAt w dv D) (hr : IntsAt w rv R) :
    Calls Try.prog 10 #[.agg #[dv, rv]] w fun e w' => ∃ A c B c' rows, e = .returned (.agg #[.slice A D.length c, .slice B R.length c']) ∧ OwnF w' w.heap.size (.slice A D.length c) (.slice B R.length c') rows D R ∧ Below w.heap.size w w' :=
  (FramesCopy_some dv rv D R w hd hr).mono fun e w' ⟨dv', rv', rows, he, ho, hb⟩ => by
    obtain ⟨A, c, B, c', rfl, rfl⟩ := ho.shape
    exact ⟨A, c, B, c', rows, he, ho, hb⟩

end Go.Proofs.Ytchmmpeblpnjnab
