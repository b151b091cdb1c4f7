/- Contract of frames.Take. -/
import Derived.Test.YtlcdefpdahjjeafWalkC
import Derived.Test.YtlcdefpdahjjeafNum
import Derived.Test.YtlcdefpdahjjeafWalkH
import Derived.Test.YtlcdefpdahjjeafWalkK
namespace Go.Proofs.Ytlcdefpdahjjeaf
open Go.RowKit

/-- Frames, a place and an error are answered, in new memory. -/
def Res3 (w : World) (D : List (List Int)) (R : List Int) (i er : Int) (e : Ending) (w' : World) : Prop :=
  ∃ A c B c', e = .returned (.tuple #[.agg #[.slice A D.length c, .slice B R.length c'], .int .i64 i, .int .i64 er]) ∧ RowsLo w.heap.size w' (.slice A D.length c) D ∧ IntsLo w.heap.size w' (.slice B R.length c') R ∧ Below w.heap.size w w'
/-- Frames and an error are answered, in new memory. -/
def Res2 (w : World) (D : List (List Int)) (R : List Int) (er : Int) (e : Ending) (w' : World) : Prop :=
  ∃ A c B c', e = .returned (.tuple #[.agg #[.slice A D.length c, .slice B R.length c'], .int .i64 er]) ∧ RowsLo w.heap.size w' (.slice A D.length c) D ∧ IntsLo w.heap.size w' (.slice B R.length c') R ∧ Below w.heap.size w w'

theorem res3_none {w w' : World} {er : Int} (hb : Below w.heap.size w w') : Res3 w [] [] 0 er (.returned (.tuple #[.agg #[nilv, nilv], .int .i64 0, .int .i64 er])) w' :=
  ⟨none, 0, none, 0, rfl, RowsLo.nil _ _, IntsLo.nil _ _, hb⟩
theorem res2_none {w w' : World} {er : Int} (hb : Below w.heap.size w w') : Res2 w [] [] er (.returned (.tuple #[.agg #[nilv, nilv], .int .i64 er])) w' :=
  ⟨none, 0, none, 0, rfl, RowsLo.nil _ _, IntsLo.nil _ _, hb⟩

set_option maxHeartbeats 400000 in
theorem Take_bad (dv rv : Value) (D : List (List Int)) (R : List Int) (w : World) (hd : RowsAt w dv D) (hr : IntsAt w rv R) (hm : ¬ May D R) :
    Calls Try.prog 33 #[.agg #[dv, rv]] w fun e w' => Res3 w [] [] 0 8 e w' := by
  have HN : Hid (mayNo D R = 8) := mayNo_no hm
  go_enter Try.func33, Try.ntmps33
  go_wp2_with fail
  refine (Check_any dv rv D R _ ((hd.below (below_alloc _ _)).below (below_alloc _ _)) ((hr.below (below_alloc _ _)).below (below_alloc _ _))).mono ?_
  rw [HN.out]
  rintro e w1 ⟨rfl, hb1⟩
  obtain ⟨hbx, hrs, hb⟩ := two_boxes hb1
  obtain ⟨hx0, hx1, hxf, hxl⟩ := two_cells hrs
  go_wp2
  exact bodyPost_ret (v := .tuple #[.agg #[nilv, nilv], .int .i64 0, .int .i64 8]) (by simp [results, Try.results33, go_sem, hx0, hx1]) rfl (res3_none ((hb.setCell (by simp) _).setCell (by simp) _))

set_option maxHeartbeats 400000 in
theorem Take_full (dv rv : Value) (D : List (List Int)) (R : List Int) (w : World) (hd : RowsAt w dv D) (hr : IntsAt w rv R) (hm : May D R) (hn : NoneFree R) :
    Calls Try.prog 33 #[.agg #[dv, rv]] w fun e w' => Res3 w [] [] 0 7 e w' := by
  have HN : Hid (mayNo D R = 0) := mayNo_yes hm
  have HF : Hid (NoneFree R) := hn
  clear hm hn
  go_enter Try.func33, Try.ntmps33
  go_wp2_with fail
  refine (Check_any dv rv D R _ ((hd.below (below_alloc _ _)).below (below_alloc _ _)) ((hr.below (below_alloc _ _)).below (below_alloc _ _))).mono ?_
  rw [HN.out]
  rintro e w1 ⟨rfl, hb1⟩
  obtain ⟨hbx, hrs, hb⟩ := two_boxes hb1
  obtain ⟨hx0, hx1, hxf, hxl⟩ := two_cells hbx
  go_wp2_with fail
  refine (firstFree_no dv rv R _ (hr.below hb) HF.out).mono ?_
  rintro e w2 ⟨rfl, hb2⟩
  rw [← hb2.block _ (lt_of_block hrs)] at hrs
  have hb3 : Below w.heap.size w w2 := hb.trans (hb2.mono hb.size)
  obtain ⟨hy0, hy1, hyf, hyl⟩ := two_cells hrs
  clear hx0 hx1 hxf hxl
  go_wp2
  exact bodyPost_ret (v := .tuple #[.agg #[nilv, nilv], .int .i64 0, .int .i64 7]) (by simp [results, Try.results33, go_sem, hy0, hy1]) rfl (res3_none ((hb3.setCell (by simp) _).setCell (by simp) _))

theorem take_fin {w3 : World} {lo gd gr c c' k r : Nat} {rows : List Value} {D : List (List Int)} {R : List Int} {x y : Value} (h : OwnF w3 lo (.slice (some ⟨gd, 0, none⟩) D.length c) (.slice (some ⟨gr, 0, none⟩) R.length c') rows D R) (hlo : lo ≤ w3.heap.size) (hkD : k < D.length)
    (hgd : gd < w3.heap.size) (hgr : gr < w3.heap.size) (hres : w3.heap[r]? = some (.cells #[x, y] 44 (0, 0))) (u u' : Value) (o : Obj) :
    OwnF ((((((w3.setCell ⟨gr, k, none⟩ (.int .i64 1)).setCell ⟨gd, k, none⟩ (.slice (some ⟨w3.heap.size + 1, 0, none⟩) 16 16)).setCell ⟨r, 0, none⟩ u).setCell ⟨r, 1, none⟩ u').alloc o).alloc (.cells (madeCells #[.int .i64 0] 16) 3))
      lo (.slice (some ⟨gd, 0, none⟩) D.length c) (.slice (some ⟨gr, 0, none⟩) R.length c') (rows.set k (.slice (some ⟨w3.heap.size + 1, 0, none⟩) 16 16)) (D.set k (List.replicate 16 0)) (R.set k 1) := by
  have hr := lt_of_block hres
  have e : ((((((w3.setCell ⟨gr, k, none⟩ (.int .i64 1)).setCell ⟨gd, k, none⟩ (.slice (some ⟨w3.heap.size + 1, 0, none⟩) 16 16)).setCell ⟨r, 0, none⟩ u).setCell ⟨r, 1, none⟩ u').alloc o).alloc (.cells (madeCells #[.int .i64 0] 16) 3)) =
      ((((((w3.alloc o).alloc (.cells (madeCells #[.int .i64 0] 16) 3)).setCell ⟨gr, k, none⟩ (.int .i64 1)).setCell ⟨gd, k, none⟩ (.slice (some ⟨w3.heap.size + 1, 0, none⟩) 16 16)).setCell ⟨r, 0, none⟩ u).setCell ⟨r, 1, none⟩ u') := by
    simp (disch := (first | omega | (simp; omega))) only [World.setCell_alloc_past]
  rw [e]
  have hb0 : Below w3.heap.size w3 ((w3.alloc o).alloc (.cells (madeCells #[.int .i64 0] 16) 3)) := (below_alloc _ _).alloc (by simp) _
  have hnew : ((w3.alloc o).alloc (.cells (madeCells #[.int .i64 0] 16) 3)).heap[w3.heap.size + 1]? = some (.cells (madeCells #[.int .i64 0] 16) 3 (0, 0)) := by
    have := Go.Deep.blk_alloc_new (w3.alloc o) (.cells (madeCells #[.int .i64 0] 16) 3)
    simpa using this
  have hu : OwnI ((w3.alloc o).alloc (.cells (madeCells #[.int .i64 0] 16) 3)) lo (.slice (some ⟨w3.heap.size + 1, 0, none⟩) 16 16) (List.replicate 16 0) := OwnI.madeZ (by omega) (by decide) hnew
  have hF := (h.below hb0).putRef (i := k) 1
  have hu2 := ownsRow_setCell_other (a := ⟨gr, k, none⟩) hu (by simp [Value.ownBlock]; omega) (.int .i64 1)
  have hF2 := hF.putRow hkD hu2 (fun j hj _ g hg => by
      simp [Value.ownBlock] at hg
      intro e2
      have := (World.ownsRow.lt (h.dat.each j hj) g e2).2
      omega) (fun g hg => by
      simp [Value.ownBlock] at hg ⊢
      omega)
  refine hF2.store2 (x := x) (y := y) (t := 44) ?_ (by decide) (by decide) u u'
  have n1 : r ≠ gr := fun e2 => by
    subst e2
    exact own_ne h.ref hres (by decide) rfl
  have n2 : r ≠ gd := fun e2 => by
    subst e2
    exact own_ne h.dat.top hres (by decide) rfl
  rw [Go.Deep.blk_setCell_other _ _ _ _ n2, Go.Deep.blk_setCell_other _ _ _ _ n1, hb0.block _ hr]
  exact hres

theorem set_bounds {D : List (List Int)} {k : Nat} {l : List Int} (h1 : D.length * 24 ≤ 140737488351232) (h2 : ∀ i, i < D.length → (D.getD i []).length * 8 ≤ 140737488351232) (hk : k < D.length) (hl : l.length * 8 ≤ 140737488351232) :
    (D.set k l).length * 24 ≤ 140737488351232 ∧ ∀ i, i < (D.set k l).length → ((D.set k l).getD i []).length * 8 ≤ 140737488351232 := by
  refine ⟨by simpa using h1, fun i hi => ?_⟩
  simp at hi
  rw [getD_set _ _ _ _ _ hk]
  by_cases e : i = k
  · rw [if_pos e]; exact hl
  · rw [if_neg e]; exact h2 i hi

theorem make16 (w : World) : (Instr.makeSlice 24 (.int .i64 16) (.int .i64 16)).run Try.prog w = .ok (.slice (some ⟨w.heap.size, 0, none⟩) 16 16) (w.alloc (.cells (madeCells #[.int .i64 0] 16) 3)) := by
  have := run_make_row' (P := Try.prog) 24 3 (.int .i64 0) 8 Try.underlying24 infoInt rfl .i64 .i64 16 (by decide) (by decide) w
  simpa using this

set_option maxHeartbeats 1000000 in
theorem Take_ok (dv rv : Value) (D : List (List Int)) (R : List Int) (k : Nat) (w : World) (hd : RowsAt w dv D) (hr : IntsAt w rv R) (hm : May D R) (hk : FirstAt R k) :
    Calls Try.prog 33 #[.agg #[dv, rv]] w fun e w' => Res3 w (D.set k (List.replicate 16 0)) (R.set k 1) k 0 e w' := by
  have HN : Hid (mayNo D R = 0) := mayNo_yes hm
  have HF : Hid (FirstAt R k) := hk
  have hkR : k < R.length := hk.1
  have hkD : k < D.length := by have := hm.1; omega
  have hmk := make16
  clear hm hk
  go_enter Try.func33, Try.ntmps33
  go_wp2_with fail
  refine (Check_any dv rv D R _ ((hd.below (below_alloc _ _)).below (below_alloc _ _)) ((hr.below (below_alloc _ _)).below (below_alloc _ _))).mono ?_
  rw [HN.out]
  rintro e w1 ⟨rfl, hb1⟩
  obtain ⟨hbx, hrs, hb⟩ := two_boxes hb1
  obtain ⟨hx0, hx1, hxf, hxl⟩ := two_cells hbx
  go_wp2_with fail
  refine (firstFree_yes dv rv R k _ (hr.below hb) HF.out).mono ?_
  rintro e w2 ⟨rfl, hb2⟩
  rw [← hb2.block _ (lt_of_block hrs)] at hrs
  rw [← hb2.block _ (lt_of_block hbx)] at hbx
  have hb3 : Below w.heap.size w w2 := hb.trans (hb2.mono hb.size)
  clear hx0 hx1 hxf hxl
  obtain ⟨hx0, hx1, hxf, hxl⟩ := two_cells hbx
  go_wp2_with fail
  refine (Copy_any dv rv D R _ (hd.below hb3) (hr.below hb3)).mono ?_
  rintro e w3 ⟨A, c, B, c', rows, rfl, hof, hb4⟩
  rw [← hb4.block _ (lt_of_block hrs)] at hrs
  obtain ⟨gd, cd, gr, cr, e1, e2, l1, l2, l3, l4, hne, q1, q2, q3, q4⟩ := hof.opened (by omega) (by omega)
  simp only [Value.slice.injEq, true_and] at e1 e2
  obtain ⟨rfl, rfl⟩ := e1
  obtain ⟨rfl, rfl⟩ := e2
  have hq1 := q1 k hkD
  have hq3 := q3 k hkR
  have hq2 := q2 k
  have hq4 := q4 k
  obtain ⟨hy0, hy1, hyf, hyl⟩ := two_cells hrs
  have hs3 := hb3.size
  have hs1 := hb1.size
  have hs2 := hb2.size
  simp only [World.size_alloc] at hs1
  have n1 : w.heap.size + 1 ≠ gr := by omega
  have n2 : w.heap.size + 1 ≠ gd := by omega
  have hkD' : (k : Int) < (D.length : Int) := by omega
  have hkR' : (k : Int) < (R.length : Int) := by omega
  have hyl' : w.heap.size < w3.heap.size := by omega
  have hyf0 := hyf 0
  have hyf1 := hyf 1
  have HOF : Hid (_) := hof
  have HBB : Hid (Below w.heap.size w w3) := hb3.trans (hb4.mono hs3)
  have HLO : Hid (w2.heap.size ≤ w3.heap.size) := hb4.size
  have HLW : Hid (w.heap.size ≤ w2.heap.size) := hs3
  have HRS : Hid (_) := hrs
  have HBD : Hid (_) := hd.bounds
  have HBR : Hid (_) := hr.bound
  have gl : w.heap.size ≤ gd ∧ w.heap.size ≤ gr := by omega
  clear hx0 hx1 hxf hxl q1 q2 q3 q4 hb1 hb2 hb3 hb4 hb hbx hs1 hs2 hs3 hd hr HN HF hyf hof l1 l3 hrs
  go_wp2
  go_region
  all_goals go_wp2
  refine bodyPost_ret (v := .tuple #[.agg #[.slice (some ⟨gd, 0, none⟩) D.length c, .slice (some ⟨gr, 0, none⟩) R.length c'], .int .i64 k, .int .i64 0]) (by simp [results, Try.results33, go_sem, hy0, hy1, hyl, hyl']) rfl ?_
  have hF := take_fin HOF.out HLO.out hkD l2 l4 HRS.out (.slice (some ⟨gd, 0, none⟩) D.length c) (.slice (some ⟨gr, 0, none⟩) R.length c') (.cells #[.slice (some ⟨gd, 0, none⟩) D.length c, .slice (some ⟨gr, 0, none⟩) R.length c'] 44)
  obtain ⟨b1, b2⟩ := set_bounds (l := List.replicate 16 0) HBD.out.1 HBD.out.2 hkD (by decide)
  have hF' := hF.mono HLW.out
  have r1 := hF'.dat.rows_lo b1 b2
  have r2 := hF'.ref.low (by simpa using HBR.out)
  refine ⟨some ⟨gd, 0, none⟩, c, some ⟨gr, 0, none⟩, c', by simp, by rw [List.length_set]; exact r1.drew, by rw [List.length_set]; exact r2.drew, ?_⟩
  have hs := HBB.out.size
  exact (((((HBB.out.setCell (by simp; omega) _).setCell (by simp; omega) _).setCell (by simp) _).setCell (by simp) _).alloc (by simp; omega) _).alloc (by simp; omega) _ |>.drew

end Go.Proofs.Ytlcdefpdahjjeaf
