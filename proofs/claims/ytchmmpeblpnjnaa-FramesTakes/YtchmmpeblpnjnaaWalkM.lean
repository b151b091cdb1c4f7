/- Contract of hourglassref.TakenOf. -/
import Derived.Test.YtchmmpeblpnjnaaWalkD
import Derived.Test.YtchmmpeblpnjnaaWalkJ
import Derived.Test.YtchmmpeblpnjnaaWalkL
namespace Go.Proofs.Ytchmmpeblpnjnaa
open Go.RowKit

set_option maxHeartbeats 400000 in
theorem TakenOf_bad (dv rv : Value) (D : List (List Int)) (R : List Int) (w : World) (hd : RowsAt w dv D) (hr : IntsAt w rv R) (hm : ¬ May D R) :
    Calls Try.prog 17 #[.agg #[dv, rv]] w fun e w' => Res3 w [] [] 0 8 e w' := by
  have HN : Hid (mayB D R = false) := mayB_no hm
  go_enter Try.func17, Try.ntmps17
  go_wp2_with fail
  refine (FramesMay_any dv rv D R _ ((hd.below (below_alloc _ _)).below (below_alloc _ _)) ((hr.below (below_alloc _ _)).below (below_alloc _ _))).mono ?_
  rw [HN.out]
  rintro e w1 ⟨rfl, hb1⟩
  obtain ⟨hbx, hrs, hb⟩ := two_boxes hb1
  obtain ⟨hx0, hx1, hxf, hxl⟩ := two_cells hrs
  go_wp2
  exact bodyPost_ret (v := .tuple #[.agg #[nilv, nilv], .int .i64 0, .int .i64 8]) (by simp [results, Try.results17, go_sem, hx0, hx1]) rfl (res3_none ((hb.setCell (by simp) _).setCell (by simp) _))

set_option maxHeartbeats 400000 in
theorem TakenOf_full (dv rv : Value) (D : List (List Int)) (R : List Int) (w : World) (hd : RowsAt w dv D) (hr : IntsAt w rv R) (hm : May D R) (hn : NoneFree R) :
    Calls Try.prog 17 #[.agg #[dv, rv]] w fun e w' => Res3 w [] [] 0 7 e w' := by
  have HN : Hid (mayB D R = true) := mayB_yes hm
  have HF : Hid (NoneFree R) := hn
  clear hm hn
  go_enter Try.func17, Try.ntmps17
  go_wp2_with fail
  refine (FramesMay_any dv rv D R _ ((hd.below (below_alloc _ _)).below (below_alloc _ _)) ((hr.below (below_alloc _ _)).below (below_alloc _ _))).mono ?_
  rw [HN.out]
  rintro e w1 ⟨rfl, hb1⟩
  obtain ⟨hbx, hrs, hb⟩ := two_boxes hb1
  obtain ⟨hx0, hx1, hxf, hxl⟩ := two_cells hbx
  go_wp2_with fail
  refine (firstRef_no dv rv R _ (hr.below hb) HF.out).mono ?_
  rintro e w2 ⟨rfl, hb2⟩
  rw [← hb2.block _ (lt_of_block hrs)] at hrs
  have hb3 : Below w.heap.size w w2 := hb.trans (hb2.mono hb.size)
  obtain ⟨hy0, hy1, hyf, hyl⟩ := two_cells hrs
  clear hx0 hx1 hxf hxl
  go_wp2
  exact bodyPost_ret (v := .tuple #[.agg #[nilv, nilv], .int .i64 0, .int .i64 7]) (by simp [results, Try.results17, go_sem, hy0, hy1]) rfl (res3_none ((hb3.setCell (by simp) _).setCell (by simp) _))

/-- What the loop of TakenOf keeps. -/
structure TakenInv (w : World) (b k m gd gr c c' : Nat) (D : List (List Int)) (R : List Int) (rows : List Value) (wr : World) : Prop where
  old : Below w.heap.size w wr
  lo : w.heap.size + 1 < b ∧ w.heap.size ≤ gd ∧ w.heap.size ≤ gr
  res : ∃ x y, wr.heap[w.heap.size + 1]? = some (.cells #[x, y] 25 (0, 0))
  box : wr.heap[b]? = some (.cells #[.slice (some ⟨gd, 0, none⟩) D.length c, .slice (some ⟨gr, 0, none⟩) R.length c'] 25 (0, 0))
  own : OwnF wr w.heap.size (.slice (some ⟨gd, 0, none⟩) D.length c) (.slice (some ⟨gr, 0, none⟩) R.length c') rows (D.set k (List.replicate m 0)) (R.set k 1)

theorem TakenInv.start {w w2 w3 : World} {k gd gr c c' : Nat} {D : List (List Int)} {R : List Int} {rows : List Value} {x y : Value} (h : OwnF w3 w2.heap.size (.slice (some ⟨gd, 0, none⟩) D.length c) (.slice (some ⟨gr, 0, none⟩) R.length c') rows D R) (hlo : w.heap.size ≤ w2.heap.size) (hE : D.set k (List.replicate 0 0) = D)
    (hb : Below w.heap.size w w3) (hg : w.heap.size ≤ gd ∧ w.heap.size ≤ gr ∧ w.heap.size + 1 < w3.heap.size) (hres : w3.heap[w.heap.size + 1]? = some (.cells #[x, y] 25 (0, 0))) :
    TakenInv w w3.heap.size k 0 gd gr c c' D R rows ((w3.setCell ⟨gr, k, none⟩ (.int .i64 1)).alloc (.cells #[.slice (some ⟨gd, 0, none⟩) D.length c, .slice (some ⟨gr, 0, none⟩) R.length c'] 25)) := by
  have hs := hb.size
  have n1 : w.heap.size + 1 ≠ gr := fun e2 => by
    subst e2
    exact own_ne h.ref hres (by decide) rfl
  refine ⟨(hb.setCell hg.2.1 _).alloc (by simp; omega) _, ⟨by omega, hg.1, hg.2.1⟩, ⟨x, y, ?_⟩, ?_, ?_⟩
  · rw [Go.Deep.blk_alloc_lt _ _ _ (by simp; omega), Go.Deep.blk_setCell_other _ _ _ _ n1]; exact hres
  · have := Go.Deep.blk_alloc_new (w3.setCell ⟨gr, k, none⟩ (.int .i64 1)) (.cells #[.slice (some ⟨gd, 0, none⟩) D.length c, .slice (some ⟨gr, 0, none⟩) R.length c'] 25)
    simpa using this
  · rw [hE]
    exact ((h.mono hlo).putRef 1).below (below_alloc _ _)

theorem TakenInv.cells {w wr : World} {b k m gd gr c c' : Nat} {D : List (List Int)} {R : List Int} {rows : List Value} (h : TakenInv w b k m gd gr c c' D R rows wr) (hk : k < D.length) (hR : 0 < R.length) :
    wr.cell? ⟨gd, k, none⟩ = some (rows.getD k nilv) ∧ wr.frozen? ⟨gd, k, none⟩ = false ∧ gd < wr.heap.size ∧ OwnI wr w.heap.size (rows.getD k nilv) (List.replicate m 0) := by
  obtain ⟨gd', cd, gr', cr, e1, _, _, l2, _, _, _, q1, q2, _, _⟩ := h.own.opened (by simp; omega) (by simpa using hR)
  simp only [Value.slice.injEq, Option.some.injEq, Addr.mk.injEq, and_true] at e1
  obtain ⟨rfl, _⟩ := e1
  have := h.own.dat.each k (by simpa using hk)
  rw [getD_set _ _ _ _ _ hk, if_pos rfl] at this
  exact ⟨q1 k (by simpa using hk), q2 k, l2, this⟩

theorem TakenInv.step {w wr w4 : World} {b k m gd gr c c' g cap : Nat} {D : List (List Int)} {R : List Int} {rows : List Value} (h : TakenInv w b k m gd gr c c' D R rows wr) (hk : k < D.length) (hR : 0 < R.length) {o : Obj}
    (hg : (wr.alloc o).drew.grownBy w4 (rows.getD k nilv).ownBlock) (ho : w4.ownsRow w.heap.size 3 1 (.slice (some ⟨g, 0, none⟩) (m + 1) cap) (m + 1) ((List.replicate m 0).map (Value.int .i64) ++ [.int .i64 0])) (hat : (rows.getD k nilv).ownBlock = some g ∨ g = wr.heap.size + 1) :
    w4.heap[b]? = some (.cells #[.slice (some ⟨gd, 0, none⟩) D.length c, .slice (some ⟨gr, 0, none⟩) R.length c'] 25 (0, 0)) ∧ w4.cell? ⟨gd, k, none⟩ = some (rows.getD k nilv) ∧ w4.frozen? ⟨gd, k, none⟩ = false ∧
      TakenInv w b k (m + 1) gd gr c c' D R (rows.set k (.slice (some ⟨g, 0, none⟩) (m + 1) cap)) (w4.setCell ⟨gd, k, none⟩ (.slice (some ⟨g, 0, none⟩) (m + 1) cap)) := by
  obtain ⟨hc, hf, hl, hU⟩ := h.cells hk hR
  have hs := h.old.size
  have hb0 : Below wr.heap.size wr (wr.alloc o).drew := (below_alloc wr o).drew
  have hOF := h.own.below hb0
  have hkE : k < (D.set k (List.replicate m 0)).length := by simpa using hk
  have hU' : OwnI w4 w.heap.size (.slice (some ⟨g, 0, none⟩) (m + 1) cap) (List.replicate (m + 1) 0) := by
    rw [List.replicate_succ']
    simpa [OwnI] using ho
  have hF := hOF.reRow (k := k) (u' := .slice (some ⟨g, 0, none⟩) (m + 1) cap) (l := List.replicate (m + 1) 0) hkE hg hU' (by
    rcases hat with e | e
    · exact Or.inl e
    · right
      intro g' hg'
      simp [Value.ownBlock] at hg'
      show (wr.alloc o).heap.size ≤ g'
      simp
      omega)
  rw [List.set_set] at hF
  obtain ⟨x, y, hres⟩ := h.res
  have keep : ∀ (i : Nat) (p : Obj), wr.heap[i]? = some p → (rows.getD k nilv).ownBlock ≠ some i → w4.heap[i]? = some p := fun i p hp hne => by
    refine block_grown (w := (wr.alloc o).drew) ?_ hg hne
    rw [hb0.block _ (lt_of_block hp)]; exact hp
  have hub := keep b _ h.box (own_ne hU h.box (by decide))
  have hur := keep _ _ hres (own_ne hU hres (by decide))
  obtain ⟨⟨cur, hgd⟩, _⟩ := own_block h.own.dat.top
  have hugd := keep gd _ hgd (own_ne hU hgd (by decide))
  have hgb : b ≠ gd := fun e => by
    subst e
    rw [h.box] at hgd
    simp at hgd
  have hgr : w.heap.size + 1 ≠ gd := fun e => by
    rw [e] at hres
    rw [hres] at hgd
    simp at hgd
  refine ⟨hub, ?_, ?_, ⟨?_, h.lo, ⟨x, y, ?_⟩, ?_, hF⟩⟩
  · rw [← hc]; exact World.cell?_of_block (a := ⟨gd, k, none⟩) (by rw [hugd, hgd])
  · rw [← hf]; exact World.frozen?_of_block (a := ⟨gd, k, none⟩) (by rw [hugd, hgd])
  · refine Below.setCell ((h.old.trans (hb0.mono hs)).grown hg (by simp; omega) (fun i hi => ?_)) (p := ⟨gd, k, none⟩) h.lo.2.1 _
    have := (World.ownsRow.lt hU i hi).1
    omega
  · rw [Go.Deep.blk_setCell_other _ _ _ _ hgr]; exact hur
  · rw [Go.Deep.blk_setCell_other _ _ _ _ hgb]; exact hub

set_option maxHeartbeats 1000000 in
theorem TakenOf_ok (dv rv : Value) (D : List (List Int)) (R : List Int) (k : Nat) (w : World) (hd : RowsAt w dv D) (hr : IntsAt w rv R) (hm : May D R) (hk : FirstAt R k) :
    Calls Try.prog 17 #[.agg #[dv, rv]] w fun e w' => Res3 w (D.set k (List.replicate 16 0)) (R.set k 1) k 0 e w' := by
  obtain ⟨i0, hi0, hz00, hz01, hz02⟩ := info_parts infoInt
  have HN : Hid (mayB D R = true) := mayB_yes hm
  have HF : Hid (FirstAt R k) := hk
  have hkR : k < R.length := hk.1
  have hkD : k < D.length := by have := hm.1; omega
  have HE : Hid (D.set k (List.replicate 0 0) = D) := by
    have h1 := (hm.2.2 k hkR).2.2
    rw [hk.2.1] at h1
    have h2 : D.getD k [] = [] := List.eq_nil_of_length_eq_zero (by simpa [wordsB] using h1)
    have h3 : D[k] = [] := by simpa [List.getD, hkD] using h2
    show D.set k [] = D
    rw [← h3]
    exact List.set_getElem_self hkD
  clear hm hk
  go_enter Try.func17, Try.ntmps17
  go_wp2_with fail
  refine (FramesMay_any dv rv D R _ ((hd.below (below_alloc _ _)).below (below_alloc _ _)) ((hr.below (below_alloc _ _)).below (below_alloc _ _))).mono ?_
  rw [HN.out]
  rintro e w1 ⟨rfl, hb1⟩
  obtain ⟨hbx, hrs, hb⟩ := two_boxes hb1
  obtain ⟨hx0, hx1, hxf, hxl⟩ := two_cells hbx
  go_wp2_with fail
  refine (firstRef_yes dv rv R k _ (hr.below hb) HF.out).mono ?_
  rintro e w2 ⟨rfl, hb2⟩
  rw [← hb2.block _ (lt_of_block hrs)] at hrs
  rw [← hb2.block _ (lt_of_block hbx)] at hbx
  have hb3 : Below w.heap.size w w2 := hb.trans (hb2.mono hb.size)
  clear hx0 hx1 hxf hxl
  obtain ⟨hx0, hx1, hxf, hxl⟩ := two_cells hbx
  go_wp2_with fail
  refine (FramesCopy_any dv rv D R _ (hd.below hb3) (hr.below hb3)).mono ?_
  rintro e w3 ⟨A, c, B, c', rows, rfl, hof, hb4⟩
  rw [← hb4.block _ (lt_of_block hrs)] at hrs
  obtain ⟨gd, cd, gr, cr, e1, e2, l1, l2, l3, l4, hne, q1, q2, q3, q4⟩ := hof.opened (by omega) (by omega)
  simp only [Value.slice.injEq, true_and] at e1 e2
  obtain ⟨rfl, rfl⟩ := e1
  obtain ⟨rfl, rfl⟩ := e2
  have hq3 := q3 k hkR
  have hq4 := q4 k
  have hs3 := hb3.size
  have hs1 := hb1.size
  have hs2 := hb2.size
  simp only [World.size_alloc] at hs1
  have hkR' : (k : Int) < (R.length : Int) := by omega
  have HOF : Hid (_) := hof
  have HBB : Hid (Below w.heap.size w w3) := hb3.trans (hb4.mono hs3)
  have HRS : Hid (_) := hrs
  have hs4 := hb4.size
  have gl : w.heap.size ≤ gd ∧ w.heap.size ≤ gr ∧ w.heap.size + 1 < w3.heap.size := by omega
  have HBD : Hid (_) := hd.bounds
  have HBR : Hid (_) := hr.bound
  have HLO : Hid (w.heap.size ≤ w2.heap.size) := hs3
  clear hx0 hx1 hxf hxl q1 q2 q3 q4 hb1 hb2 hb3 hb4 hb hbx hs1 hs2 hs3 hd hr HN HF hof l1 l3 hrs hs4
  go_wp2
  go_loopw [7] (fun i wr => ∃ m rows, m ≤ 16 ∧ i = .int .i64 (m : Nat) ∧ TakenInv w w3.heap.size k m gd gr c c' D R rows wr) (fun i _ => 16 - (intOf i).toNat)
  case atStart => exact ⟨0, rows, by omega, rfl, TakenInv.start HOF.out HLO.out HE.out HBB.out gl HRS.out⟩
  case round =>
    clear HOF HBB HRS
    obtain ⟨m, rows, hm, rfl, hinv⟩ := hrel
    obtain ⟨hx0, hx1, hxf, hxl⟩ := two_cells hinv.box
    by_cases hlt : m < 16
    · obtain ⟨hc, hf, hl, hU⟩ := hinv.cells hkD (by omega)
      have HI : Hid (_) := hinv
      have HU : Hid (_) := hU
      obtain ⟨u, hu⟩ : ∃ u, u = rows.getD k nilv := ⟨_, rfl⟩
      rw [← hu] at hc
      have HUU : Hid (u = rows.getD k nilv) := hu
      have HO : Hid (wr.ownsRow w.heap.size 3 1 u m ((List.replicate m 0).map (Value.int .i64))) := by
        have := HU.out
        rw [← hu] at this
        rwa [List.length_replicate] at this
      have hsz := hinv.old.size
      have hkD' : (k : Int) < (D.length : Int) := by omega
      clear hU hinv hu HU
      go_wp2
      go_region_law ((refine step_append_lies _ (by rfl) _ _ _ (by rfl) w.heap.size 3 i0 (.int .i64 0) 1 8 Try.underlying23 hi0 hz00 hz01 hz02 rfl (by decide) u m ((List.replicate m 0).map (Value.int .i64)) (by rfl) ((HO.out.alloc _).drew) ⟨wr.heap.size, 0, none⟩ 1 1 [.int .i64 0] (by rfl) (by rfl) (by exact cell_one_new _ _ _) (by intro u hu; simp at hu; subst hu; rfl) (by decide) (by unfold maxLen; omega) (by omega) (by simp; omega) (wr.heap.size + 1) (by simp) ?_; intro g cap w4 hown4 hgrow hat hlt4; obtain ⟨hb4, hc4, hf4, hinv4⟩ := HI.out.step hkD (by omega) (by rw [← HUU.out]; exact hgrow) hown4 (by rw [← HUU.out]; exact hat); rw [← HUU.out] at hc4; have HI4 : Hid (_) := hinv4; obtain ⟨hp0, hp1, hpf, hpl⟩ := two_cells hb4; clear hinv4))
      all_goals
        go_wp2
        refine ⟨⟨m + 1, _, by omega, by go_num, HI4.out⟩, ?_⟩
        simp [intOf]; omega
    · have e : m = 16 := by omega
      subst e
      obtain ⟨x, y, hres⟩ := hinv.res
      obtain ⟨hz0, hz1, hzf, hzl⟩ := two_cells hres
      have HI : Hid (_) := hinv
      have n1 : w.heap.size + 1 ≠ w3.heap.size := by omega
      clear hinv
      go_wp2
      refine bodyPost_ret (v := .tuple #[.agg #[.slice (some ⟨gd, 0, none⟩) D.length c, .slice (some ⟨gr, 0, none⟩) R.length c'], .int .i64 k, .int .i64 0]) (by simp [results, Try.results17, go_sem, hz0, hz1]) rfl ?_
      have hF := OwnF.store2 HI.out.own hres (by decide) (by decide) (.slice (some ⟨gd, 0, none⟩) D.length c) (.slice (some ⟨gr, 0, none⟩) R.length c')
      obtain ⟨b1, b2⟩ := set_bounds (l := List.replicate 16 0) HBD.out.1 HBD.out.2 hkD (by decide)
      have r1 := hF.dat.rows_at b1 b2
      have r2 := hF.ref.at (by simpa using HBR.out)
      refine ⟨some ⟨gd, 0, none⟩, c, some ⟨gr, 0, none⟩, c', by simp, by rw [List.length_set]; exact r1, by rw [List.length_set]; exact r2, ?_⟩
      exact (HI.out.old.setCell (by simp) _).setCell (by simp) _

end Go.Proofs.Ytchmmpeblpnjnaa
