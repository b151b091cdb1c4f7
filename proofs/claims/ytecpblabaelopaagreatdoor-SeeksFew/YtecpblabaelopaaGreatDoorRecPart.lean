/- Contract of run.Record. -/
import Derived.Test.YtecpblabaelopaaGreatDoorByEncodePart
import Derived.Test.YtecpblabaelopaaGreatDoorRcTPart
import Derived.Deep.RegionHeld3
import Derived.Test.YtecpblabaelopaaGreatDoorRawsPart
import Derived.Test.YtecpblabaelopaaGreatDoorKInsCPart
import Derived.Test.YtecpblabaelopaaGreatDoorOwnPart
import Derived.Test.YtecpblabaelopaaGreatDoorTapePart
import Derived.Test.YtecpblabaelopaaGreatDoorECloPart
namespace Go.Proofs.YtecpblabaelopaaGreatDoor
open Go.RowKit
set_option maxRecDepth 100000

theorem rstep_any (g : RcB) (lo : Nat) (iv zv : Value) (x : Wd) (s : RecS) (cm : Nat) (due k : Int) (R : List (Ev × Value)) (rv mv ov : Value) (w : World)
    (h : RcAt w lo g iv zv x s.va cm s.bl due R) (hr : RcRel k s cm due R) (hx : WdMay x) (hR : R.length ≤ 8997) (ho : OwnM w lo rv mv ov s.m) (hm : MayP s.m) (hf : s.m.fin = 0) (hc : s.m.count = k) (hk : 0 ≤ k ∧ k < 3000) :
    Calls Tryz.prog 53 #[ptr g.p, .agg (s.m.cells rv mv ov)] w fun e w' => RStepQ w lo g iv zv x s k R e w' := by
  cases hq : s.ask x k with
  | true => exact rstep_ask g lo iv zv x s cm due k R rv mv ov w h hr hx hR ho hm hf hc hk hq
  | false => exact rstep_quiet g lo iv zv x s cm due k R rv mv ov w h hr hx hR ho hm hf hc hk hq
def cntAt (w : World) (b : Nat) : Nat := match w.cell? ⟨b, 6, none⟩ with
  | some v => (intOf v).toNat
  | none => 0
theorem cntAt_of {w : World} {b : Nat} {rv mv ov : Value} {M : Mach} (h : w.heap[b]? = some (.cells (M.cells rv mv ov) 37 (0, 0))) : cntAt w b = M.count.toNat := by
  obtain ⟨⟨_, _, _, _, _, _, h6, _⟩, _⟩ := twelve_cells h
  unfold cntAt
  rw [h6]
  rfl
theorem recs_data {x : Wd} (hx : WdMay x) {im : List Int} : ∀ k, ∀ y ∈ (recN x im k).evs, y.data.length ≤ 1000
  | 0, y, hy => by simp [recN] at hy
  | k + 1, y, hy => by
    unfold recN at hy
    split at hy
    · simp only [RecS.next, List.mem_append] at hy
      rcases hy with ((hy | hy) | hy) | hy
      · exact recs_data hx k y hy
      · unfold RecS.evI at hy
        split at hy <;> simp at hy
        subst hy
        simp
      · unfold RecS.evB at hy
        split at hy
        · rename_i hd
          simp at hy
          subst hy
          show (RecS.blk _ _ _).length ≤ _
          rw [RecS.blk_at hx hd]
          omega
        · simp at hy
      · unfold RecS.evV at hy
        split at hy <;> simp at hy
        subst hy
        simp
    · exact recs_data hx k y hy

def IsBoxT (w : World) (p : Nat) (t : TypeId) : Prop := ∃ cur, w.heap[p]? = some (.cells cur t (0, 0))
theorem IsBoxT.set {w : World} {p q : Nat} {t : TypeId} (h : IsBoxT w p t) (i : Nat) (x : Value) : IsBoxT (w.setCell ⟨q, i, none⟩ x) p t := by
  obtain ⟨cur, hc⟩ := h
  by_cases e : p = q
  · subst e
    exact ⟨cur.setIfInBounds i x, by simp [World.setCell, Array.getElem?_modify, hc]⟩
  · exact ⟨cur, by rw [Go.Deep.blk_setCell_other _ _ _ _ (by simpa using e)]; exact hc⟩
theorem own_set {w : World} {base n size p : Nat} {e t : TypeId} {v : Value} {xs : List Value} (k : w.ownsRow base e size v n xs) (hp : IsBoxT w p t) (ht : e ≠ t) (i : Nat) (x : Value) : (w.setCell ⟨p, i, none⟩ x).ownsRow base e size v n xs := by
  obtain ⟨cur, hc⟩ := hp
  exact (But.set (lo := 0) w (Nat.zero_le _) i x).owns k (own_ne3 k hc ht)
theorem own_set12 {w : World} {base n size p : Nat} {e t : TypeId} {v : Value} {xs : List Value} (k : w.ownsRow base e size v n xs) (hp : IsBoxT w p t) (ht : e ≠ t) (x0 x1 x2 x3 x4 x5 x6 x7 x8 x9 x10 x11 : Value) : (set12 w p x0 x1 x2 x3 x4 x5 x6 x7 x8 x9 x10 x11).ownsRow base e size v n xs := by
  have step : ∀ (w : World) (i : Nat) (x : Value), (w.ownsRow base e size v n xs ∧ IsBoxT w p t) → ((w.setCell ⟨p, i, none⟩ x).ownsRow base e size v n xs ∧ IsBoxT (w.setCell ⟨p, i, none⟩ x) p t) := fun w i x h => ⟨own_set h.1 h.2 ht i x, h.2.set i x⟩
  exact (step _ 11 x11 (step _ 10 x10 (step _ 9 x9 (step _ 8 x8 (step _ 7 x7 (step _ 6 x6 (step _ 5 x5 (step _ 4 x4 (step _ 3 x3 (step _ 2 x2 (step _ 1 x1 (step _ 0 x0 ⟨k, hp⟩)))))))))))).1
abbrev set15 (w : World) (pT pM : Nat) (z0 z1 z2 x0 x1 x2 x3 x4 x5 x6 x7 x8 x9 x10 x11 : Value) : World :=
  set12 (((w.setCell ⟨pT, 0, none⟩ z0).setCell ⟨pT, 1, none⟩ z1).setCell ⟨pT, 2, none⟩ z2) pM x0 x1 x2 x3 x4 x5 x6 x7 x8 x9 x10 x11
theorem final_own {w : World} {base n size pT pM : Nat} {e tT tM : TypeId} {v : Value} {xs : List Value} (k : w.ownsRow base e size v n xs) (hT : IsBoxT w pT tT) (hM : IsBoxT w pM tM) (h1 : e ≠ tT) (h2 : e ≠ tM) (z0 z1 z2 x0 x1 x2 x3 x4 x5 x6 x7 x8 x9 x10 x11 : Value) : (set15 w pT pM z0 z1 z2 x0 x1 x2 x3 x4 x5 x6 x7 x8 x9 x10 x11).ownsRow base e size v n xs :=
  own_set12 (own_set (own_set (own_set k hT h1 0 z0) (hT.set 0 z0) h1 1 z1) ((hT.set 0 z0).set 1 z1) h1 2 z2) (((hM.set 0 z0).set 1 z1).set 2 z2) h2 _ _ _ _ _ _ _ _ _ _ _ _
theorem final_below {w0 w : World} {B pT pM : Nat} (h : Below B w0 w) (h1 : B ≤ pT) (h2 : B ≤ pM) (z0 z1 z2 x0 x1 x2 x3 x4 x5 x6 x7 x8 x9 x10 x11 : Value) : Below B w0 (set15 w pT pM z0 z1 z2 x0 x1 x2 x3 x4 x5 x6 x7 x8 x9 x10 x11) :=
  below_set12 (((h.setCell (p := ⟨pT, 0, none⟩) h1 z0).setCell (p := ⟨pT, 1, none⟩) h1 z1).setCell (p := ⟨pT, 2, none⟩) h1 z2) h2 _ _ _ _ _ _ _ _ _ _ _ _

set_option maxHeartbeats 4000000 in
theorem Record_any (A : Option Addr) (ca : Nat) (im : List Int) (a b c d : Value) (x : Wd) (n : Int) (w : World) (hi : IntsAt w (.slice A im.length ca) im) (hw : WdT w.heap.size w a b c d x) (hL : Laid w) :
    Calls Tryz.prog 27 #[.slice A im.length ca, .agg #[a, b, c, d], .int .i64 n] w fun e w' => RecQ w (recA x im n) e w' := by
  have HWT : Hid (WdT w.heap.size w a b c d x) := hw
  obtain ⟨A0, k0, rfl, -, -, -⟩ := hw.irqs
  obtain ⟨A1, k1, rfl, -, -, -⟩ := hw.values
  obtain ⟨A2, k2, rfl, -, -, -⟩ := hw.blocks
  obtain ⟨A3, k3, rfl, -, -, -⟩ := hw.delays
  obtain ⟨b0, b1, b2⟩ := three_boxes (w := w) (o1 := .cells #[.slice A0 x.irqs.length k0, .slice A1 x.values.length k1, .slice A2 x.blocks.length k2, .slice A3 x.delays.length k3] 53) (o2 := .cells zeroT 27) (o3 := .cells zeroM 37)
  obtain ⟨W, hW⟩ : ∃ W, W = ((w.alloc (.cells #[.slice A0 x.irqs.length k0, .slice A1 x.values.length k1, .slice A2 x.blocks.length k2, .slice A3 x.delays.length k3] 53)).alloc (.cells zeroT 27)).alloc (.cells zeroM 37) := ⟨_, rfl⟩
  rw [← hW] at b0 b1 b2
  have HW : Hid (W = ((w.alloc (.cells #[.slice A0 x.irqs.length k0, .slice A1 x.values.length k1, .slice A2 x.blocks.length k2, .slice A3 x.delays.length k3] 53)).alloc (.cells zeroT 27)).alloc (.cells zeroM 37)) := hW
  have HX : Hid (W.heap[w.heap.size]? = some (.cells #[.slice A0 x.irqs.length k0, .slice A1 x.values.length k1, .slice A2 x.blocks.length k2, .slice A3 x.delays.length k3] 53 (0, 0)) ∧ W.heap[w.heap.size + 1]? = some (.cells zeroT 27 (0, 0)) ∧ W.heap[w.heap.size + 1 + 1]? = some (.cells zeroM 37 (0, 0)) ∧ Below w.heap.size w W ∧ w.heap.size + 1 + 1 < W.heap.size) := ⟨b0.trans (Go.Deep.blk_alloc_new _ _), by
    rw [b1]
    have := Go.Deep.blk_alloc_new (w.alloc (.cells #[.slice A0 x.irqs.length k0, .slice A1 x.values.length k1, .slice A2 x.blocks.length k2, .slice A3 x.delays.length k3] 53)) (.cells zeroT 27)
    simpa using this, by
    rw [hW]
    have := Go.Deep.blk_alloc_new ((w.alloc (.cells #[.slice A0 x.irqs.length k0, .slice A1 x.values.length k1, .slice A2 x.blocks.length k2, .slice A3 x.delays.length k3] 53)).alloc (.cells zeroT 27)) (.cells zeroM 37)
    simpa using this, b2, by rw [hW]; simp⟩
  have HI : Hid (IntsAt w (.slice A im.length ca) im ∧ Laid w) := ⟨hi, hL⟩
  obtain ⟨G, hG⟩ : ∃ G, G = recA x im n := ⟨_, rfl⟩
  rw [← hG]
  have HG : Hid (G = recA x im n) := hG
  clear hi hw hL b0 b1 b2 hW hG
  by_cases hn : newNo im = 0
  case neg =>
    have HE : Hid (G = ⟨newNo im, [], [], 0, recNone⟩) := HG.out.trans (recA_no (by unfold recNo; rw [if_pos hn]) hn)
    have HNN : Hid (Calls Tryz.prog 46 #[.slice A im.length ca] W fun e w' => e = .returned (.tuple #[.agg zeroM, .int .i64 (newNo im)]) ∧ Below W.heap.size W w') := New_no _ im W (HI.out.1.below HX.out.2.2.2.1) hn
    have d0 : (newNo im != 0) = true := by simpa using hn
    clear hn
    revert HE HNN d0
    generalize newNo im = kn
    intro HE HNN d0
    go_enter Tryz.func27, Tryz.ntmps27
    go_wp2_with fail
    rw [← HW.out]
    refine HNN.out.mono ?_
    rintro e w1 ⟨rfl, hb1⟩
    have HB : Hid (Below w.heap.size w w1) := HX.out.2.2.2.1.trans (hb1.mono HX.out.2.2.2.1.size)
    obtain ⟨t0, t1, t2, tf, tl⟩ := three_cells ((hb1.block _ (lt_of_block HX.out.2.1)).trans HX.out.2.1)
    obtain ⟨⟨y0, y1, y2, y3, y4, y5, y6, y7, y8, y9, y10, y11⟩, yf, yl⟩ := twelve_cells ((hb1.block _ (lt_of_block HX.out.2.2.1)).trans HX.out.2.2.1)
    clear hb1 HNN
    dsimp only
    go_wp2_with fail
    refine bodyPost_ret (v := .tuple #[.agg #[.slice none 0 0, .slice none 0 0, .int .i64 0], .agg zeroM, .int .i64 kn]) (by simp [results, Tryz.results27, go_sem, tl, yl, t0, t1, t2, y0, y1, y2, y3, y4, y5, y6, y7, y8, y9, y10, y11]) rfl ?_
    rw [HE.out]
    refine recQ_no ?_
    have HBS := HB.out.size
    refine Below.alloc ?_ (by simp; omega) _
    repeat (refine Below.setCell ?_ (by first | (simp; done) | (simp; omega)) _)
    exact HB.out
  case pos =>
    go_enter Tryz.func27, Tryz.ntmps27
    go_wp2_with fail
    rw [← HW.out]
    refine (New_ok _ im W (HI.out.1.below HX.out.2.2.2.1) hn).mono ?_
    rintro e w1 ⟨rv, mv, ov, rfl, ho1, hb1⟩
    obtain ⟨D1, f1, D2, f2, D3, f3, rfl, rfl, rfl⟩ := ho1.shape
    have hB1 : Below w.heap.size w w1 := HX.out.2.2.2.1.trans (hb1.mono HX.out.2.2.2.1.size)
    obtain ⟨M0, hM0⟩ : ∃ M0, M0 = newM im := ⟨_, rfl⟩
    rw [← hM0] at ho1 ⊢
    have HM0 : Hid (M0 = newM im) := hM0
    have hA := below_alloc w1 (.cells (M0.cells (.slice D1 M0.regs.length f1) (.slice D2 M0.mem.length f2) (.slice D3 M0.out.length f3)) 37)
    have hbw := HX.out.2.2.2.1.size
    have hbx := HX.out.2.2.2.2
    have hb1s := hb1.size
    have hbox : RBox w (w1.alloc (.cells (M0.cells (.slice D1 M0.regs.length f1) (.slice D2 M0.mem.length f2) (.slice D3 M0.out.length f3)) 37)) #[.slice A0 x.irqs.length k0, .slice A1 x.values.length k1, .slice A2 x.blocks.length k2, .slice A3 x.delays.length k3] w1.heap.size (.slice D1 M0.regs.length f1) (.slice D2 M0.mem.length f2) (.slice D3 M0.out.length f3) M0 :=
      ⟨(hA.block _ (by omega)).trans ((hb1.block _ (by omega)).trans HX.out.1), (hA.block _ (by omega)).trans ((hb1.block _ (by omega)).trans HX.out.2.1), (hA.block _ (by omega)).trans ((hb1.block _ (by omega)).trans HX.out.2.2.1), Go.Deep.blk_alloc_new _ _, (ho1.mono hbw).below hA, hB1.alloc hB1.size _, by omega⟩
    obtain ⟨bM, hbM⟩ : ∃ bM, bM = w1.heap.size := ⟨_, rfl⟩
    obtain ⟨W2, hW2⟩ : ∃ W2, W2 = w1.alloc (.cells (M0.cells (.slice D1 M0.regs.length f1) (.slice D2 M0.mem.length f2) (.slice D3 M0.out.length f3)) 37) := ⟨_, rfl⟩
    rw [← hbM, ← hW2] at hbox
    have HB2 : Hid (RBox w W2 #[.slice A0 x.irqs.length k0, .slice A1 x.values.length k1, .slice A2 x.blocks.length k2, .slice A3 x.delays.length k3] bM (.slice D1 M0.regs.length f1) (.slice D2 M0.mem.length f2) (.slice D3 M0.out.length f3) M0) := hbox
    have HW2 : Hid (W2 = w1.alloc (.cells (M0.cells (.slice D1 M0.regs.length f1) (.slice D2 M0.mem.length f2) (.slice D3 M0.out.length f3)) 37)) := hW2
    have HNI : Hid (newNo im = 0) := hn
    simp only [Mach.cells] at HW2 ⊢
    obtain ⟨z0, z1, z2, z3, zf, zl⟩ := four_cells ((hb1.block _ (by omega)).trans HX.out.1)
    clear ho1 hb1 hB1 hA hbw hbx hb1s hbox hW2 hM0 hn HX HW
    go_wp2_with fail
    rw [← HW2.out, ← hbM]
    clear z0 z1 z2 z3 zf zl HW2 hbM
    refine (CheckWorld_any _ _ _ _ x W2 (HWT.out.below HB2.out.old).at).mono ?_
    rintro e w3 ⟨rfl, hb3⟩
    have HB3 : Hid (RBox w w3 #[.slice A0 x.irqs.length k0, .slice A1 x.values.length k1, .slice A2 x.blocks.length k2, .slice A3 x.delays.length k3] bM (.slice D1 M0.regs.length f1) (.slice D2 M0.mem.length f2) (.slice D3 M0.out.length f3) M0) := HB2.out.below hb3
    clear hb3 HB2
    by_cases hwn : worldNo x = 0
    case neg =>
      have HE : Hid (G = ⟨worldNo x, [], [], 0, recNone⟩) := HG.out.trans (recA_no (by unfold recNo; rw [if_neg (by rw [HNI.out]; simp), if_pos hwn]) hwn)
      have d0 : (worldNo x != 0) = true := by simpa using hwn
      clear hwn
      revert HE d0
      generalize worldNo x = kn
      intro HE d0
      obtain ⟨t0, t1, t2, tf, tl⟩ := three_cells HB3.out.tb
      obtain ⟨⟨y0, y1, y2, y3, y4, y5, y6, y7, y8, y9, y10, y11⟩, yf, yl⟩ := twelve_cells HB3.out.rb
      go_wp2_with fail
      refine bodyPost_ret (v := .tuple #[.agg #[.slice none 0 0, .slice none 0 0, .int .i64 0], .agg zeroM, .int .i64 kn]) (by simp [results, Tryz.results27, go_sem, t0, t1, t2, y0, y1, y2, y3, y4, y5, y6, y7, y8, y9, y10, y11]) rfl ?_
      rw [HE.out]
      refine recQ_no ?_
      have HBS := HB3.out.old.size
      repeat (refine Below.setCell ?_ (by first | (simp; done) | (simp; omega)) _)
      exact HB3.out.old
    case pos =>
    have HWM : Hid (WdMay x ∧ worldNo x = 0) := ⟨worldNo_may hwn, hwn⟩
    rw [hwn]
    clear hwn
    go_wp2_with fail
    refine (isNoCount_any _).mono ?_
    rintro e w4 ⟨p, q, rfl, hq4, hb4⟩
    have HB4 : Hid (RBox w w4 #[.slice A0 x.irqs.length k0, .slice A1 x.values.length k1, .slice A2 x.blocks.length k2, .slice A3 x.delays.length k3] bM (.slice D1 M0.regs.length f1) (.slice D2 M0.mem.length f2) (.slice D3 M0.out.length f3) M0 ∧ CloAtR w4 p q 0 3000) := ⟨HB3.out.below hb4, hq4⟩
    clear hb4 hq4 HB3
    cases hin : inB n 0 3000 with
    | false =>
      have HE : Hid (G = ⟨2, [], [], 0, recNone⟩) := HG.out.trans (recA_no (by unfold recNo; rw [if_neg (by rw [HNI.out]; simp), if_neg (by rw [HWM.out.2]; simp), if_pos hin]) (by decide))
      obtain ⟨t0, t1, t2, tf, tl⟩ := three_cells HB4.out.1.tb
      obtain ⟨⟨y0, y1, y2, y3, y4, y5, y6, y7, y8, y9, y10, y11⟩, yf, yl⟩ := twelve_cells HB4.out.1.rb
      go_wp2_with (go_at_call 72; refine (cloR_any n 0 3000 p q _ HB4.out.2).mono ?_; rw [hin]; rintro e w' ⟨rfl, hw'⟩; rw [hw']; clear hw' w')
      refine bodyPost_ret (v := .tuple #[.agg #[.slice none 0 0, .slice none 0 0, .int .i64 0], .agg zeroM, .int .i64 2]) (by simp [results, Tryz.results27, go_sem, t0, t1, t2, y0, y1, y2, y3, y4, y5, y6, y7, y8, y9, y10, y11]) rfl ?_
      rw [HE.out]
      refine recQ_no ?_
      have HBS := HB4.out.1.old.size
      repeat (refine Below.setCell ?_ (by first | (simp; done) | (simp; omega)) _)
      exact HB4.out.1.old
    | true =>
    obtain ⟨Nn, hN⟩ : ∃ Nn : Nat, n = (Nn : Int) := ⟨n.toNat, by have := (inB_iff.1 hin).1; omega⟩
    subst hN
    have HNN : Hid (Nn ≤ 3000 ∧ recNo x im (Nn : Int) = chkNo (recN x im Nn).evs) := ⟨by have := (inB_iff.1 hin).2; omega, by unfold recNo; rw [if_neg (by rw [HNI.out]; simp), if_neg (by rw [HWM.out.2]; simp), if_neg (by rw [hin]; simp)]; rfl⟩
    obtain ⟨z0, z1, z2, z3, zf, zl⟩ := four_cells HB4.out.1.wb
    go_wp2_with (first | (go_at_call 72; refine (cloR_any (Nn : Int) 0 3000 p q _ HB4.out.2).mono ?_; rw [hin]; rintro e w' ⟨rfl, hw'⟩; rw [hw']; clear hw' w'))
    refine (newRecorder_any _ _ _ _ x w.heap.size w4 (HWT.out.below HB4.out.1.old)).mono ?_
    rintro e w5 ⟨g, iv, zv, rfl, hr5, hb5⟩
    have HB5 : Hid (RBox w w5 #[.slice A0 x.irqs.length k0, .slice A1 x.values.length k1, .slice A2 x.blocks.length k2, .slice A3 x.delays.length k3] bM (.slice D1 M0.regs.length f1) (.slice D2 M0.mem.length f2) (.slice D3 M0.out.length f3) M0 ∧ RcAt w5 w.heap.size g iv zv x 0 0 0 (-1) [] ∧ Laid w5) := ⟨HB4.out.1.below hb5, hr5, HI.out.2.below (HB4.out.1.below hb5).old⟩
    clear hr5 hb5 HB4 z0 z1 z2 z3 zf zl
    dsimp only
    go_wp2_with fail
    go_loopw [10] (fun ev wr => ∃ (k : Nat) (M : Mach) (B1 : Option Addr) (e1 : Nat) (B2 : Option Addr) (e2 : Nat) (B3 : Option Addr) (e3 : Nat) (cm : Nat) (due : Int) (R : List (Ev × Value)), k ≤ Nn ∧ ev = .int .i64 0 ∧ Hid (M = (recN x im k).m ∧ RBox w wr #[.slice A0 x.irqs.length k0, .slice A1 x.values.length k1, .slice A2 x.blocks.length k2, .slice A3 x.delays.length k3] bM (.slice B1 M.regs.length e1) (.slice B2 M.mem.length e2) (.slice B3 M.out.length e3) M ∧ RcAt wr w.heap.size g iv zv x (recN x im k).va cm (recN x im k).bl due R ∧ RcRel (k : Int) (recN x im k) cm due R ∧ R.length ≤ 3 * k)) (fun _ wr => Nn - cntAt wr bM)
    case atStart => exact ⟨0, M0, D1, f1, D2, f2, D3, f3, 0, -1, [], Nat.zero_le _, rfl, HM0.out, HB5.out.1, HB5.out.2.1, ⟨rfl, Or.inl ⟨rfl, rfl, by decide, rfl⟩⟩, by simp⟩
    case round =>
      obtain ⟨k, M, B1, e1, B2, e2, B3, e3, cm, due, R, hk, rfl, HR⟩ := hrel
      have hok := rec_ok HWM.out.1 HNI.out k (by have := HNN.out.1; omega)
      have HMM : Hid (MayP M ∧ (M.fin = 0 → M.count = (k : Int)) ∧ M.count ≤ (k : Int)) := by
        rw [HR.out.1]
        exact ⟨hok.may, hok.cnt, hok.cle⟩
      clear hok
      obtain ⟨⟨m0, m1, m2, m3, m4, m5, m6, m7, m8, m9, m10, m11⟩, mf, ml⟩ := twelve_cells HR.out.2.1.mb
      by_cases hgo : M.fin = 0 ∧ k < Nn
      case pos =>
        have d0 : (M.fin == 0) = true := by simp [hgo.1]
        have hcm := HMM.out.2.1 hgo.1
        have d1 : M.count < (Nn : Int) := by omega
        have HGO : Hid (M.fin = 0 ∧ k < Nn ∧ M.count = (k : Int)) := ⟨hgo.1, hgo.2, hcm⟩
        have hst : Calls Tryz.prog 53 #[ptr g.p, .agg (M.cells (.slice B1 M.regs.length e1) (.slice B2 M.mem.length e2) (.slice B3 M.out.length e3))] wr fun e w' => ∃ rv' mv' ov' R' cm' due', e = .returned (.tuple #[.agg ((recN x im (k + 1)).m.cells rv' mv' ov'), .int .i64 0]) ∧ OwnM w' w.heap.size rv' mv' ov' (recN x im (k + 1)).m ∧ RcAt w' w.heap.size g iv zv x (recN x im (k + 1)).va cm' (recN x im (k + 1)).bl due' R' ∧ RcRel ((k : Int) + 1) (recN x im (k + 1)) cm' due' R' ∧ R'.length ≤ R.length + 3 ∧ KpI w.heap.size wr w' := by
          have hM := HR.out.1
          have hf0 : (recN x im k).m.fin = 0 := by rw [← hM]; exact hgo.1
          rw [rec_step hf0]
          have e := rstep_any g w.heap.size iv zv x (recN x im k) cm due (k : Int) R (.slice B1 M.regs.length e1) (.slice B2 M.mem.length e2) (.slice B3 M.out.length e3) wr HR.out.2.2.1 HR.out.2.2.2.1 HWM.out.1 (by have := HR.out.2.2.2.2; have := HNN.out.1; omega) (by rw [← hM]; exact HR.out.2.1.own) (by rw [← hM]; exact HMM.out.1) hf0 (by rw [← hM]; exact hcm) ⟨by omega, by have := HNN.out.1; omega⟩
          rw [← hM] at e
          exact e
        have HST : Hid (Calls Tryz.prog 53 #[ptr g.p, .agg (M.cells (.slice B1 M.regs.length e1) (.slice B2 M.mem.length e2) (.slice B3 M.out.length e3))] wr fun e w' => ∃ rv' mv' ov' R' cm' due', e = .returned (.tuple #[.agg ((recN x im (k + 1)).m.cells rv' mv' ov'), .int .i64 0]) ∧ OwnM w' w.heap.size rv' mv' ov' (recN x im (k + 1)).m ∧ RcAt w' w.heap.size g iv zv x (recN x im (k + 1)).va cm' (recN x im (k + 1)).bl due' R' ∧ RcRel ((k : Int) + 1) (recN x im (k + 1)) cm' due' R' ∧ R'.length ≤ R.length + 3 ∧ KpI w.heap.size wr w') := hst
        simp only [Mach.cells] at HST
        clear hst hgo hcm
        go_wp2_with fail
        refine HST.out.mono ?_
        rintro e w6 ⟨rv', mv', ov', R', cm', due', rfl, ho6, hr6, hrel6, hl6, hk6⟩
        obtain ⟨E1, g1, E2, g2, E3, g3, rfl, rfl, rfl⟩ := ho6.shape
        obtain ⟨N, hN⟩ : ∃ N, N = (recN x im (k + 1)).m := ⟨_, rfl⟩
        rw [← hN] at ho6 ⊢
        have H6 : Hid (OwnM w6 w.heap.size (.slice E1 N.regs.length g1) (.slice E2 N.mem.length g2) (.slice E3 N.out.length g3) N ∧ RcAt w6 w.heap.size g iv zv x (recN x im (k + 1)).va cm' (recN x im (k + 1)).bl due' R' ∧ RcRel ((k : Int) + 1) (recN x im (k + 1)) cm' due' R' ∧ R'.length ≤ R.length + 3 ∧ RBox w w6 #[.slice A0 x.irqs.length k0, .slice A1 x.values.length k1, .slice A2 x.blocks.length k2, .slice A3 x.delays.length k3] bM (.slice B1 M.regs.length e1) (.slice B2 M.mem.length e2) (.slice B3 M.out.length e3) M ∧ N = (recN x im (k + 1)).m) := ⟨ho6, hr6, hrel6, hl6, HR.out.2.1.kp hk6, hN⟩
        have HMS : Hid (cntAt wr bM = k) := by
          show _ = _
          rw [cntAt_of HR.out.2.1.mb, HGO.out.2.2]
          simp
        clear ho6 hr6 hrel6 hl6 hk6 hN HST m0 m1 m2 m3 m4 m5 m6 m7 m8 m9 m10 m11 mf ml
        obtain ⟨⟨m0, m1, m2, m3, m4, m5, m6, m7, m8, m9, m10, m11⟩, mf, ml⟩ := twelve_cells H6.out.2.2.2.2.1.mb
        simp only
        go_wp2_with fail
        have hput := H6.out.2.2.2.2.1.put H6.out.1
        have hNc : N.count = ((k + 1 : Nat) : Int) := by
          rw [H6.out.2.2.2.2.2, rec_step (by rw [← HR.out.1]; exact HGO.out.1)]
          show (RecS.then_ _ _ _).count = _
          unfold RecS.then_
          rw [step_going _ _ _ (by rw [← HR.out.1]; exact HGO.out.1), ← HR.out.1, HGO.out.2.2]
          omega
        refine ⟨⟨k + 1, N, E1, g1, E2, g2, E3, g3, cm', due', R', HGO.out.2.1, rfl, H6.out.2.2.2.2.2, hput, H6.out.2.1.set12 ⟨_, H6.out.2.2.2.2.1.mb⟩ (by have := H6.out.2.2.2.2.1.hb; omega) _ _ _ _ _ _ _ _ _ _ _ _, by have e := H6.out.2.2.1; rw [Int.natCast_succ]; exact e, by have := H6.out.2.2.2.1; have := HR.out.2.2.2.2; omega⟩, ?_⟩
        have h1 := cntAt_of hput.mb
        rw [HMS.out]
        refine Nat.lt_of_le_of_lt (Nat.le_of_eq (congrArg (Nn - ·) h1)) ?_
        have := HGO.out.2.1
        rw [hNc]
        omega
      case neg =>
        have HEND : Hid (recN x im k = recN x im Nn) := by
          show _ = _
          by_cases hf : M.fin = 0
          · have : k = Nn := by
              have h1 : ¬ k < Nn := fun e => hgo ⟨hf, e⟩
              omega
            rw [this]
          · have e := rec_stays (x := x) (im := im) (k := k) (by rw [← HR.out.1]; exact hf) (Nn - k)
            rw [show k + (Nn - k) = Nn by omega] at e
            exact e.symm
        have hx2 : (M.fin == 0) = false ∨ ((M.fin == 0) = true ∧ ¬ M.count < (Nn : Int)) := by
          by_cases hf : M.fin = 0
          · refine Or.inr ⟨by simp [hf], ?_⟩
            have := HMM.out.2.1 hf
            have h1 : ¬ k < Nn := fun e => hgo ⟨hf, e⟩
            omega
          · exact Or.inl (by simpa using hf)
        obtain ⟨ev6, q1, q2⟩ := HR.out.2.2.1.box
        have HEV : Hid (EvsF wr ev6 (recN x im Nn).evs) := by
          have e := q2.evs HR.out.2.2.1.lw (by have := HR.out.2.2.2.2; have := HNN.out.1; omega) (fun p hp => recs_data HWM.out.1 k p.1 (by rw [← HR.out.2.2.2.1.evs]; exact List.mem_map_of_mem hp))
          rw [HR.out.2.2.2.1.evs, HEND.out] at e
          exact e
        obtain ⟨⟨p0, p1, p2, p3, p4, p5⟩, pf, pl⟩ := six_cells q1
        obtain ⟨Ae, ce, rfl⟩ := q2.shape
        clear q1 q2 hgo
        rcases hx2 with d0 | ⟨d0, d1⟩
        all_goals
          go_wp2_with fail
          by_cases hen : chkNo (recN x im Nn).evs = 0
          case neg =>
            refine (Encode_no _ _ wr HEV.out.at_ (HI.out.2.below HR.out.2.1.old) hen).mono ?_
            rintro e w7 ⟨rfl, hb7⟩
            have HE : Hid (G = ⟨chkNo (recN x im Nn).evs, [], [], 0, recNone⟩) := HG.out.trans (recA_no HNN.out.2 hen)
            have d2 : (chkNo (recN x im Nn).evs != 0) = true := by simpa using hen
            have HB7 := HR.out.2.1.below hb7
            have HBS := HB7.old.size
            have HBO : Hid (Below w.heap.size w w7) := HB7.old
            clear hen
            revert HE d2
            generalize chkNo (recN x im Nn).evs = kn
            intro HE d2
            obtain ⟨t0, t1, t2, tf, tl⟩ := three_cells HB7.tb
            obtain ⟨⟨y0, y1, y2, y3, y4, y5, y6, y7, y8, y9, y10, y11⟩, yf, yl⟩ := twelve_cells HB7.rb
            clear hb7 HB7 m0 m1 m2 m3 m4 m5 m6 m7 m8 m9 m10 m11 mf ml p0 p1 p2 p3 p4 p5 pf pl
            try dsimp only
            go_wp2_with fail
            refine bodyPost_ret (v := .tuple #[.agg #[.slice none 0 0, .slice none 0 0, .int .i64 0], .agg zeroM, .int .i64 kn]) (by simp [results, Tryz.results27, go_sem, t0, t1, t2, y0, y1, y2, y3, y4, y5, y6, y7, y8, y9, y10, y11]) rfl ?_
            rw [HE.out]
            refine recQ_no ?_
            repeat (refine Below.setCell ?_ (by first | (simp; done) | (simp; omega)) _)
            exact HBO.out
          case pos =>
            refine (Encode_ok _ _ wr HEV.out (HI.out.2.below HR.out.2.1.old) hen).mono ?_
            rintro e w7 ⟨u, rfl, hu7, hb7⟩
            obtain ⟨Au, cu, rfl⟩ := hu7.shape
            obtain ⟨nu, hnu⟩ : ∃ nu, nu = (fullB (recN x im Nn).evs).length := ⟨_, rfl⟩
            rw [← hnu] at hu7 ⊢
            clear hnu
            have HE : Hid (G = ⟨0, im, fullB (recN x im k).evs, M.count, M⟩) := by
              show _ = _
              rw [HG.out, recA_ok (HNN.out.2.trans hen), Int.toNat_natCast, ← HEND.out, ← HR.out.1]
            have H7 : Hid (RBox w w7 #[.slice A0 x.irqs.length k0, .slice A1 x.values.length k1, .slice A2 x.blocks.length k2, .slice A3 x.delays.length k3] bM (.slice B1 M.regs.length e1) (.slice B2 M.mem.length e2) (.slice B3 M.out.length e3) M ∧ OwnB w7 w.heap.size (.slice Au nu cu) (fullB (recN x im k).evs) ∧ IntsAt w7 (.slice A im.length ca) im) := ⟨HR.out.2.1.below hb7, by rw [HEND.out]; exact hu7.mono HR.out.2.1.old.size, HI.out.1.below (HR.out.2.1.below hb7).old⟩
            clear hen hu7 hb7 m0 m1 m2 m3 m4 m5 m6 m7 m8 m9 m10 m11 mf ml p0 p1 p2 p3 p4 p5 pf pl
            obtain ⟨⟨m0, m1, m2, m3, m4, m5, m6, m7, m8, m9, m10, m11⟩, mf, ml⟩ := twelve_cells H7.out.1.mb
            try dsimp only
            go_wp2_with fail
            have hbm := H7.out.1.hb
            have hn1 : ¬ w.heap.size + 1 = bM := by omega
            have hn2 : ¬ w.heap.size + 1 + 1 = bM := by omega
            have hn3 : ¬ bM = w.heap.size + 1 := by omega
            have hn4 : ¬ bM = w.heap.size + 1 + 1 := by omega
            go_region_held3 (fun w' => w'.cell? ⟨bM, 0, none⟩ = some (.slice B1 M.regs.length e1) ∧ w'.cell? ⟨bM, 1, none⟩ = some (.int .i64 M.pc) ∧ w'.cell? ⟨bM, 2, none⟩ = some (.int .i64 M.back) ∧ w'.cell? ⟨bM, 3, none⟩ = some (.bool M.ints) ∧ w'.cell? ⟨bM, 4, none⟩ = some (.bool M.wait) ∧ w'.cell? ⟨bM, 5, none⟩ = some (.int .i64 M.table) ∧ w'.cell? ⟨bM, 6, none⟩ = some (.int .i64 M.count) ∧ w'.cell? ⟨bM, 7, none⟩ = some (.int .i64 M.fin) ∧ w'.cell? ⟨bM, 8, none⟩ = some (.slice B2 M.mem.length e2) ∧ w'.cell? ⟨bM, 9, none⟩ = some (.slice B3 M.out.length e3) ∧ w'.cell? ⟨bM, 10, none⟩ = some (.int .i64 M.ready) ∧ w'.cell? ⟨bM, 11, none⟩ = some (.int .i64 M.want)) (go_keep)
              (first | (go_at_call 30; refine (Clone_any _ im _ (by first | exact H7.out.2.2 | exact H7.out.2.2.below ((Below.refl _ w7).drew))).mono ?_; rintro e w8 ⟨A8, c8, rfl, o8, b8⟩; have H8 : Hid (RBox w w8 #[.slice A0 x.irqs.length k0, .slice A1 x.values.length k1, .slice A2 x.blocks.length k2, .slice A3 x.delays.length k3] bM (.slice B1 M.regs.length e1) (.slice B2 M.mem.length e2) (.slice B3 M.out.length e3) M ∧ OwnB w8 w.heap.size (.slice Au nu cu) (fullB (recN x im k).evs) ∧ OwnI w8 w.heap.size (.slice A8 im.length c8) im) := (by first | exact ⟨H7.out.1.below b8, H7.out.2.1.below b8, ownsRow_mono o8 H7.out.1.old.size⟩ | exact ⟨(H7.out.1.below ((Below.refl _ w7).drew)).below b8, (H7.out.2.1.below ((Below.refl _ w7).drew)).below b8, ownsRow_mono o8 H7.out.1.old.size⟩); clear o8 b8 mf ml; obtain ⟨⟨n0, n1, n2, n3, n4, n5, n6, n7, n8, n9, n10, n11⟩, nf, nl⟩ := twelve_cells H8.out.1.mb; obtain ⟨t0, t1, t2, tf, tl⟩ := three_cells H8.out.1.tb; obtain ⟨⟨y0, y1, y2, y3, y4, y5, y6, y7, y8, y9, y10, y11⟩, yf, yl⟩ := twelve_cells H8.out.1.rb))
            go_wp2_with fail
            refine bodyPost_ret (v := .tuple #[.agg #[.slice A8 im.length c8, .slice Au nu cu, .int .i64 M.count], .agg #[.slice B1 M.regs.length e1, .int .i64 M.pc, .int .i64 M.back, .bool M.ints, .bool M.wait, .int .i64 M.table, .int .i64 M.count, .int .i64 M.fin, .slice B2 M.mem.length e2, .slice B3 M.out.length e3, .int .i64 M.ready, .int .i64 M.want], .int .i64 0]) (by simp [results, Tryz.results27, go_sem, t0, t1, t2, y0, y1, y2, y3, y4, y5, y6, y7, y8, y9, y10, y11]) rfl ?_
            rw [HE.out]
            have hT : IsBoxT w8 (w.heap.size + 1) 27 := ⟨_, H8.out.1.tb⟩
            have hM : IsBoxT w8 (w.heap.size + 1 + 1) 37 := ⟨_, H8.out.1.rb⟩
            exact ⟨_, _, B1, e1, B2, e2, B3, e3, rfl, final_own H8.out.2.2 hT hM (by decide) (by decide) _ _ _ _ _ _ _ _ _ _ _ _ _ _ _, final_own H8.out.2.1 hT hM (by decide) (by decide) _ _ _ _ _ _ _ _ _ _ _ _ _ _ _, ⟨final_own H8.out.1.own.regs hT hM (by decide) (by decide) _ _ _ _ _ _ _ _ _ _ _ _ _ _ _, final_own H8.out.1.own.mem hT hM (by decide) (by decide) _ _ _ _ _ _ _ _ _ _ _ _ _ _ _, final_own H8.out.1.own.out hT hM (by decide) (by decide) _ _ _ _ _ _ _ _ _ _ _ _ _ _ _, H8.out.1.own.rm, H8.out.1.own.ro, H8.out.1.own.mo⟩, final_below H8.out.1.old (by omega) (by omega) _ _ _ _ _ _ _ _ _ _ _ _ _ _ _⟩

end Go.Proofs.YtecpblabaelopaaGreatDoor

/- What is recorded of raw things: plain laws. -/

namespace Go.Proofs.YtecpblabaelopaaGreatDoor
open Go.RowKit
set_option maxRecDepth 100000

theorem OwnI.tail {w : World} {lo : Nat} {v : Value} {l : List Int} (h : OwnI w lo v l) (hl : l.length * 8 ≤ 140737488351232) : TailI w.heap.size w v l := by
  have hi := h.at hl
  rcases h.2 with ⟨rfl, hn⟩ | ⟨g, cap, cur, rfl, hg, hh, hc, _⟩
  · exact ⟨none, 0, by rw [hn], by omega, hl, fun h0 => by omega⟩
  · obtain ⟨A, c, e, _, h2⟩ := hi
    simp only [Value.slice.injEq] at e
    obtain ⟨rfl, -, rfl⟩ := e
    exact ⟨_, cap, rfl, hc, hl, fun h0 => by
      obtain ⟨b, off, e, hb, hj⟩ := h2 h0
      exact ⟨b, off, e, hb, hj⟩⟩
theorem WorldT.tail {w w' : World} {iv vv bv dv : Value} {rows : List Value} {x : Wd} (h : WorldT w w' iv vv bv dv rows x) (hb : ∀ b ∈ x.blocks, b.length ≤ 1000) (hl : x.blocks.length ≤ 1000) : TailR w'.heap.size w' bv x.blocks := by
  have hr := h.rl
  rcases h.top.2 with ⟨rfl, hn⟩ | ⟨g, cap, cur, rfl, hg, hh, hc, _⟩
  · exact ⟨none, 0, by rw [hn], by omega, by omega, fun h0 => by omega⟩
  · refine ⟨_, cap, rfl, hc, by omega, fun _ => ⟨g, 0, rfl, lt_of_block hh, fun j hj => ?_⟩⟩
    have h1 := h.top.cellAt j (by omega)
    have hjr : j < rows.length := by omega
    have e1 : x.blocks.getD j [] = x.blocks[j] := by simp [List.getD, hj]
    refine ⟨rows[j], by rw [Nat.zero_add, h1, List.getElem?_eq_getElem hjr], ?_⟩
    rw [e1]
    have hz : (rows[j], x.blocks[j]) ∈ rows.zip x.blocks := by
      have hjz : j < (rows.zip x.blocks).length := by rw [List.length_zip]; omega
      have : (rows.zip x.blocks)[j] = (rows[j], x.blocks[j]) := by simp
      rw [← this]
      exact List.getElem_mem hjz
    have := hb _ (List.getElem_mem hj)
    exact (h.ints.1 (rows[j], x.blocks[j]) (by simp [hz])).tail (by show (x.blocks[j]).length * 8 ≤ _; omega)
theorem WorldT.wdt {w w' : World} {iv vv bv dv : Value} {rows : List Value} {R : List Raw4} (h : WorldT w w' iv vv bv dv rows (worldF R)) (hR : R.length ≤ 20) : WdT w'.heap.size w' iv vv bv dv (worldF R) := by
  obtain ⟨l1, l2, l3, l4⟩ := worldF_lens R
  have i1 : OwnI w' w.heap.size iv (worldF R).irqs := h.ints.1 (iv, _) (by simp)
  have i2 : OwnI w' w.heap.size vv (worldF R).values := h.ints.1 (vv, _) (by simp)
  have i3 : OwnI w' w.heap.size dv (worldF R).delays := h.ints.1 (dv, _) (by simp)
  exact ⟨i1.tail (by omega), i2.tail (by omega), h.tail (fun b hb => by
    obtain ⟨r, _, rfl⟩ := List.mem_map.1 hb
    rw [blockF_len]; omega) (by omega), i3.tail (by omega), Nat.le_refl _⟩
abbrev wdOf (S : List Raw4) : Wd := worldF (S.take 20)
theorem wdOf_no (S : List Raw4) : worldNo (wdOf S) = 0 := worldF_no (by simp; omega)
theorem recFine (R S : List Raw4) {N : Nat} (hN : N ≤ 900) : RecFine (wdOf S) (imageF R) N := ⟨worldF_small (by simp; omega), imageF_new R, hN⟩
def RecdQ (w : World) (R S : List Raw4) (N : Nat) (e : Ending) (w' : World) : Prop :=
  ∃ ti te A1 d1 A2 d2 A3 d3, e = .returned (.tuple #[.agg #[ti, te, .int .i64 (recC (wdOf S) (imageF R) N)], .agg ((recN (wdOf S) (imageF R) N).m.cells (.slice A1 (recN (wdOf S) (imageF R) N).m.regs.length d1) (.slice A2 (recN (wdOf S) (imageF R) N).m.mem.length d2) (.slice A3 (recN (wdOf S) (imageF R) N).m.out.length d3)), .bool true]) ∧ OwnI w' w.heap.size ti (imageF R) ∧ OwnB w' w.heap.size te (fullB (recN (wdOf S) (imageF R) N).evs) ∧ OwnM w' w.heap.size (.slice A1 (recN (wdOf S) (imageF R) N).m.regs.length d1) (.slice A2 (recN (wdOf S) (imageF R) N).m.mem.length d2) (.slice A3 (recN (wdOf S) (imageF R) N).m.out.length d3) (recN (wdOf S) (imageF R) N).m ∧ Below w.heap.size w w'
theorem pick_nat {n m : Int} (hm : 0 < m) : pickF n m = ((pickF n m).toNat : Int) ∧ (pickF n m).toNat < m.toNat := by
  have := pickF_bd n hm
  omega
theorem Chg.ownB {F : Nat → Prop} {w w' : World} (h : Chg F w w') {lo : Nat} {v : Value} {l : List Int} (k : OwnB w lo v l) (hn : ∀ g, v.ownBlock = some g → ¬ F g) : OwnB w' lo v l := h.owns k hn

end Go.Proofs.YtecpblabaelopaaGreatDoor

/- A tape of the call's own, to be handed on. -/

namespace Go.Proofs.YtecpblabaelopaaGreatDoor
open Go.RowKit
set_option maxRecDepth 100000

theorem OwnB.fit {w : World} {lo : Nat} {v : Value} {l : List Int} (h : OwnB w lo v l) : ∃ A c, v = .slice A l.length c ∧ l.length ≤ c := by
  rcases h.2 with ⟨rfl, hn⟩ | ⟨g, cap, cur, rfl, _, _, hn, _⟩
  · exact ⟨none, 0, by rw [hn], by omega⟩
  · exact ⟨_, cap, rfl, hn⟩
theorem tape_own {w : World} {lo : Nat} {ti te : Value} {im : List Int} {L : List Ev} (h1 : OwnI w lo ti im) (h2 : OwnB w lo te (fullB L)) (hi : im.length ≤ 1000) (hb : (fullB L).length ≤ 60000) : TapeAt w ti te im (fullB L) :=
  ⟨h1.at (by omega), h2.read (by omega) (fullB_byte L), h2.fit⟩
theorem RecdQ.tape {w' : World} {R S : List Raw4} {N lo : Nat} {ti te : Value} (hN : N ≤ 900) (h1 : OwnI w' lo ti (imageF R)) (h2 : OwnB w' lo te (fullB (recN (wdOf S) (imageF R) N).evs)) : TapeAt w' ti te (imageF R) (fullB (recN (wdOf S) (imageF R) N).evs) :=
  tape_own h1 h2 (by have := imageF_len R; omega) (recFine R S hN).bytes

end Go.Proofs.YtecpblabaelopaaGreatDoor
