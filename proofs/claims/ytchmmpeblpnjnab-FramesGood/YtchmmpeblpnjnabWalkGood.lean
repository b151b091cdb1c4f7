/- The walk of the law FramesGood. -/
import Derived.Test.YtchmmpeblpnjnabGood
import Derived.Test.YtchmmpeblpnjnabWalkFull
import Derived.Deep.RegionHeld3
namespace Go.Proofs.Ytchmmpeblpnjnab
open Go.RowKit

/-- A slice of so many raw things: four numbers each. -/
def RawsAt (w : World) (v : Value) (n : Nat) : Prop :=
  ∃ (A : Option Addr) (c : Nat), v = .slice A n c ∧ n * 32 ≤ 140737488351232 ∧
    (0 < n → ∃ b off, A = some ⟨b, off, none⟩ ∧ b < w.heap.size ∧ ∀ j, j < n → ∃ x0 x1 x2 x3 : Int, (Lit.int .i64 x0).wf = true ∧ (Lit.int .i64 x1).wf = true ∧ (Lit.int .i64 x2).wf = true ∧ (Lit.int .i64 x3).wf = true ∧
      w.cell? ⟨b, off + j * 4, none⟩ = some (.int .i64 x0) ∧ w.cell? ⟨b, off + j * 4 + 1, none⟩ = some (.int .i64 x1) ∧ w.cell? ⟨b, off + j * 4 + 2, none⟩ = some (.int .i64 x2) ∧ w.cell? ⟨b, off + j * 4 + 3, none⟩ = some (.int .i64 x3))

set_option maxHeartbeats 400000 in
theorem framesTells_any (w : World) : Calls Try.prog 14 #[] w fun e w' => e = .returned (.bool true) ∧ Below w.heap.size w w' := by
  go_enter Try.func14, Try.ntmps14
  go_wp2_with fail
  refine (New_any (-1) _).mono ?_
  have e1 : newD (-1) = [] := by decide
  have e2 : newR (-1) = [] := by decide
  have e3 : newE (-1) = 2 := by decide
  unfold NewPost
  rw [e1, e2, e3]
  clear e1 e2 e3
  rintro e w1 ⟨A, c, B, c', rfl, _, _, hb⟩
  go_wp2
  go_ret
  exact ⟨rfl, hb.alloc hb.size _⟩

set_option maxHeartbeats 2000000 in
theorem FramesGood_any (lv : Value) (len : Nat) (n : Int) (w : World) (hl : RawsAt w lv len) (hn : (Lit.int .i64 n).wf = true) :
    Calls Try.prog 5 #[lv, .int .i64 n] w fun e w' => e = .returned (.bool true) ∧ Below w.heap.size w w' := by
  obtain ⟨AL, cl, rfl, hl32, hlc⟩ := hl
  have HN : Hid (_) := hn
  obtain ⟨p1, p2⟩ := pickF_bd n (m := 12) (by decide)
  obtain ⟨p, hp⟩ := Int.eq_ofNat_of_zero_le p1
  have HP : Hid (pickF n 12 = (p : Int)) := hp
  have hp12 : p < 12 := by omega
  have HLC : Hid (_) := hlc
  clear hp p1 p2 hn hlc
  go_enter Try.func5, Try.ntmps5
  go_wp2_with fail
  refine (framesTells_any _).mono ?_
  rintro e w0 ⟨rfl, hb0⟩
  go_wp2_with fail
  refine (picked_any n 12 _ HN.out (by decide) (by decide)).mono ?_
  rw [HP.out]
  rintro e w' ⟨rfl, rfl⟩
  go_wp2_with fail
  refine (newK p (by omega) _).mono ?_
  rintro e w1 ⟨A0, c0, B0, c0', rfl, hd, hr, hb⟩
  have F0 := BoxF.start hb hd.at hr.at
  have HF0 : Hid (_) := F0
  have hb0' := hb0.size
  have hq0 : w.heap.size ≤ w1.heap.size := Nat.le_trans hb0' hb.size
  have HB0 : Hid (_) := hb0
  clear hd hr hb F0 hb0 hb0'
  go_wp2_with fail
  go_loopw [7] (fun i wr => ∃ (m : Nat) (D : List (List Int)) (R : List Int) (A B : Option Addr) (c c' : Nat), m ≤ len ∧ m ≤ 60 ∧ i = .int .i64 (m : Nat) ∧ May D R ∧ BoxF w' w1.heap.size A c B c' D R wr) (fun i _ => len - (intOf i).toNat)
  case atStart => exact ⟨0, _, _, _, _, _, _, Nat.zero_le _, Nat.zero_le _, rfl, full_may (Nat.zero_le _) (by omega), HF0.out⟩
  case round =>
    clear HF0
    obtain ⟨m, D, R, A, B, c, c', hm, hm60, rfl, hmay, F⟩ := hrel
    obtain ⟨hx0, hx1, hxf, hxl⟩ := two_cells F.box
    by_cases hlt : m < len ∧ m < 60
    · obtain ⟨hlt1, hlt2⟩ := hlt
      obtain ⟨b, off, rfl, hbs, hcell⟩ := HLC.out (by omega)
      obtain ⟨x0, x1, x2, x3, y0, y1, y2, y3, h0, h1, h2, h3⟩ := hcell m hlt1
      clear hcell
      have Bw : Below w.heap.size w wr := HB0.out.trans (F.old.mono HB0.out.size)
      rw [← Bw.cell (p := ⟨b, off + m * 4, none⟩) hbs] at h0
      rw [← Bw.cell (p := ⟨b, off + m * 4 + 1, none⟩) hbs] at h1
      rw [← Bw.cell (p := ⟨b, off + m * 4 + 2, none⟩) hbs] at h2
      rw [← Bw.cell (p := ⟨b, off + m * 4 + 3, none⟩) hbs] at h3
      have HBW : Hid (_) := Bw
      have Y : Hid (_ ∧ _ ∧ _) := ⟨y0, y1, y2⟩
      have HMAY : Hid (_) := hmay
      obtain ⟨ka, hka⟩ : ∃ ka, ka = pickF x1 12 := ⟨_, rfl⟩
      have HKA : Hid (pickF x1 12 = ka) := hka.symm
      obtain ⟨d1, d2⟩ := pickF_bd x0 (m := 6) (by decide)
      obtain ⟨kd, hkd⟩ : ∃ kd, kd = pickF x0 6 := ⟨_, rfl⟩
      rw [← hkd] at d1 d2
      have HKD : Hid (pickF x0 6 = kd) := hkd.symm
      clear Bw y0 y1 y2 y3 hmay hka hkd
      go_wp2_with fail
      refine (picked_any x1 12 _ Y.out.2.1 (by decide) (by decide)).mono ?_
      rw [HKA.out]
      rintro e w'' ⟨rfl, rfl⟩
      go_wp2_with fail
      refine (picked_any x0 6 _ Y.out.1 (by decide) (by decide)).mono ?_
      rw [HKD.out]
      rintro e w'' ⟨rfl, rfl⟩
      obtain ⟨W2, hW2⟩ : ∃ W2, W2 = ((wr.alloc (.cells #[.int .i64 x0, .int .i64 x1, .int .i64 x2, .int .i64 x3] 41)).alloc (.cells #[.slice A D.length c, .slice B R.length c'] 25)) := ⟨_, rfl⟩
      rw [← hW2]
      have HBL : Hid (Below wr.heap.size wr W2) := by rw [hW2]; exact (below_alloc _ _).alloc (by simp) _
      have hWs : W2.heap.size = wr.heap.size + 1 + 1 := by rw [hW2]; simp
      have HWs : Hid (_) := hWs
      have HG : Hid (W2.heap[wr.heap.size + 1]? = some (.cells #[.slice A D.length c, .slice B R.length c'] 25 (0, 0))) := by
        rw [hW2]
        have := Go.Deep.blk_alloc_new (wr.alloc (.cells #[.int .i64 x0, .int .i64 x1, .int .i64 x2, .int .i64 x3] 41)) (.cells #[.slice A D.length c, .slice B R.length c'] 25)
        simpa [Hid] using this
      have HRW : Hid (W2.heap[wr.heap.size]? = some (.cells #[.int .i64 x0, .int .i64 x1, .int .i64 x2, .int .i64 x3] 41 (0, 0))) := by
        rw [hW2]
        show _ = _
        rw [Go.Deep.blk_alloc_lt _ _ _ (by simp), Go.Deep.blk_alloc_new]
      have hrw2 : W2.cell? ⟨wr.heap.size, 2, none⟩ = some (.int .i64 x2) := by have := HRW.out; simp [World.cell?, this]
      have hrw3 : W2.cell? ⟨wr.heap.size, 3, none⟩ = some (.int .i64 x3) := by have := HRW.out; simp [World.cell?, this]
      have F2 := F.keep HBL.out
      obtain ⟨hgb0, hgb1, hgf, hgl⟩ := two_cells HG.out
      have hgf0 := hgf 0
      have hgf1 := hgf 1
      have hq1 : w1.heap.size < wr.heap.size := hxl
      have hww : w'.heap.size ≤ w1.heap.size := F.lo
      have wl1 : wr.heap.size + 1 < W2.heap.size := by omega
      have wl2 : w1.heap.size < W2.heap.size := by omega
      clear hx0 hx1 hxf hxl hgf h0 h1 h2 h3 hW2 hWs hgl
      obtain ⟨hx0, hx1, hxf, hxl⟩ := two_cells F2.box
      have hgl := wl1
      rcases (show kd = 0 ∨ kd = 1 ∨ kd = 2 ∨ kd = 3 ∨ 4 ≤ kd by omega) with hk | hk | hk | hk | hk
      · have g0 : (kd == 0) = true := by simp [hk]
        clear hk hrw2 hrw3
        obtain ⟨D2, R2, i0, er, hm2, hcall⟩ := Take_good (.slice A D.length c) (.slice B R.length c') D R W2 F2.rows F2.ints HMAY.out
        have HM2 : Hid (_) := hm2
        have HC : Hid (Calls Try.prog 17 #[.agg #[.slice A D.length c, .slice B R.length c']] W2 fun e w' => Res3 W2 D2 R2 i0 er e w') := hcall
        clear hm2 hcall d1 d2
        go_wp2_with fail
        refine HC.out.mono ?_
        rintro e w2 ⟨A2, c2, B2, c2', rfl, hd, hr, hb⟩
        clear HC
        clear hx0 hx1 hxf hxl hgb0 hgb1 hgf0 hgf1 hgl
        obtain ⟨hx0, hx1, hxf, hxl⟩ := two_cells (F2.keep hb).box
        have hgk : w2.heap[wr.heap.size + 1]? = some (.cells #[.slice A D.length c, .slice B R.length c'] 25 (0, 0)) := by rw [hb.block _ (by omega)]; exact HG.out
        obtain ⟨hg0, hg1, hgf, hgl⟩ := two_cells hgk
        have hgf0 := hgf 0
        have hgf1 := hgf 1
        have hxf0 := hxf 0
        have hxf1 := hxf 1
        clear hxf hgf hgk
        by_cases her : er = 0
        · subst her
          have FA := F2.assign (g := wr.heap.size + 1) (by omega) (by omega) (by omega) hb hd hr (.slice A2 D2.length c2) (.slice B2 R2.length c2')
          have hmay2 := HM2.out rfl
          clear hb hd hr F2 F
          go_wp2_with fail
          refine (Check_any _ _ D2 R2 _ FA.rows FA.ints).mono ?_
          rw [mayNo_yes hmay2]
          rintro e w5 ⟨rfl, hb5⟩
          have FB := FA.keep hb5
          have HFB : Hid (_ ∧ _) := ⟨hmay2, FB⟩
          clear hb5 FA FB hmay2 hx0 hx1 hxf0 hxf1 hg0 hg1 hgf0 hgf1
          go_wp2
          refine ⟨⟨m + 1, D2, R2, _, _, _, _, by omega, by omega, by go_num, HFB.out.1, HFB.out.2⟩, ?_⟩
          simp [intOf]; omega
        · have her' : (er == 0) = false := by simpa using her
          have FA := F.keep (((HBL.out.trans (hb.mono HBL.out.size)).setCell (p := ⟨wr.heap.size + 1, 0, none⟩) (by simp) (.slice A2 D2.length c2)).setCell (p := ⟨wr.heap.size + 1, 1, none⟩) (by simp) (.slice B2 R2.length c2'))
          clear hb hd hr F2 F her
          go_wp2_with fail
          refine (Check_any _ _ D R _ FA.rows FA.ints).mono ?_
          rw [mayNo_yes HMAY.out]
          rintro e w5 ⟨rfl, hb5⟩
          have FB := FA.keep hb5
          have HFB : Hid (_) := FB
          clear hb5 FA FB hx0 hx1 hxf0 hxf1 hg0 hg1 hgf0 hgf1
          go_wp2
          refine ⟨⟨m + 1, D, R, _, _, _, _, by omega, by omega, by go_num, HMAY.out, HFB.out⟩, ?_⟩
          simp [intOf]; omega
      · have g0 : (kd == 0) = false := by simp; omega
        have g1 : (kd == 1) = true := by simp [hk]
        clear hk hrw2 hrw3
        obtain ⟨D2, R2, i0, er, hm2, hcall⟩ := Take_good (.slice A D.length c) (.slice B R.length c') D R W2 F2.rows F2.ints HMAY.out
        have HM2 : Hid (_) := hm2
        have HC : Hid (Calls Try.prog 17 #[.agg #[.slice A D.length c, .slice B R.length c']] W2 fun e w' => Res3 W2 D2 R2 i0 er e w') := hcall
        clear hm2 hcall d1 d2
        go_wp2_with fail
        refine HC.out.mono ?_
        rintro e w2 ⟨A2, c2, B2, c2', rfl, hd, hr, hb⟩
        clear HC
        clear hx0 hx1 hxf hxl hgb0 hgb1 hgf0 hgf1 hgl
        obtain ⟨hx0, hx1, hxf, hxl⟩ := two_cells (F2.keep hb).box
        have hgk : w2.heap[wr.heap.size + 1]? = some (.cells #[.slice A D.length c, .slice B R.length c'] 25 (0, 0)) := by rw [hb.block _ (by omega)]; exact HG.out
        obtain ⟨hg0, hg1, hgf, hgl⟩ := two_cells hgk
        have hgf0 := hgf 0
        have hgf1 := hgf 1
        have hxf0 := hxf 0
        have hxf1 := hxf 1
        clear hxf hgf hgk
        by_cases her : er = 0
        · subst her
          have FA := F2.assign (g := wr.heap.size + 1) (by omega) (by omega) (by omega) hb hd hr (.slice A2 D2.length c2) (.slice B2 R2.length c2')
          have hmay2 := HM2.out rfl
          clear hb hd hr F2 F
          go_wp2_with fail
          refine (Check_any _ _ D2 R2 _ FA.rows FA.ints).mono ?_
          rw [mayNo_yes hmay2]
          rintro e w5 ⟨rfl, hb5⟩
          have FB := FA.keep hb5
          have HFB : Hid (_ ∧ _) := ⟨hmay2, FB⟩
          clear hb5 FA FB hmay2 hx0 hx1 hxf0 hxf1 hg0 hg1 hgf0 hgf1
          go_wp2
          refine ⟨⟨m + 1, D2, R2, _, _, _, _, by omega, by omega, by go_num, HFB.out.1, HFB.out.2⟩, ?_⟩
          simp [intOf]; omega
        · have her' : (er == 0) = false := by simpa using her
          have FA := F.keep (((HBL.out.trans (hb.mono HBL.out.size)).setCell (p := ⟨wr.heap.size + 1, 0, none⟩) (by simp) (.slice A2 D2.length c2)).setCell (p := ⟨wr.heap.size + 1, 1, none⟩) (by simp) (.slice B2 R2.length c2'))
          clear hb hd hr F2 F her
          go_wp2_with fail
          refine (Check_any _ _ D R _ FA.rows FA.ints).mono ?_
          rw [mayNo_yes HMAY.out]
          rintro e w5 ⟨rfl, hb5⟩
          have FB := FA.keep hb5
          have HFB : Hid (_) := FB
          clear hb5 FA FB hx0 hx1 hxf0 hxf1 hg0 hg1 hgf0 hgf1
          go_wp2
          refine ⟨⟨m + 1, D, R, _, _, _, _, by omega, by omega, by go_num, HMAY.out, HFB.out⟩, ?_⟩
          simp [intOf]; omega
      · have g0 : (kd == 0) = false := by simp; omega
        have g1 : (kd == 1) = false := by simp; omega
        have g2 : (kd == 2) = true := by simp [hk]
        clear hk hrw2 hrw3
        obtain ⟨D2, R2, er, hm2, hcall⟩ := Share_good (.slice A D.length c) (.slice B R.length c') D R ka W2 F2.rows F2.ints HMAY.out
        have HM2 : Hid (_) := hm2
        have HC : Hid (Calls Try.prog 18 #[.agg #[.slice A D.length c, .slice B R.length c'], .int .i64 ka] W2 fun e w' => Res2 W2 D2 R2 er e w') := hcall
        clear hm2 hcall d1 d2
        go_wp2_with fail
        refine HC.out.mono ?_
        rintro e w2 ⟨A2, c2, B2, c2', rfl, hd, hr, hb⟩
        clear HC
        clear hx0 hx1 hxf hxl hgb0 hgb1 hgf0 hgf1 hgl
        obtain ⟨hx0, hx1, hxf, hxl⟩ := two_cells (F2.keep hb).box
        have hgk : w2.heap[wr.heap.size + 1]? = some (.cells #[.slice A D.length c, .slice B R.length c'] 25 (0, 0)) := by rw [hb.block _ (by omega)]; exact HG.out
        obtain ⟨hg0, hg1, hgf, hgl⟩ := two_cells hgk
        have hgf0 := hgf 0
        have hgf1 := hgf 1
        have hxf0 := hxf 0
        have hxf1 := hxf 1
        clear hxf hgf hgk
        by_cases her : er = 0
        · subst her
          have FA := F2.assign (g := wr.heap.size + 1) (by omega) (by omega) (by omega) hb hd hr (.slice A2 D2.length c2) (.slice B2 R2.length c2')
          have hmay2 := HM2.out rfl
          clear hb hd hr F2 F
          go_wp2_with fail
          refine (Check_any _ _ D2 R2 _ FA.rows FA.ints).mono ?_
          rw [mayNo_yes hmay2]
          rintro e w5 ⟨rfl, hb5⟩
          have FB := FA.keep hb5
          have HFB : Hid (_ ∧ _) := ⟨hmay2, FB⟩
          clear hb5 FA FB hmay2 hx0 hx1 hxf0 hxf1 hg0 hg1 hgf0 hgf1
          go_wp2
          refine ⟨⟨m + 1, D2, R2, _, _, _, _, by omega, by omega, by go_num, HFB.out.1, HFB.out.2⟩, ?_⟩
          simp [intOf]; omega
        · have her' : (er == 0) = false := by simpa using her
          have FA := F.keep (((HBL.out.trans (hb.mono HBL.out.size)).setCell (p := ⟨wr.heap.size + 1, 0, none⟩) (by simp) (.slice A2 D2.length c2)).setCell (p := ⟨wr.heap.size + 1, 1, none⟩) (by simp) (.slice B2 R2.length c2'))
          clear hb hd hr F2 F her
          go_wp2_with fail
          refine (Check_any _ _ D R _ FA.rows FA.ints).mono ?_
          rw [mayNo_yes HMAY.out]
          rintro e w5 ⟨rfl, hb5⟩
          have FB := FA.keep hb5
          have HFB : Hid (_) := FB
          clear hb5 FA FB hx0 hx1 hxf0 hxf1 hg0 hg1 hgf0 hgf1
          go_wp2
          refine ⟨⟨m + 1, D, R, _, _, _, _, by omega, by omega, by go_num, HMAY.out, HFB.out⟩, ?_⟩
          simp [intOf]; omega
      · have g0 : (kd == 0) = false := by simp; omega
        have g1 : (kd == 1) = false := by simp; omega
        have g2 : (kd == 2) = false := by simp; omega
        have g3 : (kd == 3) = true := by simp [hk]
        clear hk hrw2 hrw3
        obtain ⟨D2, R2, er, hm2, hcall⟩ := Drop_good (.slice A D.length c) (.slice B R.length c') D R ka W2 F2.rows F2.ints HMAY.out
        have HM2 : Hid (_) := hm2
        have HC : Hid (Calls Try.prog 19 #[.agg #[.slice A D.length c, .slice B R.length c'], .int .i64 ka] W2 fun e w' => Res2 W2 D2 R2 er e w') := hcall
        clear hm2 hcall d1 d2
        go_wp2_with fail
        refine HC.out.mono ?_
        rintro e w2 ⟨A2, c2, B2, c2', rfl, hd, hr, hb⟩
        clear HC
        clear hx0 hx1 hxf hxl hgb0 hgb1 hgf0 hgf1 hgl
        obtain ⟨hx0, hx1, hxf, hxl⟩ := two_cells (F2.keep hb).box
        have hgk : w2.heap[wr.heap.size + 1]? = some (.cells #[.slice A D.length c, .slice B R.length c'] 25 (0, 0)) := by rw [hb.block _ (by omega)]; exact HG.out
        obtain ⟨hg0, hg1, hgf, hgl⟩ := two_cells hgk
        have hgf0 := hgf 0
        have hgf1 := hgf 1
        have hxf0 := hxf 0
        have hxf1 := hxf 1
        clear hxf hgf hgk
        by_cases her : er = 0
        · subst her
          have FA := F2.assign (g := wr.heap.size + 1) (by omega) (by omega) (by omega) hb hd hr (.slice A2 D2.length c2) (.slice B2 R2.length c2')
          have hmay2 := HM2.out rfl
          clear hb hd hr F2 F
          go_wp2_with fail
          refine (Check_any _ _ D2 R2 _ FA.rows FA.ints).mono ?_
          rw [mayNo_yes hmay2]
          rintro e w5 ⟨rfl, hb5⟩
          have FB := FA.keep hb5
          have HFB : Hid (_ ∧ _) := ⟨hmay2, FB⟩
          clear hb5 FA FB hmay2 hx0 hx1 hxf0 hxf1 hg0 hg1 hgf0 hgf1
          go_wp2
          refine ⟨⟨m + 1, D2, R2, _, _, _, _, by omega, by omega, by go_num, HFB.out.1, HFB.out.2⟩, ?_⟩
          simp [intOf]; omega
        · have her' : (er == 0) = false := by simpa using her
          have FA := F.keep (((HBL.out.trans (hb.mono HBL.out.size)).setCell (p := ⟨wr.heap.size + 1, 0, none⟩) (by simp) (.slice A2 D2.length c2)).setCell (p := ⟨wr.heap.size + 1, 1, none⟩) (by simp) (.slice B2 R2.length c2'))
          clear hb hd hr F2 F her
          go_wp2_with fail
          refine (Check_any _ _ D R _ FA.rows FA.ints).mono ?_
          rw [mayNo_yes HMAY.out]
          rintro e w5 ⟨rfl, hb5⟩
          have FB := FA.keep hb5
          have HFB : Hid (_) := FB
          clear hb5 FA FB hx0 hx1 hxf0 hxf1 hg0 hg1 hgf0 hgf1
          go_wp2
          refine ⟨⟨m + 1, D, R, _, _, _, _, by omega, by omega, by go_num, HMAY.out, HFB.out⟩, ?_⟩
          simp [intOf]; omega
      · have g0 : (kd == 0) = false := by simp; omega
        have g1 : (kd == 1) = false := by simp; omega
        have g2 : (kd == 2) = false := by simp; omega
        have g3 : (kd == 3) = false := by simp; omega
        obtain ⟨kb, hkb⟩ : ∃ kb, kb = pickF x2 16 := ⟨_, rfl⟩
        have HKB : Hid (pickF x2 16 = kb) := hkb.symm
        obtain ⟨D2, R2, i0, er, hm2, hcall⟩ := Write_good (.slice A D.length c) (.slice B R.length c') D R ka kb x3 W2.drew F2.rows.drew F2.ints.drew HMAY.out
        have HM2 : Hid (_) := hm2
        have HC : Hid (Calls Try.prog 11 #[.agg #[.slice A D.length c, .slice B R.length c'], .int .i64 ka, .int .i64 kb, .int .i64 x3] W2.drew fun e w' => Res3 W2.drew D2 R2 i0 er e w') := hcall
        have HF2 : Hid (BoxF w' w1.heap.size A c B c' D R W2) := F2
        have HF : Hid (BoxF w' w1.heap.size A c B c' D R wr) := F
        have wl3 : wr.heap.size < W2.heap.size := by omega
        have nq : w1.heap.size ≠ wr.heap.size + 1 := by omega
        have nq2 : ∀ (W : World) (u u' : Value) (o : Nat), ((W.setCell ⟨wr.heap.size + 1, 0, none⟩ u).setCell ⟨wr.heap.size + 1, 1, none⟩ u').cell? ⟨w1.heap.size, o, none⟩ = W.cell? ⟨w1.heap.size, o, none⟩ := fun W u u' o => by rw [World.cell?_of_block (a := ⟨w1.heap.size, o, none⟩) (Go.Deep.blk_setCell_other _ _ _ _ nq), World.cell?_of_block (a := ⟨w1.heap.size, o, none⟩) (Go.Deep.blk_setCell_other _ _ _ _ nq)]
        clear hm2 hcall d1 d2 hk hkb F F2
        go_wp2_with fail
        go_region_held3 (fun w' => w'.cell? ⟨w1.heap.size, 0, none⟩ = some (.slice A D.length c) ∧ w'.cell? ⟨w1.heap.size, 1, none⟩ = some (.slice B R.length c') ∧ w'.cell? ⟨wr.heap.size, 2, none⟩ = some (.int .i64 x2) ∧ w'.cell? ⟨wr.heap.size, 3, none⟩ = some (.int .i64 x3))
          (go_keep)
          (first
            | (go_at_call 16; refine (picked_any x2 16 _ Y.out.2.2 (by decide) (by decide)).mono ?_; rw [HKB.out]; rintro e w'' ⟨rfl, rfl⟩)
            | (go_at_call 11; refine HC.out.mono ?_; rintro e w2 ⟨A2, c2, B2, c2', rfl, hd, hr, hb'⟩; have hb : Below W2.heap.size W2 w2 := ((Below.refl _ W2).drew).trans hb'; have HB : Hid (_) := hb; have HD : Hid (RowsLo W2.heap.size w2 (.slice A2 D2.length c2) D2) := hd; have HR : Hid (IntsLo W2.heap.size w2 (.slice B2 R2.length c2') R2) := hr; have s0 := (hb.cell (p := ⟨w1.heap.size, 0, none⟩) wl2).trans hx0; have s1 := (hb.cell (p := ⟨w1.heap.size, 1, none⟩) wl2).trans hx1; have s2 := (hb.cell (p := ⟨wr.heap.size, 2, none⟩) wl3).trans hrw2; have s3 := (hb.cell (p := ⟨wr.heap.size, 3, none⟩) wl3).trans hrw3; have s4 := (hb.cell (p := ⟨wr.heap.size + 1, 0, none⟩) wl1).trans hgb0; have s5 := (hb.cell (p := ⟨wr.heap.size + 1, 1, none⟩) wl1).trans hgb1; have s6 := (hb.frozen (p := ⟨wr.heap.size + 1, 0, none⟩) wl1).trans hgf0; have s7 := (hb.frozen (p := ⟨wr.heap.size + 1, 1, none⟩) wl1).trans hgf1; clear hb hb' hd hr))
        all_goals
          have hb := HB.out
          have hd := HD.out
          have hr := HR.out
          have F2 := HF2.out
          have F := HF.out
          clear nq2 s0 s1 s2 s3 s4 s5 s6 s7 hrw2 hrw3 HC HF2 HF HB HD HR
          clear hx0 hx1 hxf hxl hgb0 hgb1 hgf0 hgf1 hgl
          obtain ⟨hx0, hx1, hxf, hxl⟩ := two_cells (F2.keep hb).box
          have hgk : w2.heap[wr.heap.size + 1]? = some (.cells #[.slice A D.length c, .slice B R.length c'] 25 (0, 0)) := by rw [hb.block _ (by omega)]; exact HG.out
          obtain ⟨hg0, hg1, hgf, hgl⟩ := two_cells hgk
          have hgf0 := hgf 0
          have hgf1 := hgf 1
          have hxf0 := hxf 0
          have hxf1 := hxf 1
          clear hxf hgf hgk
          by_cases her : er = 0
          · subst her
            have FA := F2.assign (g := wr.heap.size + 1) (by omega) (by omega) (by omega) hb hd hr (.slice A2 D2.length c2) (.slice B2 R2.length c2')
            have hmay2 := HM2.out rfl
            clear hb hd hr F2 F
            go_wp2_with fail
            refine (Check_any _ _ D2 R2 _ FA.rows FA.ints).mono ?_
            rw [mayNo_yes hmay2]
            rintro e w5 ⟨rfl, hb5⟩
            have FB := FA.keep hb5
            have HFB : Hid (_ ∧ _) := ⟨hmay2, FB⟩
            clear hb5 FA FB hmay2 hx0 hx1 hxf0 hxf1 hg0 hg1 hgf0 hgf1
            go_wp2
            refine ⟨⟨m + 1, D2, R2, _, _, _, _, by omega, by omega, by go_num, HFB.out.1, HFB.out.2⟩, ?_⟩
            simp [intOf]; omega
          · have her' : (er == 0) = false := by simpa using her
            have FA := F.keep (((HBL.out.trans (hb.mono HBL.out.size)).setCell (p := ⟨wr.heap.size + 1, 0, none⟩) (by simp) (.slice A2 D2.length c2)).setCell (p := ⟨wr.heap.size + 1, 1, none⟩) (by simp) (.slice B2 R2.length c2'))
            clear hb hd hr F2 F her
            go_wp2_with fail
            refine (Check_any _ _ D R _ FA.rows FA.ints).mono ?_
            rw [mayNo_yes HMAY.out]
            rintro e w5 ⟨rfl, hb5⟩
            have FB := FA.keep hb5
            have HFB : Hid (_) := FB
            clear hb5 FA FB hx0 hx1 hxf0 hxf1 hg0 hg1 hgf0 hgf1
            go_wp2
            refine ⟨⟨m + 1, D, R, _, _, _, _, by omega, by omega, by go_num, HMAY.out, HFB.out⟩, ?_⟩
            simp [intOf]; omega
    · have HBW : Hid (Below w.heap.size w wr) := HB0.out.trans (F.old.mono HB0.out.size)
      have hex : (decide ((m : Int) < (len : Int)) && decide ((m : Int) < 60)) = false := by
        by_cases h1 : m < len
        · have : ¬ m < 60 := fun h2 => hlt ⟨h1, h2⟩
          simp; omega
        · simp; omega
      by_cases h1 : m < len
      · have h2 : ¬ m < 60 := fun h2 => hlt ⟨h1, h2⟩
        clear hex hlt
        go_wp2_with fail
        refine (Copy_any _ _ D R _ F.rows F.ints).mono ?_
        rintro e w2 ⟨A2, c2, B2, c2', rows, rfl, hof, hb2⟩
        go_wp2_with fail
        refine (Check_any _ _ D R _ (hof.rowsAt F.rows) (hof.intsAt F.ints)).mono ?_
        rw [mayNo_yes hmay]
        rintro e w3 ⟨rfl, hb3⟩
        clear hof hx0 hx1 hxf hxl
        go_wp2
        go_ret
        exact ⟨rfl, (HBW.out.trans (hb2.mono HBW.out.size)).trans (hb3.mono (Nat.le_trans HBW.out.size hb2.size))⟩
      · clear hex hlt
        go_wp2_with fail
        refine (Copy_any _ _ D R _ F.rows F.ints).mono ?_
        rintro e w2 ⟨A2, c2, B2, c2', rows, rfl, hof, hb2⟩
        go_wp2_with fail
        refine (Check_any _ _ D R _ (hof.rowsAt F.rows) (hof.intsAt F.ints)).mono ?_
        rw [mayNo_yes hmay]
        rintro e w3 ⟨rfl, hb3⟩
        clear hof hx0 hx1 hxf hxl
        go_wp2
        go_ret
        exact ⟨rfl, (HBW.out.trans (hb2.mono HBW.out.size)).trans (hb3.mono (Nat.le_trans HBW.out.size hb2.size))⟩

end Go.Proofs.Ytchmmpeblpnjnab
