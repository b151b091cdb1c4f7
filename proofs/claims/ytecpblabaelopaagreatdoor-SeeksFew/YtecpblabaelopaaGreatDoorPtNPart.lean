/- Contract of deck.beginning: the first point of a tape. -/
import Derived.Test.YtecpblabaelopaaGreatDoorPtPart
import Derived.Test.YtecpblabaelopaaGreatDoorCpuMPart
import Derived.Test.YtecpblabaelopaaGreatDoorBasePart
import Derived.Deep.WholeRow
namespace Go.Proofs.YtecpblabaelopaaGreatDoor
open Go.RowKit
set_option maxRecDepth 100000

theorem newM_256 {l : List Int} (h : newNo l = 0) : (newM l).mem.length = 256 := by
  have h1 : l.length ≤ 256 := by
    by_cases e : 256 < l.length
    · simp [newNo, e] at h
    · omega
  simp only [newM, List.length_append, List.length_replicate]; omega
def BegPost (w : World) (lo hp : Nat) (v : HV) (D : List (List Int)) (R : List Int) (Ss : List (List Int)) (im : List Int) (e : Ending) (w' : World) : Prop :=
  ∃ v' D' R', HostAt w' lo hp v' D' R' ∧ (∀ t ∈ Ss, wordsOf D' t = wordsOf D t) ∧ R'.length = R.length ∧ (∀ g, v'.foot g → v.foot g ∨ w.heap.size ≤ g) ∧ Chg v.foot w w' ∧
    ((∃ p s', e = .returned (.tuple #[.agg p.cells.toArray, .int .i64 0]) ∧ p.place = 0 ∧ p.wrote = -1 ∧ p.m = newM im ∧ w.heap.size ≤ p.sp ∧ SpAt w' hp p.sp s' ∧ Sys D' R' (s' :: Ss) ∧ wordsOf D' s' = (newM im).mem ∧ PtOk w' w.heap.size v'.foot p) ∨ (e = .returned (.tuple #[.agg zerP, .int .i64 7]) ∧ R.length < 16 * (Ss.length + 1)))

set_option maxHeartbeats 1000000 in
theorem beginning_any (lo hp : Nat) (v : HV) (D : List (List Int)) (R : List Int) (Ss : List (List Int)) (iv : Value) (im : List Int) (w : World) (h : HostAt w lo hp v D R) (hS : Sys D R Ss) (hn : Ss.length ≤ 11) (hi : IntsAt w iv im) (hno : newNo im = 0) :
    Calls Tryz.prog 133 #[hptr hp, iv] w fun e w' => BegPost w lo hp v D R Ss im e w' := by
  have HH : Hid (HostAt w lo hp v D R ∧ Sys D R Ss ∧ IntsAt w iv im ∧ newNo im = 0) := ⟨h, hS, hi, hno⟩
  clear h hS hi hno
  go_enter Tryz.func133, Tryz.ntmps133
  go_wp2_with fail
  refine (New_ok iv im _ (HH.out.2.2.1.below (below_alloc _ _)) HH.out.2.2.2).mono ?_
  rintro e w1 ⟨rv, mv, ov, rfl, hm, hb1⟩
  obtain ⟨A, c, B, c', C, c'', rfl, rfl, rfl⟩ := hm.shape
  have hB1 : Below w.heap.size w w1 := (below_alloc _ _).trans (hb1.mono (by simp))
  have HB1 : Hid (Below w.heap.size w w1 ∧ w.heap.size < w1.heap.size ∧ w1.heap[w.heap.size]? = some (.cells zerP 153 (0, 0))) := ⟨hB1, by have := hb1.size; simp at this; omega, box_kept hb1⟩
  have HM : Hid (OwnM w1 w.heap.size (.slice A (newM im).regs.length c) (.slice B (newM im).mem.length c') (.slice C (newM im).out.length c'') (newM im)) := hm.mono (by simp)
  clear hm hb1 hB1
  obtain ⟨M, hM⟩ : ∃ M, M = newM im := ⟨_, rfl⟩
  have HMM : Hid (M = newM im) := hM
  rw [← hM] at HM ⊢
  clear hM
  simp only [Mach.cells]
  obtain ⟨W1, hW1⟩ : ∃ W1, W1 = w1.alloc (.cells #[.slice A M.regs.length c, .int .i64 M.pc, .int .i64 M.back, .bool M.ints, .bool M.wait, .int .i64 M.table, .int .i64 M.count, .int .i64 M.fin, .slice B M.mem.length c', .slice C M.out.length c'', .int .i64 M.ready, .int .i64 M.want] 37) := ⟨_, rfl⟩
  have hbx : W1.heap[w1.heap.size]? = some (.cells #[.slice A M.regs.length c, .int .i64 M.pc, .int .i64 M.back, .bool M.ints, .bool M.wait, .int .i64 M.table, .int .i64 M.count, .int .i64 M.fin, .slice B M.mem.length c', .slice C M.out.length c'', .int .i64 M.ready, .int .i64 M.want] 37 (0, 0)) := by rw [hW1]; exact Go.Deep.blk_alloc_new _ _
  have HB2 : Hid (Below w1.heap.size w1 W1 ∧ W1.heap[w1.heap.size]? = some (.cells #[.slice A M.regs.length c, .int .i64 M.pc, .int .i64 M.back, .bool M.ints, .bool M.wait, .int .i64 M.table, .int .i64 M.count, .int .i64 M.fin, .slice B M.mem.length c', .slice C M.out.length c'', .int .i64 M.ready, .int .i64 M.want] 37 (0, 0)) ∧ w1.heap.size < W1.heap.size) := ⟨by rw [hW1]; exact below_alloc _ _, hbx, lt_of_block hbx⟩
  go_upto_region 4 with fail
  rw [← hW1]
  clear hW1 hbx
  go_wp2_with fail
  refine (Blank_any hp _).mono ?_
  rintro e w2 ⟨rfl, hs2, hb2⟩
  obtain ⟨sp, hsp⟩ : ∃ sp, sp = W1.heap.size := ⟨_, rfl⟩
  rw [← hsp] at hs2 ⊢
  have HS2 : Hid (SpAt w2 hp sp blankS ∧ Below W1.heap.size W1 w2 ∧ sp = W1.heap.size) := ⟨hs2, hb2, hsp⟩
  clear hs2 hb2 hsp
  have hbx2 := HB2.out.2.1
  rw [← HS2.out.2.1.block _ (lt_of_block hbx2)] at hbx2
  obtain ⟨⟨x0, x1, x2, x3, x4, x5, x6, x7, x8, x9, x10, x11⟩, xf, xl⟩ := twelve_cells hbx2
  have HBX2 : Hid (_) := hbx2
  clear hbx2
  have HPB : Hid (∀ W, W = w2.alloc (.cells #[.int .i64 0, .slice none 0 0, .int .i64 0, .int .i64 0, .bool false, .bool false, .int .i64 0, .int .i64 0, .int .i64 0, .slice none 0 0, .slice none 0 0, .int .i64 0, .int .i64 0, hptr sp, .int .i64 (-1)] 153) → Calls Tryz.prog 137 #[.pointer (some ⟨w2.heap.size, 0, none⟩), .agg #[.slice A M.regs.length c, .int .i64 M.pc, .int .i64 M.back, .bool M.ints, .bool M.wait, .int .i64 M.table, .int .i64 M.count, .int .i64 M.fin, .slice B M.mem.length c', .slice C M.out.length c'', .int .i64 M.ready, .int .i64 M.want]] W fun e w' => BecomePost W lo hp sp w2.heap.size 0 #[.int .i64 0, .slice none 0 0, .int .i64 0, .int .i64 0, .bool false, .bool false, .int .i64 0, .int .i64 0, .int .i64 0, .slice none 0 0, .slice none 0 0, .int .i64 0, .int .i64 0, hptr sp, .int .i64 (-1)] 153 v D R Ss M (.slice A M.regs.length c) (.slice C M.out.length c'') e w') := fun W hW => by
    have b1 : Below w.heap.size w w2 := HB1.out.1.trans ((HB2.out.1.trans (HS2.out.2.1.mono HB2.out.1.size)).mono HB1.out.1.size)
    have b2 : Below w.heap.size w W := by rw [hW]; exact b1.trans ((below_alloc _ _).mono b1.size)
    have b3 : Below w2.heap.size w2 W := by rw [hW]; exact below_alloc _ _
    have b4 : Below w1.heap.size w1 W := HB2.out.1.trans ((HS2.out.2.1.trans (b3.mono HS2.out.2.1.size)).mono HB2.out.1.size)
    have hlen : M.mem.length = 256 := by rw [HMM.out]; exact newM_256 HH.out.2.2.2
    exact become_any lo hp sp w2.heap.size 0 _ 153 v D R blankS Ss M _ _ _ W (HH.out.1.below b2) (HS2.out.1.below b3) HH.out.2.1.blank hn (by rw [hW]; exact Go.Deep.blk_alloc_new _ _) (by simp) rfl ⟨by decide, by decide, by decide, by decide⟩ ((HM.out.mem.at (by omega)).below b4) hlen (fun g hg e => by
      have hl := HM.out.mem.lt g hg
      have hz := HB2.out.2.2
      have hq := HS2.out.2.2
      rcases e with e | e
      · have := (HH.out.1.foot_lt e).2; omega
      · omega) ⟨_, _, _, rfl⟩ ⟨_, _, _, rfl⟩
  go_wp2_with fail
  refine (HPB.out _ rfl).mono ?_
  rintro e w3 ⟨v', D', R', s', h1, h2, h3, h4, h5, h6, h7, h8⟩
  have b1 : Below w.heap.size w w2 := HB1.out.1.trans ((HB2.out.1.trans (HS2.out.2.1.mono HB2.out.1.size)).mono HB1.out.1.size)
  obtain ⟨W2, hW2⟩ : ∃ W2, W2 = w2.alloc (.cells #[.int .i64 0, .slice none 0 0, .int .i64 0, .int .i64 0, .bool false, .bool false, .int .i64 0, .int .i64 0, .int .i64 0, .slice none 0 0, .slice none 0 0, .int .i64 0, .int .i64 0, hptr sp, .int .i64 (-1)] 153) := ⟨_, rfl⟩
  rw [← hW2] at h6 h7
  have b2 : Below w2.heap.size w2 W2 := by rw [hW2]; exact below_alloc _ _
  have b12 : Below w.heap.size w W2 := b1.trans (b2.mono b1.size)
  have hnot : ∀ g, g < W2.heap.size → w.heap.size ≤ g → g ≠ sp → g ≠ w2.heap.size → ¬ ((v.foot g ∨ g = sp) ∨ g = w2.heap.size) := fun g _ hg n1 n2 e => by
    rcases e with (e | e) | e
    · have := (HH.out.1.foot_lt e).2; omega
    · exact n1 e
    · exact n2 e
  have z1 : w.heap.size < sp ∧ w1.heap.size < sp ∧ sp < w2.heap.size := by
    have a1 := HB1.out.2.1
    have a2 := HB2.out.2.2
    have a3 := HS2.out.2.2
    have a4 := HS2.out.1.host.2.2
    omega
  have hres : w3.heap[w.heap.size]? = some (.cells zerP 153 (0, 0)) := by
    refine h7.box ?_ (hnot w.heap.size (by have := b2.size; omega) (Nat.le_refl _) (by omega) (by omega))
    rw [b2.block _ (by omega), HS2.out.2.1.block _ (by have := HB2.out.2.2; have := HB1.out.2.1; omega), HB2.out.1.block _ HB1.out.2.1]
    exact HB1.out.2.2
  have HRES : Hid (_) := hres
  have hreg : OwnM w3 w.heap.size (.slice A M.regs.length c) (.slice B M.mem.length c') (.slice C M.out.length c'') M := by
    have h0 : OwnM W2 w.heap.size (.slice A M.regs.length c) (.slice B M.mem.length c') (.slice C M.out.length c'') M := HM.out.below (HB2.out.1.trans ((HS2.out.2.1.trans (b2.mono HS2.out.2.1.size)).mono HB2.out.1.size))
    have hw1 : ∀ {u : Value} {l : List Int}, OwnI w1 w.heap.size u l → ∀ g, u.ownBlock = some g → ¬ ((v.foot g ∨ g = sp) ∨ g = w2.heap.size) := fun hu g hg => by
      have := hu.lt g hg
      exact hnot g (by have := b2.size; omega) this.1 (by omega) (by omega)
    exact ⟨h7.own h0.regs (hw1 HM.out.regs), h7.own h0.mem (hw1 HM.out.mem), h7.own h0.out (hw1 HM.out.out), h0.rm, h0.ro, h0.mo⟩
  have hfoot : ∀ g, v'.foot g → v.foot g ∨ w2.heap.size ≤ g := fun g e => by
    rcases h6 g e with e | e
    · exact Or.inl e
    · exact Or.inr (Nat.le_trans b2.size e)
  have hoff : ∀ {u : Value} {l : List Int}, OwnI w1 w.heap.size u l → Off v'.foot u := fun hu g hg e => by
    have := hu.lt g hg
    rcases hfoot g e with e | e
    · have := (HH.out.1.foot_lt e).2; omega
    · omega
  have hchg : Chg v.foot w w3 := by
    refine (Chg.of_below (F := v.foot) b12).trans h7 fun g e => ?_
    rcases e with (e | e) | e
    · exact Or.inl e
    · exact Or.inr (by omega)
    · exact Or.inr (by omega)
  have HFIN : Hid (HostAt w3 lo hp v' D' R' ∧ SpAt w3 hp sp s' ∧ Sys D' R' (s' :: Ss) ∧ (∀ t ∈ Ss, wordsOf D' t = wordsOf D t) ∧ R'.length = R.length ∧ (∀ g, v'.foot g → v.foot g ∨ w2.heap.size ≤ g) ∧ Chg v.foot w w3 ∧ OwnI w3 w.heap.size (.slice A M.regs.length c) M.regs ∧ OwnI w3 w.heap.size (.slice C M.out.length c'') M.out ∧ Off v'.foot (.slice A M.regs.length c) ∧ Off v'.foot (.slice C M.out.length c'') ∧ w.heap.size ≤ sp ∧ w.heap.size < w2.heap.size) := ⟨h1, h2, h3, h4, h5, hfoot, hchg, hreg.regs, hreg.out, hoff HM.out.regs, hoff HM.out.out, by omega, by omega⟩
  obtain ⟨⟨r0, r1, r2, r3, r4, r5, r6, r7, r8, r9, r10, r11, r12, r13, r14⟩, rf, rl⟩ := fifteen_cells hres
  clear h1 h2 h3 h4 h5 h6 h7 hfoot hchg hreg hoff hres hnot b12 b1 b2 hW2
  rcases h8 with ⟨rfl, hwo, hbb⟩ | ⟨rfl, hlt, -⟩
  · have hbb' : w3.heap[w2.heap.size]? = some (.cells #[.int .i64 0, .slice A M.regs.length c, .int .i64 M.pc, .int .i64 M.back, .bool M.ints, .bool M.wait, .int .i64 M.table, .int .i64 M.count, .int .i64 M.fin, nilv, .slice C M.out.length c'', .int .i64 M.ready, .int .i64 M.want, hptr sp, .int .i64 (-1)] 153 (0, 0)) := hbb
    have HWO : Hid (wordsOf D' s' = M.mem ∧ BoxT w3 w2.heap.size 153) := ⟨hwo, _, hbb'⟩
    obtain ⟨⟨y0, y1, y2, y3, y4, y5, y6, y7, y8, y9, y10, y11, y12, y13, y14⟩, yf, yl⟩ := fifteen_cells hbb'
    clear hwo hbb hbb' x0 x1 x2 x3 x4 x5 x6 x7 x8 x9 x10 x11 xf xl
    go_wp2_with fail
    refine bodyPost_ret (v := .tuple #[.agg #[.int .i64 0, .slice A M.regs.length c, .int .i64 M.pc, .int .i64 M.back, .bool M.ints, .bool M.wait, .int .i64 M.table, .int .i64 M.count, .int .i64 M.fin, nilv, .slice C M.out.length c'', .int .i64 M.ready, .int .i64 M.want, hptr sp, .int .i64 (-1)], .int .i64 0]) (by simp [results, Tryz.results133, go_sem, r0, r1, r2, r3, r4, r5, r6, r7, r8, r9, r10, r11, r12, r13, r14]) rfl ?_
    obtain ⟨t1, t2, t3, t4, t5, t6, t7, t8, t9, t10, t11, t12, t13⟩ := HFIN.out
    have hfin : ∀ W', Chg (fun b => b = w.heap.size) w3 W' → BegPost w lo hp v D R Ss im (.returned (.tuple #[.agg #[.int .i64 0, .slice A M.regs.length c, .int .i64 M.pc, .int .i64 M.back, .bool M.ints, .bool M.wait, .int .i64 M.table, .int .i64 M.count, .int .i64 M.fin, nilv, .slice C M.out.length c'', .int .i64 M.ready, .int .i64 M.want, hptr sp, .int .i64 (-1)], .int .i64 0])) W' := fun W' hC => by
      have hx := BoxT.off (t := 153) ⟨_, HRES.out⟩ t1 (by decide) (by decide) (by decide)
      have hne : ∀ {u : Value} {l : List Int}, OwnI w3 w.heap.size u l → ∀ g, u.ownBlock = some g → ¬ g = w.heap.size := fun hu g hg e => own_ne hu HRES.out (by decide) (by rw [hg, e])
      refine ⟨v', D', R', t1.chg hC (fun g e => by rw [e]; exact hx), t4, t5, fun g e => ?_, t7.trans hC (fun g e => Or.inr (by omega)), Or.inl ⟨⟨0, .slice A M.regs.length c, .slice C M.out.length c'', M, sp, -1⟩, s', rfl, rfl, rfl, HMM.out, t12, t2.chg hC (by omega), t3, by rw [HWO.out.1, HMM.out], ⟨hC.own t8 (hne t8), hC.own t9 (hne t9), t10, t11⟩⟩⟩
      rcases t6 g e with e | e
      · exact Or.inl e
      · exact Or.inr (by omega)
    refine hfin _ ?_
    repeat (refine Chg.set ?_ (by exact Or.inl rfl) _)
    exact Chg.refl _ _
  · have HLT : Hid (R.length < 16 * (Ss.length + 1)) := hlt
    clear hlt x0 x1 x2 x3 x4 x5 x6 x7 x8 x9 x10 x11 xf xl
    go_wp2_with fail
    refine bodyPost_ret (v := .tuple #[.agg zerP, .int .i64 7]) (by simp [results, Tryz.results133, go_sem, r0, r1, r2, r3, r4, r5, r6, r7, r8, r9, r10, r11, r12, r13, r14]) rfl ?_
    obtain ⟨t1, t2, t3, t4, t5, t6, t7, t8, t9, t10, t11, t12, t13⟩ := HFIN.out
    have hfin : ∀ W', Chg (fun b => b = w.heap.size) w3 W' → BegPost w lo hp v D R Ss im (.returned (.tuple #[.agg zerP, .int .i64 7])) W' := fun W' hC => by
      have hx := BoxT.off (t := 153) ⟨_, HRES.out⟩ t1 (by decide) (by decide) (by decide)
      refine ⟨v', D', R', t1.chg hC (fun g e => by rw [e]; exact hx), t4, t5, fun g e => ?_, t7.trans hC (fun g e => Or.inr (by omega)), Or.inr ⟨rfl, HLT.out⟩⟩
      rcases t6 g e with e | e
      · exact Or.inl e
      · exact Or.inr (by omega)
    refine hfin _ ?_
    repeat (refine Chg.set ?_ (by exact Or.inl rfl) _)
    exact Chg.refl _ _

end Go.Proofs.YtecpblabaelopaaGreatDoor

/- A seeker in memory: the beginning, where it is now, its checkpoints; contract of deck.newSeeker. -/

namespace Go.Proofs.YtecpblabaelopaaGreatDoor
open Go.RowKit
set_option maxRecDepth 100000

def skL (F E K : Int) (ev : Value) (p q : PtV) (kv : Value) : List Value := [.int .i64 F, .int .i64 E, .int .i64 K, ev] ++ p.cells ++ q.cells ++ [kv]
structure SkS where
  hv : HV
  D : List (List Int)
  R : List Int
  p0 : PtV
  pn : PtV
  ks : List PtV
  s0 : List Int
  sn : List Int
  ss : List (List Int)
  kv : Value
def noPt : PtV := ⟨0, nilv, nilv, ⟨[], 0, 0, false, false, 0, 0, 0, [], [], 0, 0⟩, 0, 0⟩
def flatP (ks : List PtV) : List Value := (ks.map PtV.cells).flatten
def SkS.foot (S : SkS) (kp : Nat) (g : Nat) : Prop := S.hv.foot g ∨ g = kp ∨ g = S.pn.sp ∨ (∃ p ∈ S.ks, g = p.sp) ∨ S.kv.ownBlock = some g
structure SkAt (w : World) (lo hp kp : Nat) (F E K : Int) (ev : Value) (S : SkS) : Prop where
  box : w.heap[kp]? = some (.cells (skL F E K ev S.p0 S.pn S.kv).toArray 156 (0, 0))
  host : HostAt w lo hp S.hv S.D S.R
  sp0 : SpAt w hp S.p0.sp S.s0
  spn : SpAt w hp S.pn.sp S.sn
  sps : ∀ i, i < S.ks.length → SpAt w hp (S.ks.getD i noPt).sp (S.ss.getD i [])
  lenk : S.ss.length = S.ks.length
  ne : (S.p0.sp :: S.pn.sp :: S.ks.map PtV.sp).Nodup
  sys : Sys S.D S.R (S.s0 :: S.sn :: S.ss)
  kept : w.ownsRow lo 153 15 S.kv S.ks.length (flatP S.ks)
  g0 : PtOk w lo S.hv.foot S.p0
  gn : PtOk w lo S.hv.foot S.pn
  gk : ∀ p ∈ S.ks, PtOk w lo S.hv.foot p
  evs : ∃ A n c, ev = .slice A n c
  low : lo ≤ kp ∧ lo ≤ S.p0.sp ∧ lo ≤ S.pn.sp ∧ ∀ p ∈ S.ks, lo ≤ p.sp

def NewSkPost (w : World) (lo hp : Nat) (F E K : Int) (ev : Value) (v : HV) (N : Nat) (im : List Int) (e : Ending) (w' : World) : Prop :=
  (∃ kp S, e = .returned (.tuple #[hptr kp, .int .i64 0]) ∧ SkAt w' lo hp kp F E K ev S ∧ S.R.length = N ∧ S.ks = [] ∧ S.p0.place = 0 ∧ S.pn.place = 0 ∧ S.p0.wrote = -1 ∧ S.pn.wrote = -1 ∧ S.p0.m = newM im ∧ S.pn.m = newM im ∧ wordsOf S.D S.s0 = (newM im).mem ∧ wordsOf S.D S.sn = (newM im).mem ∧ (∀ g, S.foot kp g → v.foot g ∨ w.heap.size ≤ g) ∧ Chg v.foot w w') ∨
  (e = .returned (.tuple #[.pointer none, .int .i64 7]) ∧ N < 16 ∧ Chg v.foot w w')

set_option maxHeartbeats 1000000 in
theorem newSeeker_any (lo hp : Nat) (v : HV) (D : List (List Int)) (R : List Int) (F E K : Int) (iv ev : Value) (im : List Int) (w : World) (h : HostAt w lo hp v D R) (hS : Sys D R []) (hi : IntsAt w iv im) (hno : newNo im = 0) (hev : ∃ A n c, ev = .slice A n c) (hlo : lo ≤ w.heap.size) :
    Calls Tryz.prog 97 #[hptr hp, .agg #[.int .i64 F, .int .i64 E, .int .i64 K], iv, ev] w fun e w' => NewSkPost w lo hp F E K ev v R.length im e w' := by
  obtain ⟨Ae, ne, ce, rfl⟩ := hev
  have HBG : Hid (∀ W, Below w.heap.size w W → Calls Tryz.prog 133 #[hptr hp, iv] W fun e w' => BegPost W lo hp v D R [] im e w') := fun W hW => beginning_any lo hp v D R [] iv im W (h.below hW) hS (by simp) (hi.below hW) hno
  have HH : Hid (HostAt w lo hp v D R) := h
  clear h hS hi hno
  go_enter Tryz.func97, Tryz.ntmps97
  go_wp2_with fail
  refine (HBG.out _ (below_alloc _ _)).mono ?_
  rintro e w1 ⟨v1, D1, R1, h1, h2, h3, h4, h5, h6⟩
  have b0 := below_alloc w (.cells #[.int .i64 F, .int .i64 E, .int .i64 K] 23)
  have hc1 : Chg v.foot w w1 := (Chg.of_below (F := v.foot) b0).trans h5 (fun g e => Or.inl e)
  have hbx : w1.heap[w.heap.size]? = some (.cells #[.int .i64 F, .int .i64 E, .int .i64 K] 23 (0, 0)) := h5.box (Go.Deep.blk_alloc_new _ _) (fun e => by have := (HH.out.foot_lt e).2; omega)
  have hf1 : ∀ g, v1.foot g → v.foot g ∨ w.heap.size ≤ g := fun g e => by
    rcases h4 g e with e | e
    · exact Or.inl e
    · exact Or.inr (by simp at e; omega)
  rcases h6 with ⟨p, s', rfl, i1, i2, i3, i4, i5, i6, i7, i8⟩ | ⟨rfl, hlt⟩
  · have hb0 : w1.heap.size ≥ w.heap.size := hc1.size
    have hsz1 : w.heap.size < w1.heap.size := lt_of_block hbx
    obtain ⟨pl, rv, ov, m, sp, wr⟩ := p
    simp only at i1 i2 i3 i4 i5
    subst i1 i2
    obtain ⟨A, c, hrv⟩ := i8.regs.shape
    obtain ⟨C, c'', hov⟩ := i8.out.shape
    simp only at hrv hov
    subst hrv hov
    have HP : Hid (∀ W, Below w1.heap.size w1 W → Calls Tryz.prog 134 #[.agg (⟨0, .slice A m.regs.length c, .slice C m.out.length c'', m, sp, -1⟩ : PtV).cells.toArray] W fun e w' => PForkPost W lo hp v1 D1 R1 s' [] ⟨0, .slice A m.regs.length c, .slice C m.out.length c'', m, sp, -1⟩ e w') := fun W hW => pfork_any lo hp v1 D1 R1 s' [] ⟨0, .slice A m.regs.length c, .slice C m.out.length c'', m, sp, -1⟩ W (h1.below hW) (i5.below hW) i6 (by simp) ⟨_, _, _, rfl⟩ ⟨_, _, _, rfl⟩
    have HI : Hid (HostAt w1 lo hp v1 D1 R1 ∧ R1.length = R.length ∧ (∀ g, v1.foot g → v.foot g ∨ w.heap.size ≤ g) ∧ Chg v.foot w w1 ∧ w1.heap[w.heap.size]? = some (.cells #[.int .i64 F, .int .i64 E, .int .i64 K] 23 (0, 0)) ∧ m = newM im ∧ w.heap.size ≤ sp ∧ SpAt w1 hp sp s' ∧ Sys D1 R1 [s'] ∧ wordsOf D1 s' = (newM im).mem ∧ PtOk w1 w.heap.size v1.foot ⟨0, .slice A m.regs.length c, .slice C m.out.length c'', m, sp, -1⟩) := ⟨h1, h3, hf1, hc1, hbx, i3, by simp at i4; omega, i5, i6, i7, by
      refine ⟨ownsRow_mono i8.regs (by simp), ownsRow_mono i8.out (by simp), i8.offr, i8.offo⟩⟩
    clear h1 h2 h3 h4 h5 hf1 hc1 b0 hbx i3 i4 i5 i6 i7 i8 hb0
    simp only [PtV.cells] at HP ⊢
    go_wp2_with fail
    obtain ⟨W1, hW1⟩ : ∃ W1, W1 = w1.alloc (.cells #[.int .i64 0, .slice A m.regs.length c, .int .i64 m.pc, .int .i64 m.back, .bool m.ints, .bool m.wait, .int .i64 m.table, .int .i64 m.count, .int .i64 m.fin, nilv, .slice C m.out.length c'', .int .i64 m.ready, .int .i64 m.want, hptr sp, .int .i64 (-1)] 153) := ⟨_, rfl⟩
    have hp1 : W1.heap[w1.heap.size]? = some (.cells #[.int .i64 0, .slice A m.regs.length c, .int .i64 m.pc, .int .i64 m.back, .bool m.ints, .bool m.wait, .int .i64 m.table, .int .i64 m.count, .int .i64 m.fin, nilv, .slice C m.out.length c'', .int .i64 m.ready, .int .i64 m.want, hptr sp, .int .i64 (-1)] 153 (0, 0)) := by rw [hW1]; exact Go.Deep.blk_alloc_new _ _
    have HW1 : Hid (Below w1.heap.size w1 W1 ∧ W1.heap[w1.heap.size]? = some (.cells #[.int .i64 0, .slice A m.regs.length c, .int .i64 m.pc, .int .i64 m.back, .bool m.ints, .bool m.wait, .int .i64 m.table, .int .i64 m.count, .int .i64 m.fin, nilv, .slice C m.out.length c'', .int .i64 m.ready, .int .i64 m.want, hptr sp, .int .i64 (-1)] 153 (0, 0)) ∧ w1.heap.size < W1.heap.size) := ⟨by rw [hW1]; exact below_alloc _ _, hp1, lt_of_block hp1⟩
    rw [← hW1]
    clear hW1 hp1
    refine (HP.out _ HW1.out.1).mono ?_
    rintro e w2 ⟨fp, R2, rfl, j1, j2, j3, j4, j5⟩
    simp only [PtV.cells]
    obtain ⟨v2, k1, k2, k3⟩ := j5
    have hH1 := HI.out.1.below HW1.out.1
    have q1 : w2.heap[w.heap.size]? = some (.cells #[.int .i64 F, .int .i64 E, .int .i64 K] 23 (0, 0)) := by
      have a : W1.heap[w.heap.size]? = some (.cells #[.int .i64 F, .int .i64 E, .int .i64 K] 23 (0, 0)) := by rw [HW1.out.1.block _ (by omega)]; exact HI.out.2.2.2.2.1
      exact k3.box a (hH1.off a (by decide) (by decide))
    have q2 := k3.box HW1.out.2.1 (hH1.off HW1.out.2.1 (by decide) (by decide))
    obtain ⟨⟨x0, x1, x2, x3, x4, x5, x6, x7, x8, x9, x10, x11, x12, x13, x14⟩, xf, xl⟩ := fifteen_cells q2
    obtain ⟨y0, y1, y2, yf, yl⟩ := three_cells q1
    have HJ : Hid (W1.heap.size ≤ fp ∧ SpAt w2 hp fp s' ∧ Sys D1 R2 (s' :: [s']) ∧ R2.length = R1.length ∧ HostAt w2 lo hp v2 D1 R2 ∧ (∀ g, v2.foot g → v1.foot g ∨ W1.heap.size ≤ g) ∧ Chg v1.foot W1 w2) := ⟨j1, j2, j3, j4, k1, k2, k3⟩
    clear j1 j2 j3 j4 k1 k2 k3 q1 q2 hH1
    go_wp2_with fail
    go_ret2
    obtain ⟨a1, a2, a3, a4, a5, a6, a7, a8, a9, a10, a11⟩ := HI.out
    obtain ⟨c1, c2, c3, c4, c5, c6, c7⟩ := HJ.out
    have hC : Chg v.foot w w2 := (a4.trans (Chg.of_below (F := v.foot) HW1.out.1) (fun g e => Or.inl e)).trans c7 a3
    have hlen2 : w1.heap.size < w2.heap.size := Nat.lt_of_lt_of_le HW1.out.2.2 c7.size
    have hspw : sp < w1.heap.size := a8.host.2.2
    have hfpw : fp < w2.heap.size := c2.host.2.2
    have hW1s := HW1.out.2.2
    have hfin : ∀ W', Below w2.heap.size w2 W' → W'.heap[w2.heap.size + 1]? = some (.cells (skL F E K (.slice Ae ne ce) ⟨0, .slice A m.regs.length c, .slice C m.out.length c'', m, sp, -1⟩ ⟨0, .slice A m.regs.length c, .slice C m.out.length c'', m, fp, -1⟩ nilv).toArray 156 (0, 0)) → NewSkPost w lo hp F E K (.slice Ae ne ce) v R.length im (.returned (.tuple #[hptr (w2.heap.size + 1), .int .i64 0])) W' := fun W' hb hbx => by
      have hf2 : ∀ g, v2.foot g → v.foot g ∨ w.heap.size ≤ g := fun g e => by
        rcases c6 g e with e | e
        · exact a3 g e
        · exact Or.inr (by omega)
      have hsp2 : SpAt w2 hp sp s' := (a8.below HW1.out.1).chg c7 (fun e => (a8.off a1).1 e)
      have hown : ∀ {u : Value} {l : List Int}, OwnI w1 w.heap.size u l → Off v1.foot u → OwnI W' lo u l ∧ Off v2.foot u := fun hu ho => by
        have hu1 : OwnI W1 w.heap.size _ _ := hu.below HW1.out.1
        refine ⟨ownsRow_mono ((c7.own hu1 ho).below hb) hlo, fun g hg e => ?_⟩
        rcases c6 g e with e | e
        · exact ho g hg e
        · have := (hu.lt g hg).2
          omega
      refine Or.inl ⟨w2.heap.size + 1, ⟨v2, D1, R2, _, _, [], s', s', [], nilv⟩, rfl, ⟨hbx, c5.below hb, hsp2.below hb, c2.below hb, fun i hi => by simp at hi, rfl, ?_, c3, World.ownsRow_nil _ _ _ _, ?_, ?_, fun p hp => by simp at hp, ⟨_, _, _, rfl⟩, ⟨by omega, by simp only; omega, by simp only; omega, fun p hp => by simp at hp⟩⟩, by rw [c4, a2], rfl, rfl, rfl, rfl, rfl, a6, a6, a10, a10, ?_, hC.then_ hb⟩
      · simp
        omega
      · exact ⟨(hown a11.regs a11.offr).1, (hown a11.out a11.offo).1, (hown a11.regs a11.offr).2, (hown a11.out a11.offo).2⟩
      · exact ⟨(hown a11.regs a11.offr).1, (hown a11.out a11.offo).1, (hown a11.regs a11.offr).2, (hown a11.out a11.offo).2⟩
      · intro g e
        rcases e with e | e | e | ⟨p, hp, _⟩ | e
        · exact hf2 g e
        · exact Or.inr (by omega)
        · exact Or.inr (by simp only at e; omega)
        · simp at hp
        · simp [Value.ownBlock] at e
    refine hfin _ ((below_alloc _ _).alloc (by simp) _) ?_
    have := Go.Deep.blk_alloc_new (w2.alloc (.cells #[.int .i64 0, .slice A m.regs.length c, .int .i64 m.pc, .int .i64 m.back, .bool m.ints, .bool m.wait, .int .i64 m.table, .int .i64 m.count, .int .i64 m.fin, nilv, .slice C m.out.length c'', .int .i64 m.ready, .int .i64 m.want, hptr fp, .int .i64 (-1)] 153)) (.cells (skL F E K (.slice Ae ne ce) ⟨0, .slice A m.regs.length c, .slice C m.out.length c'', m, sp, -1⟩ ⟨0, .slice A m.regs.length c, .slice C m.out.length c'', m, fp, -1⟩ nilv).toArray 156)
    rw [World.size_alloc] at this
    exact this
  · have HL : Hid (R.length < 16 ∧ Chg v.foot w w1) := ⟨by simpa using hlt, hc1⟩
    clear h1 h2 h3 h4 h5 hlt hf1 hc1 b0 hbx
    go_wp2_with fail
    go_ret2
    exact Or.inr ⟨rfl, HL.out.1, HL.out.2.alloc _⟩

end Go.Proofs.YtecpblabaelopaaGreatDoor

/- Contract of seeker.nearest: the checkpoint from which one comes soonest to a place. -/

namespace Go.Proofs.YtecpblabaelopaaGreatDoor
open Go.RowKit
set_option maxRecDepth 100000

def isNearer (place : Int) (best p : PtV) : Bool := decide (best.place < p.place) && decide (p.place ≤ place)
def nearK (p0 : PtV) (ks : List PtV) (place : Int) (k : Nat) : PtV := (ks.take k).foldl (fun best p => if isNearer place best p = true then p else best) p0
def nearP (p0 : PtV) (ks : List PtV) (place : Int) : PtV := nearK p0 ks place ks.length
theorem nearK_step (p0 : PtV) (ks : List PtV) (place : Int) {k : Nat} (hk : k < ks.length) : nearK p0 ks place (k + 1) = if isNearer place (nearK p0 ks place k) (ks.getD k noPt) = true then ks.getD k noPt else nearK p0 ks place k := by
  have e : ks.getD k noPt = ks[k] := by simp [List.getD, hk]
  unfold nearK
  rw [List.take_succ_eq_append_getElem hk, List.foldl_append, e]
  rfl
theorem nearK_or (p0 : PtV) (ks : List PtV) (place : Int) : ∀ k, k ≤ ks.length → nearK p0 ks place k = p0 ∨ ∃ i, i < ks.length ∧ nearK p0 ks place k = ks.getD i noPt ∧ (ks.getD i noPt).place ≤ place
  | 0, _ => Or.inl rfl
  | k + 1, hk => by
    rw [nearK_step _ _ _ (by omega)]
    by_cases h : isNearer place (nearK p0 ks place k) (ks.getD k noPt) = true
    · rw [if_pos h]
      refine Or.inr ⟨k, by omega, rfl, ?_⟩
      unfold isNearer at h
      simp at h
      exact h.2
    · rw [if_neg h]
      exact nearK_or p0 ks place k (by omega)
theorem cells_len (p : PtV) : p.cells.length = 15 := rfl
theorem flatP_len (ks : List PtV) : (flatP ks).length = ks.length * 15 := by
  induction ks with
  | nil => rfl
  | cons a t ih =>
    show (a.cells ++ flatP t).length = _
    rw [List.length_append, ih, cells_len, List.length_cons]
    omega
theorem flatP_at (ks : List PtV) {k j : Nat} (hk : k < ks.length) (hj : j < 15) : (flatP ks)[k * 15 + j]? = (ks.getD k noPt).cells[j]? := by
  induction ks generalizing k with
  | nil => simp at hk
  | cons a t ih =>
    show (a.cells ++ flatP t)[k * 15 + j]? = _
    cases k with
    | zero =>
      rw [List.getElem?_append_left (by rw [cells_len]; omega)]
      simp
    | succ k =>
      rw [List.getElem?_append_right (by rw [cells_len]; omega), cells_len, show (k + 1) * 15 + j - 15 = k * 15 + j by omega]
      have := ih (k := k) (by simpa using hk)
      rw [this]
      simp [List.getD]

set_option maxHeartbeats 1000000 in
theorem nearer_any (best p : PtV) (place : Int) (b q : Nat) (w : World) (hb : w.cell? ⟨b, 0, none⟩ = some (.int .i64 best.place)) (hq : w.cell? ⟨q, 0, none⟩ = some (.int .i64 place)) :
    Calls Tryz.prog 156 #[.agg p.cells.toArray, .pointer (some ⟨b, 0, none⟩), .pointer (some ⟨q, 0, none⟩)] w fun e w' => e = .returned (.bool (isNearer place best p)) ∧ Below w.heap.size w w' := by
  have hlb : b < w.heap.size := by
    by_cases h : b < w.heap.size
    · exact h
    · simp [World.cell?, Array.getElem?_eq_none (show w.heap.size ≤ b by omega)] at hb
  have hlq : q < w.heap.size := by
    by_cases h : q < w.heap.size
    · exact h
    · simp [World.cell?, Array.getElem?_eq_none (show w.heap.size ≤ q by omega)] at hq
  by_cases h1 : best.place < p.place
  · by_cases h2 : p.place ≤ place
    · have HE : Hid (isNearer place best p = true) := by show _ = _; simp [isNearer, h1, h2]
      simp only [PtV.cells]
      go_enter Tryz.func156, Tryz.ntmps156
      go_wp2
      go_ret
      exact ⟨by rw [HE.out]; rfl, below_alloc _ _⟩
    · have HE : Hid (isNearer place best p = false) := by show _ = _; simp [isNearer, h2]
      have h2' : ¬ p.place ≤ place := h2
      simp only [PtV.cells]
      go_enter Tryz.func156, Tryz.ntmps156
      go_wp2
      go_ret
      exact ⟨by rw [HE.out]; rfl, below_alloc _ _⟩
  · have HE : Hid (isNearer place best p = false) := by show _ = _; simp [isNearer, h1]
    simp only [PtV.cells]
    go_enter Tryz.func156, Tryz.ntmps156
    go_wp2
    go_ret
    exact ⟨by rw [HE.out]; rfl, below_alloc _ _⟩

theorem one_cellP {w : World} {b : Nat} {x : Value} {t : TypeId} (h : w.heap[b]? = some (.cells #[x] t (0, 0))) : w.cell? ⟨b, 0, none⟩ = some x := by simp [World.cell?, h]
theorem cells_one (p : PtV) (hr : ∃ A n c, p.rv = .slice A n c) (ho : ∃ A n c, p.ov = .slice A n c) : p.cells.toArray.all (·.oneCell') = true := by
  obtain ⟨A, n, c, hr⟩ := hr
  obtain ⟨A', n', c', ho⟩ := ho
  refine all_oneCell_toArray (cs := p.cells) fun v hv => ?_
  unfold PtV.cells at hv
  rw [hr, ho] at hv
  simp at hv
  rcases hv with rfl | rfl | rfl | rfl | rfl | rfl | rfl | rfl | rfl | rfl | rfl | rfl | rfl | rfl | rfl <;> rfl
theorem SkAt.kept_range {w : World} {lo hp kp : Nat} {F E K : Int} {ev : Value} {S : SkS} (h : SkAt w lo hp kp F E K ev S) {k : Nat} (hk : k < S.ks.length) : ∃ g c, S.kv = .slice (some ⟨g, 0, none⟩) S.ks.length c ∧ g < w.heap.size ∧ w.rangeAt g (k * 15) (S.ks.getD k noPt).cells := by
  rcases h.kept.2 with ⟨_, e⟩ | ⟨g, cap, cur, hv, _, hh, hc, _, hs, ht⟩
  · omega
  · refine ⟨g, cap, hv, lt_of_block hh, fun j v hj => ?_⟩
    have hj15 : j < 15 := by
      by_cases hjj : j < 15
      · exact hjj
      · rw [List.getElem?_eq_none (by rw [cells_len]; omega)] at hj; cases hj
    have hk' := h.kept
    rw [hv] at hk'
    have := hk'.cellAt (k * 15 + j) (by omega)
    rw [flatP_at _ hk hj15, hj] at this
    simpa using this

structure SkRead (w : World) (kp : Nat) (F E K : Int) (ev : Value) (p0 pn : PtV) (ks : List PtV) (kv : Value) : Prop where
  box : w.heap[kp]? = some (.cells (skL F E K ev p0 pn kv).toArray 156 (0, 0))
  sh : ∀ p, p = p0 ∨ p ∈ ks → (∃ A n c, p.rv = .slice A n c) ∧ (∃ A n c, p.ov = .slice A n c)
  kv : ∃ A c, kv = .slice A ks.length c ∧ ∀ k, k < ks.length → ∃ g, A = some ⟨g, 0, none⟩ ∧ g < w.heap.size ∧ w.rangeAt g (k * 15) (ks.getD k noPt).cells
  few : ks.length ≤ 8
theorem SkRead.below {w w' : World} {kp : Nat} {F E K : Int} {ev : Value} {p0 pn : PtV} {ks : List PtV} {kv : Value} (h : SkRead w kp F E K ev p0 pn ks kv) (hb : Below w.heap.size w w') : SkRead w' kp F E K ev p0 pn ks kv := by
  obtain ⟨a, b, ⟨A, c, e, d⟩, f⟩ := h
  refine ⟨by rw [hb.block _ (lt_of_block a)]; exact a, b, ⟨A, c, e, fun k hk => ?_⟩, f⟩
  obtain ⟨g, h1, h2, h3⟩ := d k hk
  exact ⟨g, h1, Nat.lt_of_lt_of_le h2 hb.size, fun j v hj => (hb.cell (p := ⟨g, k * 15 + j, none⟩) h2).trans (h3 j v hj)⟩

theorem range_box {w : World} {b : Nat} {l : List Value} {t : TypeId} (h : w.heap[b]? = some (.cells l.toArray t (0, 0))) : w.rangeAt b 0 l := fun j v hj => by
  unfold World.cell?
  simp only [h, Nat.zero_add]
  simpa using hj

set_option maxHeartbeats 1000000 in
theorem nearest_any (kp : Nat) (F E K : Int) (ev : Value) (p0 pn : PtV) (ks : List PtV) (kv : Value) (place : Int) (w : World) (h : SkRead w kp F E K ev p0 pn ks kv) :
    Calls Tryz.prog 135 #[hptr kp, .int .i64 place] w fun e w' => e = .returned (.agg (nearP p0 ks place).cells.toArray) ∧ Below w.heap.size w w' := by
  have H : Hid (SkRead w kp F E K ev p0 pn ks kv) := h
  obtain ⟨A, c, rfl, -⟩ := h.kv
  have hfew := h.few
  have hkl := lt_of_block h.box
  have hkv : w.cell? ⟨kp, 34, none⟩ = some (.slice A ks.length c) := by simp [World.cell?, h.box, skL, PtV.cells]
  have HP0 : Hid (∀ w1, Below w.heap.size w w1 → w1.rangeAt kp 4 p0.cells) := fun w1 hb j v hj => by
    rw [hb.cell (p := ⟨kp, 4 + j, none⟩) hkl]
    have hj15 : j < 15 := by
      by_cases hjj : j < 15
      · exact hjj
      · rw [List.getElem?_eq_none (by rw [cells_len]; omega)] at hj; cases hj
    unfold World.cell?
    simp only [H.out.box, skL]
    rw [List.getElem?_toArray, List.append_assoc, List.append_assoc, List.getElem?_append_right (by simp), List.getElem?_append_left (by simp [cells_len]; omega)]
    simpa using hj
  have HSZ : Hid ((Tryz.prog.info? 153).map (·.size) = some 15) := by show _ = _; kernel_rfl
  clear h
  obtain ⟨W1, hW1⟩ : ∃ W1, W1 = ((w.alloc (.cells #[.int .i64 place] 3)).alloc (.cells zerP 153)).alloc (.cells zerP 153) := ⟨_, rfl⟩
  have e1 : W1.heap[w.heap.size]? = some (.cells #[.int .i64 place] 3 (0, 0)) ∧ W1.heap[w.heap.size + 1]? = some (.cells zerP 153 (0, 0)) ∧ W1.heap[w.heap.size + 1 + 1]? = some (.cells zerP 153 (0, 0)) ∧ Below w.heap.size w W1 := by
    rw [hW1]
    obtain ⟨b0, b1, b2⟩ := two_boxes (w := w) (o1 := .cells #[.int .i64 place] 3) (o2 := .cells zerP 153) (below_alloc ((w.alloc (.cells #[.int .i64 place] 3)).alloc (.cells zerP 153)) (.cells zerP 153))
    refine ⟨b0, b1, ?_, b2⟩
    have := Go.Deep.blk_alloc_new ((w.alloc (.cells #[.int .i64 place] 3)).alloc (.cells zerP 153)) (.cells zerP 153)
    rwa [World.size_alloc, World.size_alloc] at this
  have HW1 : Hid (W1 = ((w.alloc (.cells #[.int .i64 place] 3)).alloc (.cells zerP 153)).alloc (.cells zerP 153)) := hW1
  have HE1 : Hid (_ ∧ _ ∧ _ ∧ _) := e1
  have HSO : Hid (p0.cells.toArray.all (·.oneCell') = true) := cells_one _ (H.out.sh p0 (Or.inl rfl)).1 (H.out.sh p0 (Or.inl rfl)).2
  have HST : Hid ((((w.alloc (.cells #[.int .i64 place] 3)).alloc (.cells zerP 153)).alloc (.cells zerP 153)).heap[w.heap.size + 1 + 1]? = some (.cells zerP 153 (0, 0))) := by rw [← hW1]; exact e1.2.2.1
  obtain ⟨W2, hW2⟩ : ∃ W2, W2 = W1.setRow (w.heap.size + 1 + 1) p0.cells.toArray := ⟨_, rfl⟩
  have HW2 : Hid (W2 = W1.setRow (w.heap.size + 1 + 1) p0.cells.toArray) := hW2
  have e2 : W2.heap[w.heap.size]? = some (.cells #[.int .i64 place] 3 (0, 0)) ∧ W2.heap[w.heap.size + 1]? = some (.cells zerP 153 (0, 0)) ∧ W2.heap[w.heap.size + 1 + 1]? = some (.cells (nearK p0 ks place 0).cells.toArray 153 (0, 0)) ∧ Below w.heap.size w W2 := by
    rw [hW2]
    refine ⟨?_, ?_, setRow_heap _ _ _ _ _ _ e1.2.2.1, below_setRow e1.2.2.2 (by omega) _⟩
    · rw [setRow_other _ _ _ _ (by omega)]; exact e1.1
    · rw [setRow_other _ _ _ _ (by omega)]; exact e1.2.1
  have HE2 : Hid (_ ∧ _ ∧ _ ∧ _) := e2
  have hkv2 := (e2.2.2.2.cell (p := ⟨kp, 34, none⟩) hkl).trans hkv
  have hz2 : w.heap.size + 1 + 1 < W2.heap.size := lt_of_block e2.2.2.1
  clear e1 hW1 hW2 hkv e2
  go_enter Tryz.func135, Tryz.ntmps135
  go_wp2_with (first
    | (refine wpList_load_mid rfl 153 (.tmp 11) rfl kp 4 rfl p0.cells _ (HP0.out _ ((below_alloc _ _).alloc (by simp) _)) Tryz.underlying153 rfl HSZ.out ?_)
    | (refine wpList_store_row rfl 153 (.tmp 5) (.tmp 12) rfl (w.heap.size + 1 + 1) p0.cells.toArray rfl rfl 153 _ HST.out HSZ.out rfl HSO.out ?_; rw [← HW1.out, ← HW2.out]))
  go_loopw [8, 19] (fun _ i wr => ∃ (k : Nat), k ≤ ks.length ∧ i = .int .i64 (k : Int) ∧ Hid (wr.heap[w.heap.size]? = some (.cells #[.int .i64 place] 3 (0, 0)) ∧ wr.heap[w.heap.size + 1]? = some (.cells zerP 153 (0, 0)) ∧ wr.heap[w.heap.size + 1 + 1]? = some (.cells (nearK p0 ks place k).cells.toArray 153 (0, 0)) ∧ Below w.heap.size w wr)) (fun _ i _ => ks.length - (intOf i).toNat)
  case atStart => exact ⟨0, by omega, rfl, HE2⟩
  case round =>
    obtain ⟨k, hk, rfl, HI⟩ := hrel
    by_cases hlt : k < ks.length
    · have hki : (k : Int) < (ks.length : Int) := by omega
      have hw2 : IntKind.i64.wrap ((k : Int) + 1) = (k : Int) + 1 := IntWalk.i64_in _ (by omega)
      have HR := H.out.below HI.out.2.2.2
      obtain ⟨A', c', e3, hcell⟩ := HR.kv
      simp only [Value.slice.injEq, true_and] at e3
      obtain ⟨rfl, rfl⟩ := e3
      obtain ⟨g, rfl, hg, hrg⟩ := hcell k hlt
      have HRG : Hid (wr.rangeAt g (k * 15) (ks.getD k noPt).cells) := hrg
      have hmem : ks.getD k noPt ∈ ks := by
        have : ks.getD k noPt = ks[k] := by simp [List.getD, hlt]
        rw [this]; exact List.getElem_mem hlt
      have HKO : Hid ((ks.getD k noPt).cells.toArray.all (·.oneCell') = true) := cells_one _ (H.out.sh _ (Or.inr hmem)).1 (H.out.sh _ (Or.inr hmem)).2
      have HNK : Hid (nearK p0 ks place (k + 1) = if isNearer place (nearK p0 ks place k) (ks.getD k noPt) = true then ks.getD k noPt else nearK p0 ks place k) := nearK_step p0 ks place hlt
      clear hrg hcell HR hmem
      revert HRG HKO HNK HI
      generalize nearK p0 ks place k = best
      generalize ks.getD k noPt = q
      intro HI HRG HKO HNK
      have HA : Hid ((wr.alloc (.cells q.cells.toArray 153)).cell? ⟨w.heap.size + 1 + 1, 0, none⟩ = some (.int .i64 best.place) ∧ (wr.alloc (.cells q.cells.toArray 153)).cell? ⟨w.heap.size, 0, none⟩ = some (.int .i64 place)) := by
        have b := below_alloc wr (.cells q.cells.toArray 153)
        refine ⟨?_, ?_⟩
        · rw [b.cell (p := ⟨w.heap.size + 1 + 1, 0, none⟩) (lt_of_block HI.out.2.2.1)]
          unfold World.cell?
          simp only [HI.out.2.2.1]
          rfl
        · rw [b.cell (p := ⟨w.heap.size, 0, none⟩) (lt_of_block HI.out.1)]
          exact one_cellP HI.out.1
      have HRQ : Hid ((wr.alloc (.cells q.cells.toArray 153)).rangeAt wr.heap.size 0 q.cells ∧ ∀ w2, Below (wr.alloc (.cells q.cells.toArray 153)).heap.size (wr.alloc (.cells q.cells.toArray 153)) w2 → w2.rangeAt wr.heap.size 0 q.cells) := ⟨range_box (Go.Deep.blk_alloc_new _ _), fun w2 hb => range_box (box_kept hb)⟩
      have HKO' : Hid True := trivial
      have HSN : Hid ((wr.alloc (.cells zerP 153)).heap[wr.heap.size]? = some (.cells zerP 153 (0, 0)) ∧ (wr.alloc (.cells zerP 153)).setRow wr.heap.size q.cells.toArray = wr.alloc (.cells q.cells.toArray 153)) := ⟨Go.Deep.blk_alloc_new _ _, World.setRow_alloc_new _ _ _ _⟩
      go_wp2_with (first
        | (refine wpList_load_mid rfl 153 (.tmp 21) rfl g (k * 15) rfl q.cells _ HRG.out Tryz.underlying153 rfl HSZ.out ?_)
        | (refine wpList_store_row rfl 153 (.tmp 8) (.tmp 22) rfl wr.heap.size q.cells.toArray rfl rfl 153 _ HSN.out.1 HSZ.out rfl HKO.out ?_; rw [HSN.out.2])
        | (refine wpList_load_mid rfl 153 (.tmp 8) rfl wr.heap.size 0 rfl q.cells _ HRQ.out.1 Tryz.underlying153 rfl HSZ.out ?_))
      refine (nearer_any best q place _ _ _ HA.out.1 HA.out.2).mono ?_
      rintro e w2 ⟨rfl, hb2⟩
      have HB2 : Hid (Below wr.heap.size wr w2 ∧ w2.rangeAt wr.heap.size 0 q.cells ∧ w2.heap[w.heap.size + 1 + 1]? = some (.cells best.cells.toArray 153 (0, 0)) ∧ wr.heap.size < w2.heap.size) := by
        have b1 : Below wr.heap.size wr w2 := (below_alloc _ _).trans (hb2.mono (by simp))
        refine ⟨b1, HRQ.out.2 w2 hb2, ?_, ?_⟩
        · rw [b1.block _ (lt_of_block HI.out.2.2.1)]; exact HI.out.2.2.1
        · have := hb2.size; simp at this; omega
      clear hb2 HRG HA HSN HKO'
      by_cases hn : isNearer place best q = true
      · have HN : Hid (nearK p0 ks place (k + 1) = q) := by show _ = _; rw [HNK.out, if_pos hn]
        have HW3 : Hid (∀ W, W = w2.setRow (w.heap.size + 1 + 1) q.cells.toArray → W.heap[w.heap.size]? = some (.cells #[.int .i64 place] 3 (0, 0)) ∧ W.heap[w.heap.size + 1]? = some (.cells zerP 153 (0, 0)) ∧ W.heap[w.heap.size + 1 + 1]? = some (.cells (nearK p0 ks place (k + 1)).cells.toArray 153 (0, 0)) ∧ Below w.heap.size w W) := fun W e => by
          subst e
          obtain ⟨i1, i2, i3, i4⟩ := HI.out
          refine ⟨?_, ?_, ?_, below_setRow (i4.trans (HB2.out.1.mono i4.size)) (by omega) _⟩
          · rw [setRow_other _ _ _ _ (by omega), HB2.out.1.block _ (lt_of_block i1)]; exact i1
          · rw [setRow_other _ _ _ _ (by omega), HB2.out.1.block _ (lt_of_block i2)]; exact i2
          · rw [HN.out]; exact setRow_heap _ _ _ _ _ _ HB2.out.2.2.1
        rw [hn]
        clear hn HNK HI HN
        go_wp2_with (first
          | (refine wpList_load_mid rfl 153 (.tmp 8) rfl wr.heap.size 0 rfl q.cells _ HB2.out.2.1 Tryz.underlying153 rfl HSZ.out ?_)
          | (refine wpList_store_row rfl 153 (.tmp 5) (.tmp 26) rfl (w.heap.size + 1 + 1) q.cells.toArray rfl rfl 153 _ HB2.out.2.2.1 HSZ.out rfl HKO.out ?_))
        refine ⟨⟨k + 1, by omega, by go_num, HW3.out _ rfl⟩, ?_⟩
        simp [intOf]; omega
      · have hn' : isNearer place best q = false := by simpa using hn
        have HN : Hid (nearK p0 ks place (k + 1) = best) := by show _ = _; rw [HNK.out, if_neg hn]
        have HW3 : Hid (w2.heap[w.heap.size]? = some (.cells #[.int .i64 place] 3 (0, 0)) ∧ w2.heap[w.heap.size + 1]? = some (.cells zerP 153 (0, 0)) ∧ w2.heap[w.heap.size + 1 + 1]? = some (.cells (nearK p0 ks place (k + 1)).cells.toArray 153 (0, 0)) ∧ Below w.heap.size w w2) := by
          obtain ⟨i1, i2, i3, i4⟩ := HI.out
          refine ⟨?_, ?_, ?_, i4.trans (HB2.out.1.mono i4.size)⟩
          · rw [HB2.out.1.block _ (lt_of_block i1)]; exact i1
          · rw [HB2.out.1.block _ (lt_of_block i2)]; exact i2
          · rw [HN.out]; exact HB2.out.2.2.1
        rw [hn']
        clear hn hn' HNK HI HN
        go_wp2_with fail
        refine ⟨⟨k + 1, by omega, by go_num, HW3⟩, ?_⟩
        simp [intOf]; omega
    · have e : k = ks.length := by omega
      subst e
      have hbest : nearK p0 ks place ks.length = nearP p0 ks place := rfl
      have HB : Hid (wr.rangeAt (w.heap.size + 1 + 1) 0 (nearP p0 ks place).cells ∧ wr.heap[w.heap.size + 1]? = some (.cells zerP 153 (0, 0)) ∧ Below w.heap.size w wr ∧ (nearP p0 ks place).cells.toArray.all (·.oneCell') = true) := by
        obtain ⟨i1, i2, i3, i4⟩ := HI.out
        rw [hbest] at i3
        refine ⟨range_box i3, i2, i4, ?_⟩
        rcases nearK_or p0 ks place ks.length (Nat.le_refl _) with e | ⟨i, hi, e, _⟩
        · rw [← hbest, e]; exact HSO.out
        · have hm : ks.getD i noPt ∈ ks := by
            have : ks.getD i noPt = ks[i] := by simp [List.getD, hi]
            rw [this]; exact List.getElem_mem hi
          rw [← hbest, e]
          exact cells_one _ (H.out.sh _ (Or.inr hm)).1 (H.out.sh _ (Or.inr hm)).2
      clear HI hbest
      obtain ⟨q, hq⟩ : ∃ q, q = nearP p0 ks place := ⟨_, rfl⟩
      have HQ : Hid (q = nearP p0 ks place) := hq
      rw [← hq] at HB
      clear hq
      have hz : w.heap.size + 1 < wr.heap.size := lt_of_block HB.out.2.1
      go_wp2_with (first
        | (refine wpList_load_mid rfl 153 (.tmp 5) rfl (w.heap.size + 1 + 1) 0 rfl q.cells _ HB.out.1 Tryz.underlying153 rfl HSZ.out ?_)
        | (refine wpList_store_row rfl 153 (.tmp 4) (.tmp 28) rfl (w.heap.size + 1) q.cells.toArray rfl rfl 153 _ HB.out.2.1 HSZ.out rfl HB.out.2.2.2 ?_))
      have hb2 : (wr.setRow (w.heap.size + 1) q.cells.toArray).heap[w.heap.size + 1]? = some (.cells q.cells.toArray 153 (0, 0)) := setRow_heap _ _ _ _ _ _ HB.out.2.1
      have hBE : Hid (Below w.heap.size w (wr.setRow (w.heap.size + 1) q.cells.toArray)) := below_setRow HB.out.2.2.1 (by omega) _
      obtain ⟨W9, hW9⟩ : ∃ W9, W9 = wr.setRow (w.heap.size + 1) q.cells.toArray := ⟨_, rfl⟩
      rw [← hW9] at hb2 hBE ⊢
      obtain ⟨⟨y0, y1, y2, y3, y4, y5, y6, y7, y8, y9, y10, y11, y12, y13, y14⟩, yf, yl⟩ := fifteen_cells (show W9.heap[w.heap.size + 1]? = some (.cells #[.int .i64 q.place, q.rv, .int .i64 q.m.pc, .int .i64 q.m.back, .bool q.m.ints, .bool q.m.wait, .int .i64 q.m.table, .int .i64 q.m.count, .int .i64 q.m.fin, nilv, q.ov, .int .i64 q.m.ready, .int .i64 q.m.want, hptr q.sp, .int .i64 q.wrote] 153 (0, 0)) from hb2)
      clear hb2 hW9
      refine bodyPost_ret (v := .agg #[.int .i64 q.place, q.rv, .int .i64 q.m.pc, .int .i64 q.m.back, .bool q.m.ints, .bool q.m.wait, .int .i64 q.m.table, .int .i64 q.m.count, .int .i64 q.m.fin, nilv, q.ov, .int .i64 q.m.ready, .int .i64 q.m.want, hptr q.sp, .int .i64 q.wrote]) (by simp [results, Tryz.results135, go_sem, y0, y1, y2, y3, y4, y5, y6, y7, y8, y9, y10, y11, y12, y13, y14]) rfl ?_
      exact ⟨by rw [← HQ.out]; rfl, hBE.out⟩

end Go.Proofs.YtecpblabaelopaaGreatDoor
