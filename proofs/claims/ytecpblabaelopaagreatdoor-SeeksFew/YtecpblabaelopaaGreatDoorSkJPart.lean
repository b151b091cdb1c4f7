/- A seeker whose point now is another one: plain laws. -/
import Derived.Test.YtecpblabaelopaaGreatDoorPtNPart
import Derived.Deep.QuietTactic
import Derived.BigQuiet
namespace Go.Proofs.YtecpblabaelopaaGreatDoor
open Go.RowKit
set_option maxRecDepth 100000

def PtIs (M : Nat → Mach) (Wr : Nat → Int) (cnt : Nat) (D : List (List Int)) (p : PtV) (s : List Int) : Prop :=
  ∃ n : Nat, p.place = (n : Int) ∧ n ≤ cnt ∧ p.m = M n ∧ wordsOf D s = (M n).mem ∧ p.wrote = Wr n
structure SkOk (M : Nat → Mach) (Wr : Nat → Int) (cnt : Nat) (K : Int) (S : SkS) : Prop where
  z : S.p0.place = 0
  i0 : PtIs M Wr cnt S.D S.p0 S.s0
  inow : PtIs M Wr cnt S.D S.pn S.sn
  ik : ∀ i, i < S.ks.length → PtIs M Wr cnt S.D (S.ks.getD i noPt) (S.ss.getD i [])
  few : (S.ks.length : Int) ≤ K
  k8 : 1 ≤ K ∧ K ≤ 8
structure SkTo (w : World) (lo hp kp : Nat) (F E K : Int) (ev : Value) (S : SkS) (w' : World) (S' : SkS) : Prop where
  at_ : SkAt w' lo hp kp F E K ev S'
  foot : ∀ g, S'.foot kp g → S.foot kp g ∨ w.heap.size ≤ g
  chg : Chg (S.foot kp) w w'
  len : S'.R.length = S.R.length
theorem SkTo.trans {w w1 w2 : World} {lo hp kp : Nat} {F E K : Int} {ev : Value} {S S1 S2 : SkS} (h : SkTo w lo hp kp F E K ev S w1 S1) (k : SkTo w1 lo hp kp F E K ev S1 w2 S2) : SkTo w lo hp kp F E K ev S w2 S2 :=
  ⟨k.at_, fun g e => by
    rcases k.foot g e with e | e
    · exact h.foot g e
    · exact Or.inr (Nat.le_trans h.chg.size e), h.chg.trans k.chg h.foot, k.len.trans h.len⟩

theorem PtOk.chg {G F : Nat → Prop} {w w' : World} {lo : Nat} {p : PtV} (h : PtOk w lo F p) (hc : Chg G w w') (hG : ∀ g, G g → F g ∨ ∃ t, BoxT w g t ∧ 3 ≠ t) {F' : Nat → Prop} (hF : ∀ g, F' g → F g ∨ w.heap.size ≤ g) : PtOk w' lo F' p := by
  have hk : ∀ {u : Value} {l : List Int}, OwnI w lo u l → Off F u → OwnI w' lo u l ∧ Off F' u := fun hu ho => by
    refine ⟨hc.own hu fun g hg e => ?_, fun g hg e => ?_⟩
    · rcases hG g e with e | ⟨t, ⟨cur, hb⟩, ht⟩
      · exact ho g hg e
      · exact own_ne hu hb ht hg
    · rcases hF g e with e | e
      · exact ho g hg e
      · have := (hu.lt g hg).2; omega
  exact ⟨(hk h.regs h.offr).1, (hk h.out h.offo).1, (hk h.regs h.offr).2, (hk h.out h.offo).2⟩
theorem SkAt.boxes {w : World} {lo hp kp : Nat} {F E K : Int} {ev : Value} {S : SkS} (h : SkAt w lo hp kp F E K ev S) : BoxT w kp 156 ∧ BoxT w S.p0.sp 211 ∧ BoxT w S.pn.sp 211 ∧ ∀ i, i < S.ks.length → BoxT w (S.ks.getD i noPt).sp 211 :=
  ⟨⟨_, h.box⟩, ⟨_, h.sp0.box⟩, ⟨_, h.spn.box⟩, fun i hi => ⟨_, (h.sps i hi).box⟩⟩
theorem BoxT.ne {w : World} {g b : Nat} {t u : TypeId} (h : BoxT w g t) (k : BoxT w b u) (ht : t ≠ u) : g ≠ b := fun e => by
  obtain ⟨c, h⟩ := h
  obtain ⟨d, k⟩ := k
  rw [e, k] at h
  simp at h
  exact ht h.2.symm
theorem mem_getD {ks : List PtV} {p : PtV} (h : p ∈ ks) : ∃ i, i < ks.length ∧ ks.getD i noPt = p := by
  obtain ⟨i, hi, e⟩ := List.mem_iff_getElem.1 h
  exact ⟨i, hi, by simpa [List.getD, hi] using e⟩
theorem getD_mem {ks : List PtV} {i : Nat} (h : i < ks.length) : ks.getD i noPt ∈ ks := by
  have : ks.getD i noPt = ks[i] := by simp [List.getD, h]
  rw [this]; exact List.getElem_mem h

theorem SkAt.jump {w w' : World} {lo hp kp : Nat} {F E K : Int} {ev : Value} {S : SkS} (h : SkAt w lo hp kp F E K ev S) {v' : HV} {D' : List (List Int)} {R' sn' : List Int} {pn' : PtV}
    (hc : Chg (fun g => S.hv.foot g ∨ g = S.pn.sp ∨ g = kp) w w') (hh : HostAt w' lo hp v' D' R') (hf : ∀ g, v'.foot g → S.hv.foot g ∨ w.heap.size ≤ g)
    (hb : w'.heap[kp]? = some (.cells (skL F E K ev S.p0 pn' S.kv).toArray 156 (0, 0))) (hs : SpAt w' hp pn'.sp sn') (hn : pn'.sp = S.pn.sp ∨ w.heap.size ≤ pn'.sp) (hsys : Sys D' R' (S.s0 :: sn' :: S.ss)) (hg : PtOk w' lo v'.foot pn') (hlow : lo ≤ w.heap.size) (hlen : R'.length = S.R.length) :
    SkTo w lo hp kp F E K ev S w' { S with hv := v', D := D', R := R', pn := pn', sn := sn' } := by
  have hnd := h.ne
  simp only [List.nodup_cons, List.mem_cons, List.mem_map, not_or] at hnd
  obtain ⟨⟨n1, n2⟩, n3, n4⟩ := hnd
  obtain ⟨b1, b2, b3, b4⟩ := h.boxes
  have hfs : ∀ g, BoxT w g 211 → ¬ S.hv.foot g := fun g hgb e => (BoxT.off hgb h.host (by decide) (by decide) (by decide)).1 e
  have hG : ∀ g, (S.hv.foot g ∨ g = S.pn.sp ∨ g = kp) → S.hv.foot g ∨ ∃ t, BoxT w g t ∧ 3 ≠ t := fun g e => by
    rcases e with e | e | e
    · exact Or.inl e
    · exact Or.inr ⟨_, by rw [e]; exact b3, by decide⟩
    · exact Or.inr ⟨_, by rw [e]; exact b1, by decide⟩
  have hsp : ∀ {g s}, SpAt w hp g s → g ≠ S.pn.sp → SpAt w' hp g s := fun {g s} hq hne => hq.chg hc (by
    rintro (e | e | e)
    · exact hfs g ⟨_, hq.box⟩ e
    · exact hne e
    · exact BoxT.ne ⟨_, hq.box⟩ b1 (by decide) e)
  have hbig : ∀ g, w.heap.size ≤ g → ∀ b, b < w.heap.size → b ≠ g := fun g hg b hb => by omega
  refine ⟨⟨hb, hh, hsp h.sp0 n1, hs, fun i hi => hsp (h.sps i hi) (fun e => n3 ⟨S.ks.getD i noPt, getD_mem hi, e⟩), h.lenk, ?_, hsys, ?_, h.g0.chg hc hG hf, hg, fun p hp => (h.gk p hp).chg hc hG hf, h.evs, ⟨h.low.1, h.low.2.1, ?_, h.low.2.2.2⟩⟩, fun g e => ?_, hc.mono fun g _ e => ?_, hlen⟩
  · simp only [List.nodup_cons, List.mem_cons, List.mem_map, not_or]
    refine ⟨⟨fun e => ?_, n2⟩, fun ⟨p, hp, e⟩ => ?_, n4⟩
    · rcases hn with e2 | e2
      · exact n1 (e.trans e2)
      · have := h.sp0.host.2.2; omega
    · rcases hn with e2 | e2
      · exact n3 ⟨p, hp, e.trans e2⟩
      · obtain ⟨i, hi, rfl⟩ := mem_getD hp
        have := (h.sps i hi).host.2.2
        omega
  · refine hc.owns h.kept fun g hg e => ?_
    have hkb : BoxT w g 153 := by
      rcases h.kept.2 with ⟨e2, _⟩ | ⟨g', cap, cur, e2, _, hh2, _⟩
      · rw [e2] at hg; simp [Value.ownBlock] at hg
      · rw [e2] at hg; simp [Value.ownBlock] at hg; subst hg; exact ⟨_, hh2⟩
    rcases e with e | e | e
    · exact (BoxT.off hkb h.host (by decide) (by decide) (by decide)).1 e
    · exact BoxT.ne hkb b3 (by decide) e
    · exact BoxT.ne hkb b1 (by decide) e
  · rcases hn with e2 | e2
    · show lo ≤ pn'.sp
      rw [e2]; exact h.low.2.2.1
    · show lo ≤ pn'.sp
      omega
  · rcases e with e | e | e | e | e
    · rcases hf g e with e | e
      · exact Or.inl (Or.inl e)
      · exact Or.inr e
    · exact Or.inl (Or.inr (Or.inl e))
    · rcases hn with e2 | e2
      · exact Or.inl (Or.inr (Or.inr (Or.inl (by rw [e]; exact e2))))
      · exact Or.inr (by rw [e]; exact e2)
    · exact Or.inl (Or.inr (Or.inr (Or.inr (Or.inl e))))
    · exact Or.inl (Or.inr (Or.inr (Or.inr (Or.inr e))))
  · rcases e with e | e | e
    · exact Or.inl e
    · exact Or.inr (Or.inr (Or.inl e))
    · exact Or.inr (Or.inl e)
theorem skL_size (F E K : Int) (ev : Value) (p0 pn : PtV) (kv : Value) : (skL F E K ev p0 pn kv).toArray.size = 35 := rfl

theorem PtOk.below {F : Nat → Prop} {w w' : World} {lo : Nat} {p : PtV} (h : PtOk w lo F p) (hb : Below w.heap.size w w') : PtOk w' lo F p := ⟨h.regs.below hb, h.out.below hb, h.offr, h.offo⟩
theorem SkAt.below {w w' : World} {lo hp kp : Nat} {F E K : Int} {ev : Value} {S : SkS} (h : SkAt w lo hp kp F E K ev S) (hb : Below w.heap.size w w') : SkAt w' lo hp kp F E K ev S :=
  ⟨by rw [hb.block _ (lt_of_block h.box)]; exact h.box, h.host.below hb, h.sp0.below hb, h.spn.below hb, fun i hi => (h.sps i hi).below hb, h.lenk, h.ne, h.sys, ownsRow_below h.kept hb, h.g0.below hb, h.gn.below hb, fun p hp => (h.gk p hp).below hb, h.evs, h.low⟩
theorem SkTo.same {w w' : World} {lo hp kp : Nat} {F E K : Int} {ev : Value} {S : SkS} (h : SkAt w lo hp kp F E K ev S) (hb : Below w.heap.size w w') : SkTo w lo hp kp F E K ev S w' S := ⟨h.below hb, fun _ e => Or.inl e, Chg.of_below hb, rfl⟩

end Go.Proofs.YtecpblabaelopaaGreatDoor

/- Contract of seeker.leap. -/

namespace Go.Proofs.YtecpblabaelopaaGreatDoor
open Go.RowKit
set_option maxRecDepth 100000

theorem SkAt.read {w : World} {lo hp kp : Nat} {F E K : Int} {ev : Value} {S : SkS} (h : SkAt w lo hp kp F E K ev S) (h8 : S.ks.length ≤ 8) : SkRead w kp F E K ev S.p0 S.pn S.ks S.kv := by
  have sh : ∀ {p}, PtOk w lo S.hv.foot p → (∃ A n c, p.rv = .slice A n c) ∧ (∃ A n c, p.ov = .slice A n c) := fun hp => by
    obtain ⟨A, c, e⟩ := hp.regs.shape
    obtain ⟨B, d, f⟩ := hp.out.shape
    exact ⟨⟨_, _, _, e⟩, ⟨_, _, _, f⟩⟩
  refine ⟨h.box, fun p hp => ?_, ?_, h8⟩
  · rcases hp with e | e
    · rw [e]; exact sh h.g0
    · exact sh (h.gk p e)
  · rcases h.kept.2 with ⟨hv, e⟩ | ⟨g, cap, cur, hv, _⟩
    · exact ⟨none, 0, by rw [hv, e], fun k hk => by omega⟩
    · refine ⟨some ⟨g, 0, none⟩, cap, hv, fun k hk => ?_⟩
      obtain ⟨g', c', e1, e2, e3⟩ := h.kept_range hk
      rw [hv] at e1
      simp only [Value.slice.injEq, Option.some.injEq, Addr.mk.injEq, and_true] at e1
      exact ⟨g', by rw [e1.1], e2, e3⟩
theorem PtIs.same {M : Nat → Mach} {Wr : Nat → Int} {cnt : Nat} {D D' : List (List Int)} {p : PtV} {s : List Int} (h : PtIs M Wr cnt D p s) (hw : wordsOf D' s = wordsOf D s) : PtIs M Wr cnt D' p s := by
  obtain ⟨n, a, b, c, d, e⟩ := h
  exact ⟨n, a, b, c, hw.trans d, e⟩
structure FromAt (w : World) (lo hp : Nat) (M : Nat → Mach) (Wr : Nat → Int) (cnt : Nat) (S : SkS) (place : Int) (q : PtV) (sq : List Int) (rest : List (List Int)) : Prop where
  at_ : SpAt w hp q.sp sq
  perm : (S.s0 :: S.sn :: S.ss).Perm (sq :: rest)
  perm2 : (sq :: rest).Perm (S.sn :: S.s0 :: S.ss)
  is_ : PtIs M Wr cnt S.D q sq
  ok : PtOk w lo S.hv.foot q
  le : q.place ≤ place
  mem : sq ∈ S.s0 :: S.ss
theorem nearest_from {w : World} {lo hp kp : Nat} {F E K : Int} {ev : Value} {S : SkS} {M : Nat → Mach} {Wr : Nat → Int} {cnt : Nat} (h : SkAt w lo hp kp F E K ev S) (ho : SkOk M Wr cnt K S) {place : Int} (h0 : 0 ≤ place) : ∃ sq rest, FromAt w lo hp M Wr cnt S place (nearP S.p0 S.ks place) sq rest := by
  rcases nearK_or S.p0 S.ks place S.ks.length (Nat.le_refl _) with e | ⟨i, hi, e, hp'⟩
  · have e' : nearP S.p0 S.ks place = S.p0 := e
    rw [e']
    exact ⟨S.s0, S.sn :: S.ss, h.sp0, List.Perm.refl _, List.Perm.swap _ _ _, ho.i0, h.g0, by rw [ho.z]; exact h0, by simp⟩
  · have e' : nearP S.p0 S.ks place = S.ks.getD i noPt := e
    rw [e']
    have his : i < S.ss.length := by rw [h.lenk]; exact hi
    have es : S.ss.getD i [] = S.ss[i] := by simp [List.getD, his]
    have hm : S.ss.getD i [] ∈ S.ss := by rw [es]; exact List.getElem_mem his
    obtain ⟨a, b, hab⟩ := List.append_of_mem hm
    refine ⟨S.ss.getD i [], S.s0 :: S.sn :: (a ++ b), h.sps i hi, ?_, ?_, ho.ik i hi, h.gk _ (getD_mem hi), hp', List.mem_cons_of_mem _ hm⟩
    · have h1 : S.ss.Perm (S.ss.getD i [] :: (a ++ b)) := by
        conv => lhs; rw [hab]
        exact List.perm_middle
      exact ((h1.cons _).cons _).trans (((List.Perm.swap _ _ _).cons _).trans (List.Perm.swap _ _ _))
    · have h1 : (S.ss.getD i [] :: (a ++ b)).Perm S.ss := by
        conv => rhs; rw [hab]
        exact List.perm_middle.symm
      exact (((List.Perm.swap _ _ _).trans ((List.Perm.swap _ _ _).cons _)).trans ((h1.cons _).cons _)).trans (List.Perm.swap _ _ _)

def LeapPost (w : World) (lo hp kp : Nat) (F E K : Int) (ev : Value) (M : Nat → Mach) (Wr : Nat → Int) (cnt : Nat) (S : SkS) (place : Int) (e : Ending) (w' : World) : Prop :=
  e = .returned (.int .i64 0) ∧ ∃ S', SkTo w lo hp kp F E K ev S w' S' ∧ SkOk M Wr cnt K S' ∧ S'.pn.place ≤ place

theorem leap_end {w w1 w2 w' : World} {lo hp kp : Nat} {F E K : Int} {ev : Value} {M : Nat → Mach} {Wr : Nat → Int} {cnt : Nat} {S : SkS} {place : Int} {q : PtV} {sq : List Int} {rest : List (List Int)} {v1 : HV} {R1 : List Int} {fp : Nat}
    (h : SkAt w lo hp kp F E K ev S) (ho : SkOk M Wr cnt K S) (hlow : lo ≤ w.heap.size) (hq : FromAt w lo hp M Wr cnt S place q sq rest)
    (hh1 : HostAt w1 lo hp v1 S.D R1) (hf1 : ∀ g, v1.foot g → S.hv.foot g ∨ w.heap.size ≤ g) (hc1 : Chg S.hv.foot w w1) (hfp : w.heap.size ≤ fp) (hsp : SpAt w1 hp fp sq) (hR1 : R1.length = S.R.length)
    (hcl : ClearPost w1 lo hp S.pn.sp v1 S.D R1 (S.s0 :: sq :: S.ss) w2) (hc2 : Chg (fun g => g = kp) w2 w') (hb : w'.heap[kp]? = some (.cells (skL F E K ev S.p0 ({ q with sp := fp } : PtV) S.kv).toArray 156 (0, 0))) :
    LeapPost w lo hp kp F E K ev M Wr cnt S place (.returned (.int .i64 0)) w' := by
  obtain ⟨D', R', hsys, hwo, hRl, v', hh2, hsb, hf2, hcc⟩ := hcl
  obtain ⟨b1, b2, b3, b4⟩ := h.boxes
  have hkp : BoxT w2 kp 156 := by
    refine ⟨_, hcc.box (hc1.box h.box (BoxT.off b1 h.host (by decide) (by decide) (by decide)).1) ?_⟩
    rintro (e | e)
    · exact (BoxT.off ⟨_, hc1.box h.box (BoxT.off b1 h.host (by decide) (by decide) (by decide)).1⟩ hh1 (by decide) (by decide) (by decide)).1 e
    · exact BoxT.ne b1 b3 (by decide) e
  have hkpw := lt_of_block h.box
  have hf : ∀ g, v'.foot g → S.hv.foot g ∨ w.heap.size ≤ g := fun g e => by
    rcases hf2 g e with e | e
    · exact hf1 g e
    · exact Or.inr (Nat.le_trans hc1.size e)
  have hC : Chg (fun g => S.hv.foot g ∨ g = S.pn.sp ∨ g = kp) w w' := by
    have a : Chg (fun g => S.hv.foot g ∨ g = S.pn.sp ∨ g = kp) w w2 := (hc1.mono (fun g _ e => Or.inl e)).trans hcc fun g e => by
      rcases e with e | e
      · rcases hf1 g e with e | e
        · exact Or.inl (Or.inl e)
        · exact Or.inr e
      · exact Or.inl (Or.inr (Or.inl e))
    exact a.trans hc2 fun g e => Or.inl (Or.inr (Or.inr e))
  have hspf : fp ≠ S.pn.sp := by have := h.spn.host.2.2; omega
  have hfpk : fp ≠ kp := by omega
  have hsp2 : SpAt w' hp fp sq := (hsp.chg hcc (by
    rintro (e | e)
    · exact (hsp.off hh1).1 e
    · exact hspf e)).chg hc2 hfpk
  have hh' : HostAt w' lo hp v' D' R' := hh2.chg hc2 fun g e => by rw [e]; exact BoxT.off hkp hh2 (by decide) (by decide) (by decide)
  have hgq : PtOk w' lo v'.foot ({ q with sp := fp } : PtV) := by
    have := hq.ok.chg hC (fun g e => by
      rcases e with e | e | e
      · exact Or.inl e
      · exact Or.inr ⟨_, by rw [e]; exact b3, by decide⟩
      · exact Or.inr ⟨_, by rw [e]; exact b1, by decide⟩) hf
    exact ⟨this.regs, this.out, this.offr, this.offo⟩
  have hto := h.jump (pn' := ({ q with sp := fp } : PtV)) (sn' := sq) hC hh' hf hb hsp2 (Or.inr hfp) hsys hgq hlow (by omega)
  refine ⟨rfl, _, hto, ⟨ho.z, ho.i0.same (hwo _ (by simp)), ?_, fun i hi => (ho.ik i hi).same (hwo _ ?_), ho.few, ho.k8⟩, hq.le⟩
  · obtain ⟨n, a, b, c, d, e⟩ := hq.is_
    exact ⟨n, a, b, c, (hwo _ (by simp)).trans d, e⟩
  · have his : i < S.ss.length := by rw [h.lenk]; exact hi
    have es : S.ss.getD i [] = S.ss[i] := by simp [List.getD, his]
    have : S.ss.getD i [] ∈ S.ss := by rw [es]; exact List.getElem_mem his
    exact List.mem_cons_of_mem _ (List.mem_cons_of_mem _ this)

end Go.Proofs.YtecpblabaelopaaGreatDoor

/- Contract of seeker.leap: the walk. -/

namespace Go.Proofs.YtecpblabaelopaaGreatDoor
open Go.RowKit
set_option maxRecDepth 100000

theorem sk_cells {w : World} {kp : Nat} {F E K : Int} {ev : Value} {p q : PtV} {kv : Value} (h : w.heap[kp]? = some (.cells (skL F E K ev p q kv).toArray 156 (0, 0))) :
    w.cell? ⟨kp, 1, none⟩ = some (.int .i64 E) ∧ w.cell? ⟨kp, 2, none⟩ = some (.int .i64 K) ∧ w.cell? ⟨kp, 3, none⟩ = some ev ∧ w.cell? ⟨kp, 19, none⟩ = some (.int .i64 q.place) ∧ w.cell? ⟨kp, 27, none⟩ = some (.int .i64 q.m.fin) ∧ w.cell? ⟨kp, 32, none⟩ = some (hptr q.sp) ∧ w.cell? ⟨kp, 33, none⟩ = some (.int .i64 q.wrote) ∧ w.cell? ⟨kp, 34, none⟩ = some kv ∧ (∀ j, w.frozen? ⟨kp, j, none⟩ = false) ∧ kp < w.heap.size := by
  refine ⟨?_, ?_, ?_, ?_, ?_, ?_, ?_, ?_, fun j => by simp [World.frozen?, h], lt_of_block h⟩ <;> simp [World.cell?, h, skL, PtV.cells]
theorem sk_now {w : World} {kp : Nat} {F E K : Int} {ev : Value} {p q : PtV} {kv : Value} (h : w.heap[kp]? = some (.cells (skL F E K ev p q kv).toArray 156 (0, 0))) : w.rangeAt kp 19 q.cells ∧ w.there kp 19 15 := by
  refine ⟨fun j v hj => ?_, fun j hj => ⟨?_, by simp [World.frozen?, h]⟩⟩
  · have hj15 : j < 15 := by
      by_cases hjj : j < 15
      · exact hjj
      · rw [List.getElem?_eq_none (by rw [cells_len]; omega)] at hj; cases hj
    unfold World.cell?
    simp only [h, skL]
    rw [List.getElem?_toArray, List.getElem?_append_left (by simp [cells_len]; omega), List.getElem?_append_right (by simp [cells_len])]
    simpa [cells_len] using hj
  · unfold World.cell?
    simp only [h]
    simp [skL, cells_len]
    omega

theorem below_drewN (w : World) (n : Nat) : Below w.heap.size w (w.drewN n) := ⟨rfl, rfl, rfl, Nat.le_refl _, fun _ _ => rfl⟩

set_option maxHeartbeats 4000000 in
theorem leap_any (lo hp kp : Nat) (F E K : Int) (ev : Value) (M : Nat → Mach) (Wr : Nat → Int) (cnt : Nat) (S : SkS) (place : Int) (w : World) (h : SkAt w lo hp kp F E K ev S) (ho : SkOk M Wr cnt K S) (h0 : 0 ≤ place) (hlow : lo ≤ w.heap.size) :
    Calls Tryz.prog 98 #[hptr kp, .int .i64 place] w fun e w' => LeapPost w lo hp kp F E K ev M Wr cnt S place e w' := by
  obtain ⟨sq, rest, hq⟩ := nearest_from h ho h0
  have h8 : S.ks.length ≤ 8 := by have := ho.few; have := ho.k8; omega
  have HN : Hid (Calls Tryz.prog 135 #[hptr kp, .int .i64 place] w fun e w' => e = .returned (.agg (nearP S.p0 S.ks place).cells.toArray) ∧ Below w.heap.size w w') := nearest_any kp F E K ev S.p0 S.pn S.ks S.kv place w (h.read h8)
  have HO : Hid ((nearP S.p0 S.ks place).cells.toArray.all (·.oneCell') = true ∧ (∃ A n c, (nearP S.p0 S.ks place).rv = .slice A n c) ∧ (∃ A n c, (nearP S.p0 S.ks place).ov = .slice A n c)) := by
    obtain ⟨A, c, e⟩ := hq.ok.regs.shape
    obtain ⟨B, d, f⟩ := hq.ok.out.shape
    exact ⟨cells_one _ ⟨_, _, _, e⟩ ⟨_, _, _, f⟩, ⟨_, _, _, e⟩, ⟨_, _, _, f⟩⟩
  have HH : Hid (SkAt w lo hp kp F E K ev S ∧ SkOk M Wr cnt K S ∧ FromAt w lo hp M Wr cnt S place (nearP S.p0 S.ks place) sq rest ∧ S.ks.length ≤ 8) := ⟨h, ho, hq, h8⟩
  clear h ho hq h8
  revert HN HO HH
  generalize nearP S.p0 S.ks place = q
  intro HN HO HH
  have HSZ : Hid ((Tryz.prog.info? 153).map (·.size) = some 15) := by show _ = _; kernel_rfl
  go_enter Tryz.func98, Tryz.ntmps98
  go_wp2_with fail
  refine HN.out.mono ?_
  rintro e w1 ⟨rfl, hb1⟩
  have HB1 : Hid (Below w.heap.size w w1) := hb1
  have HSN : Hid ((w1.alloc (.cells zerP 153)).heap[w1.heap.size]? = some (.cells zerP 153 (0, 0)) ∧ (w1.alloc (.cells zerP 153)).setRow w1.heap.size q.cells.toArray = w1.alloc (.cells q.cells.toArray 153)) := ⟨Go.Deep.blk_alloc_new _ _, World.setRow_alloc_new _ _ _ _⟩
  obtain ⟨W1, hW1⟩ : ∃ W1, W1 = w1.alloc (.cells q.cells.toArray 153) := ⟨_, rfl⟩
  have HW1 : Hid (W1 = w1.alloc (.cells q.cells.toArray 153)) := hW1
  have hq1 : W1.heap[w1.heap.size]? = some (.cells q.cells.toArray 153 (0, 0)) := by rw [hW1]; exact Go.Deep.blk_alloc_new _ _
  have hb2 : Below w.heap.size w W1 := by rw [hW1]; exact hb1.trans ((below_alloc _ _).mono hb1.size)
  have hbx : W1.heap[kp]? = some (.cells (skL F E K ev S.p0 S.pn S.kv).toArray 156 (0, 0)) := by rw [hb2.block _ (lt_of_block HH.out.1.box)]; exact HH.out.1.box
  obtain ⟨k1, k2, k3, k19, k27, k32, k33, k34, kf, kl⟩ := sk_cells hbx
  have hqc : W1.cell? ⟨w1.heap.size, 0, none⟩ = some (.int .i64 q.place) := range_box hq1 0 _ rfl
  have HQ1 : Hid (W1.heap[w1.heap.size]? = some (.cells q.cells.toArray 153 (0, 0)) ∧ Below w.heap.size w W1 ∧ W1.heap[kp]? = some (.cells (skL F E K ev S.p0 S.pn S.kv).toArray 156 (0, 0))) := ⟨hq1, hb2, hbx⟩
  have hz1 : w1.heap.size < W1.heap.size := lt_of_block hq1
  have hzw := hb1.size
  clear hb1 hq1 hb2 hbx hW1 k1 k2 k3 k27 k33 k34 HN
  by_cases hst : q.place ≤ S.pn.place ∧ S.pn.place ≤ place
  · obtain ⟨t1, t2⟩ := hst
    have HF : Hid (∀ W, Below W1.heap.size W1 W → LeapPost w lo hp kp F E K ev M Wr cnt S place (.returned (.int .i64 0)) W) := fun W hW => ⟨rfl, S, SkTo.same HH.out.1 (HQ1.out.2.1.trans (hW.mono HQ1.out.2.1.size)), HH.out.2.1, t2⟩
    have g1 : decide (q.place ≤ S.pn.place) = true := by simpa using t1
    go_wp2_with (first
      | (refine wpList_store_row rfl 153 (.tmp 5) (.tmp 10) rfl w1.heap.size q.cells.toArray rfl rfl 153 _ HSN.out.1 HSZ.out rfl HO.out.1 ?_; rw [HSN.out.2, ← HW1.out]))
    go_quiet (fail)
    all_goals
      go_wp2_with fail
      go_ret
      exact HF.out _ (below_drewN _ _)
  · have HNO : Hid (¬ (q.place ≤ S.pn.place ∧ S.pn.place ≤ place)) := hst
    clear hst
    have HPF : Hid (∀ W, Below W1.heap.size W1 W → Calls Tryz.prog 134 #[.agg q.cells.toArray] W fun e w' => PForkPost W lo hp S.hv S.D S.R sq rest q e w') := fun W hW => by
      have b := HQ1.out.2.1.trans (hW.mono HQ1.out.2.1.size)
      refine pfork_any lo hp S.hv S.D S.R sq rest q W (HH.out.1.host.below b) (HH.out.2.2.1.at_.below b) (HH.out.1.sys.perm HH.out.2.2.1.perm) ?_ HO.out.2.1 HO.out.2.2
      have h1 := HH.out.2.2.1.perm.length_eq
      have := HH.out.2.2.2
      have := HH.out.1.lenk
      simp only [List.length_cons] at h1
      omega
    by_cases t1 : q.place ≤ S.pn.place
    · have t2 : ¬ S.pn.place ≤ place := fun e => HNO.out ⟨t1, e⟩
      have g1 : decide (q.place ≤ S.pn.place) = true := by simpa using t1
      go_wp2_with (first
        | (refine wpList_store_row rfl 153 (.tmp 5) (.tmp 10) rfl w1.heap.size q.cells.toArray rfl rfl 153 _ HSN.out.1 HSZ.out rfl HO.out.1 ?_; rw [HSN.out.2, ← HW1.out]))
      go_quiet (fail)
      all_goals
        obtain ⟨W2, hW2⟩ : ∃ W2, W2 = W1.drewN nq := ⟨_, rfl⟩
        have HB2 : Hid (Below W1.heap.size W1 W2) := by show Below _ _ _; rw [hW2]; exact below_drewN _ _
        rw [← hW2]
        have HR2 : Hid (W2.rangeAt w1.heap.size 0 q.cells) := range_box (by rw [HB2.out.block _ hz1]; exact HQ1.out.1)
        clear hW2 hqc k19 k32 kf kl g1 t1
        go_wp2_with (first
          | (refine wpList_load_mid rfl 153 (.tmp 5) rfl w1.heap.size 0 rfl q.cells _ HR2.out Tryz.underlying153 rfl HSZ.out ?_))
        refine (HPF.out _ HB2.out).mono ?_
        rintro e w2 ⟨fp, R1, rfl, hfp, hsp, hsys, hRl, hto⟩
        obtain ⟨q', hq'⟩ : ∃ q' : PtV, q' = { q with sp := fp } := ⟨_, rfl⟩
        rw [← hq']
        have HQ' : Hid (q' = { q with sp := fp }) := hq'
        have HO' : Hid (q'.cells.toArray.all (·.oneCell') = true) := by
          obtain ⟨_, h1, h2⟩ := HO.out
          rw [hq']
          exact cells_one _ h1 h2
        have hto' : HostTo w lo hp S.hv S.D R1 w2 := HostTo.trans (fun _ e => Or.inl e) (Chg.of_below (HQ1.out.2.1.trans (HB2.out.mono HQ1.out.2.1.size))) hto
        have HT : Hid (HostTo w lo hp S.hv S.D R1 w2 ∧ w.heap.size ≤ fp ∧ SpAt w2 hp fp sq ∧ Sys S.D R1 (sq :: sq :: rest) ∧ R1.length = S.R.length) := ⟨hto', Nat.le_trans (HQ1.out.2.1.trans (HB2.out.mono HQ1.out.2.1.size)).size hfp, hsp, hsys, hRl⟩
        clear hq' hfp hsp hsys hRl hto hto' HR2
        have HSN2 : Hid ((w2.alloc (.cells zerP 153)).heap[w2.heap.size]? = some (.cells zerP 153 (0, 0)) ∧ (w2.alloc (.cells zerP 153)).setRow w2.heap.size q'.cells.toArray = w2.alloc (.cells q'.cells.toArray 153)) := ⟨Go.Deep.blk_alloc_new _ _, World.setRow_alloc_new _ _ _ _⟩
        obtain ⟨W3, hW3⟩ : ∃ W3, W3 = w2.alloc (.cells q'.cells.toArray 153) := ⟨_, rfl⟩
        have HW3 : Hid (W3 = w2.alloc (.cells q'.cells.toArray 153)) := hW3
        have hb3 : Below w2.heap.size w2 W3 := by rw [hW3]; exact below_alloc _ _
        have hq3 : W3.heap[w2.heap.size]? = some (.cells q'.cells.toArray 153 (0, 0)) := by rw [hW3]; exact Go.Deep.blk_alloc_new _ _
        have HX : Hid (∃ v1 : HV, HostAt W3 lo hp v1 S.D R1 ∧ (∀ g, v1.foot g → S.hv.foot g ∨ w.heap.size ≤ g) ∧ Chg S.hv.foot w W3 ∧ SpAt W3 hp fp sq ∧ SpAt W3 hp S.pn.sp S.sn ∧ W3.heap[kp]? = some (.cells (skL F E K ev S.p0 S.pn S.kv).toArray 156 (0, 0)) ∧ W3.heap[w2.heap.size]? = some (.cells q'.cells.toArray 153 (0, 0)) ∧ w2.heap.size ≠ kp) := by
          obtain ⟨v1, a1, a2, a3⟩ := HT.out.1
          have c1 := HH.out.1.host.off HH.out.1.box (by decide) (by decide)
          refine ⟨v1, a1.below hb3, a2, a3.then_ hb3, HT.out.2.2.1.below hb3, (HH.out.1.spn.chg a3 (HH.out.1.spn.off HH.out.1.host).1).below hb3, ?_, hq3, ?_⟩
          · rw [hb3.block _ (Nat.lt_of_lt_of_le (lt_of_block HH.out.1.box) a3.size)]
            exact a3.box HH.out.1.box c1
          · have := lt_of_block HH.out.1.box
            have := a3.size
            omega
        clear hb3 hq3 hW3
        obtain ⟨v1, hv1⟩ := HX.out
        have HV : Hid (_ ∧ _ ∧ _ ∧ _ ∧ _ ∧ _ ∧ _ ∧ _) := hv1
        obtain ⟨-, -, -, -, -, hbx3, -, -⟩ := hv1
        obtain ⟨-, -, -, -, -, k32, -, -, kf, kl⟩ := sk_cells hbx3
        have HCL : Hid (Calls Tryz.prog 136 #[hptr S.pn.sp] W3 fun e w' => e = .returned (.tuple #[]) ∧ ClearPost W3 lo hp S.pn.sp v1 S.D R1 (S.s0 :: sq :: S.ss) w') := by
          have hp1 : (sq :: sq :: rest).Perm (S.sn :: S.s0 :: sq :: S.ss) := ((HH.out.2.2.1.perm2.cons sq).trans (List.Perm.swap _ _ _)).trans ((List.Perm.swap _ _ _).cons _)
          refine Clear_any lo hp S.pn.sp v1 S.D R1 S.sn (S.s0 :: sq :: S.ss) W3 HV.out.1 HV.out.2.2.2.2.1 (HT.out.2.2.2.1.perm hp1) ?_
          have := HH.out.2.2.2
          have := HH.out.1.lenk
          simp only [List.length_cons]
          omega
        clear hbx3 HX
        go_wp2_with (first
          | (refine wpList_store_row rfl 153 (.tmp 6) (.tmp 31) rfl w2.heap.size q'.cells.toArray rfl rfl 153 _ HSN2.out.1 HSZ.out rfl HO'.out ?_; rw [HSN2.out.2, ← HW3.out]))
        refine HCL.out.mono ?_
        rintro e w4 ⟨rfl, hcl⟩
        have hcc : Chg (fun g => v1.foot g ∨ g = S.pn.sp) W3 w4 := by
          obtain ⟨_, _, _, _, _, h⟩ := hcl
          exact SpTo.chg' h
        have hb4 : w4.heap[kp]? = some (.cells (skL F E K ev S.p0 S.pn S.kv).toArray 156 (0, 0)) := hcc.box HV.out.2.2.2.2.2.1 (by
          rintro (e | e)
          · exact (BoxT.off (t := 156) ⟨_, HV.out.2.2.2.2.2.1⟩ HV.out.1 (by decide) (by decide) (by decide)).1 e
          · exact BoxT.ne (t := 156) (u := 211) ⟨_, HV.out.2.2.2.2.2.1⟩ ⟨_, HV.out.2.2.2.2.1.box⟩ (by decide) e)
        have hq4 : w4.heap[w2.heap.size]? = some (.cells q'.cells.toArray 153 (0, 0)) := hcc.box HV.out.2.2.2.2.2.2.1 (by
          rintro (e | e)
          · exact (BoxT.off (t := 153) ⟨_, HV.out.2.2.2.2.2.2.1⟩ HV.out.1 (by decide) (by decide) (by decide)).1 e
          · exact BoxT.ne (t := 153) (u := 211) ⟨_, HV.out.2.2.2.2.2.2.1⟩ ⟨_, HV.out.2.2.2.2.1.box⟩ (by decide) e)
        have HR4 : Hid (w4.rangeAt w2.heap.size 0 q'.cells ∧ w4.there kp 19 15 ∧ w4.heap[kp]? = some (.cells (skL F E K ev S.p0 S.pn S.kv).toArray 156 (0, 0))) := ⟨range_box hq4, (sk_now hb4).2, hb4⟩
        have HCP : Hid (ClearPost W3 lo hp S.pn.sp v1 S.D R1 (S.s0 :: sq :: S.ss) w4) := hcl
        clear hcl hcc hb4 hq4 HCL k32 kf kl
        have h15 : q'.cells.toArray.size = 15 := rfl
        go_wp2_with (first
          | (refine wpList_load_mid rfl 153 (.tmp 6) rfl w2.heap.size 0 rfl q'.cells _ HR4.out.1 Tryz.underlying153 rfl HSZ.out ?_)
          | (refine wpList_store_mid rfl 153 (.tmp 45) (.tmp 43) rfl kp 19 q'.cells.toArray rfl rfl HR4.out.2.1 HSZ.out HO'.out ?_))
        go_ret
        refine leap_end HH.out.1 HH.out.2.1 hlow HH.out.2.2.1 HV.out.1 HV.out.2.1 HV.out.2.2.1 HT.out.2.1 HV.out.2.2.2.1 HT.out.2.2.2.2 HCP.out chg_setCells ?_
        rw [heap_setCells _ _ _ _ HR4.out.2.2 (by rw [skL_size]; simp [cells_len]), ← HQ'.out]
        rfl
    · have g1 : decide (q.place ≤ S.pn.place) = false := by simpa using t1
      go_wp2_with (first
        | (refine wpList_store_row rfl 153 (.tmp 5) (.tmp 10) rfl w1.heap.size q.cells.toArray rfl rfl 153 _ HSN.out.1 HSZ.out rfl HO.out.1 ?_; rw [HSN.out.2, ← HW1.out]))
      go_quiet (fail)
      all_goals
        obtain ⟨W2, hW2⟩ : ∃ W2, W2 = W1.drewN nq := ⟨_, rfl⟩
        have HB2 : Hid (Below W1.heap.size W1 W2) := by show Below _ _ _; rw [hW2]; exact below_drewN _ _
        rw [← hW2]
        have HR2 : Hid (W2.rangeAt w1.heap.size 0 q.cells) := range_box (by rw [HB2.out.block _ hz1]; exact HQ1.out.1)
        clear hW2 hqc k19 k32 kf kl g1 t1
        go_wp2_with (first
          | (refine wpList_load_mid rfl 153 (.tmp 5) rfl w1.heap.size 0 rfl q.cells _ HR2.out Tryz.underlying153 rfl HSZ.out ?_))
        refine (HPF.out _ HB2.out).mono ?_
        rintro e w2 ⟨fp, R1, rfl, hfp, hsp, hsys, hRl, hto⟩
        obtain ⟨q', hq'⟩ : ∃ q' : PtV, q' = { q with sp := fp } := ⟨_, rfl⟩
        rw [← hq']
        have HQ' : Hid (q' = { q with sp := fp }) := hq'
        have HO' : Hid (q'.cells.toArray.all (·.oneCell') = true) := by
          obtain ⟨_, h1, h2⟩ := HO.out
          rw [hq']
          exact cells_one _ h1 h2
        have hto' : HostTo w lo hp S.hv S.D R1 w2 := HostTo.trans (fun _ e => Or.inl e) (Chg.of_below (HQ1.out.2.1.trans (HB2.out.mono HQ1.out.2.1.size))) hto
        have HT : Hid (HostTo w lo hp S.hv S.D R1 w2 ∧ w.heap.size ≤ fp ∧ SpAt w2 hp fp sq ∧ Sys S.D R1 (sq :: sq :: rest) ∧ R1.length = S.R.length) := ⟨hto', Nat.le_trans (HQ1.out.2.1.trans (HB2.out.mono HQ1.out.2.1.size)).size hfp, hsp, hsys, hRl⟩
        clear hq' hfp hsp hsys hRl hto hto' HR2
        have HSN2 : Hid ((w2.alloc (.cells zerP 153)).heap[w2.heap.size]? = some (.cells zerP 153 (0, 0)) ∧ (w2.alloc (.cells zerP 153)).setRow w2.heap.size q'.cells.toArray = w2.alloc (.cells q'.cells.toArray 153)) := ⟨Go.Deep.blk_alloc_new _ _, World.setRow_alloc_new _ _ _ _⟩
        obtain ⟨W3, hW3⟩ : ∃ W3, W3 = w2.alloc (.cells q'.cells.toArray 153) := ⟨_, rfl⟩
        have HW3 : Hid (W3 = w2.alloc (.cells q'.cells.toArray 153)) := hW3
        have hb3 : Below w2.heap.size w2 W3 := by rw [hW3]; exact below_alloc _ _
        have hq3 : W3.heap[w2.heap.size]? = some (.cells q'.cells.toArray 153 (0, 0)) := by rw [hW3]; exact Go.Deep.blk_alloc_new _ _
        have HX : Hid (∃ v1 : HV, HostAt W3 lo hp v1 S.D R1 ∧ (∀ g, v1.foot g → S.hv.foot g ∨ w.heap.size ≤ g) ∧ Chg S.hv.foot w W3 ∧ SpAt W3 hp fp sq ∧ SpAt W3 hp S.pn.sp S.sn ∧ W3.heap[kp]? = some (.cells (skL F E K ev S.p0 S.pn S.kv).toArray 156 (0, 0)) ∧ W3.heap[w2.heap.size]? = some (.cells q'.cells.toArray 153 (0, 0)) ∧ w2.heap.size ≠ kp) := by
          obtain ⟨v1, a1, a2, a3⟩ := HT.out.1
          have c1 := HH.out.1.host.off HH.out.1.box (by decide) (by decide)
          refine ⟨v1, a1.below hb3, a2, a3.then_ hb3, HT.out.2.2.1.below hb3, (HH.out.1.spn.chg a3 (HH.out.1.spn.off HH.out.1.host).1).below hb3, ?_, hq3, ?_⟩
          · rw [hb3.block _ (Nat.lt_of_lt_of_le (lt_of_block HH.out.1.box) a3.size)]
            exact a3.box HH.out.1.box c1
          · have := lt_of_block HH.out.1.box
            have := a3.size
            omega
        clear hb3 hq3 hW3
        obtain ⟨v1, hv1⟩ := HX.out
        have HV : Hid (_ ∧ _ ∧ _ ∧ _ ∧ _ ∧ _ ∧ _ ∧ _) := hv1
        obtain ⟨-, -, -, -, -, hbx3, -, -⟩ := hv1
        obtain ⟨-, -, -, -, -, k32, -, -, kf, kl⟩ := sk_cells hbx3
        have HCL : Hid (Calls Tryz.prog 136 #[hptr S.pn.sp] W3 fun e w' => e = .returned (.tuple #[]) ∧ ClearPost W3 lo hp S.pn.sp v1 S.D R1 (S.s0 :: sq :: S.ss) w') := by
          have hp1 : (sq :: sq :: rest).Perm (S.sn :: S.s0 :: sq :: S.ss) := ((HH.out.2.2.1.perm2.cons sq).trans (List.Perm.swap _ _ _)).trans ((List.Perm.swap _ _ _).cons _)
          refine Clear_any lo hp S.pn.sp v1 S.D R1 S.sn (S.s0 :: sq :: S.ss) W3 HV.out.1 HV.out.2.2.2.2.1 (HT.out.2.2.2.1.perm hp1) ?_
          have := HH.out.2.2.2
          have := HH.out.1.lenk
          simp only [List.length_cons]
          omega
        clear hbx3 HX
        go_wp2_with (first
          | (refine wpList_store_row rfl 153 (.tmp 6) (.tmp 31) rfl w2.heap.size q'.cells.toArray rfl rfl 153 _ HSN2.out.1 HSZ.out rfl HO'.out ?_; rw [HSN2.out.2, ← HW3.out]))
        refine HCL.out.mono ?_
        rintro e w4 ⟨rfl, hcl⟩
        have hcc : Chg (fun g => v1.foot g ∨ g = S.pn.sp) W3 w4 := by
          obtain ⟨_, _, _, _, _, h⟩ := hcl
          exact SpTo.chg' h
        have hb4 : w4.heap[kp]? = some (.cells (skL F E K ev S.p0 S.pn S.kv).toArray 156 (0, 0)) := hcc.box HV.out.2.2.2.2.2.1 (by
          rintro (e | e)
          · exact (BoxT.off (t := 156) ⟨_, HV.out.2.2.2.2.2.1⟩ HV.out.1 (by decide) (by decide) (by decide)).1 e
          · exact BoxT.ne (t := 156) (u := 211) ⟨_, HV.out.2.2.2.2.2.1⟩ ⟨_, HV.out.2.2.2.2.1.box⟩ (by decide) e)
        have hq4 : w4.heap[w2.heap.size]? = some (.cells q'.cells.toArray 153 (0, 0)) := hcc.box HV.out.2.2.2.2.2.2.1 (by
          rintro (e | e)
          · exact (BoxT.off (t := 153) ⟨_, HV.out.2.2.2.2.2.2.1⟩ HV.out.1 (by decide) (by decide) (by decide)).1 e
          · exact BoxT.ne (t := 153) (u := 211) ⟨_, HV.out.2.2.2.2.2.2.1⟩ ⟨_, HV.out.2.2.2.2.1.box⟩ (by decide) e)
        have HR4 : Hid (w4.rangeAt w2.heap.size 0 q'.cells ∧ w4.there kp 19 15 ∧ w4.heap[kp]? = some (.cells (skL F E K ev S.p0 S.pn S.kv).toArray 156 (0, 0))) := ⟨range_box hq4, (sk_now hb4).2, hb4⟩
        have HCP : Hid (ClearPost W3 lo hp S.pn.sp v1 S.D R1 (S.s0 :: sq :: S.ss) w4) := hcl
        clear hcl hcc hb4 hq4 HCL k32 kf kl
        have h15 : q'.cells.toArray.size = 15 := rfl
        go_wp2_with (first
          | (refine wpList_load_mid rfl 153 (.tmp 6) rfl w2.heap.size 0 rfl q'.cells _ HR4.out.1 Tryz.underlying153 rfl HSZ.out ?_)
          | (refine wpList_store_mid rfl 153 (.tmp 45) (.tmp 43) rfl kp 19 q'.cells.toArray rfl rfl HR4.out.2.1 HSZ.out HO'.out ?_))
        go_ret
        refine leap_end HH.out.1 HH.out.2.1 hlow HH.out.2.2.1 HV.out.1 HV.out.2.1 HV.out.2.2.1 HT.out.2.1 HV.out.2.2.2.1 HT.out.2.2.2.2 HCP.out chg_setCells ?_
        rw [heap_setCells _ _ _ _ HR4.out.2.2 (by rw [skL_size]; simp [cells_len]), ← HQ'.out]
        rfl

end Go.Proofs.YtecpblabaelopaaGreatDoor
