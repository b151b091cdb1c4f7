/- A replay, plainly. -/
import Derived.Test.YtecpblabaelopaaGreatDoorMaySPart
import Derived.Test.YtecpblabaelopaaGreatDoorDoEPart
import Derived.Test.YtecpblabaelopaaGreatDoorSkDPart
namespace Go.Proofs.YtecpblabaelopaaGreatDoor
open Go.RowKit
set_option maxRecDepth 100000

def replayM (im : List Int) (L : List Ev) : Nat → Mach
  | 0 => newM im
  | n + 1 => ((replayM im L n).step (toldL n L).irq (toldL n L).blk (toldL n L).val).1
theorem replay_may {im : List Int} {L : List Ev} (hi : newNo im = 0) (hL : chkNo L = 0) : ∀ n, n ≤ 3000 → MayP (replayM im L n) ∧ (replayM im L n).count ≤ n
  | 0, _ => ⟨newM_may hi, Int.le_refl _⟩
  | n + 1, hn => by
    obtain ⟨h1, h2⟩ := replay_may hi hL n (by omega)
    have ht := toldL_may hL n
    refine ⟨h1.step _ ht.all ht.len ht.val (by omega), ?_⟩
    have := step_count (replayM im L n) (toldL n L).irq (toldL n L).blk (toldL n L).val
    show ((replayM im L n).step _ _ _).1.count ≤ ((n + 1 : Nat) : Int)
    omega

def noMach12 : Mach := ⟨[], 0, 0, false, false, 0, 0, 0, [], [], 0, 0⟩
def replayG (im bs : List Int) (cnt n : Int) : Mach × Int :=
  if (tapeG im bs cnt).1 ≠ 0 then (noMach12, (tapeG im bs cnt).1) else if inB n 0 cnt = false then (noMach12, 2) else (replayM im (tapeG im bs cnt).2 n.toNat, 0)
theorem tapeG_ok {im bs : List Int} {cnt : Int} (h : (tapeG im bs cnt).1 = 0) : newNo im = 0 ∧ inB cnt 0 3000 = true ∧ (decD bs).1 = 0 ∧ (tapeG im bs cnt).2 = (decD bs).2 := by
  unfold tapeG at h ⊢
  split at h
  · rename_i h1; exact absurd h h1
  · rename_i h1
    split at h
    · cases h
    · rename_i h2
      split at h
      · rename_i h3; exact absurd h h3
      · rename_i h3
        split at h
        · cases h
        · rename_i h4
          rw [if_neg h1, if_neg h2, if_neg h3, if_neg h4]
          exact ⟨by simpa using h1, by simpa using h2, by simpa using h3, rfl⟩

end Go.Proofs.YtecpblabaelopaaGreatDoor

/- Events whose memory lies below lo. -/

namespace Go.Proofs.YtecpblabaelopaaGreatDoor
open Go.RowKit
set_option maxRecDepth 100000

structure EvsOld (lo : Nat) (w : World) (v : Value) (L : List Ev) : Prop where
  shape : ∃ A c, v = .slice A L.length c
  bound : L.length * 40 ≤ 140737488351232
  each : ∀ A c, v = .slice A L.length c → 0 < L.length → ∃ b off, A = some ⟨b, off, none⟩ ∧ b < lo ∧ ∀ j, j < L.length → w.cell? ⟨b, off + j * 3, none⟩ = some (.int .i64 (L.getD j noEv).at_) ∧ w.cell? ⟨b, off + j * 3 + 1, none⟩ = some (.int .i64 (L.getD j noEv).kind) ∧ ∃ u, w.cell? ⟨b, off + j * 3 + 2, none⟩ = some u ∧ IntsOld lo w u (L.getD j noEv).data
theorem EvsOld.below {lo : Nat} {w w' : World} {v : Value} {L : List Ev} (h : EvsOld lo w v L) (hb : Below lo w w') : EvsOld lo w' v L := by
  refine ⟨h.shape, h.bound, fun A c e h0 => ?_⟩
  obtain ⟨b, off, rfl, hlt, hj⟩ := h.each A c e h0
  refine ⟨b, off, rfl, hlt, fun j hjl => ?_⟩
  obtain ⟨h1, h2, u, h3, h4⟩ := hj j hjl
  exact ⟨(hb.cell (p := ⟨b, off + j * 3, none⟩) hlt).trans h1, (hb.cell (p := ⟨b, off + j * 3 + 1, none⟩) hlt).trans h2, u, (hb.cell (p := ⟨b, off + j * 3 + 2, none⟩) hlt).trans h3, h4.below hb⟩
theorem IntsAt.oldT {w : World} {v : Value} {l : List Int} (h : IntsAt w v l) : IntsOld w.heap.size w v l := by
  obtain ⟨A, c, rfl, hl, hc⟩ := h
  refine ⟨A, c, rfl, hl, fun h0 => ?_⟩
  obtain ⟨b, off, rfl, hb, hj⟩ := hc h0
  exact ⟨b, off, rfl, hb, hj⟩
theorem EvsAt.old {w : World} {v : Value} {L : List Ev} (h : EvsAt w v L) : EvsOld w.heap.size w v L := by
  obtain ⟨A, c, rfl, hl, hc⟩ := h
  refine ⟨⟨A, c, rfl⟩, hl, fun A' c' e h0 => ?_⟩
  simp only [Value.slice.injEq, true_and] at e
  obtain ⟨rfl, rfl⟩ := e
  obtain ⟨b, off, rfl, hb, hj⟩ := hc h0
  refine ⟨b, off, rfl, hb, fun j hjl => ?_⟩
  obtain ⟨h1, h2, u, h3, h4⟩ := hj j hjl
  exact ⟨h1, h2, u, h3, h4.oldT⟩

end Go.Proofs.YtecpblabaelopaaGreatDoor

/- Contract of run.Replay. -/

namespace Go.Proofs.YtecpblabaelopaaGreatDoor
open Go.RowKit
set_option maxRecDepth 100000

theorem EvsOld.at {lo : Nat} {w : World} {v : Value} {L : List Ev} (h : EvsOld lo w v L) (hlo : lo ≤ w.heap.size) : EvsAt w v L := by
  obtain ⟨A, c, rfl⟩ := h.shape
  refine ⟨A, c, rfl, h.bound, fun h0 => ?_⟩
  obtain ⟨b, off, rfl, hb, hj⟩ := h.each A c rfl h0
  refine ⟨b, off, rfl, Nat.lt_of_lt_of_le hb hlo, fun j hjl => ?_⟩
  obtain ⟨h1, h2, u, h3, Au, cu, rfl, hl, hc⟩ := hj j hjl
  refine ⟨h1, h2, _, h3, Au, cu, rfl, hl, fun h0 => ?_⟩
  obtain ⟨b', off', rfl, hb', hj'⟩ := hc h0
  exact ⟨b', off', rfl, Nat.lt_of_lt_of_le hb' hlo, hj'⟩
theorem EvsOld.mono {lo lo' : Nat} {w : World} {v : Value} {L : List Ev} (h : EvsOld lo w v L) (hl : lo ≤ lo') : EvsOld lo' w v L := by
  refine ⟨h.shape, h.bound, fun A c e h0 => ?_⟩
  obtain ⟨b, off, rfl, hb, hj⟩ := h.each A c e h0
  refine ⟨b, off, rfl, by omega, fun j hjl => ?_⟩
  obtain ⟨h1, h2, u, h3, Au, cu, rfl, hl2, hc⟩ := hj j hjl
  refine ⟨h1, h2, _, h3, Au, cu, rfl, hl2, fun h0 => ?_⟩
  obtain ⟨b', off', rfl, hb', hj'⟩ := hc h0
  exact ⟨b', off', rfl, by omega, hj'⟩
theorem DecQ.fits {w w' : World} {u : Value} {L : List Ev} (h : DecQ w w' u (0, L)) : ∃ A c, u = .slice A L.length c ∧ L.length ≤ c := by
  obtain ⟨R, hR, ho, hR1, hR2⟩ := h.ok rfl
  have hl : R.length = L.length := by
    have := congrArg List.length hR
    simpa using this
  rcases ho.row.2 with ⟨rfl, h0⟩ | ⟨g, cap, cur, rfl, _, hh, h1, _⟩
  · exact ⟨none, 0, by rw [← hl, h0], by omega⟩
  · exact ⟨_, cap, by rw [hl], by omega⟩
theorem stepNo_zero {m : Mach} (hm : MayP m) {t : Tl} (ht : TlMay t) (hc : m.count < 1099511627776) : stepNo m t.blk t.val = 0 := by
  have h1 : (m.count == 1099511627776) = false := by simp; omega
  unfold stepNo
  rw [mayP_iff.2 hm, ht.all, ht.val, h1]
  rcases ht.len with e | e <;> simp [e]

end Go.Proofs.YtecpblabaelopaaGreatDoor

/- A step of the seeker: plain laws. -/

namespace Go.Proofs.YtecpblabaelopaaGreatDoor
open Go.RowKit
set_option maxRecDepth 100000

def replayW (im : List Int) (L : List Ev) : Nat → Int
  | 0 => -1
  | n + 1 => ((replayM im L n).step (toldL n L).irq (toldL n L).blk (toldL n L).val).2
def EvsLow (w : World) (lo : Nat) (v : Value) (L : List Ev) : Prop := ∀ W, Below lo w W → EvsAt W v L
theorem EvsLow.at {w : World} {lo : Nat} {v : Value} {L : List Ev} (h : EvsLow w lo v L) : EvsAt w v L := h w (Below.refl _ _)
theorem EvsLow.below {w w' : World} {lo : Nat} {v : Value} {L : List Ev} (h : EvsLow w lo v L) (hb : Below lo w w') : EvsLow w' lo v L := fun W hW => h W (hb.trans hW)
theorem SkAt.foot_lo {w : World} {lo hp kp : Nat} {F E K : Int} {ev : Value} {S : SkS} (h : SkAt w lo hp kp F E K ev S) {g : Nat} (hg : S.foot kp g) : lo ≤ g := by
  rcases hg with e | e | e | ⟨p, hp, e⟩ | e
  · exact (h.host.foot_lt e).1
  · rw [e]; exact h.low.1
  · rw [e]; exact h.low.2.2.1
  · rw [e]; exact h.low.2.2.2 p hp
  · exact (World.ownsRow.lt h.kept g e).1
theorem SkAt.foot_lt {w : World} {lo hp kp : Nat} {F E K : Int} {ev : Value} {S : SkS} (h : SkAt w lo hp kp F E K ev S) {g : Nat} (hg : S.foot kp g) : g < w.heap.size := by
  rcases hg with e | e | e | ⟨p, hp, e⟩ | e
  · exact (h.host.foot_lt e).2
  · rw [e]; exact lt_of_block h.box
  · rw [e]; exact lt_of_block h.spn.box
  · obtain ⟨i, hi, rfl⟩ := mem_getD hp
    rw [e]; exact lt_of_block (h.sps i hi).box
  · exact (World.ownsRow.lt h.kept g e).2
theorem SkTo.low {w w' : World} {lo hp kp : Nat} {F E K : Int} {ev : Value} {S S' : SkS} (h : SkAt w lo hp kp F E K ev S) (k : SkTo w lo hp kp F E K ev S w' S') (hlow : lo ≤ w.heap.size) : Below lo w w' :=
  ⟨k.chg.os, k.chg.tape, k.chg.output, k.chg.size, fun g hg => k.chg.kept g (by omega) (fun e => by have := h.foot_lo e; omega)⟩

def StepPost (w : World) (lo hp kp : Nat) (F E K : Int) (ev : Value) (M : Nat → Mach) (Wr : Nat → Int) (cnt : Nat) (S : SkS) (e : Ending) (w' : World) : Prop :=
  ∃ S', SkTo w lo hp kp F E K ev S w' S' ∧ ((e = .returned (.int .i64 0) ∧ SkOk M Wr cnt K S' ∧ S'.pn.place = S.pn.place + 1) ∨ (e = .returned (.int .i64 7) ∧ (S.R.length : Int) < 16 * (K + 2)))

theorem step_end {w W w6 w7 : World} {lo hp kp : Nat} {F E K : Int} {ev : Value} {M : Nat → Mach} {Wr : Nat → Int} {cnt : Nat} {S : SkS} (h : SkAt w lo hp kp F E K ev S) (ho : SkOk M Wr cnt K S) (hlow : lo ≤ w.heap.size) (hW : Below w.heap.size w W) {n : Nat} (hn : S.pn.place = (n : Int)) (hn1 : n < cnt) {m : Mach} {rv ov : Value} {k : Int} (hm : m = M (n + 1)) (hk : k = Wr (n + 1)) (hr : OwnI W w.heap.size rv m.regs) (hov : OwnI W w.heap.size ov m.out)
    {v' : HV} {D' : List (List Int)} {R' s' : List Int} (hh : HostAt w6 lo hp v' D' R') (hs : SpAt w6 hp S.pn.sp s') (hsys : Sys D' R' (s' :: S.s0 :: S.ss)) (hwo : ∀ t ∈ S.s0 :: S.ss, wordsOf D' t = wordsOf S.D t) (hRl : R'.length = S.R.length) (hf : ∀ g, v'.foot g → S.hv.foot g ∨ W.heap.size ≤ g) (hc : Chg (fun g => (S.hv.foot g ∨ g = S.pn.sp) ∨ g = kp) W w6) (hmem : wordsOf D' s' = m.mem)
    (hb : w6.heap[kp]? = some (.cells (putAt (skL F E K ev S.p0 S.pn S.kv).toArray 20 (guestCells m rv ov)) 156 (0, 0))) (hw7 : w7 = (w6.setCell ⟨kp, 19, none⟩ (.int .i64 (S.pn.place + 1))).setCell ⟨kp, 33, none⟩ (.int .i64 k)) :
    ∃ S', SkTo w lo hp kp F E K ev S w7 S' ∧ SkOk M Wr cnt K S' ∧ S'.pn.place = S.pn.place + 1 ∧ S'.pn.m = m ∧ S'.R.length = S.R.length := by
  obtain ⟨b1, b2, b3, b4⟩ := h.boxes
  have hkl := lt_of_block h.box
  have hsl := lt_of_block h.spn.box
  have k7 : w7.heap[kp]? = some (.cells (skL F E K ev S.p0 ⟨S.pn.place + 1, rv, ov, m, S.pn.sp, k⟩ S.kv).toArray 156 (0, 0)) := by
    have e1 : w7.heap[kp]? = some (.cells (((putAt (skL F E K ev S.p0 S.pn S.kv).toArray 20 (guestCells m rv ov)).setIfInBounds 19 (.int .i64 (S.pn.place + 1))).setIfInBounds 33 (.int .i64 k)) 156 (0, 0)) := by
      rw [hw7]
      simp [World.setCell, Array.getElem?_modify, hb]
    rw [e1]
    rfl
  have hc7 : Chg (fun b => b = kp) w6 w7 := by
    rw [hw7]
    exact Chg.set (F := fun b => b = kp) (Chg.set (F := fun b => b = kp) (Chg.refl _ _) (a := ⟨kp, 19, none⟩) (Or.inl rfl) _) (a := ⟨kp, 33, none⟩) (Or.inl rfl) _
  have hcW : Chg (fun g => S.hv.foot g ∨ g = S.pn.sp ∨ g = kp) w w7 := by
    have a0 : Chg (fun g => S.hv.foot g ∨ g = S.pn.sp ∨ g = kp) w W := Chg.of_below hW
    have a1 := a0.trans hc (fun g e => Or.inl (by
      rcases e with (e | e) | e
      · exact Or.inl e
      · exact Or.inr (Or.inl e)
      · exact Or.inr (Or.inr e)))
    exact a1.trans hc7 (fun g e => Or.inl (Or.inr (Or.inr e)))
  have hk6 : w6.heap.size ≤ w7.heap.size := hc7.size
  have hh7 : HostAt w7 lo hp v' D' R' := hh.chg hc7 (fun g e => by rw [e]; exact BoxT.off ⟨_, hb⟩ hh (by decide) (by decide) (by decide))
  have hspk : S.pn.sp ≠ kp := fun e => BoxT.ne b3 b1 (by decide) e
  have hs7 : SpAt w7 hp S.pn.sp s' := hs.chg hc7 hspk
  have hf' : ∀ g, v'.foot g → S.hv.foot g ∨ w.heap.size ≤ g := fun g e => by
    rcases hf g e with e | e
    · exact Or.inl e
    · exact Or.inr (Nat.le_trans hW.size e)
  have hown : ∀ {u : Value} {l : List Int}, OwnI W w.heap.size u l → OwnI w7 lo u l ∧ Off v'.foot u := fun hu => by
    refine ⟨ownsRow_mono ((hc7.own (hc.own hu fun g hg e => ?_) fun g hg e => ?_)) hlow, fun g hg e => ?_⟩
    · have := (hu.lt g hg).1
      rcases e with (e | e) | e
      · have := (h.host.foot_lt e).2; omega
      · omega
      · omega
    · have := (hu.lt g hg).1
      omega
    · have h1 := hu.lt g hg
      rcases hf g e with e | e
      · have := (h.host.foot_lt e).2; omega
      · omega
  have hg : PtOk w7 lo v'.foot ⟨S.pn.place + 1, rv, ov, m, S.pn.sp, k⟩ := ⟨(hown hr).1, (hown hov).1, (hown hr).2, (hown hov).2⟩
  have hto := h.jump (pn' := ⟨S.pn.place + 1, rv, ov, m, S.pn.sp, k⟩) hcW hh7 hf' k7 hs7 (Or.inl rfl) (hsys.perm (List.Perm.swap _ _ _)) hg hlow hRl
  refine ⟨_, hto, ⟨ho.z, ho.i0.same (hwo _ (by simp)), ⟨n + 1, by simp [hn], by omega, hm, by rw [hmem, hm], hk⟩, fun i hi => ?_, ho.few, ho.k8⟩, rfl, rfl, hRl⟩
  have hlk := h.lenk
  have his : i < S.ss.length := by rw [hlk]; exact hi
  have hm2 : S.ss.getD i [] ∈ S.ss := by
    have e : S.ss.getD i [] = S.ss[i] := by simp [List.getD, his]
    rw [e]; exact List.getElem_mem his
  exact (ho.ik i hi).same (hwo _ (List.mem_cons_of_mem _ hm2))

theorem step_fail {w W w6 : World} {lo hp kp : Nat} {F E K : Int} {ev : Value} {M : Nat → Mach} {Wr : Nat → Int} {cnt : Nat} {S : SkS} (h : SkAt w lo hp kp F E K ev S) (ho : SkOk M Wr cnt K S) (hlow : lo ≤ w.heap.size) (hW : Below w.heap.size w W)
    {v' : HV} {D' : List (List Int)} {R' s' : List Int} (hh : HostAt w6 lo hp v' D' R') (hs : SpAt w6 hp S.pn.sp s') (hsys : Sys D' R' (s' :: S.s0 :: S.ss)) (hRl : R'.length = S.R.length) (hf : ∀ g, v'.foot g → S.hv.foot g ∨ W.heap.size ≤ g) (hc : Chg (fun g => (S.hv.foot g ∨ g = S.pn.sp) ∨ g = kp) W w6)
    (hb : w6.heap[kp]? = some (.cells (skL F E K ev S.p0 S.pn S.kv).toArray 156 (0, 0))) (hfew : S.R.length < 16 * ((S.s0 :: S.ss).length + 1)) : StepPost w lo hp kp F E K ev M Wr cnt S (.returned (.int .i64 7)) w6 := by
  obtain ⟨b1, b2, b3, b4⟩ := h.boxes
  have hcW : Chg (fun g => S.hv.foot g ∨ g = S.pn.sp ∨ g = kp) w w6 := by
    have a0 : Chg (fun g => S.hv.foot g ∨ g = S.pn.sp ∨ g = kp) w W := Chg.of_below hW
    exact a0.trans hc (fun g e => Or.inl (by
      rcases e with (e | e) | e
      · exact Or.inl e
      · exact Or.inr (Or.inl e)
      · exact Or.inr (Or.inr e)))
  have hf' : ∀ g, v'.foot g → S.hv.foot g ∨ w.heap.size ≤ g := fun g e => by
    rcases hf g e with e | e
    · exact Or.inl e
    · exact Or.inr (Nat.le_trans hW.size e)
  have hg : PtOk w6 lo v'.foot S.pn := h.gn.chg hcW (fun g e => by
    rcases e with e | e | e
    · exact Or.inl e
    · exact Or.inr ⟨_, by rw [e]; exact b3, by decide⟩
    · exact Or.inr ⟨_, by rw [e]; exact b1, by decide⟩) hf'
  have hlk := h.lenk
  have := ho.few
  refine ⟨_, h.jump (pn' := S.pn) hcW hh hf' hb hs (Or.inl rfl) (hsys.perm (List.Perm.swap _ _ _)) hg hlow hRl, Or.inr ⟨rfl, ?_⟩⟩
  simp only [List.length_cons] at hfew
  omega

end Go.Proofs.YtecpblabaelopaaGreatDoor

/- Contract of seeker.step. -/

namespace Go.Proofs.YtecpblabaelopaaGreatDoor
open Go.RowKit
set_option maxRecDepth 100000

theorem blank_step_one (rv mv ov : Value) (m : Mach) (h1 : ∃ A n c, rv = .slice A n c) (h2 : ∃ A n c, mv = .slice A n c) (h3 : ∃ A n c, ov = .slice A n c) : (m.cells rv mv ov).all (·.oneCell') = true := by
  obtain ⟨A, n, c, rfl⟩ := h1
  obtain ⟨A2, n2, c2, rfl⟩ := h2
  obtain ⟨A3, n3, c3, rfl⟩ := h3
  simp [Mach.cells, Value.oneCell']

theorem BecomePost.z {w w' : World} {lo hp sp b o : Nat} {cur : Array Value} {tb : TypeId} {v : HV} {D : List (List Int)} {R : List Int} {Ss : List (List Int)} {m : Mach} {rv ov : Value} {e : Ending} (h : BecomePost w lo hp sp b o cur tb v D R Ss m rv ov e w') : ∃ z, e = .returned (.int .i64 z) ∧ BecomePost w lo hp sp b o cur tb v D R Ss m rv ov (.returned (.int .i64 z)) w' := by
  obtain ⟨_, _, _, _, _, _, _, _, _, _, _, ⟨e0, _⟩ | ⟨e0, _⟩⟩ := id h
  · exact ⟨_, e0, by rw [← e0]; exact h⟩
  · exact ⟨_, e0, by rw [← e0]; exact h⟩

set_option maxHeartbeats 4000000 in
theorem seekStep_any (lo hp kp : Nat) (F E K : Int) (ev : Value) (im : List Int) (L : List Ev) (cnt : Nat) (S : SkS) (w : World) (h : SkAt w lo hp kp F E K ev S) (ho : SkOk (replayM im L) (replayW im L) cnt K S) (hlow : lo ≤ w.heap.size) (hev : EvsLow w lo ev L) (hcap : ∃ A c, ev = .slice A L.length c ∧ L.length ≤ c) (hno : newNo im = 0) (hck : chkNo L = 0) (hcnt : cnt ≤ 3000) (hE : 1 ≤ E ∧ E ≤ 1000000) (n : Nat) (hn : S.pn.place = (n : Int)) (hlt : n < cnt) :
    Calls Tryz.prog 99 #[hptr kp] w fun e w' => StepPost w lo hp kp F E K ev (replayM im L) (replayW im L) cnt S e w' := by
  obtain ⟨A, c, rfl, hlc⟩ := hcap
  obtain ⟨T, hT⟩ : ∃ T, T = toldL (n : Int) L := ⟨_, rfl⟩
  have hTM : TlMay T := by rw [hT]; exact toldL_may hck _
  have hpm : S.pn.m = replayM im L n ∧ wordsOf S.D S.sn = (replayM im L n).mem := by
    obtain ⟨n', a, b, c, d, e⟩ := ho.inow
    have : n' = n := by omega
    subst this
    exact ⟨c, d⟩
  have hmay : MayP S.pn.m ∧ S.pn.m.count < 1099511627776 := by
    have := replay_may hno hck n (by omega)
    rw [hpm.1]
    exact ⟨this.1, by have := this.2; omega⟩
  obtain ⟨m2, hm2⟩ : ∃ m2, m2 = (S.pn.m.step T.irq T.blk T.val).1 := ⟨_, rfl⟩
  obtain ⟨kw, hkw⟩ : ∃ kw, kw = (S.pn.m.step T.irq T.blk T.val).2 := ⟨_, rfl⟩
  have hM2 : m2 = replayM im L (n + 1) ∧ kw = replayW im L (n + 1) := by
    rw [hm2, hkw, hpm.1, hT]
    exact ⟨rfl, rfl⟩
  have hmay2 : MayP m2 := by rw [hM2.1]; exact (replay_may hno hck (n + 1) (by omega)).1
  have HTD : Hid (∀ W, Below w.heap.size w W → Calls Tryz.prog 47 #[.slice A L.length c, .int .i64 (n : Int)] W fun e w' => ToldQ W T e w') := fun W hW => by
    rw [hT]
    exact told_any A c L n W (hev.at.below hW) hck hlc
  have HWH : Hid (∀ W, Below w.heap.size w W → Calls Tryz.prog 100 #[.agg S.pn.cells.toArray] W fun e w' => ∃ u, e = .returned (.agg (S.pn.m.cells S.pn.rv u S.pn.ov)) ∧ OwnI w' W.heap.size u S.pn.m.mem ∧ Below W.heap.size W w') := fun W hW => by
    obtain ⟨A1, a1, e1⟩ := h.gn.regs.shape
    obtain ⟨A2, a2, e2⟩ := h.gn.out.shape
    have := whole_any lo hp S.hv S.D S.R S.sn (S.s0 :: S.sn :: S.ss) S.pn W (h.host.below hW) (h.spn.below hW) h.sys (by simp) ⟨_, _, _, e1⟩ ⟨_, _, _, e2⟩
    rw [hpm.2, ← hpm.1] at this
    exact this
  have HST : Hid (∀ W u B cb, Below w.heap.size w W → OwnI W w.heap.size u S.pn.m.mem → IntsAt W (.slice B T.blk.length cb) T.blk → Calls Tryz.prog 48 #[.agg (S.pn.m.cells S.pn.rv u S.pn.ov), .bool T.irq, .slice B T.blk.length cb, .int .i64 T.val] W fun e w' => ∃ rv' mv' ov', e = .returned (.tuple #[.agg (m2.cells rv' mv' ov'), .int .i64 kw, .int .i64 0]) ∧ OwnM w' W.heap.size rv' mv' ov' m2 ∧ Below W.heap.size W w') := fun W u B cb hW hu hb => by
    have hf := hmay.1.fits
    rw [hm2, hkw]
    exact Step_ok S.pn.m S.pn.rv u S.pn.ov T.irq B cb T.blk T.val W ⟨(h.gn.regs.at hf.regs).below hW, hu.at hf.mem, (h.gn.out.at hf.out).below hW⟩ hb hmay.1 hTM.all hTM.len hmay.2 (stepNo_zero hmay.1 hTM hmay.2)
  have h8 : S.ks.length ≤ 8 := by have := ho.few; have := ho.k8; omega
  have HH : Hid (SkAt w lo hp kp F E K (.slice A L.length c) S ∧ SkOk (replayM im L) (replayW im L) cnt K S ∧ S.ks.length ≤ 8 ∧ lo ≤ w.heap.size ∧ S.pn.place = (n : Int) ∧ n < cnt ∧ cnt ≤ 3000) := ⟨h, ho, h8, hlow, hn, hlt, hcnt⟩
  have HM2 : Hid (m2 = replayM im L (n + 1) ∧ kw = replayW im L (n + 1) ∧ MayP m2) := ⟨hM2.1, hM2.2, hmay2⟩
  have HSZ : Hid ((Tryz.prog.info? 153).map (·.size) = some 15) := by show _ = _; kernel_rfl
  have HSM : Hid ((Tryz.prog.info? 37).map (·.size) = some 12) := by show _ = _; kernel_rfl
  have HCK : Hid (∀ W, Below w.heap.size w W → W.heap[kp]? = some (.cells (skL F E K (.slice A L.length c) S.p0 S.pn S.kv).toArray 156 (0, 0))) := fun W hW => by rw [hW.block _ (lt_of_block h.box)]; exact h.box
  obtain ⟨k1, k2, k3, k19, k27, k32, k33, k34, kf, kl⟩ := sk_cells h.box
  rw [hn] at k19
  have HQ1 : Hid (∀ W, Below w.heap.size w W → W.cell? ⟨kp, 3, none⟩ = some (.slice A L.length c) ∧ W.cell? ⟨kp, 19, none⟩ = some (.int .i64 (n : Int))) := fun W hW => ⟨(hW.cell (p := ⟨kp, 3, none⟩) kl).trans k3, (hW.cell (p := ⟨kp, 19, none⟩) kl).trans k19⟩
  have HTM : Hid (TlMay T) := hTM
  obtain ⟨irq, blk, val⟩ := T
  simp only at HTD HST
  clear h ho hlow hev hno hck hm2 hkw hM2 hmay hmay2 hT hTM hpm k1 k2 k27 k32 k33 k34 hn
  go_enter Tryz.func99, Tryz.ntmps99
  go_wp2_with fail
  go_region_held3 (fun w' => w'.cell? ⟨kp, 3, none⟩ = some (.slice A L.length c) ∧ w'.cell? ⟨kp, 19, none⟩ = some (.int .i64 (n : Int))) (go_keep)
    (first
      | (go_at_call 47; refine (HTD.out _ ((Below.refl _ w).drew)).mono ?_; rintro e w1 ⟨B, cb, rfl, hi1, hb1⟩; have HB1 : Hid (IntsAt w1 (.slice B blk.length cb) blk ∧ Below w.heap.size w w1) := ⟨hi1, ((Below.refl _ w).drew).trans hb1⟩; obtain ⟨q1, q2⟩ := HQ1.out w1 HB1.out.2; clear hi1 hb1))
  all_goals
    have hbx1 := HCK.out w1 HB1.out.2
    have HRN : Hid (w1.rangeAt kp 19 S.pn.cells) := (sk_now hbx1).1
    clear hbx1 q1 q2 k3 k19
    go_wp2_with (first
      | (refine wpList_load_mid rfl 153 (.tmp 27) rfl kp 19 rfl S.pn.cells _ HRN.out Tryz.underlying153 rfl HSZ.out ?_))
    refine (HWH.out _ HB1.out.2).mono ?_
    rintro e w2 ⟨u, rfl, hu2, hb2⟩
    have HB2 : Hid (Below w.heap.size w w2 ∧ OwnI w2 w.heap.size u S.pn.m.mem ∧ IntsAt w2 (.slice B blk.length cb) blk) := ⟨HB1.out.2.trans (hb2.mono HB1.out.2.size), ownsRow_mono hu2 HB1.out.2.size, HB1.out.1.below hb2⟩
    clear hu2 hb2
    go_wp2_with fail
    refine (HST.out _ u B cb HB2.out.1 HB2.out.2.1 HB2.out.2.2).mono ?_
    rintro e w3 ⟨rv', mv', ov', rfl, ho3, hb3⟩
    obtain ⟨D1, f1, D2, f2, D3, f3, rfl, rfl, rfl⟩ := ho3.shape
    have HO : Hid ((#[.slice D1 m2.regs.length f1, .int .i64 m2.pc, .int .i64 m2.back, .bool m2.ints, .bool m2.wait, .int .i64 m2.table, .int .i64 m2.count, .int .i64 m2.fin, .slice D2 m2.mem.length f2, .slice D3 m2.out.length f3, .int .i64 m2.ready, .int .i64 m2.want] : Array Value).all (·.oneCell') = true) := blank_step_one _ _ _ m2 ⟨_, _, _, rfl⟩ ⟨_, _, _, rfl⟩ ⟨_, _, _, rfl⟩
    have HSN : Hid ((w3.alloc (.cells zerM 37)).heap[w3.heap.size]? = some (.cells zerM 37 (0, 0)) ∧ (w3.alloc (.cells zerM 37)).setRow w3.heap.size #[.slice D1 m2.regs.length f1, .int .i64 m2.pc, .int .i64 m2.back, .bool m2.ints, .bool m2.wait, .int .i64 m2.table, .int .i64 m2.count, .int .i64 m2.fin, .slice D2 m2.mem.length f2, .slice D3 m2.out.length f3, .int .i64 m2.ready, .int .i64 m2.want] = w3.alloc (.cells #[.slice D1 m2.regs.length f1, .int .i64 m2.pc, .int .i64 m2.back, .bool m2.ints, .bool m2.wait, .int .i64 m2.table, .int .i64 m2.count, .int .i64 m2.fin, .slice D2 m2.mem.length f2, .slice D3 m2.out.length f3, .int .i64 m2.ready, .int .i64 m2.want] 37)) := ⟨Go.Deep.blk_alloc_new _ _, World.setRow_alloc_new _ _ _ _⟩
    obtain ⟨W4, hW4⟩ : ∃ W4, W4 = w3.alloc (.cells #[.slice D1 m2.regs.length f1, .int .i64 m2.pc, .int .i64 m2.back, .bool m2.ints, .bool m2.wait, .int .i64 m2.table, .int .i64 m2.count, .int .i64 m2.fin, .slice D2 m2.mem.length f2, .slice D3 m2.out.length f3, .int .i64 m2.ready, .int .i64 m2.want] 37) := ⟨_, rfl⟩
    have HW4 : Hid (W4 = w3.alloc (.cells #[.slice D1 m2.regs.length f1, .int .i64 m2.pc, .int .i64 m2.back, .bool m2.ints, .bool m2.wait, .int .i64 m2.table, .int .i64 m2.count, .int .i64 m2.fin, .slice D2 m2.mem.length f2, .slice D3 m2.out.length f3, .int .i64 m2.ready, .int .i64 m2.want] 37)) := hW4
    have hb4 : Below w3.heap.size w3 W4 := by rw [hW4]; exact below_alloc _ _
    have hm4 : W4.heap[w3.heap.size]? = some (.cells #[.slice D1 m2.regs.length f1, .int .i64 m2.pc, .int .i64 m2.back, .bool m2.ints, .bool m2.wait, .int .i64 m2.table, .int .i64 m2.count, .int .i64 m2.fin, .slice D2 m2.mem.length f2, .slice D3 m2.out.length f3, .int .i64 m2.ready, .int .i64 m2.want] 37 (0, 0)) := by rw [hW4]; exact Go.Deep.blk_alloc_new _ _
    have hB4 : Below w.heap.size w W4 := HB2.out.1.trans ((hb3.trans (hb4.mono hb3.size)).mono HB2.out.1.size)
    have hO4 : OwnM W4 w.heap.size (.slice D1 m2.regs.length f1) (.slice D2 m2.mem.length f2) (.slice D3 m2.out.length f3) m2 := (ho3.below hb4).mono HB2.out.1.size
    have H4 : Hid (Below w.heap.size w W4 ∧ OwnM W4 w.heap.size (.slice D1 m2.regs.length f1) (.slice D2 m2.mem.length f2) (.slice D3 m2.out.length f3) m2 ∧ W4.heap[w3.heap.size]? = some (.cells #[.slice D1 m2.regs.length f1, .int .i64 m2.pc, .int .i64 m2.back, .bool m2.ints, .bool m2.wait, .int .i64 m2.table, .int .i64 m2.count, .int .i64 m2.fin, .slice D2 m2.mem.length f2, .slice D3 m2.out.length f3, .int .i64 m2.ready, .int .i64 m2.want] 37 (0, 0)) ∧ w.heap.size ≤ w3.heap.size) := ⟨hB4, hO4, hm4, (HB2.out.1.trans (hb3.mono HB2.out.1.size)).size⟩
    clear hW4 hb4 hm4 hB4 hO4 ho3 hb3 HRN
    simp only [Mach.cells]
    go_upto_region 5 with (first
      | (refine wpList_store_row rfl 37 (.tmp 6) (.tmp 34) rfl w3.heap.size #[.slice D1 m2.regs.length f1, .int .i64 m2.pc, .int .i64 m2.back, .bool m2.ints, .bool m2.wait, .int .i64 m2.table, .int .i64 m2.count, .int .i64 m2.fin, .slice D2 m2.mem.length f2, .slice D3 m2.out.length f3, .int .i64 m2.ready, .int .i64 m2.want] rfl rfl 37 _ HSN.out.1 HSM.out rfl HO.out ?_; rw [HSN.out.2, ← HW4.out]))
    have HBC : Hid (∀ W, Below W4.heap.size W4 W → Calls Tryz.prog 137 #[.pointer (some ⟨kp, 19, none⟩), .agg #[.slice D1 m2.regs.length f1, .int .i64 m2.pc, .int .i64 m2.back, .bool m2.ints, .bool m2.wait, .int .i64 m2.table, .int .i64 m2.count, .int .i64 m2.fin, .slice D2 m2.mem.length f2, .slice D3 m2.out.length f3, .int .i64 m2.ready, .int .i64 m2.want]] W fun e w' => BecomePost W lo hp S.pn.sp kp 19 (skL F E K (.slice A L.length c) S.p0 S.pn S.kv).toArray 156 S.hv S.D S.R (S.s0 :: S.ss) m2 (.slice D1 m2.regs.length f1) (.slice D3 m2.out.length f3) e w') := fun W hW => by
      have hb : Below w.heap.size w W := H4.out.1.trans (hW.mono H4.out.1.size)
      have hlk := HH.out.1.lenk
      have h8 := HH.out.2.2.1
      refine become_any lo hp S.pn.sp kp 19 _ _ S.hv S.D S.R S.sn (S.s0 :: S.ss) m2 _ (.slice D2 m2.mem.length f2) _ W (HH.out.1.host.below hb) (HH.out.1.spn.below hb) (HH.out.1.sys.perm (List.Perm.swap _ _ _)) (by simp only [List.length_cons]; omega) (HCK.out W hb) (by rw [skL_size]; omega) (by rfl) (by decide) ((H4.out.2.1.mem.below hW).at HM2.out.2.2.fits.mem) HM2.out.2.2.mem ?_ ⟨_, _, _, rfl⟩ ⟨_, _, _, rfl⟩
      intro g hg e
      have hgl := (H4.out.2.1.mem.lt g hg).1
      rcases e with e | e
      · have := (HH.out.1.host.foot_lt e).2; omega
      · have := lt_of_block HH.out.1.spn.box; omega
    have HQ5 : Hid (∀ W w' e5, Below W4.heap.size W4 W → BecomePost W lo hp S.pn.sp kp 19 (skL F E K (.slice A L.length c) S.p0 S.pn S.kv).toArray 156 S.hv S.D S.R (S.s0 :: S.ss) m2 (.slice D1 m2.regs.length f1) (.slice D3 m2.out.length f3) e5 w' → w'.heap[w3.heap.size]? = some (.cells #[.slice D1 m2.regs.length f1, .int .i64 m2.pc, .int .i64 m2.back, .bool m2.ints, .bool m2.wait, .int .i64 m2.table, .int .i64 m2.count, .int .i64 m2.fin, .slice D2 m2.mem.length f2, .slice D3 m2.out.length f3, .int .i64 m2.ready, .int .i64 m2.want] 37 (0, 0))) := fun W w' e5 hW hP => by
      obtain ⟨_, _, _, _, _, _, _, _, _, _, hc, _⟩ := hP
      refine hc.box (by rw [hW.block _ (lt_of_block H4.out.2.2.1)]; exact H4.out.2.2.1) ?_
      have h4 := H4.out.2.2.2
      rintro ((e | e) | e)
      · have := (HH.out.1.host.foot_lt e).2; omega
      · have := lt_of_block HH.out.1.spn.box; omega
      · have := lt_of_block HH.out.1.box; omega
    obtain ⟨⟨x0, x1, x2, x3, x4, x5, x6, x7, x8, x9, x10, x11⟩, xf, xl⟩ := twelve_cells H4.out.2.2.1
    have hk4 := HCK.out W4 H4.out.1
    have kl4 := lt_of_block hk4
    go_region_held3 (fun w' => w'.cell? ⟨w3.heap.size, 0, none⟩ = some (.slice D1 m2.regs.length f1) ∧ w'.cell? ⟨w3.heap.size, 1, none⟩ = some (.int .i64 m2.pc) ∧ w'.cell? ⟨w3.heap.size, 2, none⟩ = some (.int .i64 m2.back) ∧ w'.cell? ⟨w3.heap.size, 3, none⟩ = some (.bool m2.ints) ∧ w'.cell? ⟨w3.heap.size, 4, none⟩ = some (.bool m2.wait) ∧ w'.cell? ⟨w3.heap.size, 5, none⟩ = some (.int .i64 m2.table) ∧ w'.cell? ⟨w3.heap.size, 6, none⟩ = some (.int .i64 m2.count) ∧ w'.cell? ⟨w3.heap.size, 7, none⟩ = some (.int .i64 m2.fin) ∧ w'.cell? ⟨w3.heap.size, 8, none⟩ = some (.slice D2 m2.mem.length f2) ∧ w'.cell? ⟨w3.heap.size, 9, none⟩ = some (.slice D3 m2.out.length f3) ∧ w'.cell? ⟨w3.heap.size, 10, none⟩ = some (.int .i64 m2.ready) ∧ w'.cell? ⟨w3.heap.size, 11, none⟩ = some (.int .i64 m2.want)) (go_keep)
      (first
        | (go_at_call 137; refine (HBC.out _ ((Below.refl _ W4).drew)).mono ?_; rintro e w5 hP; have hx5 := HQ5.out _ _ _ ((Below.refl _ W4).drew) hP; obtain ⟨z, rfl, hZ⟩ := BecomePost.z hP; have HBP : Hid (_ ∧ _) := ⟨hZ, hx5⟩; obtain ⟨⟨z0, z1, z2, z3, z4, z5, z6, z7, z8, z9, z10, z11⟩, zf, zl⟩ := twelve_cells hx5; clear hP hZ hx5))
    all_goals
      clear x0 x1 x2 x3 x4 x5 x6 x7 x8 x9 x10 x11 xf xl
      obtain ⟨v', D', R', s', a1, a2, a3, a4, a5, a6, a7, a8⟩ := HBP.out.1
      rcases a8 with ⟨e0, a9, a10⟩ | ⟨e7, a9, a10⟩
      · have hz : z = 0 := by simpa using e0
        subst hz
        have u19 : w5.cell? ⟨kp, 19, none⟩ = some (.int .i64 (n : Int)) := by
          unfold World.cell?
          simp only [a10]
          rw [← HH.out.2.2.2.2.1]
          rfl
        have u33 : w5.cell? ⟨kp, 33, none⟩ = some (.int .i64 S.pn.wrote) := by
          unfold World.cell?
          simp only [a10]
          rfl
        have uf : ∀ j, w5.frozen? ⟨kp, j, none⟩ = false := fun j => by simp [World.frozen?, a10]
        have ul := lt_of_block a10
        have HSTP : Hid (∃ S', SkTo w lo hp kp F E K (.slice A L.length c) S ((w5.setCell ⟨kp, 19, none⟩ (.int .i64 ((n : Int) + 1))).setCell ⟨kp, 33, none⟩ (.int .i64 kw)) S' ∧ SkOk (replayM im L) (replayW im L) cnt K S' ∧ S'.pn.place = (n : Int) + 1 ∧ S'.pn.m = m2 ∧ S'.R.length = S.R.length) := by
          have := step_end HH.out.1 HH.out.2.1 HH.out.2.2.2.1 (W := W4.drew) H4.out.1.drew HH.out.2.2.2.2.1 HH.out.2.2.2.2.2.1 HM2.out.1 HM2.out.2.1 (H4.out.2.1.regs.below ((Below.refl _ W4).drew)) (H4.out.2.1.out.below ((Below.refl _ W4).drew)) a1 a2 a3 a4 a5 a6 a7 a9 a10 rfl
          rw [HH.out.2.2.2.2.1] at this
          exact this
        have hn3 : (n : Int) < 3000 := by omega
        have hkn : w3.heap.size ≠ kp := by
          have := lt_of_block HH.out.1.box
          have := H4.out.2.2.2
          omega
        clear a1 a2 a3 a4 a5 a6 a7 a9 a10 e0
        go_upto_region 10 with fail
        obtain ⟨S', t1, t2, t3, t4, t5⟩ := HSTP.out
        obtain ⟨W7, hW7⟩ : ∃ W7, W7 = (w5.setCell ⟨kp, 19, none⟩ (.int .i64 ((n : Int) + 1))).setCell ⟨kp, 33, none⟩ (.int .i64 kw) := ⟨_, rfl⟩
        have hm7 : W7.heap[w3.heap.size]? = some (.cells #[.slice D1 m2.regs.length f1, .int .i64 m2.pc, .int .i64 m2.back, .bool m2.ints, .bool m2.wait, .int .i64 m2.table, .int .i64 m2.count, .int .i64 m2.fin, .slice D2 m2.mem.length f2, .slice D3 m2.out.length f3, .int .i64 m2.ready, .int .i64 m2.want] 37 (0, 0)) := by
          rw [hW7, Below.heap_setCell _ _ _ _ hkn, Below.heap_setCell _ _ _ _ hkn]
          exact HBP.out.2
        rw [← hW7] at t1 ⊢
        obtain ⟨⟨-, -, -, -, -, -, -, y7, -, -, -, -⟩, yf, yl⟩ := twelve_cells hm7
        obtain ⟨j1, -, -, j19, -, -, -, -, jf, jl⟩ := sk_cells t1.at_.box
        rw [t3] at j19
        have HS7 : Hid (_ ∧ _ ∧ _ ∧ _) := ⟨t1, t2, t3, t5⟩
        have hE0 : E ≠ 0 := by omega
        clear hW7 hm7 t1 t2 t3 t5 HSTP z0 z1 z2 z3 z4 z5 z6 z7 z8 z9 z10 z11 zf zl u19 u33 uf ul
        by_cases hd : ((n : Int) + 1).tmod E = 0
        · by_cases hf0 : m2.fin = 0
          · have g1 : (m2.fin == 0) = true := by simp [hf0]
            go_quiet (fail)
            all_goals
              obtain ⟨W8, hW8⟩ : ∃ W8, W8 = W7.drewN nq := ⟨_, rfl⟩
              have HB8 : Hid (Below W7.heap.size W7 W8) := by show Below _ _ _; rw [hW8]; exact below_drewN _ _
              rw [← hW8]
              have HKP : Hid (Calls Tryz.prog 138 #[hptr kp] W8 fun e w' => KeepPost W8 lo hp kp F E K (.slice A L.length c) (replayM im L) (replayW im L) cnt S' e w') := keep_any lo hp kp F E K _ _ _ cnt S' W8 (HS7.out.1.at_.below HB8.out) HS7.out.2.1 (Nat.le_trans HH.out.2.2.2.1 (Nat.le_trans HS7.out.1.chg.size HB8.out.size))
              clear hW8 j1 j19 jf jl y7 yf yl
              go_wp2_with fail
              refine HKP.out.mono ?_
              rintro e w9 ⟨rfl, S9, u1, u2, u3⟩
              have HU : Hid (_ ∧ _ ∧ _) := ⟨u1, u2, u3⟩
              clear u1 u2 u3
              go_wp2_with fail
              go_ret
              exact ⟨S9, (HS7.out.1.trans (SkTo.same HS7.out.1.at_ HB8.out)).trans HU.out.1, Or.inl ⟨rfl, HU.out.2.1, by rw [HU.out.2.2, HS7.out.2.2.1, HH.out.2.2.2.2.1]⟩⟩
          · have g1 : (m2.fin == 0) = false := by simp [hf0]
            go_quiet (fail)
            all_goals
              go_wp2_with fail
              go_ret
              exact ⟨S', HS7.out.1.trans (SkTo.same HS7.out.1.at_ (below_drewN _ _)), Or.inl ⟨rfl, HS7.out.2.1, by rw [HS7.out.2.2.1, HH.out.2.2.2.2.1]⟩⟩
        · have g1 : (((n : Int) + 1).tmod E == 0) = false := by simp [hd]
          go_quiet (fail)
          all_goals
            go_wp2_with fail
            go_ret
            exact ⟨S', HS7.out.1.trans (SkTo.same HS7.out.1.at_ (below_drewN _ _)), Or.inl ⟨rfl, HS7.out.2.1, by rw [HS7.out.2.2.1, HH.out.2.2.2.2.1]⟩⟩
      · have hz : z = 7 := by simpa using e7
        subst hz
        have HE7 : Hid (StepPost w lo hp kp F E K (.slice A L.length c) (replayM im L) (replayW im L) cnt S (.returned (.int .i64 7)) w5) := step_fail HH.out.1 HH.out.2.1 HH.out.2.2.2.1 (W := W4.drew) H4.out.1.drew a1 a2 a3 a5 a6 a7 a10 a9
        clear a1 a2 a3 a4 a5 a6 a7 a9 a10 e7
        go_wp2_with fail
        go_ret
        exact HE7.out

end Go.Proofs.YtecpblabaelopaaGreatDoor
