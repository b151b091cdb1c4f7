/- Contracts of frames.New, as memory of the call's own, and frames.NewHost: frames that are all free. -/
import Derived.Test.YtecpblabaelopaaGreatDoorHoAPart
import Derived.Test.YtecpblabaelopaaGreatDoorBasePart
import Derived.Test.YtecpblabaelopaaGreatDoorHoBPart
import Derived.RegionTactic
import Derived.Test.YtecpblabaelopaaGreatDoorSkEPart
import Derived.Deep.RegionHeld3
import Derived.Deep.RegionLaw
import Derived.Deep.RegionWith
import Derived.Deep.DeepCutAuto
namespace Go.Proofs.YtecpblabaelopaaGreatDoor
open Go.RowKit
set_option maxRecDepth 100000

theorem OwnD.madeN {w : World} {lo g n : Nat} (hlo : lo ≤ g) (hn : n ≤ maxLen) (h : w.heap[g]? = some (.cells (madeCells #[nilv] n) 24 (0, 0))) : OwnD w lo (.slice (some ⟨g, 0, none⟩) n n) (List.replicate n nilv) (List.replicate n []) := by
  have hget : ∀ i, (List.replicate n nilv).getD i nilv = nilv := fun i => by
    by_cases hi : i < n <;> simp [List.getD, hi]
  refine ⟨⟨by simp, Or.inr ⟨g, n, _, by simp, hlo, h, by simp, hn, by simp [size_madeCells], ?_⟩⟩, fun i hi => ?_, fun i j _ _ _ g hg => ?_⟩
  · rw [toList_madeCells_one]; simp
  · simp at hi
    rw [hget i]
    simp [List.getD, hi]
    exact World.ownsRow_nil _ _ _ _
  · rw [hget i] at hg; simp [Value.ownBlock] at hg
theorem three_blocksN (w : World) (o1 o2 o3 : Obj) : (((w.alloc o1).alloc o2).alloc o3).heap[w.heap.size + 1]? = some o2 ∧ (((w.alloc o1).alloc o2).alloc o3).heap[w.heap.size + 1 + 1]? = some o3 ∧ Below w.heap.size w (((w.alloc o1).alloc o2).alloc o3) := by
  refine ⟨?_, ?_, ((below_alloc _ _).alloc (by simp) _).alloc (by simp; omega) _⟩
  · rw [Go.Deep.blk_alloc_lt _ _ _ (by simp)]
    have := Go.Deep.blk_alloc_new (w.alloc o1) o2
    simpa using this
  · have := Go.Deep.blk_alloc_new ((w.alloc o1).alloc o2) o3
    simpa using this
def FreshF (w : World) (k : Nat) (dv rv : Value) (w' : World) : Prop :=
  ∃ gd gr, dv = .slice (some ⟨gd, 0, none⟩) k k ∧ rv = .slice (some ⟨gr, 0, none⟩) k k ∧ gd ≠ gr ∧ w.heap.size ≤ gd ∧ w.heap.size ≤ gr ∧ w'.heap[gd]? = some (.cells (madeCells #[nilv] k) 24 (0, 0)) ∧ w'.heap[gr]? = some (.cells (madeCells #[.int .i64 0] k) 3 (0, 0)) ∧ Below w.heap.size w w'

set_option maxHeartbeats 400000 in
theorem New_fresh (k : Nat) (hk : k ≤ 200) (w : World) : Calls Tryz.prog 132 #[.int .i64 k] w fun e w' => ∃ dv rv, e = .returned (.tuple #[.agg #[dv, rv], .int .i64 0]) ∧ FreshF w k dv rv w' := by
  have hmk := run_make_row' (P := Tryz.prog) 51 24 (.slice none 0 0) 24 Tryz.underlying51 infoInts rfl .i64 .i64 k (by omega) (by omega)
  have hmk2 := run_make_row' (P := Tryz.prog) 24 3 (.int .i64 0) 8 Tryz.underlying24 infoInt rfl .i64 .i64 k (by omega) (by omega)
  go_enter Tryz.func132, Tryz.ntmps132
  go_wp2
  go_region
  all_goals go_wp2
  · refine bodyPost_ret (v := .tuple #[.agg #[.slice (some ⟨w.heap.size + 1, 0, none⟩) k k, .slice (some ⟨w.heap.size + 1 + 1, 0, none⟩) k k], .int .i64 0]) (by simp [results, Tryz.results132, go_sem]) rfl ?_
    obtain ⟨h1, h2, h3⟩ := three_blocksN w (.cells #[.slice (some ⟨w.heap.size + 1, 0, none⟩) k k, .slice (some ⟨w.heap.size + 1 + 1, 0, none⟩) k k] 185) (.cells (madeCells #[nilv] k) 24) (.cells (madeCells #[.int .i64 0] k) 3)
    exact ⟨_, _, rfl, _, _, rfl, rfl, by omega, by omega, by omega, h1, h2, h3.drew⟩
  · refine bodyPost_ret (v := .tuple #[.agg #[.slice (some ⟨w.heap.size + 1 + 1, 0, none⟩) k k, .slice (some ⟨w.heap.size + 1, 0, none⟩) k k], .int .i64 0]) (by simp [results, Tryz.results132, go_sem]) rfl ?_
    obtain ⟨h1, h2, h3⟩ := three_blocksN w (.cells #[.slice (some ⟨w.heap.size + 1 + 1, 0, none⟩) k k, .slice (some ⟨w.heap.size + 1, 0, none⟩) k k] 185) (.cells (madeCells #[.int .i64 0] k) 3) (.cells (madeCells #[nilv] k) 24)
    exact ⟨_, _, rfl, _, _, rfl, rfl, by omega, by omega, by omega, h2, h1, h3.drew⟩

theorem FreshF.own {w w' : World} {k : Nat} {dv rv : Value} (h : FreshF w k dv rv w') (hk : k ≤ 200) : OwnF w' w.heap.size dv rv (List.replicate k nilv) (List.replicate k []) (List.replicate k 0) := by
  obtain ⟨gd, gr, rfl, rfl, hne, h1, h2, h3, h4, hb⟩ := h
  refine ⟨OwnD.madeN h1 (by unfold maxLen; omega) h3, OwnI.madeZ h2 (by unfold maxLen; omega) h4, fun i hi g hg => ?_⟩
  simp at hi
  simp [List.getD, hi, Value.ownBlock]

set_option maxHeartbeats 400000 in
theorem NewHost_ok (k : Nat) (hk : k ≤ 200) (w : World) : Calls Tryz.prog 96 #[.int .i64 k] w fun e w' => ∃ hp v, e = .returned (.tuple #[hptr hp, .int .i64 0]) ∧ HostAt w' w.heap.size hp v (List.replicate k []) (List.replicate k 0) ∧ (∀ g, v.foot g → w.heap.size ≤ g) ∧ Below w.heap.size w w' := by
  go_enter Tryz.func96, Tryz.ntmps96
  go_wp2_with fail
  refine (New_fresh k hk _).mono ?_
  rintro e w1 ⟨dv, rv, rfl, hF⟩
  have HF : Hid (FreshF w k dv rv w1) := hF
  obtain ⟨A, ca, B, cb, rfl, rfl⟩ : ∃ A ca B cb, dv = .slice A k ca ∧ rv = .slice B k cb := by
    obtain ⟨gd, gr, h1, h2, _⟩ := hF
    exact ⟨_, _, _, _, h1, h2⟩
  clear hF
  go_wp2
  go_ret2
  have hb : Below w.heap.size w w1 := by
    obtain ⟨_, _, _, _, _, _, _, _, _, hb⟩ := HF.out
    exact hb
  have hB : Below w1.heap.size w1 ((w1.alloc (.cells #[.slice A k ca, .slice B k cb] 185)).alloc (.cells #[.slice A k ca, .slice B k cb] 189)) := (below_alloc _ _).alloc (by simp) _
  have hown := (HF.out.own hk).below hB
  have hbx := Go.Deep.blk_alloc_new (w1.alloc (.cells #[.slice A k ca, .slice B k cb] 185)) (.cells #[.slice A k ca, .slice B k cb] 189)
  have hs := hb.size
  rw [World.size_alloc] at hbx
  refine ⟨_, ⟨.slice A k ca, .slice B k cb, List.replicate k nilv⟩, rfl, ⟨hbx, hown, by simp, by simpa using hk, by omega⟩, fun g hg => ?_, hb.trans (hB.mono hs)⟩
  exact (OwnF.foot (v := ⟨.slice A k ca, .slice B k cb, List.replicate k nilv⟩) hown hg).1

end Go.Proofs.YtecpblabaelopaaGreatDoor

/- A deck in memory; contract of deck's begin. -/

namespace Go.Proofs.YtecpblabaelopaaGreatDoor
open Go.RowKit
set_option maxRecDepth 100000

def dkA (F E K : Int) (iv ev : Value) (cnt : Int) (sv : Value) : Array Value := #[.int .i64 F, .int .i64 E, .int .i64 K, iv, ev, .int .i64 cnt, sv]
theorem dk_cells {w : World} {dp : Nat} {F E K : Int} {iv ev : Value} {cnt : Int} {sv : Value} (h : w.heap[dp]? = some (.cells (dkA F E K iv ev cnt sv) 114 (0, 0))) :
    w.cell? ⟨dp, 0, none⟩ = some (.int .i64 F) ∧ w.cell? ⟨dp, 1, none⟩ = some (.int .i64 E) ∧ w.cell? ⟨dp, 2, none⟩ = some (.int .i64 K) ∧ w.cell? ⟨dp, 3, none⟩ = some iv ∧ w.cell? ⟨dp, 4, none⟩ = some ev ∧ w.cell? ⟨dp, 5, none⟩ = some (.int .i64 cnt) ∧ w.cell? ⟨dp, 6, none⟩ = some sv ∧ (∀ j, w.frozen? ⟨dp, j, none⟩ = false) ∧ dp < w.heap.size := by
  refine ⟨?_, ?_, ?_, ?_, ?_, ?_, ?_, fun j => by simp [World.frozen?, h], lt_of_block h⟩ <;> simp [World.cell?, h, dkA]
theorem dk_put {w : World} {dp : Nat} {F E K : Int} {iv ev : Value} {cnt : Int} {sv : Value} (h : w.heap[dp]? = some (.cells (dkA F E K iv ev cnt sv) 114 (0, 0))) (u : Value) : (w.setCell ⟨dp, 6, none⟩ u).heap[dp]? = some (.cells (dkA F E K iv ev cnt u) 114 (0, 0)) := by
  have : (w.setCell ⟨dp, 6, none⟩ u).heap[dp]? = some (.cells ((dkA F E K iv ev cnt sv).setIfInBounds 6 u) 114 (0, 0)) := by simp [World.setCell, Array.getElem?_modify, h]
  rw [this]
  rfl
theorem SkAt.farD {w w' : World} {lo hp kp : Nat} {F E K : Int} {ev : Value} {S : SkS} (h : SkAt w lo hp kp F E K ev S) {B : Nat} (hc : Chg (fun b => b = B) w w') (hB : BoxT w B 114) : SkAt w' lo hp kp F E K ev S := by
  obtain ⟨b1, b2, b3, b4⟩ := h.boxes
  have hG : ∀ g, g = B → S.hv.foot g ∨ ∃ t, BoxT w g t ∧ 3 ≠ t := fun g e => Or.inr ⟨114, by rw [e]; exact hB, by decide⟩
  exact ⟨hc.box h.box (BoxT.ne b1 hB (by decide)), h.host.chg hc (fun g e => by rw [e]; exact BoxT.off hB h.host (by decide) (by decide) (by decide)), h.sp0.chg hc (BoxT.ne b2 hB (by decide)), h.spn.chg hc (BoxT.ne b3 hB (by decide)), fun i hi => (h.sps i hi).chg hc (BoxT.ne (b4 i hi) hB (by decide)), h.lenk, h.ne, h.sys, hc.owns h.kept (fun g hg e => BoxT.ne (h.kept_box hg).1 hB (by decide) e), h.g0.chg hc hG (fun _ e => Or.inl e), h.gn.chg hc hG (fun _ e => Or.inl e), fun p hp => (h.gk p hp).chg hc hG (fun _ e => Or.inl e), h.evs, h.low⟩

def BeginPost (w : World) (dp : Nat) (F E K : Int) (iv ev : Value) (cnt : Nat) (im : List Int) (L : List Ev) (e : Ending) (w' : World) : Prop :=
  Chg (fun b => b = dp) w w' ∧
  ((∃ hp kp S, e = .returned (.int .i64 0) ∧ w'.heap[dp]? = some (.cells (dkA F E K iv ev cnt (hptr kp)) 114 (0, 0)) ∧ SkAt w' w.heap.size hp kp F E K ev S ∧ SkOk (replayM im L) (replayW im L) cnt K S ∧ (S.R.length : Int) = F) ∨
   (e = .returned (.int .i64 7) ∧ F < 16 ∧ w'.heap[dp]? = some (.cells (dkA F E K iv ev cnt (.pointer none)) 114 (0, 0))))
theorem newsk_ok {im : List Int} {L : List Ev} {cnt : Nat} {K : Int} {S : SkS} (hK : 1 ≤ K ∧ K ≤ 8) (h1 : S.ks = []) (h2 : S.p0.place = 0) (h3 : S.pn.place = 0) (h4 : S.p0.wrote = -1) (h5 : S.pn.wrote = -1) (h6 : S.p0.m = newM im) (h7 : S.pn.m = newM im) (h8 : wordsOf S.D S.s0 = (newM im).mem) (h9 : wordsOf S.D S.sn = (newM im).mem) : SkOk (replayM im L) (replayW im L) cnt K S :=
  ⟨h2, ⟨0, h2, Nat.zero_le _, h6, h8, h4⟩, ⟨0, h3, Nat.zero_le _, h7, h9, h5⟩, fun i hi => by rw [h1] at hi; simp at hi, by rw [h1]; simp; omega, hK⟩
theorem NewSkPost.z {w w' : World} {lo hp : Nat} {F E K : Int} {ev : Value} {v : HV} {N : Nat} {im : List Int} {e : Ending} (h : NewSkPost w lo hp F E K ev v N im e w') : ∃ q z, e = .returned (.tuple #[.pointer q, .int .i64 z]) ∧ NewSkPost w lo hp F E K ev v N im (.returned (.tuple #[.pointer q, .int .i64 z])) w' := by
  rcases id h with ⟨kp, S, e0, _⟩ | ⟨e0, _⟩
  · exact ⟨_, _, e0, by rw [← e0]; exact h⟩
  · exact ⟨_, _, e0, by rw [← e0]; exact h⟩
theorem NewSkPost.chg {w w' : World} {lo hp : Nat} {F E K : Int} {ev : Value} {v : HV} {N : Nat} {im : List Int} {e : Ending} (h : NewSkPost w lo hp F E K ev v N im e w') : Chg v.foot w w' := by
  rcases h with ⟨kp, S, _, _, _, _, _, _, _, _, _, _, _, _, _, hc⟩ | ⟨_, _, hc⟩
  · exact hc
  · exact hc

set_option maxHeartbeats 2000000 in
theorem begin_any (dp : Nat) (F E K : Int) (iv ev : Value) (cnt : Nat) (im : List Int) (L : List Ev) (w : World) (h : w.heap[dp]? = some (.cells (dkA F E K iv ev cnt (.pointer none)) 114 (0, 0))) (hi : IntsAt w iv im) (hno : newNo im = 0) (hF : 0 ≤ F ∧ F ≤ 200) (hK : 1 ≤ K ∧ K ≤ 8) (hev : ∃ A n c, ev = .slice A n c) :
    Calls Tryz.prog 65 #[hptr dp] w fun e w' => BeginPost w dp F E K iv ev cnt im L e w' := by
  obtain ⟨f, rfl⟩ : ∃ f : Nat, F = (f : Int) := ⟨F.toNat, by omega⟩
  obtain ⟨Ae, ne, ce, rfl⟩ := hev
  obtain ⟨Ai, ci, rfl, hx1, hx2⟩ := id hi
  obtain ⟨k0, k1, k2, k3, k4, k5, k6, kf, kl⟩ := dk_cells h
  have HH : Hid (w.heap[dp]? = some (.cells (dkA f E K (.slice Ai im.length ci) (.slice Ae ne ce) cnt (.pointer none)) 114 (0, 0)) ∧ IntsAt w (.slice Ai im.length ci) im ∧ newNo im = 0 ∧ (1 ≤ K ∧ K ≤ 8) ∧ f ≤ 200) := ⟨h, hi, hno, hK, by omega⟩
  clear h hi hno hF hK hx1 hx2
  go_enter Tryz.func65, Tryz.ntmps65
  go_wp2_with fail
  refine (NewHost_ok f HH.out.2.2.2.2 w).mono ?_
  rintro e w1 ⟨hp, v, rfl, hh, hvf, hb1⟩
  have HB1 : Hid (HostAt w1 w.heap.size hp v (List.replicate f []) (List.replicate f 0) ∧ (∀ g, v.foot g → w.heap.size ≤ g) ∧ Below w.heap.size w w1 ∧ w1.heap[dp]? = some (.cells (dkA f E K (.slice Ai im.length ci) (.slice Ae ne ce) cnt (.pointer none)) 114 (0, 0))) := ⟨hh, hvf, hb1, by rw [hb1.block _ kl]; exact HH.out.1⟩
  have HNS : Hid (∀ W, Below w1.heap.size w1 W → Calls Tryz.prog 97 #[hptr hp, .agg #[.int .i64 (f : Int), .int .i64 E, .int .i64 K], .slice Ai im.length ci, .slice Ae ne ce] W fun e w' => NewSkPost W w.heap.size hp f E K (.slice Ae ne ce) v f im e w') := fun W hW => by
    have := newSeeker_any w.heap.size hp v (List.replicate f []) (List.replicate f 0) f E K (.slice Ai im.length ci) (.slice Ae ne ce) im W (HB1.out.1.below hW) (Sys.none f) ((HH.out.2.1.below HB1.out.2.2.1).below hW) HH.out.2.2.1 ⟨_, _, _, rfl⟩ (Nat.le_trans HB1.out.2.2.1.size hW.size)
    simpa using this
  have HCK : Hid (∀ W w', Below w1.heap.size w1 W → Chg v.foot W w' → w'.heap[dp]? = some (.cells (dkA f E K (.slice Ai im.length ci) (.slice Ae ne ce) cnt (.pointer none)) 114 (0, 0))) := fun W w' hW hc => hc.box (by rw [hW.block _ (lt_of_block HB1.out.2.2.2)]; exact HB1.out.2.2.2) (fun e => by have := HB1.out.2.1 _ e; have := lt_of_block HH.out.1; omega)
  clear hh hvf hb1 k0 k1 k2 k3 k4 k5 k6 kf kl
  obtain ⟨k0, k1, k2, k3, k4, k5, k6, kf, kl⟩ := dk_cells HB1.out.2.2.2
  go_wp2_with fail
  go_region_held3 (fun w' => w'.cell? ⟨dp, 0, none⟩ = some (.int .i64 (f : Int)) ∧ w'.cell? ⟨dp, 1, none⟩ = some (.int .i64 E) ∧ w'.cell? ⟨dp, 2, none⟩ = some (.int .i64 K) ∧ w'.cell? ⟨dp, 3, none⟩ = some (.slice Ai im.length ci) ∧ w'.cell? ⟨dp, 4, none⟩ = some (.slice Ae ne ce)) (go_keep)
    (first
      | (go_at_call 97; refine (HNS.out _ ((Below.refl _ w1).drew)).mono ?_; rintro e w2 hP; have hbx := HCK.out _ _ ((Below.refl _ w1).drew) (NewSkPost.chg hP); obtain ⟨q, z, rfl, hZ⟩ := NewSkPost.z hP; have HP : Hid (_ ∧ _) := ⟨hZ, hbx⟩; obtain ⟨j0, j1, j2, j3, j4, j5, j6, jf, jl⟩ := dk_cells hbx; obtain ⟨t0, t1, t2, t3, t4, -, -, -, -⟩ := dk_cells (dk_put hbx (.pointer q)); clear hP hZ hbx))
  all_goals
    go_wp2_with fail
    go_ret
    have hc2 := NewSkPost.chg HP.out.1
    have hc3 : Chg (fun b => b = dp) w2 (w2.setCell ⟨dp, 6, none⟩ (.pointer q)) := Chg.set (F := fun b => b = dp) (Chg.refl _ _) (a := ⟨dp, 6, none⟩) (Or.inl rfl) _
    have hb3 : (w2.setCell ⟨dp, 6, none⟩ (.pointer q)).heap[dp]? = some (.cells (dkA f E K (.slice Ai im.length ci) (.slice Ae ne ce) cnt (.pointer q)) 114 (0, 0)) := dk_put HP.out.2 _
    have hcc : Chg (fun b => b = dp) w (w2.setCell ⟨dp, 6, none⟩ (.pointer q)) := ((Chg.of_below (F := fun b => b = dp) HB1.out.2.2.1.drew).trans hc2 (fun g e => Or.inr (HB1.out.2.1 g e))).trans hc3 (fun g e => Or.inl e)
    refine ⟨hcc, ?_⟩
    rcases HP.out.1 with ⟨kp, S, e0, hs, s1, s2, s3, s4, s5, s6, s7, s8, s9, s10, _, _⟩ | ⟨e0, hfew, _⟩
    · simp only [Ending.returned.injEq, Value.tuple.injEq] at e0
      simp at e0
      obtain ⟨rfl, rfl⟩ := e0
      exact Or.inl ⟨hp, kp, S, rfl, hb3, hs.farD hc3 ⟨_, HP.out.2⟩, newsk_ok HH.out.2.2.2.1 s2 s3 s4 s5 s6 s7 s8 s9 s10, by rw [s1]⟩
    · simp at e0
      obtain ⟨rfl, rfl⟩ := e0
      exact Or.inr ⟨rfl, by omega, hb3⟩

end Go.Proofs.YtecpblabaelopaaGreatDoor

/- A deck with its seeker, if it has one: plain laws. -/

namespace Go.Proofs.YtecpblabaelopaaGreatDoor
open Go.RowKit
set_option maxRecDepth 100000

theorem EvsLow.mono {w : World} {lo lo' : Nat} {v : Value} {L : List Ev} (h : EvsLow w lo v L) (hl : lo ≤ lo') : EvsLow w lo' v L := fun W hW => h W (hW.mono hl)
def ImLow (w : World) (dp : Nat) (iv : Value) (im : List Int) : Prop := ∀ W, Below dp w W → IntsAt W iv im
theorem ImLow.at {w : World} {dp : Nat} {iv : Value} {im : List Int} (h : ImLow w dp iv im) : IntsAt w iv im := h w (Below.refl _ _)
theorem ImLow.below {w w' : World} {dp : Nat} {iv : Value} {im : List Int} (h : ImLow w dp iv im) (hb : Below dp w w') : ImLow w' dp iv im := fun W hW => h W (hb.trans hW)
structure DkK where
  lo : Nat
  hp : Nat
  kp : Nat
  S : SkS
def dkFoot (dp : Nat) (q : Option DkK) (g : Nat) : Prop := g = dp ∨ ∃ k, q = some k ∧ k.S.foot k.kp g
def dkPtr : Option DkK → Value
  | none => .pointer none
  | some k => hptr k.kp
structure DkAt (w : World) (dp : Nat) (F E K : Int) (iv ev : Value) (cnt : Nat) (im : List Int) (L : List Ev) (q : Option DkK) : Prop where
  box : w.heap[dp]? = some (.cells (dkA F E K iv ev cnt (dkPtr q)) 114 (0, 0))
  img : ImLow w dp iv im
  evs : EvsLow w dp ev L
  sk : ∀ k, q = some k → dp < k.lo ∧ k.lo ≤ w.heap.size ∧ SkAt w k.lo k.hp k.kp F E K ev k.S ∧ SkOk (replayM im L) (replayW im L) cnt K k.S ∧ (k.S.R.length : Int) = F
theorem DkAt.foot_lo {w : World} {dp : Nat} {F E K : Int} {iv ev : Value} {cnt : Nat} {im : List Int} {L : List Ev} {q : Option DkK} (h : DkAt w dp F E K iv ev cnt im L q) {g : Nat} (hg : dkFoot dp q g) : dp ≤ g ∧ g < w.heap.size := by
  rcases hg with e | ⟨k, hk, e⟩
  · rw [e]; exact ⟨Nat.le_refl _, lt_of_block h.box⟩
  · obtain ⟨h1, _, h2, _⟩ := h.sk k hk
    have := h2.foot_lo e
    exact ⟨by omega, h2.foot_lt e⟩
structure DkTo (w : World) (dp : Nat) (F E K : Int) (iv ev : Value) (cnt : Nat) (im : List Int) (L : List Ev) (q : Option DkK) (w' : World) (q' : Option DkK) : Prop where
  at_ : DkAt w' dp F E K iv ev cnt im L q'
  foot : ∀ g, dkFoot dp q' g → dkFoot dp q g ∨ w.heap.size ≤ g
  chg : Chg (dkFoot dp q) w w'
theorem DkTo.trans {w w1 w2 : World} {dp : Nat} {F E K : Int} {iv ev : Value} {cnt : Nat} {im : List Int} {L : List Ev} {q q1 q2 : Option DkK} (h : DkTo w dp F E K iv ev cnt im L q w1 q1) (k : DkTo w1 dp F E K iv ev cnt im L q1 w2 q2) : DkTo w dp F E K iv ev cnt im L q w2 q2 :=
  ⟨k.at_, fun g e => by
    rcases k.foot g e with e | e
    · exact h.foot g e
    · exact Or.inr (Nat.le_trans h.chg.size e), h.chg.trans k.chg h.foot⟩
theorem DkAt.low {w w' : World} {dp : Nat} {F E K : Int} {iv ev : Value} {cnt : Nat} {im : List Int} {L : List Ev} {q : Option DkK} (h : DkAt w dp F E K iv ev cnt im L q) (hc : Chg (dkFoot dp q) w w') : Below dp w w' :=
  ⟨hc.os, hc.tape, hc.output, hc.size, fun g hg => hc.kept g (by have := lt_of_block h.box; omega) (fun e => by have := (h.foot_lo e).1; omega)⟩
theorem DkAt.below {w w' : World} {dp : Nat} {F E K : Int} {iv ev : Value} {cnt : Nat} {im : List Int} {L : List Ev} {q : Option DkK} (h : DkAt w dp F E K iv ev cnt im L q) (hb : Below w.heap.size w w') : DkAt w' dp F E K iv ev cnt im L q := by
  have hl := lt_of_block h.box
  exact ⟨by rw [hb.block _ hl]; exact h.box, h.img.below (hb.mono (by omega)), h.evs.below (hb.mono (by omega)), fun k hk => by
    obtain ⟨h1, h2, h3, h4, h5⟩ := h.sk k hk
    exact ⟨h1, Nat.le_trans h2 hb.size, h3.below hb, h4, h5⟩⟩
theorem DkAt.begun {w w' : World} {dp : Nat} {F E K : Int} {iv ev : Value} {cnt : Nat} {im : List Int} {L : List Ev} (h : DkAt w dp F E K iv ev cnt im L none) {e : Ending} (hp : BeginPost w dp F E K iv ev cnt im L e w') :
    (∃ k, e = .returned (.int .i64 0) ∧ DkTo w dp F E K iv ev cnt im L none w' (some k)) ∨ (e = .returned (.int .i64 7) ∧ F < 16 ∧ DkTo w dp F E K iv ev cnt im L none w' none) := by
  obtain ⟨hc, hp⟩ := hp
  have hl := lt_of_block h.box
  have hcg : Chg (dkFoot dp none) w w' := hc.mono (fun g _ e => Or.inl e)
  have hb := h.low hcg
  rcases hp with ⟨hp', kp, S, e0, hbx, hs, hok, hR⟩ | ⟨e0, hF, hbx⟩
  · refine Or.inl ⟨⟨w.heap.size, hp', kp, S⟩, e0, ⟨hbx, h.img.below hb, h.evs.below hb, fun k hk => ?_⟩, fun g hg => ?_, hcg⟩
    · cases hk
      exact ⟨hl, hc.size, hs, hok, hR⟩
    · rcases hg with e | ⟨k, hk, e⟩
      · exact Or.inl (Or.inl e)
      · cases hk
        exact Or.inr (hs.foot_lo e)
  · exact Or.inr ⟨e0, hF, ⟨hbx, h.img.below hb, h.evs.below hb, fun k hk => by cases hk⟩, fun g hg => Or.inl hg, hcg⟩
theorem DkAt.sought {w w' : World} {dp : Nat} {F E K : Int} {iv ev : Value} {cnt : Nat} {im : List Int} {L : List Ev} {k : DkK} (h : DkAt w dp F E K iv ev cnt im L (some k)) {S' : SkS} (hto : SkTo w k.lo k.hp k.kp F E K ev k.S w' S') (hok : SkOk (replayM im L) (replayW im L) cnt K S') : DkTo w dp F E K iv ev cnt im L (some k) w' (some { k with S := S' }) := by
  have hl := lt_of_block h.box
  obtain ⟨h1, h2, h3, h4, h5⟩ := h.sk k rfl
  have hcg : Chg (dkFoot dp (some k)) w w' := hto.chg.mono (fun g _ e => Or.inr ⟨k, rfl, e⟩)
  have hb := h.low hcg
  refine ⟨⟨?_, h.img.below hb, h.evs.below hb, fun k' hk => ?_⟩, fun g hg => ?_, hcg⟩
  · rw [hto.chg.kept dp hl (fun e => by have := h3.foot_lo e; omega)]
    exact h.box
  · cases hk
    exact ⟨h1, Nat.le_trans h2 hto.chg.size, hto.at_, hok, by show (S'.R.length : Int) = F; rw [hto.len]; exact h5⟩
  · rcases hg with e | ⟨k', hk, e⟩
    · exact Or.inl (Or.inl e)
    · cases hk
      rcases hto.foot g e with e | e
      · exact Or.inl (Or.inr ⟨k, rfl, e⟩)
      · exact Or.inr e

end Go.Proofs.YtecpblabaelopaaGreatDoor

/- Contracts of deck.outside and of the closure that it makes. -/

namespace Go.Proofs.YtecpblabaelopaaGreatDoor
open Go.RowKit

abbrev cloD (p q : Nat) : Value := .func (.func 64) #[] #[.pointer (some ⟨p, 0, none⟩), .pointer (some ⟨q, 0, none⟩)]
structure CloAtD (w : World) (p q : Nat) (lo hi : Int) : Prop where
  c1 : w.cell? ⟨p, 0, none⟩ = some (.int .i64 lo)
  c2 : w.cell? ⟨q, 0, none⟩ = some (.int .i64 hi)
  l1 : p < w.heap.size
  l2 : q < w.heap.size
theorem CloAtD.below {w w' : World} {p q : Nat} {lo hi : Int} (h : CloAtD w p q lo hi) (hb : Below w.heap.size w w') : CloAtD w' p q lo hi :=
  ⟨(hb.cell (p := ⟨p, 0, none⟩) h.l1).trans h.c1, (hb.cell (p := ⟨q, 0, none⟩) h.l2).trans h.c2, Nat.lt_of_lt_of_le h.l1 hb.size, Nat.lt_of_lt_of_le h.l2 hb.size⟩
theorem CloAtD.drew {w : World} {p q : Nat} {lo hi : Int} (h : CloAtD w p q lo hi) : CloAtD w.drew p q lo hi := h.below ((Below.refl _ w).drew)

theorem one_cellD {w : World} {b : Nat} {x : Value} {t : TypeId} (h : w.heap[b]? = some (.cells #[x] t (0, 0))) : w.cell? ⟨b, 0, none⟩ = some x := by simp [World.cell?, h]

theorem outsideD_any (lo hi : Int) (w : World) : Calls Tryz.prog 37 #[.int .i64 lo, .int .i64 hi] w fun e w' => ∃ p q, e = .returned (cloD p q) ∧ CloAtD w' p q lo hi ∧ Below w.heap.size w w' := by
  go_enter Tryz.func37, Tryz.ntmps37
  go_wp2
  go_ret
  obtain ⟨b0, b1, b2⟩ := two_boxes (Below.refl ((w.alloc (.cells #[.int .i64 lo] 3)).alloc (.cells #[.int .i64 hi] 3)).heap.size ((w.alloc (.cells #[.int .i64 lo] 3)).alloc (.cells #[.int .i64 hi] 3)))
  exact ⟨_, _, rfl, ⟨one_cellD b0, one_cellD b1, by simp; omega, by simp⟩, b2⟩

theorem cloD_any (x lo hi : Int) (p q : Nat) (w : World) (h : CloAtD w p q lo hi) :
    Calls Tryz.prog 64 #[.int .i64 x, .pointer (some ⟨p, 0, none⟩), .pointer (some ⟨q, 0, none⟩)] w fun e w' => e = .returned (.bool (!inB x lo hi)) ∧ w' = w := by
  obtain ⟨c1, c2, -, -⟩ := h
  by_cases h1 : x < lo
  · have hI : (!inB x lo hi) = true := by simp [inB]; omega
    rw [hI]
    go_enter Tryz.func64, Tryz.ntmps64
    go_wp2
    go_ret
    exact ⟨rfl, rfl⟩
  · by_cases h2 : hi < x
    · have hI : (!inB x lo hi) = true := by simp [inB]; omega
      rw [hI]
      go_enter Tryz.func64, Tryz.ntmps64
      go_wp2
      go_ret
      exact ⟨rfl, rfl⟩
    · have hI : (!inB x lo hi) = false := by simp [inB]; omega
      rw [hI]
      go_enter Tryz.func64, Tryz.ntmps64
      go_wp2
      go_ret
      exact ⟨rfl, rfl⟩

end Go.Proofs.YtecpblabaelopaaGreatDoor

/- Contract of a deck's Guest: a place outside; begin where there is a seeker. -/

namespace Go.Proofs.YtecpblabaelopaaGreatDoor
open Go.RowKit
set_option maxRecDepth 100000

theorem begin_some (dp kp : Nat) (F E K : Int) (iv ev : Value) (cnt : Int) (w : World) (h : w.heap[dp]? = some (.cells (dkA F E K iv ev cnt (hptr kp)) 114 (0, 0))) :
    Calls Tryz.prog 65 #[hptr dp] w fun e w' => e = .returned (.int .i64 0) ∧ Below w.heap.size w w' := by
  obtain ⟨k0, k1, k2, k3, k4, k5, k6, kf, kl⟩ := dk_cells h
  clear h k0 k1 k2 k3 k4 k5
  go_enter Tryz.func65, Tryz.ntmps65
  go_wp2_with fail
  go_ret
  exact ⟨rfl, Below.refl _ _⟩

end Go.Proofs.YtecpblabaelopaaGreatDoor

/- Contract of a deck's Guest. -/

namespace Go.Proofs.YtecpblabaelopaaGreatDoor
open Go.RowKit
set_option maxRecDepth 100000

theorem DkTo.same {w w' : World} {dp : Nat} {F E K : Int} {iv ev : Value} {cnt : Nat} {im : List Int} {L : List Ev} {q : Option DkK} (h : DkAt w dp F E K iv ev cnt im L q) (hb : Below w.heap.size w w') : DkTo w dp F E K iv ev cnt im L q w' q := ⟨h.below hb, fun _ e => Or.inl e, Chg.of_below hb⟩
theorem DkAt.far {w w' : World} {dp : Nat} {F E K : Int} {iv ev : Value} {cnt : Nat} {im : List Int} {L : List Ev} {q : Option DkK} (h : DkAt w dp F E K iv ev cnt im L q) {B : Nat} (hc : Chg (fun b => b = B) w w') (hB : BoxT w B 37) (hl : dp < B) : DkAt w' dp F E K iv ev cnt im L q := by
  have hb : Below dp w w' := ⟨hc.os, hc.tape, hc.output, hc.size, fun g hg => hc.kept g (by have := lt_of_block h.box; omega) (fun e => by omega)⟩
  exact ⟨hc.box h.box (by omega), h.img.below hb, h.evs.below hb, fun k hk => by
    obtain ⟨h1, h2, h3, h4, h5⟩ := h.sk k hk
    exact ⟨h1, Nat.le_trans h2 hc.size, h3.far hc hB, h4, h5⟩⟩
theorem DkTo.far {w W w' : World} {dp : Nat} {F E K : Int} {iv ev : Value} {cnt : Nat} {im : List Int} {L : List Ev} {q q' : Option DkK} (h : DkTo w dp F E K iv ev cnt im L q W q') {B : Nat} (hc : Chg (fun b => b = B) W w') (hB : BoxT W B 37) (hl : w.heap.size ≤ B) (hd : dp < w.heap.size) : DkTo w dp F E K iv ev cnt im L q w' q' :=
  ⟨h.at_.far hc hB (by omega), h.foot, h.chg.trans hc (fun g e => Or.inr (by omega))⟩
structure DkOk (F E K : Int) (ev : Value) (cnt : Nat) (im : List Int) (L : List Ev) : Prop where
  hF : 0 ≤ F ∧ F ≤ 200
  hE : 1 ≤ E ∧ E ≤ 3000
  hK : 1 ≤ K ∧ K ≤ 8
  no : newNo im = 0
  ck : chkNo L = 0
  cn : cnt ≤ 3000
  cap : ∃ A c, ev = .slice A L.length c ∧ L.length ≤ c
def BeginQ (w : World) (dp : Nat) (F E K : Int) (iv ev : Value) (cnt : Nat) (im : List Int) (L : List Ev) (q : Option DkK) (e : Ending) (w' : World) : Prop :=
  (∃ k, e = .returned (.int .i64 0) ∧ DkTo w dp F E K iv ev cnt im L q w' (some k)) ∨ (e = .returned (.int .i64 7) ∧ F < 16 ∧ DkTo w dp F E K iv ev cnt im L q w' none)
theorem begin_q (dp : Nat) (F E K : Int) (iv ev : Value) (cnt : Nat) (im : List Int) (L : List Ev) (q : Option DkK) (w : World) (h : DkAt w dp F E K iv ev cnt im L q) (ho : DkOk F E K ev cnt im L) :
    Calls Tryz.prog 65 #[hptr dp] w fun e w' => BeginQ w dp F E K iv ev cnt im L q e w' := by
  cases q with
  | none =>
    obtain ⟨A, c, hev, _⟩ := ho.cap
    exact (begin_any dp F E K iv ev cnt im L w h.box h.img.at ho.no ho.hF ho.hK ⟨A, _, c, hev⟩).mono fun e w' hp => h.begun hp
  | some k =>
    refine (begin_some dp k.kp F E K iv ev cnt w h.box).mono ?_
    rintro e w' ⟨rfl, hb⟩
    exact Or.inl ⟨k, rfl, DkTo.same h hb⟩
theorem DkAt.dropped {w w' : World} {dp : Nat} {F E K : Int} {iv ev : Value} {cnt : Nat} {im : List Int} {L : List Ev} {k : DkK} (h : DkAt w dp F E K iv ev cnt im L (some k)) {S' : SkS} (hto : SkTo w k.lo k.hp k.kp F E K ev k.S w' S') : DkTo w dp F E K iv ev cnt im L (some k) (w'.setCell ⟨dp, 6, none⟩ (.pointer none)) none := by
  have hl := lt_of_block h.box
  obtain ⟨h1, h2, h3, h4, h5⟩ := h.sk k rfl
  have hcg : Chg (dkFoot dp (some k)) w w' := hto.chg.mono (fun g _ e => Or.inr ⟨k, rfl, e⟩)
  have hbx : w'.heap[dp]? = some (.cells (dkA F E K iv ev cnt (dkPtr (some k))) 114 (0, 0)) := by
    rw [hto.chg.kept dp hl (fun e => by have := h3.foot_lo e; omega)]
    exact h.box
  have hcg2 : Chg (dkFoot dp (some k)) w (w'.setCell ⟨dp, 6, none⟩ (.pointer none)) := hcg.set (a := ⟨dp, 6, none⟩) (Or.inl (Or.inl rfl)) _
  have hb := h.low hcg2
  exact ⟨⟨dk_put hbx _, h.img.below hb, h.evs.below hb, fun k' hk => by cases hk⟩, fun g hg => by
    rcases hg with e | ⟨k', hk, _⟩
    · exact Or.inl (Or.inl e)
    · exact absurd hk (by simp), hcg2⟩

def GuestPost (w : World) (dp : Nat) (F E K : Int) (iv ev : Value) (cnt : Nat) (im : List Int) (L : List Ev) (q : Option DkK) (k : Nat) (e : Ending) (w' : World) : Prop :=
  ∃ q', DkTo w dp F E K iv ev cnt im L q w' q' ∧
    ((∃ rv mv ov, e = .returned (.tuple #[.agg ((replayM im L k).cells rv mv ov), .int .i64 (replayW im L k), .int .i64 0]) ∧ OwnM w' w.heap.size rv mv ov (replayM im L k) ∧ Off (dkFoot dp q') rv ∧ Off (dkFoot dp q') mv ∧ Off (dkFoot dp q') ov) ∨
     (e = .returned (.tuple #[.agg zeroM, .int .i64 0, .int .i64 7]) ∧ F < 16 * (K + 2)))
theorem GuestPost.no {w W w' : World} {dp : Nat} {F E K : Int} {iv ev : Value} {cnt : Nat} {im : List Int} {L : List Ev} {q q' : Option DkK} {k B : Nat} (h : DkTo w dp F E K iv ev cnt im L q W q') (hc : Chg (fun b => b = B) W w') (hB : BoxT W B 37) (hl : w.heap.size ≤ B) (hd : dp < w.heap.size) (hf : F < 16 * (K + 2)) :
    GuestPost w dp F E K iv ev cnt im L q k (.returned (.tuple #[.agg zeroM, .int .i64 0, .int .i64 7])) w' := ⟨q', h.far hc hB hl hd, Or.inr ⟨rfl, hf⟩⟩

set_option maxHeartbeats 4000000 in
theorem Guest_in (dp : Nat) (F E K : Int) (iv ev : Value) (cnt : Nat) (im : List Int) (L : List Ev) (q : Option DkK) (k : Nat) (w : World) (h : DkAt w dp F E K iv ev cnt im L q) (ho : DkOk F E K ev cnt im L) (hk : k ≤ cnt) :
    Calls Tryz.prog 38 #[hptr dp, .int .i64 (k : Int)] w fun e w' => GuestPost w dp F E K iv ev cnt im L q k e w' := by
  obtain ⟨w0, hw0⟩ : ∃ w0, w0 = w.alloc (.cells zeroM 37) := ⟨_, rfl⟩
  have hb0 : Below w.heap.size w w0 := by rw [hw0]; exact below_alloc _ _
  have ht0 : w0.heap[w.heap.size]? = some (.cells zeroM 37 (0, 0)) := by rw [hw0]; exact Go.Deep.blk_alloc_new _ _
  have hbx := (h.below hb0).box
  have hp : inB (k : Int) 0 cnt = true := inB_iff.2 (by omega)
  have HH : Hid (Below w.heap.size w w0 ∧ w0.heap[w.heap.size]? = some (.cells zeroM 37 (0, 0)) ∧ DkAt w dp F E K iv ev cnt im L q ∧ DkOk F E K ev cnt im L ∧ k ≤ cnt) := ⟨hb0, ht0, h, ho, hk⟩
  have HW0 : Hid (w0 = w.alloc (.cells zeroM 37)) := hw0
  obtain ⟨-, -, -, -, -, k5, -, kf, kl⟩ := dk_cells hbx
  have g1 : (!inB (k : Int) 0 (cnt : Int)) = false := by simp [hp]
  clear h ho hk hp hw0 hb0 ht0 hbx
  go_enter Tryz.func38, Tryz.ntmps38
  go_upto_region 1 with fail
  rw [← HW0.out]
  go_wp2_with fail
  refine (outsideD_any _ _ _).mono ?_
  rintro e w1 ⟨p, q1, rfl, hc1, hb1⟩
  have HC : Hid (CloAtD w1 p q1 0 cnt ∧ Below w0.heap.size w0 w1) := ⟨hc1, hb1⟩
  clear hc1 hb1
  go_wp2_with fail
  refine (cloD_any (k : Int) 0 cnt p q1 _ HC.out.1).mono ?_
  rintro e w2 ⟨rfl, rfl⟩
  have HB : Hid (Below w.heap.size w w2) := HH.out.1.trans (HC.out.2.mono HH.out.1.size)
  have HBG : Hid (Calls Tryz.prog 65 #[hptr dp] w2 fun e w' => BeginQ w2 dp F E K iv ev cnt im L q e w') := begin_q dp F E K iv ev cnt im L q w2 (HH.out.2.2.1.below HB.out) HH.out.2.2.2.1
  have HZ : Hid (∀ W q', DkTo w2 dp F E K iv ev cnt im L q W q' → W.heap[w.heap.size]? = some (.cells zeroM 37 (0, 0))) := fun W q' h2 => by
    have ht1 : w2.heap[w.heap.size]? = some (.cells zeroM 37 (0, 0)) := by rw [HC.out.2.block _ (lt_of_block HH.out.2.1)]; exact HH.out.2.1
    rw [h2.chg.kept _ (lt_of_block ht1) (fun e => by have := (HH.out.2.2.1.foot_lo e).2; omega)]
    exact ht1
  have HDP : Hid (dp < w.heap.size) := lt_of_block HH.out.2.2.1.box
  clear k5 kf kl
  go_wp2_with fail
  refine HBG.out.mono ?_
  rintro e w3 hQ
  rcases hQ with ⟨k3, rfl, hto3⟩ | ⟨rfl, hF16, hto3⟩
  · have HT3 : Hid (DkTo w2 dp F E K iv ev cnt im L q w3 (some k3)) := hto3
    have HSK : Hid (Calls Tryz.prog 66 #[hptr k3.kp, .int .i64 (k : Int)] w3 fun e w' => SeekPost w3 k3.lo k3.hp k3.kp F E K ev im L cnt k3.S k e w') := by
      obtain ⟨s1, s2, s3, s4, s5⟩ := hto3.at_.sk k3 rfl
      have o := HH.out.2.2.2.1
      exact seek_any k3.lo k3.hp k3.kp F E K ev im L cnt k3.S k w3 s3 s4 s2 (hto3.at_.evs.mono (by omega)) o.cap o.no o.ck o.cn (by have := o.hE; omega) HH.out.2.2.2.2
    obtain ⟨-, -, -, -, -, -, c6, cf, cl⟩ := dk_cells hto3.at_.box
    simp only [dkPtr] at c6
    clear hto3
    go_wp2_with fail
    refine HSK.out.mono ?_
    rintro e w4 hP
    obtain ⟨S', hto, hres⟩ := hP
    rcases hres with ⟨rv, mv, ov, rfl, hown, o1, o2, o3, hok, hpl⟩ | ⟨rfl, hfew⟩
    · have HT4 : Hid (DkTo w2 dp F E K iv ev cnt im L q w4 (some { k3 with S := S' })) := HT3.out.trans (HT3.out.at_.sought hto hok)
      obtain ⟨D1, f1, D2, f2, D3, f3, rfl, rfl, rfl⟩ := hown.shape
      have HO : Hid (OwnM w4 w3.heap.size (.slice D1 (replayM im L k).regs.length f1) (.slice D2 (replayM im L k).mem.length f2) (.slice D3 (replayM im L k).out.length f3) (replayM im L k) ∧ Off (S'.foot k3.kp) (.slice D1 (replayM im L k).regs.length f1) ∧ Off (S'.foot k3.kp) (.slice D2 (replayM im L k).mem.length f2) ∧ Off (S'.foot k3.kp) (.slice D3 (replayM im L k).out.length f3)) := ⟨hown, o1, o2, o3⟩
      have HFIN : Hid (∀ M0 wo, M0 = replayM im L k → wo = replayW im L k → ∀ W', Chg (fun b => b = w.heap.size) w4 W' → GuestPost w dp F E K iv ev cnt im L q k (.returned (.tuple #[.agg #[.slice D1 M0.regs.length f1, .int .i64 M0.pc, .int .i64 M0.back, .bool M0.ints, .bool M0.wait, .int .i64 M0.table, .int .i64 M0.count, .int .i64 M0.fin, .slice D2 M0.mem.length f2, .slice D3 M0.out.length f3, .int .i64 M0.ready, .int .i64 M0.want], .int .i64 wo, .int .i64 0])) W') := fun M0 wo e1 e2 W' hc => by
        subst e1 e2
        have hT := (DkTo.same HH.out.2.2.1 HB.out).trans HT4.out
        have h3 : w.heap.size < w3.heap.size := lt_of_block (HZ.out w3 _ HT3.out)
        have hoff : ∀ {u : Value} {l : List Int}, OwnI w4 w3.heap.size u l → Off (S'.foot k3.kp) u → OwnI W' w.heap.size u l ∧ Off (dkFoot dp (some { k3 with S := S' })) u := fun hu ho => ⟨ownsRow_mono (hc.own hu (fun g hg e => by have := (hu.lt g hg).1; omega)) (by omega), fun g hg e => by
          have hg1 := (hu.lt g hg).1
          rcases e with e | ⟨k', hk', e⟩
          · have := HDP.out; omega
          · cases hk'
            exact ho g hg e⟩
        have h1 := hoff HO.out.1.regs HO.out.2.1
        have h2 := hoff HO.out.1.mem HO.out.2.2.1
        have h4 := hoff HO.out.1.out HO.out.2.2.2
        exact ⟨_, hT.far hc ⟨_, HZ.out w4 _ HT4.out⟩ (Nat.le_refl _) HDP.out, Or.inl ⟨_, _, _, rfl, ⟨h1.1, h2.1, h4.1, HO.out.1.rm, HO.out.1.ro, HO.out.1.mo⟩, h1.2, h2.2, h4.2⟩⟩
      obtain ⟨M0, hM0⟩ : ∃ M0, M0 = replayM im L k := ⟨_, rfl⟩
      obtain ⟨wo, hwo⟩ : ∃ wo, wo = replayW im L k := ⟨_, rfl⟩
      rw [← hM0, ← hwo]
      have HF := HFIN.out M0 wo hM0 hwo
      have HFI : Hid (∀ W', Chg (fun b => b = w.heap.size) w4 W' → GuestPost w dp F E K iv ev cnt im L q k (.returned (.tuple #[.agg #[.slice D1 M0.regs.length f1, .int .i64 M0.pc, .int .i64 M0.back, .bool M0.ints, .bool M0.wait, .int .i64 M0.table, .int .i64 M0.count, .int .i64 M0.fin, .slice D2 M0.mem.length f2, .slice D3 M0.out.length f3, .int .i64 M0.ready, .int .i64 M0.want], .int .i64 wo, .int .i64 0])) W') := HF
      obtain ⟨⟨z0, z1, z2, z3, z4, z5, z6, z7, z8, z9, z10, z11⟩, zf, zl⟩ := twelve_cells (HZ.out w4 _ HT4.out)
      clear hto hok hpl hown o1 o2 o3 HF HFIN HO HSK HT3 c6 cf cl hM0 hwo
      simp only [Mach.cells]
      go_wp2_with fail
      refine bodyPost_ret (v := .tuple #[.agg #[.slice D1 M0.regs.length f1, .int .i64 M0.pc, .int .i64 M0.back, .bool M0.ints, .bool M0.wait, .int .i64 M0.table, .int .i64 M0.count, .int .i64 M0.fin, .slice D2 M0.mem.length f2, .slice D3 M0.out.length f3, .int .i64 M0.ready, .int .i64 M0.want], .int .i64 wo, .int .i64 0]) (by simp [results, Tryz.results38, go_sem, z0, z1, z2, z3, z4, z5, z6, z7, z8, z9, z10, z11, zl]) rfl ?_
      refine HFI.out _ ?_
      first
        | (with_reducible refine Chg.alloc ?_ _); (iterate 12 (with_reducible refine Chg.set ?_ (by exact Or.inl rfl) _)); exact Chg.refl _ _
        | (iterate 12 (with_reducible refine Chg.set ?_ (by exact Or.inl rfl) _)); exact (Chg.refl _ _).alloc _
    · have HT5 : Hid (DkTo w2 dp F E K iv ev cnt im L q (w4.setCell ⟨dp, 6, none⟩ (.pointer none)) none) := HT3.out.trans (HT3.out.at_.dropped hto)
      have hbx4 : w4.heap[dp]? = some (.cells (dkA F E K iv ev cnt (hptr k3.kp)) 114 (0, 0)) := by
        rw [hto.chg.kept dp cl (fun e => by have := (HT3.out.at_.sk k3 rfl).2.2.1.foot_lo e; have := (HT3.out.at_.sk k3 rfl).1; omega)]
        exact HT3.out.at_.box
      have HFEW : Hid (F < 16 * (K + 2)) := by have := (HT3.out.at_.sk k3 rfl).2.2.2.2; show F < 16 * (K + 2); omega
      obtain ⟨-, -, -, -, -, -, i6, jf, jl⟩ := dk_cells hbx4
      clear hto hfew HSK HT3 c6 cf cl hbx4
      go_upto_region 9 with fail
      obtain ⟨W5, hW5⟩ : ∃ W5, W5 = w4.setCell ⟨dp, 6, none⟩ (.pointer none) := ⟨_, rfl⟩
      rw [← hW5]
      rw [← hW5] at HT5
      clear hW5 i6 jf jl
      have HFIN : Hid (∀ W', Chg (fun b => b = w.heap.size) W5 W' → GuestPost w dp F E K iv ev cnt im L q k (.returned (.tuple #[.agg zeroM, .int .i64 0, .int .i64 7])) W') := fun W' hc => GuestPost.no ((DkTo.same HH.out.2.2.1 HB.out).trans HT5.out) hc ⟨_, HZ.out W5 _ HT5.out⟩ (Nat.le_refl _) HDP.out HFEW.out
      obtain ⟨⟨z0, z1, z2, z3, z4, z5, z6, z7, z8, z9, z10, z11⟩, zf, zl⟩ := twelve_cells (HZ.out W5 _ HT5.out)
      go_wp2_with fail
      refine bodyPost_ret (v := .tuple #[.agg zeroM, .int .i64 0, .int .i64 7]) (by simp [results, Tryz.results38, go_sem, z0, z1, z2, z3, z4, z5, z6, z7, z8, z9, z10, z11, zl]) rfl ?_
      refine HFIN.out _ ?_
      first
        | (with_reducible refine Chg.alloc ?_ _); (iterate 12 (with_reducible refine Chg.set ?_ (by exact Or.inl rfl) _)); exact Chg.refl _ _
        | (iterate 12 (with_reducible refine Chg.set ?_ (by exact Or.inl rfl) _)); exact (Chg.refl _ _).alloc _
  · obtain ⟨⟨z0, z1, z2, z3, z4, z5, z6, z7, z8, z9, z10, z11⟩, zf, zl⟩ := twelve_cells (HZ.out w3 _ hto3)
    have HFIN : Hid (∀ W', Chg (fun b => b = w.heap.size) w3 W' → GuestPost w dp F E K iv ev cnt im L q k (.returned (.tuple #[.agg zeroM, .int .i64 0, .int .i64 7])) W') := fun W' hc => GuestPost.no ((DkTo.same HH.out.2.2.1 HB.out).trans hto3) hc ⟨_, HZ.out w3 _ hto3⟩ (Nat.le_refl _) HDP.out (by have := HH.out.2.2.2.1.hK; omega)
    clear hto3 hF16
    go_wp2_with fail
    refine bodyPost_ret (v := .tuple #[.agg zeroM, .int .i64 0, .int .i64 7]) (by simp [results, Tryz.results38, go_sem, z0, z1, z2, z3, z4, z5, z6, z7, z8, z9, z10, z11]) rfl ?_
    refine HFIN.out _ ?_
    repeat (refine Chg.set ?_ (by exact Or.inl rfl) _)
    exact Chg.refl _ _

end Go.Proofs.YtecpblabaelopaaGreatDoor
