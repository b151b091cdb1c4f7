/- A guest that has ended stays as it is, and writes nothing: plain laws; the place of the point now is put. -/
import Derived.Test.YtecpblabaelopaaGreatDoorRepPPart
import Derived.Test.YtecpblabaelopaaGreatDoorDoEPart
namespace Go.Proofs.YtecpblabaelopaaGreatDoor
open Go.RowKit
set_option maxRecDepth 100000

theorem ite_snd {c : Prop} [Decidable c] {x y : Mach × Int} (hx : x.2 = -1) (hy : y.2 = -1) : (if c then x else y).2 = -1 := by
  split
  · exact hx
  · exact hy
theorem exec_ended {m : Mach} (h0 : m.fin = 0) (op a b n value : Int) (h : (m.exec op a b n value).1.fin ≠ 0) : (m.exec op a b n value).2 = -1 := by
  by_cases h6 : op = 6
  · subst h6
    have e : m.exec 6 a b n value = (if m.meantE (m.reg b + n) true = 0 then (({ m with mem := m.mem.set (m.meantK (m.reg b + n) true).toNat (m.reg a) } : Mach).go (m.pc + 1), m.meantK (m.reg b + n) true) else (m.ends (m.meantE (m.reg b + n) true), -1)) := rfl
    rw [e] at h ⊢
    split at h
    · exact absurd h0 h
    · rename_i hne
      rw [if_neg hne]
  · unfold Mach.exec
    rw [if_neg h6]
    repeat' (first | rfl | refine ite_snd ?_ ?_)
theorem told_fin (m : Mach) (irq : Bool) (blk : List Int) : (m.told irq blk).fin = m.fin := by
  unfold Mach.told; split <;> rfl
theorem enter_fin (m : Mach) : m.enter.fin = m.fin := by
  unfold Mach.enter; split <;> rfl
theorem step_ended {m : Mach} {irq : Bool} {blk : List Int} {value : Int} (h : (m.step irq blk value).1.fin ≠ 0) : (m.step irq blk value).2 = -1 := by
  unfold Mach.step at h ⊢
  split at h
  · rename_i h0
    rw [if_pos h0]
    have h1 : ((m.told irq blk).enter.counted).fin = 0 := by
      show ((m.told irq blk).enter).fin = 0
      rw [enter_fin, told_fin, h0]
    unfold Mach.run1 at h ⊢
    split at h
    · rename_i h2
      rw [if_pos h2]
      exact exec_ended h1 _ _ _ _ _ h
    · rename_i h2
      rw [if_neg h2]
  · rename_i h0
    rw [if_neg h0]
theorem step_stays {m : Mach} {irq : Bool} {blk : List Int} {value : Int} (h : m.fin ≠ 0) : m.step irq blk value = (m, -1) := by
  unfold Mach.step
  rw [if_neg h]
theorem newM_fin (im : List Int) : (newM im).fin = 0 := rfl
theorem replay_ended {im : List Int} {L : List Ev} {n : Nat} (h : (replayM im L n).fin ≠ 0) : ∀ d, replayM im L (n + d) = replayM im L n ∧ replayW im L (n + d) = -1
  | 0 => by
    refine ⟨rfl, ?_⟩
    cases n with
    | zero => exact absurd (newM_fin im) h
    | succ n => exact step_ended h
  | d + 1 => by
    obtain ⟨h1, _⟩ := replay_ended h d
    have h2 : (replayM im L (n + d)).fin ≠ 0 := by rw [h1]; exact h
    have h3 : ∀ irq blk value, (replayM im L (n + d)).step irq blk value = (replayM im L (n + d), -1) := fun irq blk value => step_stays h2
    refine ⟨?_, ?_⟩
    · show ((replayM im L (n + d)).step _ _ _).1 = _
      rw [h3, ← h1]
    · show ((replayM im L (n + d)).step _ _ _).2 = _
      rw [h3]

theorem place_end {w w' : World} {lo hp kp : Nat} {F E K : Int} {ev : Value} {im : List Int} {L : List Ev} {cnt : Nat} {S : SkS} (h : SkAt w lo hp kp F E K ev S) (ho : SkOk (replayM im L) (replayW im L) cnt K S) (hlow : lo ≤ w.heap.size) {k : Nat} (hk : k ≤ cnt) (hle : S.pn.place ≤ (k : Int)) (hend : S.pn.place = (k : Int) ∨ S.pn.m.fin ≠ 0)
    (hw : w' = w.setCell ⟨kp, 19, none⟩ (.int .i64 (k : Int))) : ∃ S', SkTo w lo hp kp F E K ev S w' S' ∧ SkOk (replayM im L) (replayW im L) cnt K S' ∧ S'.pn.place = (k : Int) ∧ S'.pn.m = replayM im L k ∧ S'.pn.wrote = replayW im L k ∧ S'.R.length = S.R.length := by
  obtain ⟨b1, b2, b3, b4⟩ := h.boxes
  obtain ⟨n, a1, a2, a3, a4, a5⟩ := ho.inow
  have hMk : replayM im L k = replayM im L n ∧ replayW im L k = replayW im L n := by
    rcases hend with e | e
    · have : n = k := by omega
      rw [this]; exact ⟨rfl, rfl⟩
    · rw [a3] at e
      have h1 := replay_ended e (k - n)
      have h2 := replay_ended e 0
      have e2 : n + (k - n) = k := by omega
      rw [e2] at h1
      exact ⟨h1.1, h1.2.trans h2.2.symm⟩
  have k7 : w'.heap[kp]? = some (.cells (skL F E K ev S.p0 { S.pn with place := (k : Int) } S.kv).toArray 156 (0, 0)) := by
    have e1 : w'.heap[kp]? = some (.cells ((skL F E K ev S.p0 S.pn S.kv).toArray.setIfInBounds 19 (.int .i64 (k : Int))) 156 (0, 0)) := by
      rw [hw]
      simp [World.setCell, Array.getElem?_modify, h.box]
    rw [e1]
    rfl
  have hc7 : Chg (fun b => b = kp) w w' := by
    rw [hw]
    exact Chg.set (F := fun b => b = kp) (Chg.refl _ _) (a := ⟨kp, 19, none⟩) (Or.inl rfl) _
  have hcW : Chg (fun g => S.hv.foot g ∨ g = S.pn.sp ∨ g = kp) w w' := hc7.mono (fun g _ e => Or.inr (Or.inr e))
  have hh7 : HostAt w' lo hp S.hv S.D S.R := h.host.chg hc7 (fun g e => by rw [e]; exact BoxT.off b1 h.host (by decide) (by decide) (by decide))
  have hspk : S.pn.sp ≠ kp := fun e => BoxT.ne b3 b1 (by decide) e
  have hs7 : SpAt w' hp S.pn.sp S.sn := h.spn.chg hc7 hspk
  have hg0 : PtOk w' lo S.hv.foot S.pn := h.gn.chg hcW (fun g e => by
    rcases e with e | e | e
    · exact Or.inl e
    · exact Or.inr ⟨_, by rw [e]; exact b3, by decide⟩
    · exact Or.inr ⟨_, by rw [e]; exact b1, by decide⟩) (fun g e => Or.inl e)
  have hg : PtOk w' lo S.hv.foot { S.pn with place := (k : Int) } := ⟨hg0.regs, hg0.out, hg0.offr, hg0.offo⟩
  have hto := h.jump (pn' := { S.pn with place := (k : Int) }) hcW hh7 (fun g e => Or.inl e) k7 hs7 (Or.inl rfl) h.sys hg hlow rfl
  exact ⟨_, hto, ⟨ho.z, ho.i0, ⟨k, rfl, hk, by rw [hMk.1]; exact a3, by rw [hMk.1]; exact a4, by rw [hMk.2]; exact a5⟩, ho.ik, ho.few, ho.k8⟩, rfl, by rw [hMk.1]; exact a3, by rw [hMk.2]; exact a5, rfl⟩

theorem SkAt.far {w w' : World} {lo hp kp : Nat} {F E K : Int} {ev : Value} {S : SkS} (h : SkAt w lo hp kp F E K ev S) {B : Nat} (hc : Chg (fun b => b = B) w w') (hB : BoxT w B 37) : SkAt w' lo hp kp F E K ev S := by
  obtain ⟨b1, b2, b3, b4⟩ := h.boxes
  have hG : ∀ g, g = B → S.hv.foot g ∨ ∃ t, BoxT w g t ∧ 3 ≠ t := fun g e => Or.inr ⟨37, by rw [e]; exact hB, by decide⟩
  exact ⟨hc.box h.box (BoxT.ne b1 hB (by decide)), h.host.chg hc (fun g e => by rw [e]; exact BoxT.off hB h.host (by decide) (by decide) (by decide)), h.sp0.chg hc (BoxT.ne b2 hB (by decide)), h.spn.chg hc (BoxT.ne b3 hB (by decide)), fun i hi => (h.sps i hi).chg hc (BoxT.ne (b4 i hi) hB (by decide)), h.lenk, h.ne, h.sys, hc.owns h.kept (fun g hg e => BoxT.ne (h.kept_box hg).1 hB (by decide) e), h.g0.chg hc hG (fun _ e => Or.inl e), h.gn.chg hc hG (fun _ e => Or.inl e), fun p hp => (h.gk p hp).chg hc hG (fun _ e => Or.inl e), h.evs, h.low⟩
theorem SkTo.far {w W w' : World} {lo hp kp : Nat} {F E K : Int} {ev : Value} {S S' : SkS} (h : SkTo w lo hp kp F E K ev S W S') {B : Nat} (hc : Chg (fun b => b = B) W w') (hB : BoxT W B 37) (hl : w.heap.size ≤ B) : SkTo w lo hp kp F E K ev S w' S' :=
  ⟨h.at_.far hc hB, h.foot, h.chg.trans hc (fun g e => Or.inr (by omega)), h.len⟩

end Go.Proofs.YtecpblabaelopaaGreatDoor

/- Contract of seeker.seek. -/

namespace Go.Proofs.YtecpblabaelopaaGreatDoor
open Go.RowKit
set_option maxRecDepth 100000

def SeekPost (w : World) (lo hp kp : Nat) (F E K : Int) (ev : Value) (im : List Int) (L : List Ev) (cnt : Nat) (S : SkS) (k : Nat) (e : Ending) (w' : World) : Prop :=
  ∃ S', SkTo w lo hp kp F E K ev S w' S' ∧
    ((∃ rv mv ov, e = .returned (.tuple #[.agg ((replayM im L k).cells rv mv ov), .int .i64 (replayW im L k), .int .i64 0]) ∧ OwnM w' w.heap.size rv mv ov (replayM im L k) ∧ Off (S'.foot kp) rv ∧ Off (S'.foot kp) mv ∧ Off (S'.foot kp) ov ∧ SkOk (replayM im L) (replayW im L) cnt K S' ∧ S'.pn.place = (k : Int)) ∨
     (e = .returned (.tuple #[.agg zeroM, .int .i64 0, .int .i64 7]) ∧ (S.R.length : Int) < 16 * (K + 2)))

set_option maxHeartbeats 4000000 in
theorem seek_any (lo hp kp : Nat) (F E K : Int) (ev : Value) (im : List Int) (L : List Ev) (cnt : Nat) (S : SkS) (k : Nat) (w : World) (h : SkAt w lo hp kp F E K ev S) (ho : SkOk (replayM im L) (replayW im L) cnt K S) (hlow : lo ≤ w.heap.size) (hev : EvsLow w lo ev L) (hcap : ∃ A c, ev = .slice A L.length c ∧ L.length ≤ c) (hno : newNo im = 0) (hck : chkNo L = 0) (hcnt : cnt ≤ 3000) (hE : 1 ≤ E ∧ E ≤ 1000000) (hk : k ≤ cnt) :
    Calls Tryz.prog 66 #[hptr kp, .int .i64 (k : Int)] w fun e w' => SeekPost w lo hp kp F E K ev im L cnt S k e w' := by
  obtain ⟨w0, hw0⟩ : ∃ w0, w0 = w.alloc (.cells zeroM 37) := ⟨_, rfl⟩
  have hb0 : Below w.heap.size w w0 := by rw [hw0]; exact below_alloc _ _
  have ht4 : w0.heap[w.heap.size]? = some (.cells zeroM 37 (0, 0)) := by rw [hw0]; exact Go.Deep.blk_alloc_new _ _
  have hto0 : SkTo w lo hp kp F E K ev S w0 S := SkTo.same h hb0
  have HST : Hid (∀ W S1 (n : Nat), SkTo w0 lo hp kp F E K ev S W S1 → SkOk (replayM im L) (replayW im L) cnt K S1 → S1.pn.place = (n : Int) → n < cnt → Calls Tryz.prog 99 #[hptr kp] W fun e w' => StepPost W lo hp kp F E K ev (replayM im L) (replayW im L) cnt S1 e w') := fun W S1 n h1 h2 h3 h4 =>
    seekStep_any lo hp kp F E K ev im L cnt S1 W h1.at_ h2 (Nat.le_trans hlow (Nat.le_trans hb0.size h1.chg.size)) (hev.below ((hto0.trans h1).low h hlow)) hcap hno hck hcnt hE n h3 h4
  have HLP : Hid (Calls Tryz.prog 98 #[hptr kp, .int .i64 (k : Int)] w0 fun e w' => LeapPost w0 lo hp kp F E K ev (replayM im L) (replayW im L) cnt S (k : Int) e w') := leap_any lo hp kp F E K ev _ _ cnt S (k : Int) w0 hto0.at_ ho (by omega) (Nat.le_trans hlow hb0.size)
  have HH : Hid (SkAt w lo hp kp F E K ev S ∧ SkOk (replayM im L) (replayW im L) cnt K S ∧ lo ≤ w.heap.size ∧ k ≤ cnt ∧ cnt ≤ 3000 ∧ SkTo w lo hp kp F E K ev S w0 S ∧ w0.heap[w.heap.size]? = some (.cells zeroM 37 (0, 0)) ∧ newNo im = 0 ∧ chkNo L = 0) := ⟨h, ho, hlow, hk, hcnt, hto0, ht4, hno, hck⟩
  have HW0 : Hid (w0 = w.alloc (.cells zeroM 37)) := hw0
  have hk3 : (k : Int) ≤ 3000 := by omega
  clear h ho hlow hev hcap hno hck hw0 hb0 ht4 hto0
  go_enter Tryz.func66, Tryz.ntmps66
  go_wp2_with fail
  rw [← HW0.out]
  refine HLP.out.mono ?_
  rintro e w1 ⟨rfl, S1, t1, t2, t3⟩
  have H1 : Hid (SkTo w0 lo hp kp F E K ev S w1 S1 ∧ SkOk (replayM im L) (replayW im L) cnt K S1 ∧ S1.pn.place ≤ (k : Int)) := ⟨t1, t2, t3⟩
  clear t1 t2 t3
  go_wp2_with fail
  go_loopw [] (fun wr => Hid (∃ S1, SkTo w0 lo hp kp F E K ev S wr S1 ∧ SkOk (replayM im L) (replayW im L) cnt K S1 ∧ S1.pn.place ≤ (k : Int))) (fun wr => k - (intOf ((wr.cell? ⟨kp, 19, none⟩).getD (.int .i64 0))).toNat)
  case atStart => exact ⟨S1, H1.out⟩
  case round =>
    obtain ⟨S1, hs, hso, hsp⟩ := hrel.out
    obtain ⟨n, a1, a2, a3, a4, a5⟩ := hso.inow
    have HS : Hid (SkTo w0 lo hp kp F E K ev S wr S1 ∧ SkOk (replayM im L) (replayW im L) cnt K S1 ∧ S1.pn.place = (n : Int) ∧ n ≤ cnt) := ⟨hs, hso, a1, a2⟩
    have HT4 : Hid (∀ W S2, SkTo w0 lo hp kp F E K ev S W S2 → W.heap[w.heap.size]? = some (.cells zeroM 37 (0, 0))) := fun W S2 h2 => by
      have h4 := HH.out.2.2.2.2.2.2.1
      rw [h2.chg.kept _ (lt_of_block h4) (fun e => by have := HH.out.1.foot_lt e; omega)]
      exact h4
    obtain ⟨-, -, -, j19, j27, -, -, -, jf, jl⟩ := sk_cells hs.at_.box
    rw [a1] at j19 hsp
    obtain ⟨f, hf⟩ : ∃ f, f = S1.pn.m.fin := ⟨_, rfl⟩
    rw [← hf] at j27
    have HFN : Hid (f = S1.pn.m.fin) := hf
    clear hs hso a1 a2 a3 a4 a5 hf hrel
    by_cases hlt : n < k
    · have hlt1 : (n : Int) < (k : Int) := by omega
      have g0 : decide ((n : Int) < (k : Int)) = true := by simpa using hlt1
      by_cases hf0 : f = 0
      · have g1 : (f == 0) = true := by simp [hf0]
        go_wp2_with fail
        refine (HST.out wr S1 n HS.out.1 HS.out.2.1 HS.out.2.2.1 (by have := HH.out.2.2.2.1; omega)).mono ?_
        rintro e w5 ⟨S2, u1, u2⟩
        have ht4 := HT4.out w5 S2 (HS.out.1.trans u1)
        have HU : Hid (SkTo w0 lo hp kp F E K ev S w5 S2) := HS.out.1.trans u1
        rcases u2 with ⟨rfl, u3, u4⟩ | ⟨rfl, u3⟩
        · have HU2 : Hid (SkOk (replayM im L) (replayW im L) cnt K S2 ∧ S2.pn.place = (n : Int) + 1) := ⟨u3, by rw [u4, HS.out.2.2.1]⟩
          obtain ⟨-, -, -, i19, -, -, -, -, -, -⟩ := sk_cells u1.at_.box
          rw [HU2.out.2] at i19
          clear u1 u3 u4 ht4 j27 jf jl
          go_wp2_with fail
          refine ⟨⟨S2, HU.out, HU2.out.1, by rw [HU2.out.2]; omega⟩, ?_⟩
          simp [i19, j19, intOf]
          omega
        · have HR7 : Hid ((S.R.length : Int) < 16 * (K + 2)) := by have := HS.out.1.len; rw [this] at u3; exact u3
          obtain ⟨⟨z0, z1, z2, z3, z4, z5, z6, z7, z8, z9, z10, z11⟩, zf, zl⟩ := twelve_cells ht4
          clear u1 u3 j19 j27 jf jl
          go_wp2_with fail
          refine bodyPost_ret (v := .tuple #[.agg zeroM, .int .i64 0, .int .i64 7]) (by simp [results, Tryz.results66, go_sem, z0, z1, z2, z3, z4, z5, z6, z7, z8, z9, z10, z11]) rfl ?_
          refine ⟨S2, (HH.out.2.2.2.2.2.1.trans HU.out).far (B := w.heap.size) ?_ ⟨_, HT4.out w5 S2 HU.out⟩ (Nat.le_refl _), Or.inr ⟨rfl, HR7.out⟩⟩
          repeat (refine Chg.set ?_ (by exact Or.inl rfl) _)
          exact Chg.refl _ _
      · have g1 : (f == 0) = false := by simp [hf0]
        go_upto_region 9 with fail
        obtain ⟨S9, p1, p2, p3, p4, p5, p6⟩ := place_end (cnt := cnt) HS.out.1.at_ HS.out.2.1 (Nat.le_trans HH.out.2.2.1 (HH.out.2.2.2.2.2.1.trans HS.out.1).chg.size) HH.out.2.2.2.1 (by rw [HS.out.2.2.1]; exact hsp) (Or.inr (by rw [← HFN.out]; exact hf0)) rfl
        obtain ⟨W8, hW8⟩ : ∃ W8, W8 = wr.setCell ⟨kp, 19, none⟩ (.int .i64 (k : Int)) := ⟨_, rfl⟩
        rw [← hW8] at p1 ⊢
        obtain ⟨M0, hM0⟩ : ∃ M0, M0 = replayM im L k := ⟨_, rfl⟩
        obtain ⟨wo, hwo⟩ : ∃ wo, wo = replayW im L k := ⟨_, rfl⟩
        rw [← hM0] at p4
        rw [← hwo] at p5
        obtain ⟨rv, hrv⟩ : ∃ rv, rv = S9.pn.rv := ⟨_, rfl⟩
        obtain ⟨ov, hov⟩ : ∃ ov, ov = S9.pn.ov := ⟨_, rfl⟩
        obtain ⟨sp, hsp9⟩ : ∃ sp, sp = S9.pn.sp := ⟨_, rfl⟩
        have hqc : S9.pn.cells = [.int .i64 (k : Int), rv, .int .i64 M0.pc, .int .i64 M0.back, .bool M0.ints, .bool M0.wait, .int .i64 M0.table, .int .i64 M0.count, .int .i64 M0.fin, nilv, ov, .int .i64 M0.ready, .int .i64 M0.want, hptr sp, .int .i64 wo] := by unfold PtV.cells; rw [p3, p4, p5, hrv, hov, hsp9]
        have hr9 := (sk_now p1.at_.box).1
        rw [hqc] at hr9
        have hmem9 : wordsOf S9.D S9.sn = M0.mem := by
          obtain ⟨n9, c1, _, _, c4, _⟩ := p2.inow
          have : n9 = k := by omega
          rw [c4, this, hM0]
        have HWH : Hid (∀ W, Below W8.heap.size W8 W → Calls Tryz.prog 100 #[.agg #[.int .i64 (k : Int), rv, .int .i64 M0.pc, .int .i64 M0.back, .bool M0.ints, .bool M0.wait, .int .i64 M0.table, .int .i64 M0.count, .int .i64 M0.fin, nilv, ov, .int .i64 M0.ready, .int .i64 M0.want, hptr sp, .int .i64 wo]] W fun e w' => ∃ u, e = .returned (.agg (M0.cells rv u ov)) ∧ OwnI w' W.heap.size u M0.mem ∧ Below W.heap.size W w') := fun W hW => by
          obtain ⟨A1, e1, f1⟩ := p1.at_.gn.regs.shape
          obtain ⟨A2, e2, f2⟩ := p1.at_.gn.out.shape
          have := whole_any lo hp S9.hv S9.D S9.R S9.sn (S9.s0 :: S9.sn :: S9.ss) S9.pn W (p1.at_.host.below hW) (p1.at_.spn.below hW) p1.at_.sys (by simp) ⟨_, _, _, f1⟩ ⟨_, _, _, f2⟩
          rw [hmem9, p4, ← hrv, ← hov, hqc] at this
          exact this
        have HP9 : Hid (SkTo wr lo hp kp F E K ev S1 W8 S9 ∧ SkOk (replayM im L) (replayW im L) cnt K S9 ∧ S9.pn.place = (k : Int) ∧ OwnI W8 lo rv M0.regs ∧ OwnI W8 lo ov M0.out ∧ MayP M0 ∧ M0 = replayM im L k ∧ wo = replayW im L k) := ⟨p1, p2, p3, by have := p1.at_.gn.regs; rw [p4, ← hrv] at this; exact this, by have := p1.at_.gn.out; rw [p4, ← hov] at this; exact this, by rw [hM0]; exact (replay_may HH.out.2.2.2.2.2.2.2.1 HH.out.2.2.2.2.2.2.2.2 k (by have := HH.out.2.2.2.1; have := HH.out.2.2.2.2.1; omega)).1, hM0, hwo⟩
        have HCK9 : Hid (∀ W, Below W8.heap.size W8 W → W.cell? ⟨kp, 19, none⟩ = some (.int .i64 (k : Int)) ∧ W.cell? ⟨kp, 20, none⟩ = some (rv) ∧ W.cell? ⟨kp, 21, none⟩ = some (.int .i64 M0.pc) ∧ W.cell? ⟨kp, 22, none⟩ = some (.int .i64 M0.back) ∧ W.cell? ⟨kp, 23, none⟩ = some (.bool M0.ints) ∧ W.cell? ⟨kp, 24, none⟩ = some (.bool M0.wait) ∧ W.cell? ⟨kp, 25, none⟩ = some (.int .i64 M0.table) ∧ W.cell? ⟨kp, 26, none⟩ = some (.int .i64 M0.count) ∧ W.cell? ⟨kp, 27, none⟩ = some (.int .i64 M0.fin) ∧ W.cell? ⟨kp, 28, none⟩ = some (nilv) ∧ W.cell? ⟨kp, 29, none⟩ = some (ov) ∧ W.cell? ⟨kp, 30, none⟩ = some (.int .i64 M0.ready) ∧ W.cell? ⟨kp, 31, none⟩ = some (.int .i64 M0.want) ∧ W.cell? ⟨kp, 32, none⟩ = some (hptr sp) ∧ W.cell? ⟨kp, 33, none⟩ = some (.int .i64 wo)) := fun W hW => by
          have hc : ∀ j v, ([.int .i64 (k : Int), rv, .int .i64 M0.pc, .int .i64 M0.back, .bool M0.ints, .bool M0.wait, .int .i64 M0.table, .int .i64 M0.count, .int .i64 M0.fin, nilv, ov, .int .i64 M0.ready, .int .i64 M0.want, hptr sp, .int .i64 wo] : List Value)[j]? = some v → W.cell? ⟨kp, 19 + j, none⟩ = some v := fun j v hj => (hW.cell (p := ⟨kp, 19 + j, none⟩) (lt_of_block p1.at_.box)).trans (hr9 j v hj)
          exact ⟨hc 0 _ rfl, hc 1 _ rfl, hc 2 _ rfl, hc 3 _ rfl, hc 4 _ rfl, hc 5 _ rfl, hc 6 _ rfl, hc 7 _ rfl, hc 8 _ rfl, hc 9 _ rfl, hc 10 _ rfl, hc 11 _ rfl, hc 12 _ rfl, hc 13 _ rfl, hc 14 _ rfl⟩
        have HT9 : Hid (∀ W, Below W8.heap.size W8 W → W.heap[w.heap.size]? = some (.cells zeroM 37 (0, 0))) := fun W hW => by
          have h4 := HT4.out W8 S9 (HS.out.1.trans p1)
          rw [hW.block _ (lt_of_block h4)]
          exact h4
        have HCP : Hid (∀ W u, Below W8.heap.size W8 W → OwnI W W8.heap.size u M0.mem → Calls Tryz.prog 78 #[.agg (M0.cells rv u ov)] W fun e w' => ∃ D1 f1 D2 f2 D3 f3, e = .returned (.agg #[.slice D1 M0.regs.length f1, .int .i64 M0.pc, .int .i64 M0.back, .bool M0.ints, .bool M0.wait, .int .i64 M0.table, .int .i64 M0.count, .int .i64 M0.fin, .slice D2 M0.mem.length f2, .slice D3 M0.out.length f3, .int .i64 M0.ready, .int .i64 M0.want]) ∧ OwnM w' W.heap.size (.slice D1 M0.regs.length f1) (.slice D2 M0.mem.length f2) (.slice D3 M0.out.length f3) M0 ∧ Below W.heap.size W w') := fun W u hW hu => by
          have hf := HP9.out.2.2.2.2.2.1.fits
          refine (CpuCopy_own M0 rv u ov W ⟨(HP9.out.2.2.2.1.at hf.regs).below hW, hu.at hf.mem, (HP9.out.2.2.2.2.1.at hf.out).below hW⟩).mono ?_
          rintro e w' ⟨a, b, c, rfl, ho, hb⟩
          obtain ⟨D1, f1, D2, f2, D3, f3, rfl, rfl, rfl⟩ := ho.shape
          exact ⟨D1, f1, D2, f2, D3, f3, rfl, ho, hb⟩
        obtain ⟨q0, q1, q2, q3, q4, q5, q6, q7, q8, q9, q10, q11, q12, q13, q14⟩ := HCK9.out W8 (Below.refl _ _)
        obtain ⟨-, -, -, -, -, -, -, -, uf, ul⟩ := sk_cells p1.at_.box
        have HFIN : Hid (∀ w9 w10 D1 f1 D2 f2 D3 f3, Below W8.heap.size W8 w9 → Below w9.heap.size w9 w10 → OwnM w10 w9.heap.size (.slice D1 M0.regs.length f1) (.slice D2 M0.mem.length f2) (.slice D3 M0.out.length f3) M0 → ∀ W', Chg (fun b => b = w.heap.size) w10 W' → SeekPost w lo hp kp F E K ev im L cnt S k (.returned (.tuple #[.agg #[.slice D1 M0.regs.length f1, .int .i64 M0.pc, .int .i64 M0.back, .bool M0.ints, .bool M0.wait, .int .i64 M0.table, .int .i64 M0.count, .int .i64 M0.fin, .slice D2 M0.mem.length f2, .slice D3 M0.out.length f3, .int .i64 M0.ready, .int .i64 M0.want], .int .i64 wo, .int .i64 0])) W') := fun w9 w10 D1 f1 D2 f2 D3 f3 hb9 hb10 ho10 W' hc => by
          have hb := hb9.trans (hb10.mono hb9.size)
          have hT := (HH.out.2.2.2.2.2.1.trans (HS.out.1.trans HP9.out.1)).trans (SkTo.same HP9.out.1.at_ hb)
          have h4 := lt_of_block (HT4.out W8 S9 (HS.out.1.trans HP9.out.1))
          have h9 := hb9.size
          have hoff : ∀ {u : Value} {l : List Int}, OwnI w10 w9.heap.size u l → OwnI W' w.heap.size u l ∧ Off (S9.foot kp) u := fun hu => ⟨ownsRow_mono (hc.own hu (fun g hg e => by have := (hu.lt g hg).1; omega)) (by omega), fun g hg e => by have := (hu.lt g hg).1; have := HP9.out.1.at_.foot_lt e; omega⟩
          unfold SeekPost
          rw [← HP9.out.2.2.2.2.2.2.1, ← HP9.out.2.2.2.2.2.2.2]
          exact ⟨S9, hT.far hc ⟨_, HT9.out w10 hb⟩ (Nat.le_refl _), Or.inl ⟨_, _, _, rfl, ⟨(hoff ho10.regs).1, (hoff ho10.mem).1, (hoff ho10.out).1, ho10.rm, ho10.ro, ho10.mo⟩, (hoff ho10.regs).2, (hoff ho10.mem).2, (hoff ho10.out).2, HP9.out.2.1, HP9.out.2.2.1⟩⟩
        clear p1 p2 p3 p4 p5 p6 hW8 hM0 hwo hrv hov hsp9 hqc hr9 hmem9 j19 j27 jf jl
        have hkw : kp < w.heap.size := lt_of_block HH.out.1.box
        have hn1 : ¬ w.heap.size = kp := by omega
        have hn2 : ¬ kp = w.heap.size := by omega
        go_region_held3 (fun w' => w'.cell? ⟨kp, 19, none⟩ = some (.int .i64 (k : Int)) ∧ w'.cell? ⟨kp, 20, none⟩ = some (rv) ∧ w'.cell? ⟨kp, 21, none⟩ = some (.int .i64 M0.pc) ∧ w'.cell? ⟨kp, 22, none⟩ = some (.int .i64 M0.back) ∧ w'.cell? ⟨kp, 23, none⟩ = some (.bool M0.ints) ∧ w'.cell? ⟨kp, 24, none⟩ = some (.bool M0.wait) ∧ w'.cell? ⟨kp, 25, none⟩ = some (.int .i64 M0.table) ∧ w'.cell? ⟨kp, 26, none⟩ = some (.int .i64 M0.count) ∧ w'.cell? ⟨kp, 27, none⟩ = some (.int .i64 M0.fin) ∧ w'.cell? ⟨kp, 28, none⟩ = some (nilv) ∧ w'.cell? ⟨kp, 29, none⟩ = some (ov) ∧ w'.cell? ⟨kp, 30, none⟩ = some (.int .i64 M0.ready) ∧ w'.cell? ⟨kp, 31, none⟩ = some (.int .i64 M0.want) ∧ w'.cell? ⟨kp, 32, none⟩ = some (hptr sp) ∧ w'.cell? ⟨kp, 33, none⟩ = some (.int .i64 wo)) (go_keep)
          (first
            | (go_at_call 100; (first | refine (HWH.out _ (Below.refl _ _)).mono ?_ | refine (HWH.out _ ((Below.refl _ W8).drew)).mono ?_); rintro e w9 ⟨u, rfl, hu9, hb9⟩; have H9 : Hid (OwnI w9 W8.heap.size u M0.mem ∧ Below W8.heap.size W8 w9) := (by first | exact ⟨hu9, hb9⟩ | exact ⟨hu9, ((Below.refl _ W8).drew).trans hb9⟩); clear hu9 hb9; obtain ⟨r0, r1, r2, r3, r4, r5, r6, r7, r8, r9, r10, r11, r12, r13, r14⟩ := HCK9.out w9 H9.out.2)
            | (go_at_call 78; (first | refine (HCP.out _ u H9.out.2 H9.out.1).mono ?_ | refine (HCP.out _ u H9.out.2.drew (H9.out.1.below ((Below.refl _ w9).drew))).mono ?_); rintro e w10 ⟨D1, f1, D2, f2, D3, f3, rfl, ho10, hb10⟩; have H10 : Hid (∃ w9, Below W8.heap.size W8 w9 ∧ Below w9.heap.size w9 w10 ∧ OwnM w10 w9.heap.size (.slice D1 M0.regs.length f1) (.slice D2 M0.mem.length f2) (.slice D3 M0.out.length f3) M0) := (by first | exact ⟨_, H9.out.2, hb10, ho10⟩ | exact ⟨_, H9.out.2.drew, hb10, ho10⟩); clear ho10 hb10; obtain ⟨w9', n1, n2, -⟩ := H10.out; have hx10 := HT9.out w10 (n1.trans (n2.mono n1.size)); obtain ⟨s0, s1, s2, s3, s4, s5, s6, s7, s8, s9, s10, s11, s12, s13, s14⟩ := HCK9.out w10 (n1.trans (n2.mono n1.size)); obtain ⟨⟨z0, z1, z2, z3, z4, z5, z6, z7, z8, z9, z10, z11⟩, zf, zl⟩ := twelve_cells hx10; clear n1 n2 hx10))
        all_goals
          go_wp2_with fail
          refine bodyPost_ret (v := .tuple #[.agg #[.slice D1 M0.regs.length f1, .int .i64 M0.pc, .int .i64 M0.back, .bool M0.ints, .bool M0.wait, .int .i64 M0.table, .int .i64 M0.count, .int .i64 M0.fin, .slice D2 M0.mem.length f2, .slice D3 M0.out.length f3, .int .i64 M0.ready, .int .i64 M0.want], .int .i64 wo, .int .i64 0]) (by simp [results, Tryz.results66, go_sem, z0, z1, z2, z3, z4, z5, z6, z7, z8, z9, z10, z11]) rfl ?_
          obtain ⟨w9', n1, n2, n3⟩ := H10.out
          refine HFIN.out w9' w10 D1 f1 D2 f2 D3 f3 n1 n2 n3 _ ?_
          repeat (refine Chg.set ?_ (by exact Or.inl rfl) _)
          exact Chg.refl _ _
    · have hlt1 : ¬ (n : Int) < (k : Int) := by omega
      go_upto_region 9 with fail
      obtain ⟨S9, p1, p2, p3, p4, p5, p6⟩ := place_end (cnt := cnt) HS.out.1.at_ HS.out.2.1 (Nat.le_trans HH.out.2.2.1 (HH.out.2.2.2.2.2.1.trans HS.out.1).chg.size) HH.out.2.2.2.1 (by rw [HS.out.2.2.1]; exact hsp) (Or.inl (by rw [HS.out.2.2.1]; omega)) rfl
      obtain ⟨W8, hW8⟩ : ∃ W8, W8 = wr.setCell ⟨kp, 19, none⟩ (.int .i64 (k : Int)) := ⟨_, rfl⟩
      rw [← hW8] at p1 ⊢
      obtain ⟨M0, hM0⟩ : ∃ M0, M0 = replayM im L k := ⟨_, rfl⟩
      obtain ⟨wo, hwo⟩ : ∃ wo, wo = replayW im L k := ⟨_, rfl⟩
      rw [← hM0] at p4
      rw [← hwo] at p5
      obtain ⟨rv, hrv⟩ : ∃ rv, rv = S9.pn.rv := ⟨_, rfl⟩
      obtain ⟨ov, hov⟩ : ∃ ov, ov = S9.pn.ov := ⟨_, rfl⟩
      obtain ⟨sp, hsp9⟩ : ∃ sp, sp = S9.pn.sp := ⟨_, rfl⟩
      have hqc : S9.pn.cells = [.int .i64 (k : Int), rv, .int .i64 M0.pc, .int .i64 M0.back, .bool M0.ints, .bool M0.wait, .int .i64 M0.table, .int .i64 M0.count, .int .i64 M0.fin, nilv, ov, .int .i64 M0.ready, .int .i64 M0.want, hptr sp, .int .i64 wo] := by unfold PtV.cells; rw [p3, p4, p5, hrv, hov, hsp9]
      have hr9 := (sk_now p1.at_.box).1
      rw [hqc] at hr9
      have hmem9 : wordsOf S9.D S9.sn = M0.mem := by
        obtain ⟨n9, c1, _, _, c4, _⟩ := p2.inow
        have : n9 = k := by omega
        rw [c4, this, hM0]
      have HWH : Hid (∀ W, Below W8.heap.size W8 W → Calls Tryz.prog 100 #[.agg #[.int .i64 (k : Int), rv, .int .i64 M0.pc, .int .i64 M0.back, .bool M0.ints, .bool M0.wait, .int .i64 M0.table, .int .i64 M0.count, .int .i64 M0.fin, nilv, ov, .int .i64 M0.ready, .int .i64 M0.want, hptr sp, .int .i64 wo]] W fun e w' => ∃ u, e = .returned (.agg (M0.cells rv u ov)) ∧ OwnI w' W.heap.size u M0.mem ∧ Below W.heap.size W w') := fun W hW => by
        obtain ⟨A1, e1, f1⟩ := p1.at_.gn.regs.shape
        obtain ⟨A2, e2, f2⟩ := p1.at_.gn.out.shape
        have := whole_any lo hp S9.hv S9.D S9.R S9.sn (S9.s0 :: S9.sn :: S9.ss) S9.pn W (p1.at_.host.below hW) (p1.at_.spn.below hW) p1.at_.sys (by simp) ⟨_, _, _, f1⟩ ⟨_, _, _, f2⟩
        rw [hmem9, p4, ← hrv, ← hov, hqc] at this
        exact this
      have HP9 : Hid (SkTo wr lo hp kp F E K ev S1 W8 S9 ∧ SkOk (replayM im L) (replayW im L) cnt K S9 ∧ S9.pn.place = (k : Int) ∧ OwnI W8 lo rv M0.regs ∧ OwnI W8 lo ov M0.out ∧ MayP M0 ∧ M0 = replayM im L k ∧ wo = replayW im L k) := ⟨p1, p2, p3, by have := p1.at_.gn.regs; rw [p4, ← hrv] at this; exact this, by have := p1.at_.gn.out; rw [p4, ← hov] at this; exact this, by rw [hM0]; exact (replay_may HH.out.2.2.2.2.2.2.2.1 HH.out.2.2.2.2.2.2.2.2 k (by have := HH.out.2.2.2.1; have := HH.out.2.2.2.2.1; omega)).1, hM0, hwo⟩
      have HCK9 : Hid (∀ W, Below W8.heap.size W8 W → W.cell? ⟨kp, 19, none⟩ = some (.int .i64 (k : Int)) ∧ W.cell? ⟨kp, 20, none⟩ = some (rv) ∧ W.cell? ⟨kp, 21, none⟩ = some (.int .i64 M0.pc) ∧ W.cell? ⟨kp, 22, none⟩ = some (.int .i64 M0.back) ∧ W.cell? ⟨kp, 23, none⟩ = some (.bool M0.ints) ∧ W.cell? ⟨kp, 24, none⟩ = some (.bool M0.wait) ∧ W.cell? ⟨kp, 25, none⟩ = some (.int .i64 M0.table) ∧ W.cell? ⟨kp, 26, none⟩ = some (.int .i64 M0.count) ∧ W.cell? ⟨kp, 27, none⟩ = some (.int .i64 M0.fin) ∧ W.cell? ⟨kp, 28, none⟩ = some (nilv) ∧ W.cell? ⟨kp, 29, none⟩ = some (ov) ∧ W.cell? ⟨kp, 30, none⟩ = some (.int .i64 M0.ready) ∧ W.cell? ⟨kp, 31, none⟩ = some (.int .i64 M0.want) ∧ W.cell? ⟨kp, 32, none⟩ = some (hptr sp) ∧ W.cell? ⟨kp, 33, none⟩ = some (.int .i64 wo)) := fun W hW => by
        have hc : ∀ j v, ([.int .i64 (k : Int), rv, .int .i64 M0.pc, .int .i64 M0.back, .bool M0.ints, .bool M0.wait, .int .i64 M0.table, .int .i64 M0.count, .int .i64 M0.fin, nilv, ov, .int .i64 M0.ready, .int .i64 M0.want, hptr sp, .int .i64 wo] : List Value)[j]? = some v → W.cell? ⟨kp, 19 + j, none⟩ = some v := fun j v hj => (hW.cell (p := ⟨kp, 19 + j, none⟩) (lt_of_block p1.at_.box)).trans (hr9 j v hj)
        exact ⟨hc 0 _ rfl, hc 1 _ rfl, hc 2 _ rfl, hc 3 _ rfl, hc 4 _ rfl, hc 5 _ rfl, hc 6 _ rfl, hc 7 _ rfl, hc 8 _ rfl, hc 9 _ rfl, hc 10 _ rfl, hc 11 _ rfl, hc 12 _ rfl, hc 13 _ rfl, hc 14 _ rfl⟩
      have HT9 : Hid (∀ W, Below W8.heap.size W8 W → W.heap[w.heap.size]? = some (.cells zeroM 37 (0, 0))) := fun W hW => by
        have h4 := HT4.out W8 S9 (HS.out.1.trans p1)
        rw [hW.block _ (lt_of_block h4)]
        exact h4
      have HCP : Hid (∀ W u, Below W8.heap.size W8 W → OwnI W W8.heap.size u M0.mem → Calls Tryz.prog 78 #[.agg (M0.cells rv u ov)] W fun e w' => ∃ D1 f1 D2 f2 D3 f3, e = .returned (.agg #[.slice D1 M0.regs.length f1, .int .i64 M0.pc, .int .i64 M0.back, .bool M0.ints, .bool M0.wait, .int .i64 M0.table, .int .i64 M0.count, .int .i64 M0.fin, .slice D2 M0.mem.length f2, .slice D3 M0.out.length f3, .int .i64 M0.ready, .int .i64 M0.want]) ∧ OwnM w' W.heap.size (.slice D1 M0.regs.length f1) (.slice D2 M0.mem.length f2) (.slice D3 M0.out.length f3) M0 ∧ Below W.heap.size W w') := fun W u hW hu => by
        have hf := HP9.out.2.2.2.2.2.1.fits
        refine (CpuCopy_own M0 rv u ov W ⟨(HP9.out.2.2.2.1.at hf.regs).below hW, hu.at hf.mem, (HP9.out.2.2.2.2.1.at hf.out).below hW⟩).mono ?_
        rintro e w' ⟨a, b, c, rfl, ho, hb⟩
        obtain ⟨D1, f1, D2, f2, D3, f3, rfl, rfl, rfl⟩ := ho.shape
        exact ⟨D1, f1, D2, f2, D3, f3, rfl, ho, hb⟩
      obtain ⟨q0, q1, q2, q3, q4, q5, q6, q7, q8, q9, q10, q11, q12, q13, q14⟩ := HCK9.out W8 (Below.refl _ _)
      obtain ⟨-, -, -, -, -, -, -, -, uf, ul⟩ := sk_cells p1.at_.box
      have HFIN : Hid (∀ w9 w10 D1 f1 D2 f2 D3 f3, Below W8.heap.size W8 w9 → Below w9.heap.size w9 w10 → OwnM w10 w9.heap.size (.slice D1 M0.regs.length f1) (.slice D2 M0.mem.length f2) (.slice D3 M0.out.length f3) M0 → ∀ W', Chg (fun b => b = w.heap.size) w10 W' → SeekPost w lo hp kp F E K ev im L cnt S k (.returned (.tuple #[.agg #[.slice D1 M0.regs.length f1, .int .i64 M0.pc, .int .i64 M0.back, .bool M0.ints, .bool M0.wait, .int .i64 M0.table, .int .i64 M0.count, .int .i64 M0.fin, .slice D2 M0.mem.length f2, .slice D3 M0.out.length f3, .int .i64 M0.ready, .int .i64 M0.want], .int .i64 wo, .int .i64 0])) W') := fun w9 w10 D1 f1 D2 f2 D3 f3 hb9 hb10 ho10 W' hc => by
        have hb := hb9.trans (hb10.mono hb9.size)
        have hT := (HH.out.2.2.2.2.2.1.trans (HS.out.1.trans HP9.out.1)).trans (SkTo.same HP9.out.1.at_ hb)
        have h4 := lt_of_block (HT4.out W8 S9 (HS.out.1.trans HP9.out.1))
        have h9 := hb9.size
        have hoff : ∀ {u : Value} {l : List Int}, OwnI w10 w9.heap.size u l → OwnI W' w.heap.size u l ∧ Off (S9.foot kp) u := fun hu => ⟨ownsRow_mono (hc.own hu (fun g hg e => by have := (hu.lt g hg).1; omega)) (by omega), fun g hg e => by have := (hu.lt g hg).1; have := HP9.out.1.at_.foot_lt e; omega⟩
        unfold SeekPost
        rw [← HP9.out.2.2.2.2.2.2.1, ← HP9.out.2.2.2.2.2.2.2]
        exact ⟨S9, hT.far hc ⟨_, HT9.out w10 hb⟩ (Nat.le_refl _), Or.inl ⟨_, _, _, rfl, ⟨(hoff ho10.regs).1, (hoff ho10.mem).1, (hoff ho10.out).1, ho10.rm, ho10.ro, ho10.mo⟩, (hoff ho10.regs).2, (hoff ho10.mem).2, (hoff ho10.out).2, HP9.out.2.1, HP9.out.2.2.1⟩⟩
      clear p1 p2 p3 p4 p5 p6 hW8 hM0 hwo hrv hov hsp9 hqc hr9 hmem9 j19 j27 jf jl
      have hkw : kp < w.heap.size := lt_of_block HH.out.1.box
      have hn1 : ¬ w.heap.size = kp := by omega
      have hn2 : ¬ kp = w.heap.size := by omega
      go_region_held3 (fun w' => w'.cell? ⟨kp, 19, none⟩ = some (.int .i64 (k : Int)) ∧ w'.cell? ⟨kp, 20, none⟩ = some (rv) ∧ w'.cell? ⟨kp, 21, none⟩ = some (.int .i64 M0.pc) ∧ w'.cell? ⟨kp, 22, none⟩ = some (.int .i64 M0.back) ∧ w'.cell? ⟨kp, 23, none⟩ = some (.bool M0.ints) ∧ w'.cell? ⟨kp, 24, none⟩ = some (.bool M0.wait) ∧ w'.cell? ⟨kp, 25, none⟩ = some (.int .i64 M0.table) ∧ w'.cell? ⟨kp, 26, none⟩ = some (.int .i64 M0.count) ∧ w'.cell? ⟨kp, 27, none⟩ = some (.int .i64 M0.fin) ∧ w'.cell? ⟨kp, 28, none⟩ = some (nilv) ∧ w'.cell? ⟨kp, 29, none⟩ = some (ov) ∧ w'.cell? ⟨kp, 30, none⟩ = some (.int .i64 M0.ready) ∧ w'.cell? ⟨kp, 31, none⟩ = some (.int .i64 M0.want) ∧ w'.cell? ⟨kp, 32, none⟩ = some (hptr sp) ∧ w'.cell? ⟨kp, 33, none⟩ = some (.int .i64 wo)) (go_keep)
        (first
          | (go_at_call 100; (first | refine (HWH.out _ (Below.refl _ _)).mono ?_ | refine (HWH.out _ ((Below.refl _ W8).drew)).mono ?_); rintro e w9 ⟨u, rfl, hu9, hb9⟩; have H9 : Hid (OwnI w9 W8.heap.size u M0.mem ∧ Below W8.heap.size W8 w9) := (by first | exact ⟨hu9, hb9⟩ | exact ⟨hu9, ((Below.refl _ W8).drew).trans hb9⟩); clear hu9 hb9; obtain ⟨r0, r1, r2, r3, r4, r5, r6, r7, r8, r9, r10, r11, r12, r13, r14⟩ := HCK9.out w9 H9.out.2)
          | (go_at_call 78; (first | refine (HCP.out _ u H9.out.2 H9.out.1).mono ?_ | refine (HCP.out _ u H9.out.2.drew (H9.out.1.below ((Below.refl _ w9).drew))).mono ?_); rintro e w10 ⟨D1, f1, D2, f2, D3, f3, rfl, ho10, hb10⟩; have H10 : Hid (∃ w9, Below W8.heap.size W8 w9 ∧ Below w9.heap.size w9 w10 ∧ OwnM w10 w9.heap.size (.slice D1 M0.regs.length f1) (.slice D2 M0.mem.length f2) (.slice D3 M0.out.length f3) M0) := (by first | exact ⟨_, H9.out.2, hb10, ho10⟩ | exact ⟨_, H9.out.2.drew, hb10, ho10⟩); clear ho10 hb10; obtain ⟨w9', n1, n2, -⟩ := H10.out; have hx10 := HT9.out w10 (n1.trans (n2.mono n1.size)); obtain ⟨s0, s1, s2, s3, s4, s5, s6, s7, s8, s9, s10, s11, s12, s13, s14⟩ := HCK9.out w10 (n1.trans (n2.mono n1.size)); obtain ⟨⟨z0, z1, z2, z3, z4, z5, z6, z7, z8, z9, z10, z11⟩, zf, zl⟩ := twelve_cells hx10; clear n1 n2 hx10))
      all_goals
        go_wp2_with fail
        refine bodyPost_ret (v := .tuple #[.agg #[.slice D1 M0.regs.length f1, .int .i64 M0.pc, .int .i64 M0.back, .bool M0.ints, .bool M0.wait, .int .i64 M0.table, .int .i64 M0.count, .int .i64 M0.fin, .slice D2 M0.mem.length f2, .slice D3 M0.out.length f3, .int .i64 M0.ready, .int .i64 M0.want], .int .i64 wo, .int .i64 0]) (by simp [results, Tryz.results66, go_sem, z0, z1, z2, z3, z4, z5, z6, z7, z8, z9, z10, z11]) rfl ?_
        obtain ⟨w9', n1, n2, n3⟩ := H10.out
        refine HFIN.out w9' w10 D1 f1 D2 f2 D3 f3 n1 n2 n3 _ ?_
        repeat (refine Chg.set ?_ (by exact Or.inl rfl) _)
        exact Chg.refl _ _

end Go.Proofs.YtecpblabaelopaaGreatDoor
