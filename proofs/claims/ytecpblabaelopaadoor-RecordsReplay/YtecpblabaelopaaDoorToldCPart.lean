/- Contract of run.Told. -/
import Derived.Test.YtecpblabaelopaaDoorTapePart
import Derived.Test.YtecpblabaelopaaDoorSlCPart
import Derived.Test.YtecpblabaelopaaDoorRepAPart
import Derived.Test.YtecpblabaelopaaDoorByEncodePart
namespace Go.Proofs.YtecpblabaelopaaDoor
open Go.RowKit
set_option maxRecDepth 100000

/-- What told answers. -/
def ToldQ (w : World) (t : Tl) (e : Ending) (w' : World) : Prop :=
  ∃ B cb, e = .returned (.tuple #[.bool t.irq, .slice B t.blk.length cb, .int .i64 t.val]) ∧ IntsAt w' (.slice B t.blk.length cb) t.blk ∧ Below w.heap.size w w'

/-- All from a place on have a greater count. -/
theorem told_stop {L : List Ev} (hs : chkNo L = 0) {k : Int} {j : Nat} (_ : j < L.length) (h1 : k ≤ (L.getD j noEv).at_) (h2 : (L.getD j noEv).at_ ≠ k) : toldL k L = toldL k (L.take j) :=
  told_end k L j fun i hi hl => by
    have := chk_mono hs (i - j) j (by omega)
    rw [show j + (i - j) = i by omega] at this
    omega

set_option maxHeartbeats 4000000 in
theorem told_any (A : Option Addr) (c : Nat) (L : List Ev) (k : Int) (w : World) (h : EvsAt w (.slice A L.length c) L) (hs : chkNo L = 0) (hcap : L.length ≤ c) :
    Calls Tryd.prog 19 #[.slice A L.length c, .int .i64 k] w fun e w' => ToldQ w (toldL k L) e w' := by
  have HEV : Hid (EvsAt w (.slice A L.length c) L ∧ chkNo L = 0) := ⟨h, hs⟩
  have hbd := h.look.1
  clear h hs
  go_enter Tryd.func19, Tryd.ntmps19
  go_wp2_with fail
  refine (Bins_any A c L k w HEV.out.1 HEV.out.2).mono ?_
  rintro e w1 ⟨f, bb, rfl, hf, hlo, hhi, hb1⟩
  have HF : Hid ((∀ j, j < f → (L.getD j noEv).at_ < k) ∧ (∀ j, f ≤ j → j < L.length → k ≤ (L.getD j noEv).at_) ∧ EvsAt w1 (.slice A L.length c) L ∧ Below w.heap.size w w1) := ⟨hlo, hhi, HEV.out.1.below hb1, hb1⟩
  have hf' : (f : Int) ≤ (L.length : Int) := by omega
  have HT0 : Hid (toldL k (L.take f) = noTl) := told_before k L f fun i hi hl => by have := hlo i hi; omega
  clear hlo hhi hb1
  by_cases hlt : f < L.length
  case neg =>
    have e : L.length = f := by omega
    have HE : Hid (toldL k L = noTl) := by
      show _ = _
      have := HT0.out
      rwa [List.take_of_length_le (by omega)] at this
    have hz : ((L.length : Int) - (f : Int)) = 0 := by omega
    have hz2 : L.length - f = 0 := by omega
    by_cases hcf : c = f
    all_goals
      go_wp2_with fail
      go_loopw [4, 5, 6, 21] (fun q v x i wr => q = .bool false ∧ v = .slice none 0 0 ∧ x = .int .i64 0 ∧ i = .int .i64 0 ∧ wr = w1) (fun _ _ _ _ _ => 0)
      case atStart => exact ⟨rfl, rfl, rfl, rfl, rfl⟩
      case round =>
        obtain ⟨rfl, rfl, rfl, rfl, rfl⟩ := hrel
        go_wp2_with fail
        refine bodyPost_ret (v := .tuple #[.bool false, .slice none 0 0, .int .i64 0]) (by simp [results, Tryd.results19, go_sem]) rfl ?_
        rw [HE.out]
        exact ⟨none, 0, rfl, ⟨none, 0, rfl, by simp [noTl], fun h => by simp [noTl] at h⟩, HF.out.2.2.2⟩
  case pos =>
    have hcf : ¬ c = f := by omega
    obtain ⟨b, off, rfl, hb, hc⟩ := HF.out.2.2.1.look.2 (by omega)
    have HC : Hid (b < w1.heap.size ∧ ∀ j, j < L.length → EvAt w1 b (off + j * 3) (L.getD j noEv)) := ⟨hb, hc⟩
    have HLF : Hid (f < L.length) := hlt
    clear hb hc hlt
    go_wp2_with fail
    go_loopw [4, 5, 6, 21] (fun q v x i wr => ∃ (n : Nat) (B : Option Addr) (cb : Nat), f + n ≤ L.length ∧ q = .bool (toldL k (L.take (f + n))).irq ∧ v = .slice B (toldL k (L.take (f + n))).blk.length cb ∧ x = .int .i64 (toldL k (L.take (f + n))).val ∧ i = .int .i64 (n : Int) ∧ Hid (IntsAt wr (.slice B (toldL k (L.take (f + n))).blk.length cb) (toldL k (L.take (f + n))).blk ∧ Below w1.heap.size w1 wr)) (fun _ _ _ i _ => (L.length - f) - (intOf i).toNat)
    case atStart =>
      refine ⟨0, none, 0, by have := HLF.out; omega, ?_, ?_, ?_, rfl, ?_, Below.refl _ _⟩
      all_goals rw [Nat.add_zero, HT0.out]
      · rfl
      · rfl
      · rfl
      · exact ⟨none, 0, rfl, by simp [noTl], fun h => by simp [noTl] at h⟩
    case round =>
      obtain ⟨n, B, cb, hn, rfl, rfl, rfl, rfl, HI⟩ := hrel
      obtain ⟨T, hT⟩ : ∃ T, T = toldL k (L.take (f + n)) := ⟨_, rfl⟩
      rw [← hT] at HI ⊢
      have HTT : Hid (T = toldL k (L.take (f + n))) := hT
      clear hT
      by_cases hl : f + n < L.length
      · have hl1 : (n : Int) < ((L.length - f : Nat) : Int) := by omega
        have hl2 : (n : Int) < (L.length : Int) - (f : Int) := by omega
        have hw2 : IntKind.i64.wrap ((n : Int) + 1) = (n : Int) + 1 := IntWalk.i64_in _ (by omega)
        obtain ⟨e0, e1, v, e2, hv⟩ := HC.out.2 (f + n) hl
        obtain ⟨X, hX⟩ : ∃ X, X = L.getD (f + n) noEv := ⟨_, rfl⟩
        rw [← hX] at e0 e1 hv
        have HX : Hid (X = L.getD (f + n) noEv ∧ f + n < L.length) := ⟨hX, hl⟩
        have HV : Hid (IntsAt wr v X.data) := hv.below HI.out.2
        have HEO : Hid (evNo X = 0) := by show _ = _; rw [hX]; exact verdict_ev (chk_verdict HEV.out.2 _ hl)
        have g0 := (HI.out.2.cell (p := ⟨b, off + (f + n) * 3, none⟩) HC.out.1).trans e0
        have g1 := (HI.out.2.cell (p := ⟨b, off + (f + n) * 3 + 1, none⟩) HC.out.1).trans e1
        have g2 := (HI.out.2.cell (p := ⟨b, off + (f + n) * 3 + 2, none⟩) HC.out.1).trans e2
        rw [show off + (f + n) * 3 = off + f * 3 + n * 3 by omega] at g0 g1 g2
        obtain ⟨Av, cv, rfl, -, -⟩ := hv
        have gl : b < wr.heap.size := Nat.lt_of_lt_of_le HC.out.1 HI.out.2.size
        obtain ⟨xa, hxa⟩ : ∃ xa, xa = X.at_ := ⟨_, rfl⟩
        obtain ⟨xk, hxk⟩ : ∃ xk, xk = X.kind := ⟨_, rfl⟩
        obtain ⟨xn, hxn⟩ : ∃ xn, xn = X.data.length := ⟨_, rfl⟩
        rw [← hxa] at g0
        rw [← hxk] at g1
        rw [← hxn] at g2 HV
        have HXX : Hid (xa = X.at_ ∧ xk = X.kind ∧ xn = X.data.length) := ⟨hxa, hxk, hxn⟩
        clear e0 e1 e2 hX hxa hxk hxn hl
        by_cases ha : xa = k
        case neg =>
          have d0 : (xa != k) = true := by simpa using ha
          have HE : Hid (toldL k L = T) := by
            show _ = _
            rw [HTT.out]
            refine told_stop HEV.out.2 HX.out.2 (HF.out.2.1 _ (by omega) HX.out.2) ?_
            rw [← HX.out.1, ← HXX.out.1]
            exact ha
          clear ha
          go_wp2_with fail
          refine bodyPost_ret (v := .tuple #[.bool T.irq, .slice B T.blk.length cb, .int .i64 T.val]) (by simp [results, Tryd.results19, go_sem]) rfl ?_
          rw [HE.out]
          exact ⟨B, cb, rfl, HI.out.1.below (below_alloc _ _), (HF.out.2.2.2.trans (HI.out.2.mono HF.out.2.2.2.size)).alloc (by have := HI.out.2.size; have := HF.out.2.2.2.size; omega) _⟩
        case pos =>
          have d0 : (xa != k) = false := by simp [ha]
          have HBW : Hid (∀ o, Below w1.heap.size w1 (wr.alloc o)) := fun o => HI.out.2.alloc HI.out.2.size o
          have HTN : Hid (toldL k (L.take (f + (n + 1))) = tellE k T X) := by show _ = _; rw [← Nat.add_assoc, toldL_take k L (f + n) HX.out.2, ← HX.out.1, ← HTT.out]
          have HAT : Hid (X.at_ = k) := by show _ = _; rw [← HXX.out.1]; exact ha
          clear ha
          by_cases k1 : xk = 1
          · have c1 : (xk == 1) = true := by simp [k1]
            have HTE : Hid (tellE k T X = { T with irq := true }) := by show _ = _; rw [tellE, if_pos HAT.out, if_pos (by rw [← HXX.out.2.1]; exact k1)]
            clear k1
            go_wp2_with fail
            refine ⟨⟨n + 1, B, cb, by have := HX.out.2; omega, ?_, ?_, ?_, by go_num, ?_⟩, ?_⟩
            · rw [HTN.out, HTE.out]
            · rw [HTN.out, HTE.out]
            · rw [HTN.out, HTE.out]
            · rw [HTN.out, HTE.out]; exact ⟨HI.out.1.below (below_alloc _ _), HBW.out _⟩
            · have := HX.out.2; simp [intOf]; omega
          · have c1 : (xk == 1) = false := by simpa using k1
            by_cases k2 : xk = 2
            · have c2 : (xk == 2) = true := by simp [k2]
              have HTE : Hid (tellE k T X = { T with blk := X.data }) := by show _ = _; rw [tellE, if_pos HAT.out, if_neg (by rw [← HXX.out.2.1]; exact k1), if_pos (by rw [← HXX.out.2.1]; exact k2)]
              clear k1 k2
              go_wp2_with fail
              refine (Clone_any _ X.data _ (HV.out.below (below_alloc _ _))).mono ?_
              rintro e w3 ⟨A2, n2, rfl, ho, hb3⟩
              have HO : Hid (IntsAt w3 (.slice A2 X.data.length n2) X.data ∧ Below w1.heap.size w1 w3) := ⟨OwnI.at ho HV.out.bound, (HBW.out _).trans (hb3.mono (HBW.out _).size)⟩
              clear ho hb3
              go_wp2_with fail
              refine ⟨⟨n + 1, A2, n2, by have := HX.out.2; omega, ?_, ?_, ?_, by go_num, ?_⟩, ?_⟩
              · rw [HTN.out, HTE.out]
              · rw [HTN.out, HTE.out]
              · rw [HTN.out, HTE.out]
              · rw [HTN.out, HTE.out]; exact HO.out
              · have := HX.out.2; simp [intOf]; omega
            · have c2 : (xk == 2) = false := by simpa using k2
              have hb3 := (evNo_bd HEO.out)
              have k3 : xk = 3 := by have := hb3.1; rw [← HXX.out.2.1] at this; omega
              have hlen : xn = 1 := by
                have h4 := hb3.2.2.2
                rw [← HXX.out.2.1, ← HXX.out.2.2, k3] at h4
                have h5 : (xn : Int) = 1 := h4
                omega
              have c3 : (xk == 3) = true := by simp [k3]
              subst hlen
              have HTE : Hid (tellE k T X = { T with val := X.data.getD 0 0 }) := by show _ = _; rw [tellE, if_pos HAT.out, if_neg (by rw [← HXX.out.2.1]; exact k1), if_neg (by rw [← HXX.out.2.1]; exact k2)]
              have hd1 : X.data.length = 1 := HXX.out.2.2.symm
              obtain ⟨Aw, cw, ew, -, hcw⟩ := HV.out
              rw [hd1] at ew hcw
              simp only [Value.slice.injEq, true_and] at ew
              obtain ⟨rfl, rfl⟩ := ew
              obtain ⟨bd, od, rfl, hbd2, hcd⟩ := hcw (by omega)
              have g3 := hcd 0 (by omega)
              rw [Nat.add_zero] at g3
              obtain ⟨y, hy⟩ : ∃ y, y = X.data.getD 0 0 := ⟨_, rfl⟩
              rw [← hy] at g3
              have HY : Hid (y = X.data.getD 0 0) := hy
              have nw : ¬ bd = wr.heap.size := by omega
              clear hb3 k1 k2 k3 hcd hcw hy hd1
              go_wp2_with fail
              refine ⟨⟨n + 1, B, cb, by have := HX.out.2; omega, ?_, ?_, ?_, by go_num, ?_⟩, ?_⟩
              · rw [HTN.out, HTE.out]
              · rw [HTN.out, HTE.out]
              · rw [HTN.out, HTE.out, HY.out]
              · rw [HTN.out, HTE.out]; exact ⟨HI.out.1.below (below_alloc _ _), HBW.out _⟩
              · have := HX.out.2; simp [intOf]; omega
      · have hl1 : ¬ (n : Int) < ((L.length - f : Nat) : Int) := by omega
        have hl2 : ¬ (n : Int) < (L.length : Int) - (f : Int) := by omega
        have HE : Hid (toldL k L = T) := by show _ = _; rw [HTT.out, List.take_of_length_le (by omega)]
        clear hl
        go_wp2_with fail
        refine bodyPost_ret (v := .tuple #[.bool T.irq, .slice B T.blk.length cb, .int .i64 T.val]) (by simp [results, Tryd.results19, go_sem]) rfl ?_
        rw [HE.out]
        exact ⟨B, cb, rfl, HI.out.1, HF.out.2.2.2.trans (HI.out.2.mono HF.out.2.2.2.size)⟩

end Go.Proofs.YtecpblabaelopaaDoor

/- A replay, plainly. -/

namespace Go.Proofs.YtecpblabaelopaaDoor
open Go.RowKit
set_option maxRecDepth 100000

/-- The guest behind so many instructions. -/
def replayM (im : List Int) (L : List Ev) : Nat → Mach
  | 0 => newM im
  | n + 1 => ((replayM im L n).step (toldL n L).irq (toldL n L).blk (toldL n L).val).1
theorem replay_may {im : List Int} {L : List Ev} (hi : newNo im = 0) (hL : chkNo L = 0) : ∀ n, n ≤ 3000 → MayP (replayM im L n) ∧ (replayM im L n).count ≤ n
  | 0, _ => ⟨newM_may hi, Int.le_refl _⟩
  | n + 1, hn => by
    obtain ⟨h1, h2⟩ := replay_may hi hL n (by omega)
    have ht := toldL_may hL n
    refine ⟨h1.step _ ht.all ht.len ht.val (by omega), ?_⟩
    have := step_count (replayM im L n) (toldL n L).irq (toldL n L).blk (toldL n L).val
    show ((replayM im L n).step _ _ _).1.count ≤ ((n + 1 : Nat) : Int)
    omega

def noMach12 : Mach := ⟨[], 0, 0, false, false, 0, 0, 0, [], [], 0, 0⟩
def replayG (im bs : List Int) (cnt n : Int) : Mach × Int :=
  if (tapeG im bs cnt).1 ≠ 0 then (noMach12, (tapeG im bs cnt).1) else if inB n 0 cnt = false then (noMach12, 2) else (replayM im (tapeG im bs cnt).2 n.toNat, 0)
theorem tapeG_ok {im bs : List Int} {cnt : Int} (h : (tapeG im bs cnt).1 = 0) : newNo im = 0 ∧ inB cnt 0 3000 = true ∧ (decD bs).1 = 0 ∧ (tapeG im bs cnt).2 = (decD bs).2 := by
  unfold tapeG at h ⊢
  split at h
  · rename_i h1; exact absurd h h1
  · rename_i h1
    split at h
    · cases h
    · rename_i h2
      split at h
      · rename_i h3; exact absurd h h3
      · rename_i h3
        split at h
        · cases h
        · rename_i h4
          rw [if_neg h1, if_neg h2, if_neg h3, if_neg h4]
          exact ⟨by simpa using h1, by simpa using h2, by simpa using h3, rfl⟩

end Go.Proofs.YtecpblabaelopaaDoor

/- What was recorded is replayed, plainly: the events of a recording tell each step what it was told. -/

namespace Go.Proofs.YtecpblabaelopaaDoor
open Go.RowKit
set_option maxRecDepth 100000

theorem toldL_append (k : Int) (A B : List Ev) : toldL k (A ++ B) = B.foldl (tellE k) (toldL k A) := by
  unfold toldL
  rw [List.foldl_append]
theorem fold_other {k : Int} : ∀ (B : List Ev) (t : Tl), (∀ e ∈ B, e.at_ ≠ k) → B.foldl (tellE k) t = t
  | [], _, _ => rfl
  | e :: B, t, h => by
    rw [List.foldl_cons, tell_other (h e (by simp))]
    exact fold_other B t fun x hx => h x (by simp [hx])
/-- What a step adds. -/
def RecS.more (s : RecS) (x : Wd) (k : Int) : List Ev := s.evI x k ++ s.evB x k ++ s.evV x k
theorem RecS.next_evs (s : RecS) (x : Wd) (k : Int) : (s.next x k).evs = s.evs ++ s.more x k := by
  show s.evs ++ s.evI x k ++ s.evB x k ++ s.evV x k = _
  unfold RecS.more
  simp [List.append_assoc]
theorem RecS.more_at (s : RecS) (x : Wd) (k : Int) : ∀ e ∈ s.more x k, e.at_ = k := by
  intro e he
  unfold RecS.more RecS.evI RecS.evB RecS.evV at he
  simp only [List.mem_append] at he
  rcases he with (he | he) | he
  all_goals
    split at he
    · simp at he
      rw [he]
    · simp at he
theorem rec_evs_step {x : Wd} {im : List Int} (k : Nat) : ∃ B, (recN x im (k + 1)).evs = (recN x im k).evs ++ B ∧ ∀ e ∈ B, e.at_ = (k : Int) := by
  rw [recN]
  split
  · exact ⟨_, RecS.next_evs _ _ _, RecS.more_at _ _ _⟩
  · exact ⟨[], by simp, by simp⟩
/-- Events lie behind each other. -/
theorem rec_before {x : Wd} {im : List Int} : ∀ k, ∀ e ∈ (recN x im k).evs, e.at_ < (k : Int)
  | 0, e, he => by simp [recN] at he
  | k + 1, e, he => by
    obtain ⟨B, hB, hat⟩ := rec_evs_step (x := x) (im := im) k
    rw [hB, List.mem_append] at he
    rcases he with he | he
    · have := rec_before k e he
      omega
    · have := hat e he
      omega
theorem rec_behind {x : Wd} {im : List Int} (k : Nat) : ∀ d, ∃ B, (recN x im (k + d)).evs = (recN x im k).evs ++ B ∧ ∀ e ∈ B, (k : Int) ≤ e.at_
  | 0 => ⟨[], by simp, by simp⟩
  | d + 1 => by
    obtain ⟨B, hB, hat⟩ := rec_behind k d
    obtain ⟨C, hC, hct⟩ := rec_evs_step (x := x) (im := im) (k + d)
    refine ⟨B ++ C, ?_, ?_⟩
    · rw [← Nat.add_assoc, hC, hB, List.append_assoc]
    · intro e he
      rw [List.mem_append] at he
      rcases he with he | he
      · exact hat e he
      · have := hct e he
        omega
theorem told_none {k : Int} {A : List Ev} (h : ∀ e ∈ A, e.at_ ≠ k) : toldL k A = noTl := fold_other A noTl h
/-- A step's own events tell what it was told. -/
theorem RecS.told (s : RecS) (x : Wd) (k : Int) : (s.more x k).foldl (tellE k) noTl = ⟨s.irq x k, s.blk x k, s.val x k⟩ := by
  unfold RecS.more
  rw [List.foldl_append, List.foldl_append]
  have h1 : (s.evI x k).foldl (tellE k) noTl = ⟨s.irq x k, [], 0⟩ := by
    unfold RecS.evI
    cases e : s.irq x k
    · rw [if_neg (by simp)]; rfl
    · rw [if_pos rfl]; simp [tellE, noTl]
  have h2 : (s.evB x k).foldl (tellE k) ⟨s.irq x k, [], 0⟩ = ⟨s.irq x k, s.blk x k, 0⟩ := by
    unfold RecS.evB
    by_cases e : s.due = k
    · rw [if_pos e]; simp [tellE]
    · rw [if_neg e]
      have : s.blk x k = [] := by unfold RecS.blk; rw [if_neg e]
      rw [this]; rfl
  have h3 : (s.evV x k).foldl (tellE k) ⟨s.irq x k, s.blk x k, 0⟩ = ⟨s.irq x k, s.blk x k, s.val x k⟩ := by
    unfold RecS.evV
    by_cases e : s.ask x k = true
    · rw [if_pos e]; simp [tellE]
    · rw [if_neg e]
      have : s.val x k = 0 := by unfold RecS.val; rw [if_neg e]
      rw [this]; rfl
  rw [h1, h2, h3]
/-- The whole recording tells each step what it was told. -/
theorem rec_told {x : Wd} {im : List Int} {k n : Nat} (hf : (recN x im k).m.fin = 0) (hk : k < n) :
    toldL k (recN x im n).evs = ⟨(recN x im k).irq x k, (recN x im k).blk x k, (recN x im k).val x k⟩ := by
  obtain ⟨B, hB, hat⟩ := rec_behind (x := x) (im := im) (k + 1) (n - (k + 1))
  rw [show k + 1 + (n - (k + 1)) = n by omega] at hB
  rw [hB, rec_step hf, RecS.next_evs, List.append_assoc, toldL_append, List.foldl_append, told_none (fun e he => by have := rec_before k e he; omega), RecS.told, fold_other B _ (fun e he => by have := hat e he; omega)]
/-- A replay of what was recorded is what was recorded. -/
theorem rec_replay {x : Wd} {im : List Int} {n : Nat} : ∀ k, k ≤ n → (∀ j, j < k → (recN x im j).m.fin = 0) → replayM im (recN x im n).evs k = (recN x im k).m
  | 0, _, _ => rfl
  | k + 1, hk, h => by
    have hf := h k (by omega)
    have ih := rec_replay (x := x) (im := im) (n := n) k (by omega) (fun j hj => h j (by omega))
    have ht := rec_told (n := n) hf (by omega : k < n)
    show ((replayM im (recN x im n).evs k).step (toldL k (recN x im n).evs).irq (toldL k (recN x im n).evs).blk (toldL k (recN x im n).evs).val).1 = _
    rw [ih, ht, rec_step hf]
    rfl
/-- The count is where the guest ended, or all steps. -/
theorem rec_fix {x : Wd} {im : List Int} (hx : WdMay x) (hi : newNo im = 0) : ∀ n, n ≤ 3000 → recN x im (recN x im n).m.count.toNat = recN x im n
  | 0, _ => by
    have h := (rec_ok hx hi 0 (by omega)).cle
    rw [show (recN x im 0).m.count.toNat = 0 by omega]
  | n + 1, hn => by
    have h := rec_ok hx hi n (by omega)
    by_cases hf : (recN x im n).m.fin = 0
    · have e : (recN x im (n + 1)).m.count = ((n + 1 : Nat) : Int) := by
        rw [rec_step hf]
        show ((recN x im n).m.step _ _ _).1.count = _
        rw [step_going _ _ _ hf, h.cnt hf]
        omega
      rw [e]
      rfl
    · have e : recN x im (n + 1) = recN x im n := rec_stays hf 1
      rw [e]
      exact rec_fix hx hi n (by omega)
theorem rec_going {x : Wd} {im : List Int} (hx : WdMay x) (hi : newNo im = 0) {n j : Nat} (hn : n ≤ 3000) (hj : j < (recN x im n).m.count.toNat) : (recN x im j).m.fin = 0 := by
  by_cases hf : (recN x im j).m.fin = 0
  · exact hf
  · have hc := (rec_ok hx hi n hn).cle
    have hjn : j < n := by omega
    have e := rec_stays hf (n - j)
    rw [show j + (n - j) = n by omega] at e
    rw [e] at hj
    have := (rec_ok hx hi j (by omega)).cle
    omega
/-- What was recorded is replayed, to its end. -/
theorem rec_replayed {x : Wd} {im : List Int} (hx : WdMay x) (hi : newNo im = 0) {n : Nat} (hn : n ≤ 3000) :
    replayM im (recN x im n).evs (recN x im n).m.count.toNat = (recN x im n).m := by
  have hc := (rec_ok hx hi n hn).cle
  rw [rec_replay _ (by omega) (fun j hj => rec_going hx hi hn hj), rec_fix hx hi n hn]

/-- Events may be when each may be by itself and each lies behind those ahead of it. -/
theorem chkNo_of {L : List Ev} (hl : L.length ≤ 1000) (h : ∀ k, k < L.length → verdict L k = 0) : chkNo L = 0 := by
  have : ∀ d k, k + d = L.length → chk L k = 0 := by
    intro d
    induction d with
    | zero => exact fun k e => chk_end (by omega)
    | succ d ih => exact fun k e => (chk_ok (by omega) (h k (by omega))).trans (ih (k + 1) (by omega))
  unfold chkNo
  rw [if_neg (by omega)]
  exact this L.length 0 (by omega)
def Ev.key (e : Ev) : Int := 4 * e.at_ + e.kind
theorem verdict_of {L : List Ev} (h0 : ∀ e ∈ L, evNo e = 0) (hp : L.Pairwise fun a b => a.key < b.key) (k : Nat) (hk : k < L.length) : verdict L k = 0 := by
  have e1 : L.getD k noEv = L[k] := by simp [List.getD, hk]
  unfold verdict
  rw [e1, if_pos (h0 _ (List.getElem_mem hk))]
  by_cases hz : k = 0
  · rw [if_pos hz]
  · have hk1 : k - 1 < L.length := by omega
    have e2 : L.getD (k - 1) noEv = L[k - 1] := by simp [List.getD, hk1]
    have := (List.pairwise_iff_getElem.1 hp) (k - 1) k hk1 hk (by omega)
    rw [if_neg hz, e2, if_pos (by unfold behind; exact decide_eq_true this)]
theorem evNo_of {k kind : Int} {d : List Int} (hk : 0 ≤ k ∧ k ≤ 2999) (h1 : 1 ≤ kind ∧ kind ≤ 3) (hd : allB d = true) (hl : (d.length : Int) = wordsN kind) : evNo ⟨k, kind, d⟩ = 0 := by
  unfold evNo
  have a : inB kind 1 3 = true := inB_iff.2 h1
  have b : inB k 0 2999 = true := inB_iff.2 hk
  simp [a, b, hd, hl]
theorem RecS.more_ok {x : Wd} (hx : WdMay x) (s : RecS) (k : Int) (hk : 0 ≤ k ∧ k ≤ 2999) : ∀ e ∈ s.more x k, evNo e = 0 := by
  intro e he
  unfold RecS.more RecS.evI RecS.evB RecS.evV at he
  simp only [List.mem_append] at he
  rcases he with (he | he) | he
  · split at he
    · simp at he
      rw [he]
      exact evNo_of hk (by omega) rfl rfl
    · simp at he
  · split at he
    · rename_i hd
      simp at he
      rw [he]
      exact evNo_of hk (by omega) (RecS.blk_may hx s k).2 (by rw [RecS.blk_at hx hd]; rfl)
    · simp at he
  · split at he
    · simp at he
      rw [he]
      exact evNo_of hk (by omega) (by have := RecS.val_may hx s k; simpa [allB] using this) rfl
    · simp at he
theorem RecS.more_keys (s : RecS) (x : Wd) (k : Int) : (s.more x k).Pairwise fun a b => a.key < b.key := by
  unfold RecS.more RecS.evI RecS.evB RecS.evV
  by_cases h1 : s.irq x k = true
  all_goals by_cases h2 : s.due = k
  all_goals by_cases h3 : s.ask x k = true
  all_goals simp [h1, h2, h3, Ev.key]
theorem rec_may {x : Wd} (hx : WdMay x) {im : List Int} : ∀ k, k ≤ 3000 → ∀ e ∈ (recN x im k).evs, evNo e = 0
  | 0, _, e, he => by simp [recN] at he
  | k + 1, hk, e, he => by
    have ih := rec_may hx (im := im) k (by omega)
    rw [recN] at he
    split at he
    · rw [RecS.next_evs, List.mem_append] at he
      rcases he with he | he
      · exact ih e he
      · exact RecS.more_ok hx _ _ (by omega) e he
    · exact ih e he
theorem rec_keys {x : Wd} (hx : WdMay x) {im : List Int} : ∀ k, k ≤ 3000 → (recN x im k).evs.Pairwise fun a b => a.key < b.key
  | 0, _ => by simp [recN]
  | k + 1, hk => by
    have ih := rec_keys hx (im := im) k (by omega)
    rw [recN]
    split
    · rw [RecS.next_evs, List.pairwise_append]
      refine ⟨ih, RecS.more_keys _ _ _, fun a ha b hb => ?_⟩
      have h1 := rec_before k a ha
      have h2 := RecS.more_at _ _ _ b hb
      have h3 := (evNo_bd (rec_may hx (im := im) k (by omega) a ha)).1
      have h4 := (evNo_bd (RecS.more_ok hx _ (k : Int) (by omega) b hb)).1
      unfold Ev.key
      omega
    · exact ih
/-- Recorded events may be, if there are not too many. -/
theorem rec_chk {x : Wd} (hx : WdMay x) {im : List Int} {n : Nat} (hn : n ≤ 3000) (hl : (recN x im n).evs.length ≤ 1000) : chkNo (recN x im n).evs = 0 :=
  chkNo_of hl (verdict_of (rec_may hx n hn) (rec_keys hx n hn))
theorem RecS.more_len (s : RecS) (x : Wd) (k : Int) : (s.more x k).length ≤ 3 := by
  unfold RecS.more RecS.evI RecS.evB RecS.evV
  simp only [List.length_append]
  have : ∀ (c : Prop) [Decidable c] (e : Ev), (if c then [e] else []).length ≤ 1 := fun c _ e => by split <;> simp
  have h1 := this (s.irq x k = true) ⟨k, 1, []⟩
  have h2 := this (s.due = k) ⟨k, 2, s.blk x k⟩
  have h3 := this (s.ask x k = true) ⟨k, 3, [s.val x k]⟩
  omega
theorem rec_len {x : Wd} {im : List Int} : ∀ n, (recN x im n).evs.length ≤ 3 * n
  | 0 => by simp [recN]
  | n + 1 => by
    have ih := rec_len (x := x) (im := im) n
    rw [recN]
    split
    · have := RecS.more_len (recN x im n) x n
      rw [RecS.next_evs, List.length_append]
      omega
    · omega

end Go.Proofs.YtecpblabaelopaaDoor

/- A recording has few events: at most one a step beside the interrupts. -/

namespace Go.Proofs.YtecpblabaelopaaDoor
open Go.RowKit
set_option maxRecDepth 100000

/-- Who asks for a word wants no block by that. -/
theorem ask_want {m : Mach} {irq : Bool} {blk : List Int} (v : Int) (h : m.asks irq blk = true) : (m.step irq blk v).1.want = (m.ahead irq blk).want := by
  unfold Mach.asks at h
  obtain ⟨hf, he, ho, hn⟩ := of_decide_eq_true h
  have he' : ((m.told irq blk).enter.counted).nextE = 0 := he
  have ho' : ((m.told irq blk).enter.counted).nextX % 16 = 10 := ho
  have hn' : ((m.told irq blk).enter.counted).nextX / 1024 = 0 ∨ ((m.told irq blk).enter.counted).nextX / 1024 = 1 := hn
  unfold Mach.step
  rw [if_pos hf]
  unfold Mach.run1
  rw [if_pos he', ho']
  unfold Mach.exec
  rw [if_neg (by decide), if_neg (by decide), if_neg (by decide), if_neg (by decide), if_neg (by decide), if_neg (by decide), if_neg (by decide), if_neg (by decide), if_neg (by decide), if_neg (by decide), if_pos rfl, if_pos hn']
  rfl
theorem ask_new {x : Wd} {k : Nat} {s : RecS} (hx : WdMay x) (h : RecOk k s) (hf : s.m.fin = 0) (ha : s.ask x k = true) : s.new x k = false := by
  have hw : (s.then_ x k).want = (s.m.ahead (s.irq x k) (s.blk x k)).want := ask_want _ ha
  have e : (s.m.ahead (s.irq x k) (s.blk x k)).want = (s.m.told (s.irq x k) (s.blk x k)).want := enter_want _
  unfold RecS.new
  apply decide_eq_false
  rintro ⟨h1, h2⟩
  rw [hw, e] at h2
  unfold Mach.told at h2
  by_cases hd : s.due = (k : Int)
  · have hb := RecS.blk_at hx hd
    rcases h.due hf with ⟨a, b⟩ | ⟨a, b, c⟩
    · omega
    · rw [if_pos ⟨by omega, b⟩] at h2
      simp at h2
  · have hb : s.blk x k = [] := by unfold RecS.blk; rw [if_neg hd]
    rw [if_neg (by rw [hb]; simp)] at h2
    have h3 : 0 ≤ s.m.want := h2
    omega
def irqsTo (x : Wd) (k : Nat) : Nat := (x.irqs.filter fun y => decide (y < (k : Int))).length
theorem filter_more {k : Int} : ∀ l : List Int, (l.filter fun y => decide (y < k)).length + (if hasI l k = true then 1 else 0) ≤ (l.filter fun y => decide (y < k + 1)).length
  | [] => by simp [hasI]
  | y :: l => by
    have ih := filter_more (k := k) l
    have hc : hasI (y :: l) k = (decide (y = k) || hasI l k) := rfl
    rw [hc, List.filter_cons, List.filter_cons]
    by_cases h1 : y < k
    · have h2 : y < k + 1 := by omega
      have h3 : ¬ y = k := by omega
      simp only [h1, h2, h3, decide_true, decide_false, if_true, List.length_cons, Bool.false_or]
      omega
    · by_cases h3 : y = k
      · subst h3
        have h2 : y < y + 1 := by omega
        simp only [h1, h2, decide_true, decide_false, if_true, if_false, List.length_cons, Bool.true_or, Bool.false_eq_true]
        omega
      · have h2 : ¬ y < k + 1 := by omega
        simp only [h1, h2, h3, decide_false, Bool.false_or]
        simpa using ih
/-- How many events there are behind so many steps. -/
structure RecFewAt (x : Wd) (k : Nat) (s : RecS) (i b : Nat) : Prop where
  len : s.evs.length = i + b + s.va
  irq : i ≤ irqsTo x k
  blk : b + (if s.due = -1 then 0 else 1) ≤ s.bl
  sum : s.va + s.bl ≤ k
theorem irqs_more (x : Wd) (k : Nat) : irqsTo x k + (if hasI x.irqs k = true then 1 else 0) ≤ irqsTo x (k + 1) := by
  have := filter_more (k := (k : Int)) x.irqs
  unfold irqsTo
  have e : ((k + 1 : Nat) : Int) = (k : Int) + 1 := by omega
  rw [e]
  exact this
theorem rec_few {x : Wd} (hx : WdMay x) {im : List Int} (hi : newNo im = 0) : ∀ k, k ≤ 3000 → ∃ i b, RecFewAt x k (recN x im k) i b
  | 0, _ => ⟨0, 0, by simp [recN], by omega, by simp [recN], by simp [recN]⟩
  | k + 1, hk => by
    obtain ⟨i, b, h⟩ := rec_few hx hi k (by omega)
    have ho := rec_ok hx hi k (by omega)
    have hm := irqs_more x k
    by_cases hf : (recN x im k).m.fin = 0
    · rw [rec_step hf]
      generalize recN x im k = s at h ho hf
      have h1 := h.len
      have h2 := h.irq
      have h3 := h.blk
      have h4 := h.sum
      refine ⟨i + (if s.irq x k = true then 1 else 0), b + (if s.due = (k : Int) then 1 else 0), ?_, ?_, ?_, ?_⟩
      · show (s.evs ++ s.evI x k ++ s.evB x k ++ s.evV x k).length = _ + _ + (if s.ask x k = true then s.va + 1 else s.va)
        unfold RecS.evI RecS.evB RecS.evV
        simp only [List.length_append]
        by_cases c1 : s.irq x k = true
        all_goals by_cases c2 : s.due = (k : Int)
        all_goals by_cases c3 : s.ask x k = true
        all_goals simp only [c1, c2, c3, if_true, if_false, List.length_cons, List.length_nil, Bool.false_eq_true]
        all_goals omega
      · show i + (if hasI x.irqs k = true then 1 else 0) ≤ _
        omega
      · show b + _ + (if (if s.new x k = true then (k : Int) + 1 + x.delays.getD s.bl 0 else if s.due = (k : Int) then -1 else s.due) = -1 then 0 else 1) ≤ (if s.new x k = true then s.bl + 1 else s.bl)
        have hd0 : s.due = (k : Int) → ¬ s.due = -1 := by omega
        by_cases c1 : s.new x k = true
        all_goals by_cases c2 : s.due = (k : Int)
        all_goals by_cases c3 : s.due = -1
        all_goals simp only [c1, c2, c3, if_true, if_false, Bool.false_eq_true] at h3 ⊢
        all_goals repeat' (first | split | split at h3)
        all_goals omega
      · show (if s.ask x k = true then s.va + 1 else s.va) + (if s.new x k = true then s.bl + 1 else s.bl) ≤ k + 1
        by_cases c1 : s.ask x k = true
        · have c2 := ask_new hx ho hf c1
          simp only [c1, c2, if_true, if_false, Bool.false_eq_true]
          omega
        · simp only [c1, if_false, Bool.false_eq_true]
          split <;> omega
    · have e : recN x im (k + 1) = recN x im k := rec_stays hf 1
      rw [e]
      exact ⟨i, b, h.len, by have := h.irq; omega, h.blk, by have := h.sum; omega⟩
theorem rec_len_few {x : Wd} (hx : WdMay x) {im : List Int} (hi : newNo im = 0) {k : Nat} (hk : k ≤ 3000) : (recN x im k).evs.length ≤ x.irqs.length + k := by
  obtain ⟨i, b, h⟩ := rec_few hx hi k hk
  have h1 := h.len
  have h2 := h.irq
  have h3 := h.blk
  have h4 := h.sum
  have h5 : irqsTo x k ≤ x.irqs.length := List.length_filter_le _ _
  omega

end Go.Proofs.YtecpblabaelopaaDoor
