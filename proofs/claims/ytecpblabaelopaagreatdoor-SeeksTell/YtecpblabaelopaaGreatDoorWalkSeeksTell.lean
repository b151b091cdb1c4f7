/- SeeksTell, walked. -/
import Derived.Test.YtecpblabaelopaaGreatDoorDkTellPart
import Derived.Deep.AppendLies
import Derived.Deep.RegionLaw
import Derived.Deep.DeepCutAuto
namespace Go.Proofs.YtecpblabaelopaaGreatDoor
open Go.RowKit
set_option maxRecDepth 100000

theorem grow_one {W wr w4 : World} {u : Value} {D : List Int} {o : Obj} (h1 : OwnI wr W.heap.size u D) (h2 : Below W.heap.size W wr) (hg : (wr.alloc o).drew.grownBy w4 u.ownBlock) : Below W.heap.size W w4 := by
  have hA : Below wr.heap.size wr (wr.alloc o).drew := (below_alloc wr o).drew
  exact (h2.trans (hA.mono h2.size)).grown hg (Nat.le_trans h2.size hA.size) (fun k hk => (World.ownsRow.lt (h1.below hA) k hk).1)
def atL (l : List Int) (C : Int) (k : Nat) : List Int := (l.take k).map fun x => pickF x (C + 1)
theorem atL_snoc {l : List Int} {C : Int} {k : Nat} (h : k < l.length) : atL l C (k + 1) = atL l C k ++ [pickF (l.getD k 0) (C + 1)] := by
  unfold atL
  rw [List.take_succ_eq_append_getElem h, List.map_append]
  simp [List.getD, h]
theorem atL_len {l : List Int} {C : Int} {k : Nat} (h : k ≤ l.length) : (atL l C k).length = k := by
  unfold atL
  rw [List.length_map, List.length_take]
  omega
theorem atL_bd {l : List Int} {C : Int} {k : Nat} (hC : 0 ≤ C) : ∀ x ∈ atL l C k, 0 ≤ x ∧ x ≤ C := fun x hx => by
  unfold atL at hx
  obtain ⟨y, _, rfl⟩ := List.mem_map.1 hx
  have := pickF_bd y (m := C + 1) (by omega)
  omega

set_option maxHeartbeats 4000000 in
theorem SeeksTell_any (v0 : Value) (n0 : Nat) (v1 : Value) (n1 : Nat) (n : Int) (kv : Value) (ks : List Int) (every keep : Int) (w : World) (h0 : RawsIn w v0 n0) (h1 : RawsIn w v1 n1) (hn : (Lit.int .i64 n).wf = true) (hks : IntsAt w kv ks) (hkw : ∀ n ∈ ks, (Lit.int .i64 n).wf = true) (he : (Lit.int .i64 every).wf = true) (hk : (Lit.int .i64 keep).wf = true) (hL : Laid w) :
    Calls Tryz.prog 4 #[v0, v1, .int .i64 n, kv, .int .i64 every, .int .i64 keep] w fun e w' => e = .returned (.bool true) ∧ Below w.heap.size w w' := by
  obtain ⟨R, -, hR⟩ := h0.some_
  obtain ⟨S, -, hS⟩ := h1.some_
  obtain ⟨i0, hi, hz0, hz1, hz2⟩ := info_parts infoInt
  have HRC : Hid (∀ X, Below w.heap.size w X → Calls Tryz.prog 15 #[v0, v1, .int .i64 n] X fun e w' => RecdQ X R S (pickF n 300).toNat e w') := fun X hX => recordedK_any v0 v1 R S n X (hR.below hX) (hS.below hX) hn (hL.below hX)
  have hE := pickF_bd every (m := 60) (by decide)
  have hK := pickF_bd keep (m := 8) (by decide)
  have HPE : Hid (∀ X, Calls Tryz.prog 16 #[.int .i64 every, .int .i64 60] X fun e w' => e = .returned (.int .i64 (pickF every 60)) ∧ w' = X) := fun X => picked_any every 60 X he (by decide) (by decide)
  have HPQ : Hid (∀ X, Calls Tryz.prog 16 #[.int .i64 keep, .int .i64 8] X fun e w' => e = .returned (.int .i64 (pickF keep 8)) ∧ w' = X) := fun X => picked_any keep 8 X hk (by decide) (by decide)
  have hN : (pickF n 300).toNat ≤ 900 := by have := pickF_bd n (m := 300) (by decide); omega
  obtain ⟨N, hNN⟩ : ∃ N, N = (pickF n 300).toNat := ⟨_, rfl⟩
  rw [← hNN] at HRC hN
  obtain ⟨pe, hpe⟩ : ∃ p, p = pickF every 60 := ⟨_, rfl⟩
  obtain ⟨pk, hpk⟩ : ∃ p, p = pickF keep 8 := ⟨_, rfl⟩
  rw [← hpe] at HPE hE
  rw [← hpk] at HPQ hK
  obtain ⟨E, hEE⟩ : ∃ E, E = 1 + pe := ⟨_, rfl⟩
  obtain ⟨K, hKK⟩ : ∃ K, K = 1 + pk := ⟨_, rfl⟩
  have we : IntKind.i64.wrap (1 + pe) = E := by rw [IntWalk.i64_in _ (by omega)]; exact hEE.symm
  have wk : IntKind.i64.wrap (1 + pk) = K := by rw [IntWalk.i64_in _ (by omega)]; exact hKK.symm
  have HF : Hid (RecFine (wdOf S) (imageF R) N) := recFine R S hN
  have HEK : Hid ((1 ≤ E ∧ E ≤ 3000) ∧ (1 ≤ K ∧ K ≤ 8) ∧ N ≤ 900) := ⟨by omega, by omega, hN⟩
  have HL : Hid (∀ X, Below w.heap.size w X → Laid X) := fun X hX => hL.below hX
  have HKS : Hid (∀ X, Below w.heap.size w X → IntsAt X kv ks) := fun X hX => hks.below hX
  have HKW : Hid (∀ j, j < ks.length → (Lit.int .i64 (ks.getD j 0)).wf = true) := fun j hj => hkw _ (by simp [List.getD, hj])
  obtain ⟨Ak, ck, rfl, -, -⟩ := hks
  obtain ⟨nk, hnk⟩ : ∃ k, k = ks.length := ⟨_, rfl⟩
  have HNK : Hid (nk = ks.length) := hnk
  rw [← hnk] at HKS ⊢
  clear h0 h1 hR hS hn he hk hL hN hNN hpe hpk hEE hKK hE hK hkw hnk
  go_enter Tryz.func4, Tryz.ntmps4
  go_wp2_with fail
  refine (HRC.out w (Below.refl _ _)).mono ?_
  rintro e w2 ⟨ti, te, A1, d1, A2, d2, A3, d3, rfl, q1, q2, q3, hb2⟩
  have hTA : TapeAt w2 ti te (imageF R) (fullB (recN (wdOf S) (imageF R) N).evs) := RecdQ.tape HEK.out.2.2 q1 q2
  obtain ⟨At, ct, rfl⟩ := q1.shape
  obtain ⟨Ae, ce, rfl⟩ := q2.shape
  have HT : Hid (TapeAt w2 (.slice At (imageF R).length ct) (.slice Ae (fullB (recN (wdOf S) (imageF R) N).evs).length ce) (imageF R) (fullB (recN (wdOf S) (imageF R) N).evs) ∧ Below w.heap.size w w2) := ⟨hTA, hb2⟩
  have HDS : Hid (∀ X lv (l : List Int), Below w2.heap.size w2 X → IntsAt X lv l → l.length ≤ 1000 → (∀ k ∈ l, 0 ≤ k ∧ k ≤ (recC (wdOf S) (imageF R) N : Int)) → Calls Tryz.prog 11 #[.agg #[.int .i64 200, .int .i64 E, .int .i64 K], .agg #[.slice At (imageF R).length ct, .slice Ae (fullB (recN (wdOf S) (imageF R) N).evs).length ce, .int .i64 (recC (wdOf S) (imageF R) N)], lv] X fun e w' => Below X.heap.size X w' ∧ ∃ v, e = .returned (.tuple #[v, .int .i64 0]) ∧ GsAt w' v (l.map fun k => replayM (imageF R) (recN (wdOf S) (imageF R) N).evs k.toNat)) := fun X lv l hX hi hl hk =>
    (DeckSeek_any 200 E K _ _ lv (imageF R) (fullB (recN (wdOf S) (imageF R) N).evs) l (recC (wdOf S) (imageF R) N) X (HT.out.1.below hX) hi (HL.out X (HT.out.2.trans (hX.mono HT.out.2.size))) (by omega)).mono fun e w' hp => sought_ok HEK.out.1 HEK.out.2.1 HF.out hk hp
  have HDF : Hid (∀ X lv, Below w2.heap.size w2 X → IntsAt X lv [(recC (wdOf S) (imageF R) N : Int) + 1] → Calls Tryz.prog 11 #[.agg #[.int .i64 200, .int .i64 E, .int .i64 K], .agg #[.slice At (imageF R).length ct, .slice Ae (fullB (recN (wdOf S) (imageF R) N).evs).length ce, .int .i64 (recC (wdOf S) (imageF R) N)], lv] X fun e w' => Below X.heap.size X w' ∧ e = .returned (.tuple #[nilv, .int .i64 2])) := fun X lv hX hi =>
    (DeckSeek_any 200 E K _ _ lv (imageF R) (fullB (recN (wdOf S) (imageF R) N).evs) [(recC (wdOf S) (imageF R) N : Int) + 1] (recC (wdOf S) (imageF R) N) X (HT.out.1.below hX) hi (HL.out X (HT.out.2.trans (hX.mono HT.out.2.size))) (by simp)).mono fun e w' hp => by
      obtain ⟨hb, h⟩ := hp
      have hno : deckNo 200 E K (imageF R) (fullB (recN (wdOf S) (imageF R) N).evs) (recC (wdOf S) (imageF R) N) = 0 := by rw [deckNo_tape (setup_ok HEK.out.1 HEK.out.2.1), HF.out.tape]
      have hall : allIn 0 (recC (wdOf S) (imageF R) N) [(recC (wdOf S) (imageF R) N : Int) + 1] = false := by
        cases e : allIn 0 (recC (wdOf S) (imageF R) N) [(recC (wdOf S) (imageF R) N : Int) + 1] with
        | false => rfl
        | true =>
          have := inB_iff.1 (allIn_iff.1 e 0 (by simp))
          simp at this
          omega
      rcases h with ⟨h1, _⟩ | ⟨_, _, h2⟩ | ⟨_, h2, _⟩
      · exact absurd hno h1
      · exact ⟨hb, h2⟩
      · rw [hall] at h2; cases h2
  have HRP : Hid (∀ X (k : Nat), Below w2.heap.size w2 X → k ≤ recC (wdOf S) (imageF R) N → Calls Tryz.prog 17 #[.agg #[.slice At (imageF R).length ct, .slice Ae (fullB (recN (wdOf S) (imageF R) N).evs).length ce, .int .i64 (recC (wdOf S) (imageF R) N)], .int .i64 (k : Int)] X fun e w' => RepQ X (replayM (imageF R) (recN (wdOf S) (imageF R) N).evs k, 0) e w') := fun X k hX hk => by
    have := Replay_any _ _ (imageF R) (fullB (recN (wdOf S) (imageF R) N).evs) (recC (wdOf S) (imageF R) N) k X (HT.out.1.below hX) (HL.out X (HT.out.2.trans (hX.mono HT.out.2.size)))
    rwa [HF.out.replay hk] at this
  have hcn := HF.out.cnt
  have hN9 := HEK.out.2.2
  clear q1 q2 q3 hb2 hTA HRC
  obtain ⟨cn, hcn'⟩ : ∃ c, c = recC (wdOf S) (imageF R) N := ⟨_, rfl⟩
  obtain ⟨Ct, hCt⟩ : ∃ C, C = (recC (wdOf S) (imageF R) N : Int) := ⟨_, rfl⟩
  have HCN : Hid (Ct = (cn : Int)) := by rw [hCt, hcn']; rfl
  obtain ⟨nE, hnE⟩ : ∃ n, n = (fullB (recN (wdOf S) (imageF R) N).evs).length := ⟨_, rfl⟩
  obtain ⟨nI, hnI⟩ : ∃ n, n = (imageF R).length := ⟨_, rfl⟩
  obtain ⟨M, hM⟩ : ∃ M, M = (recN (wdOf S) (imageF R) N).m := ⟨_, rfl⟩
  obtain ⟨L, hLL⟩ : ∃ L, L = (recN (wdOf S) (imageF R) N).evs := ⟨_, rfl⟩
  rw [← hCt, ← hnE, ← hnI, ← hLL] at HDS
  rw [← hCt, ← hnE, ← hnI] at HDF
  rw [← hCt, ← hnE, ← hnI, ← hLL, ← hcn'] at HRP
  rw [← hCt, ← hnE, ← hnI, ← hM]
  have hc9 : 0 ≤ Ct ∧ Ct ≤ 900 := by omega
  clear hCt hnE hnI hM hLL hcn hN9 hcn'
  have hw1 : IntKind.i64.wrap (Ct + 1) = Ct + 1 := IntWalk.i64_in _ (by omega)
  have HPK : Hid (∀ X j, j < nk → Calls Tryz.prog 16 #[.int .i64 (ks.getD j 0), .int .i64 (Ct + 1)] X fun e w' => e = .returned (.int .i64 (pickF (ks.getD j 0) (Ct + 1))) ∧ w' = X) := fun X j hj => picked_any _ _ X (HKW.out j (by rw [← HNK.out]; exact hj)) (by omega) (by omega)
  have HC9 : Hid (0 ≤ Ct ∧ Ct ≤ 900) := hc9
  clear hc9 HKW
  simp only [Mach.cells]
  go_upto_region 2 with fail
  obtain ⟨W4, hW4⟩ : ∃ W4, W4 = (w2.alloc (.cells #[.slice At nI ct, .slice Ae nE ce, .int .i64 Ct] 27)).alloc (.cells #[.slice A1 M.regs.length d1, .int .i64 M.pc, .int .i64 M.back, .bool M.ints, .bool M.wait, .int .i64 M.table, .int .i64 M.count, .int .i64 M.fin, .slice A2 M.mem.length d2, .slice A3 M.out.length d3, .int .i64 M.ready, .int .i64 M.want] 37) := ⟨_, rfl⟩
  rw [← hW4]
  have y1 : W4.heap[w2.heap.size]? = some (.cells #[.slice At nI ct, .slice Ae nE ce, .int .i64 Ct] 27 (0, 0)) := by
    rw [hW4, Go.Deep.blk_alloc_lt _ _ _ (by simp)]; exact Go.Deep.blk_alloc_new _ _
  have H4 : Hid (Below w2.heap.size w2 W4 ∧ ∀ X, Below W4.heap.size W4 X → X.heap[w2.heap.size]? = some (.cells #[.slice At nI ct, .slice Ae nE ce, .int .i64 Ct] 27 (0, 0))) := ⟨by rw [hW4]; exact (below_alloc _ _).alloc (by simp) _, fun X hX => (hX.block _ (lt_of_block y1)).trans y1⟩
  clear hW4 y1
  go_wp2_with fail
  refine (HPE.out _).mono ?_
  rintro e w' ⟨rfl, hw'⟩
  subst hw'
  go_wp2_with fail
  refine (HPQ.out _).mono ?_
  rintro e w'' ⟨rfl, hw''⟩
  subst hw''
  go_wp2_with fail
  obtain ⟨W5, hW5⟩ : ∃ W5, W5 = w''.alloc (.cells #[.int .i64 200, .int .i64 E, .int .i64 K] 23) := ⟨_, rfl⟩
  rw [← hW5]
  have y5 : W5.heap[w''.heap.size]? = some (.cells #[.int .i64 200, .int .i64 E, .int .i64 K] 23 (0, 0)) := by rw [hW5]; exact Go.Deep.blk_alloc_new _ _
  have hb5 : Below w''.heap.size w'' W5 := by rw [hW5]; exact below_alloc _ _
  have H5 : Hid (Below w''.heap.size w'' W5 ∧ ∀ X, Below W5.heap.size W5 X → X.heap[w''.heap.size]? = some (.cells #[.int .i64 200, .int .i64 E, .int .i64 K] 23 (0, 0))) := ⟨hb5, fun X hX => (hX.block _ (lt_of_block y5)).trans y5⟩
  have HBB : Hid (∀ X, Below W5.heap.size W5 X → Below w''.heap.size w'' X ∧ Below w2.heap.size w2 X ∧ Below w.heap.size w X) := fun X hX => by
    have h1 := hb5.trans (hX.mono hb5.size)
    have h2 := H4.out.1.trans (h1.mono H4.out.1.size)
    exact ⟨h1, h2, HT.out.2.trans (h2.mono HT.out.2.size)⟩
  clear hW5 y5 hb5 HPE HPQ
  go_loopw [17, 18] (fun o i wr => ∃ k : Nat, k ≤ nk ∧ k ≤ 8 ∧ i = .int .i64 k ∧ Hid (OwnI wr W5.heap.size o (atL ks Ct k) ∧ Below W5.heap.size W5 wr)) (fun _ i _ => nk - (intOf i).toNat)
  case atStart => exact ⟨0, Nat.zero_le _, by omega, rfl, World.ownsRow_nil _ _ _ _, Below.refl _ _⟩
  case round =>
    obtain ⟨k, hk, hk8, rfl, HI⟩ := hrel
    have HAL : Hid ((atL ks Ct k).length = k) := atL_len (by rw [← HNK.out]; exact hk)
    have hsz := HI.out.2.size
    by_cases hlt : k < nk ∧ k < 8
    case pos =>
      obtain ⟨hkn, hk7⟩ := hlt
      have hki : (k : Int) < (nk : Int) := by omega
      have hki2 : (k : Int) < 8 := by omega
      obtain ⟨b, off, rfl, hbs, hcell⟩ : ∃ b off, Ak = some ⟨b, off, none⟩ ∧ b < wr.heap.size ∧ ∀ j, j < ks.length → wr.cell? ⟨b, off + j, none⟩ = some (.int .i64 (ks.getD j 0)) := by
        obtain ⟨A, c, e, _, h2⟩ := HKS.out wr (HBB.out wr HI.out.2).2.2
        simp only [Value.slice.injEq] at e
        obtain ⟨rfl, -, -⟩ := e
        exact h2 (by have := HNK.out; omega)
      have h1 := hcell k (by have := HNK.out; omega)
      have HSN : Hid (atL ks Ct (k + 1) = atL ks Ct k ++ [pickF (ks.getD k 0) (Ct + 1)]) := atL_snoc (by have := HNK.out; omega)
      have HP : Hid (∀ X, Calls Tryz.prog 16 #[.int .i64 (ks.getD k 0), .int .i64 (Ct + 1)] X fun e w' => e = .returned (.int .i64 (pickF (ks.getD k 0) (Ct + 1))) ∧ w' = X) := fun X => HPK.out X k hkn
      obtain ⟨x, hx⟩ : ∃ x, x = ks.getD k 0 := ⟨_, rfl⟩
      rw [← hx] at h1 HSN HP
      obtain ⟨p, hp⟩ : ∃ p, p = pickF x (Ct + 1) := ⟨_, rfl⟩
      rw [← hp] at HSN HP
      obtain ⟨D, hD⟩ : ∃ D, D = atL ks Ct k := ⟨_, rfl⟩
      rw [← hD] at HI HAL HSN
      have hDl : D.length ≤ 8 := by have := HAL.out; omega
      obtain ⟨t0, t1, t2, tf, tl⟩ := three_cells (H4.out.2 wr (HBB.out wr HI.out.2).1)
      have HO : Hid (OwnI wr W5.heap.size u17 D) := HI.out.1
      obtain ⟨Ao, co, rfl⟩ := HO.out.shape
      clear hcell hx hp hD HAL HPK
      go_wp2_with fail
      go_region_law
        (first
          | (refine step_append_lies _ (by rfl) _ _ _ (by rfl) W5.heap.size 3 i0 (.int .i64 0) 1 8 Tryz.underlying24 hi hz0 hz1 hz2 rfl (by decide) (.slice Ao D.length co) D.length (D.map (Value.int .i64)) (by rfl) ((HO.out.alloc _).drew) ⟨wr.heap.size, 0, none⟩ 1 1 [.int .i64 p] (by rfl) (by rfl) (by exact cell_one_new _ _ _) (by intro u hu; simp at hu; subst hu; rfl) (by decide) (by unfold maxLen; omega) (by omega) (by simp; omega) (wr.heap.size + 1) (by simp) ?_; intro g4 cap4 wg hown4 hgrow4 hat4 hlt4; have HG : Hid (OwnI wg W5.heap.size (.slice (some ⟨g4, 0, none⟩) (D.length + 1) cap4) (D ++ [p]) ∧ Below W5.heap.size W5 wg) := ⟨OwnI.snoc hown4 rfl, grow_one HO.out HI.out.2 hgrow4⟩; clear hown4 hgrow4 hat4 hlt4)
          | (go_simp; go_at_call 16; refine (HP.out _).mono ?_; rintro e w' ⟨rfl, rfl⟩))
      all_goals
        go_wp2_with fail
        refine ⟨⟨k + 1, by omega, by omega, by go_num, by rw [HSN.out]; exact HG⟩, ?_⟩
        simp [intOf]; omega
    case neg =>
      have HO : Hid (OwnI wr W5.heap.size u17 (atL ks Ct k)) := HI.out.1
      have HBD : Hid (∀ x ∈ atL ks Ct k, 0 ≤ x ∧ x ≤ Ct) := atL_bd HC9.out.1
      obtain ⟨D, hD⟩ : ∃ D, D = atL ks Ct k := ⟨_, rfl⟩
      rw [← hD] at HO HBD HAL
      have HB5 : Hid (Below W5.heap.size W5 wr) := HI.out.2
      have hDl : D.length ≤ 8 := by have := HAL.out; omega
      obtain ⟨nd, hnd⟩ : ∃ n, n = D.length := ⟨_, rfl⟩
      obtain ⟨Ao, co, rfl⟩ := HO.out.shape
      have HDI : Hid (∀ X, Below wr.heap.size wr X → IntsAt X (.slice Ao nd co) D) := fun X hX => by rw [hnd]; exact (HO.out.at (by omega)).below hX
      have HND : Hid (nd = D.length) := hnd
      rw [← hnd]
      obtain ⟨t0, t1, t2, tf, tl⟩ := three_cells (H4.out.2 wr (HBB.out wr HB5.out).1)
      obtain ⟨s0, s1, s2, sf, sl⟩ := three_cells (H5.out.2 wr HB5.out)
      have HS1 : Hid (Calls Tryz.prog 11 #[.agg #[.int .i64 200, .int .i64 E, .int .i64 K], .agg #[.slice At nI ct, .slice Ae nE ce, .int .i64 Ct], .slice Ao nd co] wr fun e w' => Below wr.heap.size wr w' ∧ ∃ v, e = .returned (.tuple #[v, .int .i64 0]) ∧ GsAt w' v (D.map fun k => replayM (imageF R) L k.toNat)) := HDS.out wr _ D (HBB.out wr HB5.out).2.1 (HDI.out wr (Below.refl _ _)) (by omega) HBD.out
      clear hD hnd HI HAL HPK hsz
      have hstop : ((k : Int) < (nk : Int)) = False ∨ (((k : Int) < (nk : Int)) = True ∧ ((k : Int) < 8) = False) := by
        by_cases h : k < nk
        · exact Or.inr ⟨eq_true (by omega), eq_false (by omega)⟩
        · exact Or.inl (eq_false (by omega))
      rcases hstop with hs1 | ⟨hs1, hs2⟩
      all_goals
        go_wp2_with fail
        refine HS1.out.mono ?_
        rintro e w7 ⟨hb7, v, rfl, gb, cb, rfl, hgl, -, hj⟩
        have hlen : (D.map fun k => replayM (imageF R) L k.toNat).length = nd := by rw [List.length_map, HND.out]
        rw [hlen]
        rw [hlen] at hj
        have H7 : Hid (Below wr.heap.size wr w7 ∧ gb < w7.heap.size ∧ ∀ j, j < nd → ∃ rv mv ov, w7.rangeAt gb (j * 12) (((D.map fun k => replayM (imageF R) L k.toNat).getD j noMach12).cells rv mv ov).toList ∧ MachAt w7 rv mv ov ((D.map fun k => replayM (imageF R) L k.toNat).getD j noMach12)) := ⟨hb7, hgl, hj⟩
        have HB7 : Hid (Below W5.heap.size W5 w7) := HB5.out.trans (hb7.mono HB5.out.size)
        clear hb7 hgl hj hlen t0 t1 t2 tf tl s0 s1 s2 sf sl HS1
        obtain ⟨t0, t1, t2, tf, tl⟩ := three_cells (H4.out.2 w7 (HBB.out w7 HB7.out).1)
        obtain ⟨s0, s1, s2, sf, sl⟩ := three_cells (H5.out.2 w7 HB7.out)
        have HS2 : Hid (Calls Tryz.prog 11 #[.agg #[.int .i64 200, .int .i64 E, .int .i64 K], .agg #[.slice At nI ct, .slice Ae nE ce, .int .i64 Ct], .slice (some ⟨w7.heap.size, 0, none⟩) 1 1] (w7.alloc (.cells #[.int .i64 (Ct + 1)] 3)) fun e w' => Below w7.heap.size w7 w' ∧ e = .returned (.tuple #[nilv, .int .i64 2])) := by
          have hA := below_alloc w7 (.cells #[.int .i64 (Ct + 1)] 3)
          have h2 := (HBB.out w7 HB7.out).2.1
          exact (HDF.out _ _ (h2.trans (hA.mono h2.size)) (ints_one_new w7 (Ct + 1))).mono fun e w' ⟨h1, h2⟩ => ⟨hA.trans (h1.mono (by simp)), h2⟩
        go_wp2_with fail
        refine HS2.out.mono ?_
        rintro e w8 ⟨hb8, rfl⟩
        have H8 : Hid (Below w7.heap.size w7 w8 ∧ Below W5.heap.size W5 w8) := ⟨hb8, HB7.out.trans (hb8.mono HB7.out.size)⟩
        clear hb8 t0 t1 t2 tf tl s0 s1 s2 sf sl HS2
        go_wp2_with fail
        go_loopw [99] (fun i wq => ∃ j : Nat, j ≤ nd ∧ i = .int .i64 j ∧ Hid (Below w8.heap.size w8 wq)) (fun i _ => nd - (intOf i).toNat)
        case atStart => exact ⟨0, Nat.zero_le _, rfl, Below.refl _ _⟩
        case round =>
          obtain ⟨j, hj, rfl, HQ⟩ := hrel
          have h7q : Below w7.heap.size w7 wr := H8.out.1.trans (HQ.out.mono H8.out.1.size)
          have h5q : Below W5.heap.size W5 wr := H8.out.2.trans (HQ.out.mono H8.out.2.size)
          by_cases hjl : j < nd
          case pos =>
            have hji : (j : Int) < (nd : Int) := by omega
            have hjD : j < D.length := by rw [← HND.out]; exact hjl
            obtain ⟨b, off, rfl, hbs, hcell⟩ : ∃ b off, Ao = some ⟨b, off, none⟩ ∧ b < wr.heap.size ∧ ∀ j, j < D.length → wr.cell? ⟨b, off + j, none⟩ = some (.int .i64 (D.getD j 0)) := by
              obtain ⟨A, c, e, _, h2⟩ := HDI.out wr (H7.out.1.trans (h7q.mono H7.out.1.size))
              simp only [Value.slice.injEq] at e
              obtain ⟨rfl, -, -⟩ := e
              exact h2 (by omega)
            have h1 := hcell j hjD
            have hbd := HBD.out (D.getD j 0) (by simp [List.getD, hjD])
            obtain ⟨kn, hkn⟩ : ∃ kn : Nat, D.getD j 0 = (kn : Int) := ⟨(D.getD j 0).toNat, by omega⟩
            have hkc : kn ≤ cn := by have := HCN.out; omega
            have hge : (D.map fun k => replayM (imageF R) L k.toNat).getD j noMach12 = replayM (imageF R) L kn := by
              have : (D.map fun k => replayM (imageF R) L k.toNat).getD j noMach12 = replayM (imageF R) L (D.getD j 0).toNat := by simp [List.getD, hjD]
              rw [this, hkn, Int.toNat_natCast]
            rw [hkn] at h1
            have HRK : Hid (Calls Tryz.prog 17 #[.agg #[.slice At nI ct, .slice Ae nE ce, .int .i64 Ct], .int .i64 (kn : Int)] wr fun e w' => RepQ wr (replayM (imageF R) L kn, 0) e w') := HRP.out wr kn (HBB.out wr h5q).2.1 hkc
            obtain ⟨rv, mv, ov, r1, r2⟩ := H7.out.2.2 j hjl
            rw [hge] at r1 r2
            obtain ⟨G, hG⟩ : ∃ G, G = replayM (imageF R) L kn := ⟨_, rfl⟩
            rw [← hG] at HRK r1 r2
            have HR : Hid (wr.rangeAt gb (j * 12) (G.cells rv mv ov).toList ∧ MachAt wr rv mv ov G ∧ gb < wr.heap.size) := ⟨range_below h7q H7.out.2.1 r1, r2.below h7q, Nat.lt_of_lt_of_le H7.out.2.1 h7q.size⟩
            obtain ⟨Q1, j1, Q2, j2, Q3, j3, rfl, rfl, rfl⟩ := r2.shape
            obtain ⟨t0, t1, t2, tf, tl⟩ := three_cells (H4.out.2 wr (HBB.out wr h5q).1)
            clear hcell hbd hkn hkc hge r1 r2 hG h7q h5q
            go_wp2_with fail
            refine HRK.out.mono ?_
            rintro e w9 ⟨G1, g1, G2, g2, G3, g3, rfl, hm9, hb9⟩
            have H9 : Hid (MachAt w9 (.slice G1 G.regs.length g1) (.slice G2 G.mem.length g2) (.slice G3 G.out.length g3) G ∧ Below wr.heap.size wr w9) := ⟨hm9, hb9⟩
            clear hm9 hb9 t0 t1 t2 tf tl HRK
            simp only [Mach.cells]
            go_upto_region 16 with fail
            obtain ⟨Wa, hWa⟩ : ∃ Wa, Wa = w9.alloc (.cells #[.slice G1 G.regs.length g1, .int .i64 G.pc, .int .i64 G.back, .bool G.ints, .bool G.wait, .int .i64 G.table, .int .i64 G.count, .int .i64 G.fin, .slice G2 G.mem.length g2, .slice G3 G.out.length g3, .int .i64 G.ready, .int .i64 G.want] 37) := ⟨_, rfl⟩
            rw [← hWa]
            have ya : Wa.heap[w9.heap.size]? = some (.cells #[.slice G1 G.regs.length g1, .int .i64 G.pc, .int .i64 G.back, .bool G.ints, .bool G.wait, .int .i64 G.table, .int .i64 G.count, .int .i64 G.fin, .slice G2 G.mem.length g2, .slice G3 G.out.length g3, .int .i64 G.ready, .int .i64 G.want] 37 (0, 0)) := by rw [hWa]; exact Go.Deep.blk_alloc_new _ _
            have hba : Below w9.heap.size w9 Wa := by rw [hWa]; exact below_alloc _ _
            have hra : Below wr.heap.size wr Wa := H9.out.2.trans (hba.mono H9.out.2.size)
            have HA : Hid (Below w8.heap.size w8 Wa ∧ Below wr.heap.size wr Wa ∧ Wa.heap[w9.heap.size]? = some (.cells #[.slice G1 G.regs.length g1, .int .i64 G.pc, .int .i64 G.back, .bool G.ints, .bool G.wait, .int .i64 G.table, .int .i64 G.count, .int .i64 G.fin, .slice G2 G.mem.length g2, .slice G3 G.out.length g3, .int .i64 G.ready, .int .i64 G.want] 37 (0, 0))) := ⟨HQ.out.trans (hra.mono HQ.out.size), hra, ya⟩
            have HSM : Hid (∀ X, Below Wa.heap.size Wa X → Calls Tryz.prog 18 #[.agg (G.cells (.slice Q1 G.regs.length j1) (.slice Q2 G.mem.length j2) (.slice Q3 G.out.length j3)), .agg (G.cells (.slice G1 G.regs.length g1) (.slice G2 G.mem.length g2) (.slice G3 G.out.length g3))] X fun e w' => e = .returned (.bool true) ∧ Below X.heap.size X w') := fun X hX => sameK_same G _ _ _ _ _ _ X ((HR.out.2.1.below hra).below hX) ((H9.out.1.below hba).below hX)
            obtain ⟨qca, qcb, qcc, qcd, qce, qcf, qcg, qch, qci, qcj, qck, qcl⟩ := range12o (j * 12) (range_below hra HR.out.2.2 HR.out.1)
            obtain ⟨⟨qda, qdb, qdc, qdd, qde, qdf, qdg, qdh, qdi, qdj, qdk, qdl⟩, mf, ml⟩ := twelve_cells ya
            simp only [Mach.cells] at HSM
            clear hWa ya hba hra
            go_wp2_with fail
            go_region_held3 (fun w' => w'.cell? ⟨gb, j * 12, none⟩ = some (.slice Q1 G.regs.length j1) ∧ w'.cell? ⟨gb, j * 12 + 1, none⟩ = some (.int .i64 G.pc) ∧ w'.cell? ⟨gb, j * 12 + 2, none⟩ = some (.int .i64 G.back) ∧ w'.cell? ⟨gb, j * 12 + 3, none⟩ = some (.bool G.ints) ∧ w'.cell? ⟨gb, j * 12 + 4, none⟩ = some (.bool G.wait) ∧ w'.cell? ⟨gb, j * 12 + 5, none⟩ = some (.int .i64 G.table) ∧ w'.cell? ⟨gb, j * 12 + 6, none⟩ = some (.int .i64 G.count) ∧ w'.cell? ⟨gb, j * 12 + 7, none⟩ = some (.int .i64 G.fin) ∧ w'.cell? ⟨gb, j * 12 + 8, none⟩ = some (.slice Q2 G.mem.length j2) ∧ w'.cell? ⟨gb, j * 12 + 9, none⟩ = some (.slice Q3 G.out.length j3) ∧ w'.cell? ⟨gb, j * 12 + 10, none⟩ = some (.int .i64 G.ready) ∧ w'.cell? ⟨gb, j * 12 + 11, none⟩ = some (.int .i64 G.want) ∧ w'.cell? ⟨w9.heap.size, 0, none⟩ = some (.slice G1 G.regs.length g1) ∧ w'.cell? ⟨w9.heap.size, 1, none⟩ = some (.int .i64 G.pc) ∧ w'.cell? ⟨w9.heap.size, 2, none⟩ = some (.int .i64 G.back) ∧ w'.cell? ⟨w9.heap.size, 3, none⟩ = some (.bool G.ints) ∧ w'.cell? ⟨w9.heap.size, 4, none⟩ = some (.bool G.wait) ∧ w'.cell? ⟨w9.heap.size, 5, none⟩ = some (.int .i64 G.table) ∧ w'.cell? ⟨w9.heap.size, 6, none⟩ = some (.int .i64 G.count) ∧ w'.cell? ⟨w9.heap.size, 7, none⟩ = some (.int .i64 G.fin) ∧ w'.cell? ⟨w9.heap.size, 8, none⟩ = some (.slice G2 G.mem.length g2) ∧ w'.cell? ⟨w9.heap.size, 9, none⟩ = some (.slice G3 G.out.length g3) ∧ w'.cell? ⟨w9.heap.size, 10, none⟩ = some (.int .i64 G.ready) ∧ w'.cell? ⟨w9.heap.size, 11, none⟩ = some (.int .i64 G.want)) (go_keep)
              (first
                | (go_at_call 18; refine (HSM.out _ ((Below.refl _ Wa).drew)).mono ?_; rintro e wb ⟨rfl, hbb⟩; have HB : Hid (Below Wa.heap.size Wa wb) := ((Below.refl _ Wa).drew).trans hbb; have hrb := HA.out.2.1.trans (HB.out.mono HA.out.2.1.size); have hxb := (HB.out.block _ ml).trans HA.out.2.2; clear hbb qca qcb qcc qcd qce qcf qcg qch qci qcj qck qcl qda qdb qdc qdd qde qdf qdg qdh qdi qdj qdk qdl mf ml; obtain ⟨qca, qcb, qcc, qcd, qce, qcf, qcg, qch, qci, qcj, qck, qcl⟩ := range12o (j * 12) (range_below hrb HR.out.2.2 HR.out.1); obtain ⟨⟨qda, qdb, qdc, qdd, qde, qdf, qdg, qdh, qdi, qdj, qdk, qdl⟩, mf, ml⟩ := twelve_cells hxb; clear hrb hxb))
            all_goals
              go_wp2_with fail
              have HZ : Hid (Below w8.heap.size w8 wb) := HA.out.1.trans (HB.out.mono HA.out.1.size)
              refine ⟨⟨j + 1, by omega, by go_num, HZ⟩, ?_⟩
              simp [intOf]; omega
          case neg =>
            have hji : ¬ (j : Int) < (nd : Int) := by omega
            have HZ : Hid (Below w.heap.size w wr) := (HBB.out wr h5q).2.2
            clear h7q h5q
            go_wp2_with fail
            go_ret
            exact ⟨rfl, HZ.out⟩

end Go.Proofs.YtecpblabaelopaaGreatDoor
