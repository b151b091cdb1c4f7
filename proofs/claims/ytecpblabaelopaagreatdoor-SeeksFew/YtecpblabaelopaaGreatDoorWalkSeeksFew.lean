/- SeeksFew, walked. -/
import Derived.Test.YtecpblabaelopaaGreatDoorDkTellPart
import Derived.Deep.AppendLies
import Derived.Deep.RegionLaw
import Derived.Deep.DeepCutAuto
namespace Go.Proofs.YtecpblabaelopaaGreatDoor
open Go.RowKit
set_option maxRecDepth 100000

theorem grow_one {W wr w4 : World} {u : Value} {D : List Int} {o : Obj} (h1 : OwnI wr W.heap.size u D) (h2 : Below W.heap.size W wr) (hg : (wr.alloc o).drew.grownBy w4 u.ownBlock) : Below W.heap.size W w4 := by
  have hA : Below wr.heap.size wr (wr.alloc o).drew := (below_alloc wr o).drew
  exact (h2.trans (hA.mono h2.size)).grown hg (Nat.le_trans h2.size hA.size) (fun k hk => (World.ownsRow.lt (h1.below hA) k hk).1)
def atL (l : List Int) (C : Int) (k : Nat) : List Int := (l.take k).map fun x => pickF x (C + 1)
theorem atL_snoc {l : List Int} {C : Int} {k : Nat} (h : k < l.length) : atL l C (k + 1) = atL l C k ++ [pickF (l.getD k 0) (C + 1)] := by
  unfold atL
  rw [List.take_succ_eq_append_getElem h, List.map_append]
  simp [List.getD, h]
theorem atL_len {l : List Int} {C : Int} {k : Nat} (h : k ≤ l.length) : (atL l C k).length = k := by
  unfold atL
  rw [List.length_map, List.length_take]
  omega
theorem atL_bd {l : List Int} {C : Int} {k : Nat} (hC : 0 ≤ C) : ∀ x ∈ atL l C k, 0 ≤ x ∧ x ≤ C := fun x hx => by
  unfold atL at hx
  obtain ⟨y, _, rfl⟩ := List.mem_map.1 hx
  have := pickF_bd y (m := C + 1) (by omega)
  omega

theorem setup_few {F E K : Int} (hF : 0 ≤ F ∧ F ≤ 200) (hE : 1 ≤ E ∧ E ≤ 3000) (hK : 1 ≤ K ∧ K ≤ 8) : setupNo F E K = 0 := by
  have h1 : inB F 0 200 = true := inB_iff.2 hF
  have h2 : inB E 1 3000 = true := inB_iff.2 hE
  have h3 : inB K 1 8 = true := inB_iff.2 hK
  unfold setupNo
  rw [h1, h2, h3]
  rfl
theorem sought_few {w w' : World} {F E K : Int} {x : Wd} {im l : List Int} {N : Nat} {e : Ending} (hF : 0 ≤ F ∧ F ≤ 200) (hE : 1 ≤ E ∧ E ≤ 3000) (hK : 1 ≤ K ∧ K ≤ 8) (hf : RecFine x im N) (hl : ∀ k ∈ l, 0 ≤ k ∧ k ≤ recC x im N) (h : SoughtPost w F E K im (fullB (recN x im N).evs) (recC x im N) l e w') :
    Below w.heap.size w w' ∧ ((∃ v, e = .returned (.tuple #[v, .int .i64 0]) ∧ GsAt w' v (l.map fun k => replayM im (recN x im N).evs k.toNat)) ∨ e = .returned (.tuple #[nilv, .int .i64 7])) := by
  obtain ⟨hb, h⟩ := h
  have hno : deckNo F E K im (fullB (recN x im N).evs) (recC x im N) = 0 := by rw [deckNo_tape (setup_few hF hE hK), hf.tape]
  have hall : allIn 0 (recC x im N) l = true := allIn_of hl
  rcases h with ⟨h1, _⟩ | ⟨_, h2, _⟩ | ⟨_, _, h3⟩
  · exact absurd hno h1
  · rw [hall] at h2; cases h2
  · rcases h3 with ⟨v, e1, h4⟩ | ⟨e1, _⟩
    · rw [hf.tape] at h4
      exact ⟨hb, Or.inl ⟨v, e1, h4⟩⟩
    · exact ⟨hb, Or.inr e1⟩

set_option maxHeartbeats 4000000 in
theorem SeeksFew_any (v0 : Value) (n0 : Nat) (v1 : Value) (n1 : Nat) (n : Int) (kv : Value) (ks : List Int) (few : Int) (w : World) (h0 : RawsIn w v0 n0) (h1 : RawsIn w v1 n1) (hn : (Lit.int .i64 n).wf = true) (hks : IntsAt w kv ks) (hkw : ∀ n ∈ ks, (Lit.int .i64 n).wf = true) (he : (Lit.int .i64 few).wf = true) (hL : Laid w) :
    Calls Tryz.prog 5 #[v0, v1, .int .i64 n, kv, .int .i64 few] w fun e w' => e = .returned (.bool true) ∧ Below w.heap.size w w' := by
  obtain ⟨R, -, hR⟩ := h0.some_
  obtain ⟨S, -, hS⟩ := h1.some_
  obtain ⟨i0, hi, hz0, hz1, hz2⟩ := info_parts infoInt
  have HDT : Hid (Calls Tryz.prog 19 #[] w fun e w' => e = .returned (.bool true) ∧ Below w.heap.size w w') := DeckTells_any w hL
  have HRC : Hid (∀ X, Below w.heap.size w X → Calls Tryz.prog 15 #[v0, v1, .int .i64 n] X fun e w' => RecdQ X R S (pickF n 300).toNat e w') := fun X hX => recordedK_any v0 v1 R S n X (hR.below hX) (hS.below hX) hn (hL.below hX)
  have hE := pickF_bd few (m := 40) (by decide)
  have HPE : Hid (∀ X, Calls Tryz.prog 16 #[.int .i64 few, .int .i64 40] X fun e w' => e = .returned (.int .i64 (pickF few 40)) ∧ w' = X) := fun X => picked_any few 40 X he (by decide) (by decide)
  have hN : (pickF n 300).toNat ≤ 900 := by have := pickF_bd n (m := 300) (by decide); omega
  obtain ⟨N, hNN⟩ : ∃ N, N = (pickF n 300).toNat := ⟨_, rfl⟩
  rw [← hNN] at HRC hN
  obtain ⟨pe, hpe⟩ : ∃ p, p = pickF few 40 := ⟨_, rfl⟩
  rw [← hpe] at HPE hE
  have HF : Hid (RecFine (wdOf S) (imageF R) N) := recFine R S hN
  have HEK : Hid ((0 ≤ pe ∧ pe ≤ 200) ∧ N ≤ 900) := ⟨by omega, hN⟩
  have HL : Hid (∀ X, Below w.heap.size w X → Laid X) := fun X hX => hL.below hX
  have HKS : Hid (∀ X, Below w.heap.size w X → IntsAt X kv ks) := fun X hX => hks.below hX
  have HKW : Hid (∀ j, j < ks.length → (Lit.int .i64 (ks.getD j 0)).wf = true) := fun j hj => hkw _ (by simp [List.getD, hj])
  obtain ⟨Ak, ck, rfl, -, -⟩ := hks
  obtain ⟨nk, hnk⟩ : ∃ k, k = ks.length := ⟨_, rfl⟩
  have HNK : Hid (nk = ks.length) := hnk
  rw [← hnk] at HKS ⊢
  clear h0 h1 hR hS hn he hL hN hNN hpe hkw hnk
  go_enter Tryz.func5, Tryz.ntmps5
  go_wp2_with fail
  refine HDT.out.mono ?_
  rintro e w1 ⟨rfl, hb1⟩
  have HD1 : Hid (Below w.heap.size w w1) := hb1
  clear hb1 HDT
  go_wp2_with fail
  refine (HRC.out w1 HD1.out).mono ?_
  rintro e w2 ⟨ti, te, A1, d1, A2, d2, A3, d3, rfl, q1, q2, q3, hb2⟩
  have hTA : TapeAt w2 ti te (imageF R) (fullB (recN (wdOf S) (imageF R) N).evs) := RecdQ.tape HEK.out.2 q1 q2
  obtain ⟨At, ct, rfl⟩ := q1.shape
  obtain ⟨Ae, ce, rfl⟩ := q2.shape
  have HT : Hid (TapeAt w2 (.slice At (imageF R).length ct) (.slice Ae (fullB (recN (wdOf S) (imageF R) N).evs).length ce) (imageF R) (fullB (recN (wdOf S) (imageF R) N).evs) ∧ Below w.heap.size w w2) := ⟨hTA, HD1.out.trans (hb2.mono HD1.out.size)⟩
  have HDS : Hid (∀ X lv (l : List Int), Below w2.heap.size w2 X → IntsAt X lv l → l.length ≤ 1000 → (∀ k ∈ l, 0 ≤ k ∧ k ≤ (recC (wdOf S) (imageF R) N : Int)) → Calls Tryz.prog 11 #[.agg #[.int .i64 200, .int .i64 50, .int .i64 1], .agg #[.slice At (imageF R).length ct, .slice Ae (fullB (recN (wdOf S) (imageF R) N).evs).length ce, .int .i64 (recC (wdOf S) (imageF R) N)], lv] X fun e w' => Below X.heap.size X w' ∧ ∃ v, e = .returned (.tuple #[v, .int .i64 0]) ∧ GsAt w' v (l.map fun k => replayM (imageF R) (recN (wdOf S) (imageF R) N).evs k.toNat)) := fun X lv l hX hi hl hk =>
    (DeckSeek_any 200 50 1 _ _ lv (imageF R) (fullB (recN (wdOf S) (imageF R) N).evs) l (recC (wdOf S) (imageF R) N) X (HT.out.1.below hX) hi (HL.out X (HT.out.2.trans (hX.mono HT.out.2.size))) (by omega)).mono fun e w' hp => sought_ok (by omega) (by omega) HF.out hk hp
  have HDF : Hid (∀ X lv (l : List Int), Below w2.heap.size w2 X → IntsAt X lv l → l.length ≤ 1000 → (∀ k ∈ l, 0 ≤ k ∧ k ≤ (recC (wdOf S) (imageF R) N : Int)) → Calls Tryz.prog 11 #[.agg #[.int .i64 pe, .int .i64 7, .int .i64 3], .agg #[.slice At (imageF R).length ct, .slice Ae (fullB (recN (wdOf S) (imageF R) N).evs).length ce, .int .i64 (recC (wdOf S) (imageF R) N)], lv] X fun e w' => Below X.heap.size X w' ∧ ((∃ v, e = .returned (.tuple #[v, .int .i64 0]) ∧ GsAt w' v (l.map fun k => replayM (imageF R) (recN (wdOf S) (imageF R) N).evs k.toNat)) ∨ e = .returned (.tuple #[nilv, .int .i64 7]))) := fun X lv l hX hi hl hk =>
    (DeckSeek_any pe 7 3 _ _ lv (imageF R) (fullB (recN (wdOf S) (imageF R) N).evs) l (recC (wdOf S) (imageF R) N) X (HT.out.1.below hX) hi (HL.out X (HT.out.2.trans (hX.mono HT.out.2.size))) (by omega)).mono fun e w' hp => sought_few HEK.out.1 (by omega) (by omega) HF.out hk hp
  have hcn := HF.out.cnt
  have hN9 := HEK.out.2
  clear q1 q2 q3 hb2 hTA HRC
  obtain ⟨Ct, hCt⟩ : ∃ C, C = (recC (wdOf S) (imageF R) N : Int) := ⟨_, rfl⟩
  obtain ⟨nE, hnE⟩ : ∃ n, n = (fullB (recN (wdOf S) (imageF R) N).evs).length := ⟨_, rfl⟩
  obtain ⟨nI, hnI⟩ : ∃ n, n = (imageF R).length := ⟨_, rfl⟩
  obtain ⟨M, hM⟩ : ∃ M, M = (recN (wdOf S) (imageF R) N).m := ⟨_, rfl⟩
  obtain ⟨L, hLL⟩ : ∃ L, L = (recN (wdOf S) (imageF R) N).evs := ⟨_, rfl⟩
  rw [← hCt, ← hnE, ← hnI, ← hLL] at HDS HDF
  rw [← hCt, ← hnE, ← hnI, ← hM]
  have hc9 : 0 ≤ Ct ∧ Ct ≤ 900 := by omega
  clear hCt hnE hnI hM hLL hcn hN9
  have hw1 : IntKind.i64.wrap (Ct + 1) = Ct + 1 := IntWalk.i64_in _ (by omega)
  have HPK : Hid (∀ X j, j < nk → Calls Tryz.prog 16 #[.int .i64 (ks.getD j 0), .int .i64 (Ct + 1)] X fun e w' => e = .returned (.int .i64 (pickF (ks.getD j 0) (Ct + 1))) ∧ w' = X) := fun X j hj => picked_any _ _ X (HKW.out j (by rw [← HNK.out]; exact hj)) (by omega) (by omega)
  have HC9 : Hid (0 ≤ Ct ∧ Ct ≤ 900) := hc9
  clear hc9 HKW
  simp only [Mach.cells]
  go_upto_region 3 with fail
  obtain ⟨W4, hW4⟩ : ∃ W4, W4 = (w2.alloc (.cells #[.slice At nI ct, .slice Ae nE ce, .int .i64 Ct] 27)).alloc (.cells #[.slice A1 M.regs.length d1, .int .i64 M.pc, .int .i64 M.back, .bool M.ints, .bool M.wait, .int .i64 M.table, .int .i64 M.count, .int .i64 M.fin, .slice A2 M.mem.length d2, .slice A3 M.out.length d3, .int .i64 M.ready, .int .i64 M.want] 37) := ⟨_, rfl⟩
  rw [← hW4]
  have y1 : W4.heap[w2.heap.size]? = some (.cells #[.slice At nI ct, .slice Ae nE ce, .int .i64 Ct] 27 (0, 0)) := by
    rw [hW4, Go.Deep.blk_alloc_lt _ _ _ (by simp)]; exact Go.Deep.blk_alloc_new _ _
  have H4 : Hid (Below w2.heap.size w2 W4 ∧ ∀ X, Below W4.heap.size W4 X → X.heap[w2.heap.size]? = some (.cells #[.slice At nI ct, .slice Ae nE ce, .int .i64 Ct] 27 (0, 0))) := ⟨by rw [hW4]; exact (below_alloc _ _).alloc (by simp) _, fun X hX => (hX.block _ (lt_of_block y1)).trans y1⟩
  clear hW4 y1
  have HBB : Hid (∀ X, Below W4.heap.size W4 X → Below w2.heap.size w2 X ∧ Below w.heap.size w X) := fun X hX => by
    have h2 := H4.out.1.trans (hX.mono H4.out.1.size)
    exact ⟨h2, HT.out.2.trans (h2.mono HT.out.2.size)⟩
  go_loopw [14, 15] (fun o i wr => ∃ k : Nat, k ≤ nk ∧ k ≤ 5 ∧ i = .int .i64 k ∧ Hid (OwnI wr W4.heap.size o (atL ks Ct k) ∧ Below W4.heap.size W4 wr)) (fun _ i _ => nk - (intOf i).toNat)
  case atStart => exact ⟨0, Nat.zero_le _, by omega, rfl, World.ownsRow_nil _ _ _ _, Below.refl _ _⟩
  case round =>
    obtain ⟨k, hk, hk5, rfl, HI⟩ := hrel
    have HAL : Hid ((atL ks Ct k).length = k) := atL_len (by rw [← HNK.out]; exact hk)
    have hsz := HI.out.2.size
    by_cases hlt : k < nk ∧ k < 5
    case pos =>
      obtain ⟨hkn, hk4⟩ := hlt
      have hki : (k : Int) < (nk : Int) := by omega
      have hki2 : (k : Int) < 5 := by omega
      obtain ⟨b, off, rfl, hbs, hcell⟩ : ∃ b off, Ak = some ⟨b, off, none⟩ ∧ b < wr.heap.size ∧ ∀ j, j < ks.length → wr.cell? ⟨b, off + j, none⟩ = some (.int .i64 (ks.getD j 0)) := by
        obtain ⟨A, c, e, _, h2⟩ := HKS.out wr (HBB.out wr HI.out.2).2
        simp only [Value.slice.injEq] at e
        obtain ⟨rfl, -, -⟩ := e
        exact h2 (by have := HNK.out; omega)
      have h1 := hcell k (by have := HNK.out; omega)
      have HSN : Hid (atL ks Ct (k + 1) = atL ks Ct k ++ [pickF (ks.getD k 0) (Ct + 1)]) := atL_snoc (by have := HNK.out; omega)
      have HP : Hid (∀ X, Calls Tryz.prog 16 #[.int .i64 (ks.getD k 0), .int .i64 (Ct + 1)] X fun e w' => e = .returned (.int .i64 (pickF (ks.getD k 0) (Ct + 1))) ∧ w' = X) := fun X => HPK.out X k hkn
      obtain ⟨x, hx⟩ : ∃ x, x = ks.getD k 0 := ⟨_, rfl⟩
      rw [← hx] at h1 HSN HP
      obtain ⟨p, hp⟩ : ∃ p, p = pickF x (Ct + 1) := ⟨_, rfl⟩
      rw [← hp] at HSN HP
      obtain ⟨D, hD⟩ : ∃ D, D = atL ks Ct k := ⟨_, rfl⟩
      rw [← hD] at HI HAL HSN
      have hDl : D.length ≤ 8 := by have := HAL.out; omega
      obtain ⟨t0, t1, t2, tf, tl⟩ := three_cells (H4.out.2 wr HI.out.2)
      have HO : Hid (OwnI wr W4.heap.size u14 D) := HI.out.1
      obtain ⟨Ao, co, rfl⟩ := HO.out.shape
      clear hcell hx hp hD HAL HPK
      go_wp2_with fail
      go_region_law
        (first
          | (refine step_append_lies _ (by rfl) _ _ _ (by rfl) W4.heap.size 3 i0 (.int .i64 0) 1 8 Tryz.underlying24 hi hz0 hz1 hz2 rfl (by decide) (.slice Ao D.length co) D.length (D.map (Value.int .i64)) (by rfl) ((HO.out.alloc _).drew) ⟨wr.heap.size, 0, none⟩ 1 1 [.int .i64 p] (by rfl) (by rfl) (by exact cell_one_new _ _ _) (by intro u hu; simp at hu; subst hu; rfl) (by decide) (by unfold maxLen; omega) (by omega) (by simp; omega) (wr.heap.size + 1) (by simp) ?_; intro g4 cap4 wg hown4 hgrow4 hat4 hlt4; have HG : Hid (OwnI wg W4.heap.size (.slice (some ⟨g4, 0, none⟩) (D.length + 1) cap4) (D ++ [p]) ∧ Below W4.heap.size W4 wg) := ⟨OwnI.snoc hown4 rfl, grow_one HO.out HI.out.2 hgrow4⟩; clear hown4 hgrow4 hat4 hlt4)
          | (go_simp; go_at_call 16; refine (HP.out _).mono ?_; rintro e w' ⟨rfl, rfl⟩))
      all_goals
        go_wp2_with fail
        refine ⟨⟨k + 1, by omega, by omega, by go_num, by rw [HSN.out]; exact HG⟩, ?_⟩
        simp [intOf]; omega
    case neg =>
      have HO : Hid (OwnI wr W4.heap.size u14 (atL ks Ct k)) := HI.out.1
      have HBD : Hid (∀ x ∈ atL ks Ct k, 0 ≤ x ∧ x ≤ Ct) := atL_bd HC9.out.1
      obtain ⟨D, hD⟩ : ∃ D, D = atL ks Ct k := ⟨_, rfl⟩
      rw [← hD] at HO HBD HAL
      have HB4 : Hid (Below W4.heap.size W4 wr) := HI.out.2
      have hDl : D.length ≤ 8 := by have := HAL.out; omega
      obtain ⟨nd, hnd⟩ : ∃ n, n = D.length := ⟨_, rfl⟩
      obtain ⟨Ao, co, rfl⟩ := HO.out.shape
      have HDI : Hid (∀ X, Below wr.heap.size wr X → IntsAt X (.slice Ao nd co) D) := fun X hX => by rw [hnd]; exact (HO.out.at (by omega)).below hX
      have HND : Hid (nd = D.length) := hnd
      rw [← hnd]
      obtain ⟨t0, t1, t2, tf, tl⟩ := three_cells (H4.out.2 wr HB4.out)
      have HS1 : Hid (∀ X, Below wr.heap.size wr X → Calls Tryz.prog 11 #[.agg #[.int .i64 pe, .int .i64 7, .int .i64 3], .agg #[.slice At nI ct, .slice Ae nE ce, .int .i64 Ct], .slice Ao nd co] X fun e w' => Below X.heap.size X w' ∧ ∃ v g, e = .returned (.tuple #[v, .int .i64 g]) ∧ ((g = 0 ∧ GsAt w' v (D.map fun k => replayM (imageF R) L k.toNat)) ∨ (g = 7 ∧ v = nilv))) := fun X hX => (HDF.out X _ D (HBB.out X (HB4.out.trans (hX.mono HB4.out.size))).1 (HDI.out X hX) (by omega) HBD.out).mono fun e w' ⟨h1, h2⟩ => ⟨h1, by
        rcases h2 with ⟨v, h3, h4⟩ | h3
        · exact ⟨v, 0, h3, Or.inl ⟨rfl, h4⟩⟩
        · exact ⟨nilv, 7, h3, Or.inr ⟨rfl, rfl⟩⟩⟩
      have HS2 : Hid (∀ X, Below wr.heap.size wr X → Calls Tryz.prog 11 #[.agg #[.int .i64 200, .int .i64 50, .int .i64 1], .agg #[.slice At nI ct, .slice Ae nE ce, .int .i64 Ct], .slice Ao nd co] X fun e w' => Below X.heap.size X w' ∧ ∃ v, e = .returned (.tuple #[v, .int .i64 0]) ∧ GsAt w' v (D.map fun k => replayM (imageF R) L k.toNat)) := fun X hX => HDS.out X _ D (HBB.out X (HB4.out.trans (hX.mono HB4.out.size))).1 (HDI.out X hX) (by omega) HBD.out
      obtain ⟨Gs, hGs⟩ : ∃ G, G = D.map fun k => replayM (imageF R) L k.toNat := ⟨_, rfl⟩
      have HGL : Hid (Gs.length = nd) := by rw [hGs, List.length_map]; exact HND.out.symm
      rw [← hGs] at HS1 HS2
      clear hGs hD hnd HI HAL HPK hsz HDS HDF
      have hstop : ((k : Int) < (nk : Int)) = False ∨ (((k : Int) < (nk : Int)) = True ∧ ((k : Int) < 5) = False) := by
        by_cases h : k < nk
        · exact Or.inr ⟨eq_true (by omega), eq_false (by omega)⟩
        · exact Or.inl (eq_false (by omega))
      rcases hstop with hs1 | ⟨hs1, hs2⟩
      all_goals
        go_wp2_with fail
        go_region_held3 (fun w' => w'.cell? ⟨w2.heap.size, 0, none⟩ = some (.slice At nI ct) ∧ w'.cell? ⟨w2.heap.size, 1, none⟩ = some (.slice Ae nE ce) ∧ w'.cell? ⟨w2.heap.size, 2, none⟩ = some (.int .i64 Ct)) (go_keep)
          (first
            | (go_at_call 16; refine (HPE.out _).mono ?_; rintro e w' ⟨rfl, rfl⟩)
            | (go_at_call 11; refine (HS1.out _ ((Below.refl _ wr).drew)).mono ?_; rintro e wz ⟨hbz, v, g, rfl, hv⟩; have HZ : Hid (Below wr.heap.size wr wz ∧ ((g = 0 ∧ GsAt wz v Gs) ∨ (g = 7 ∧ v = nilv))) := ⟨((Below.refl _ wr).drew).trans hbz, hv⟩; clear hbz hv t0 t1 t2 tf tl; obtain ⟨t0, t1, t2, tf, tl⟩ := three_cells (H4.out.2 wz (HB4.out.trans (HZ.out.1.mono HB4.out.size)))))
        all_goals
          go_wp2_with fail
          refine (HS2.out _ HZ.out.1).mono ?_
          rintro e wy ⟨hby, v2, rfl, hg2⟩
          have HWY : Hid (Below w.heap.size w wy) := (HBB.out wy (HB4.out.trans ((HZ.out.1.trans (hby.mono HZ.out.1.size)).mono HB4.out.size))).2
          rcases HZ.out.2 with ⟨rfl, hg1⟩ | ⟨rfl, rfl⟩
          case inl =>
            have HEQ : Hid (Calls Tryz.prog 20 #[v, v2, .func (.func 18) #[] #[]] wy fun e w' => e = .returned (.bool true) ∧ Below wy.heap.size wy w') := equalGs_same v v2 Gs wy (hg1.below hby) hg2
            obtain ⟨ga, ca, rfl, -, -, -⟩ := hg1
            obtain ⟨gb, cb, rfl, -, -, -⟩ := hg2
            clear hby HZ t0 t1 t2 tf tl
            go_wp2_with fail
            refine HEQ.out.mono ?_
            rintro e wx ⟨rfl, hx⟩
            have HX : Hid (Below w.heap.size w wx) := HWY.out.trans (hx.mono HWY.out.size)
            clear hx
            go_wp2_with fail
            go_ret
            exact ⟨rfl, HX.out⟩
          case inr =>
            obtain ⟨gb, cb, rfl, -, -, -⟩ := hg2
            clear hby HZ t0 t1 t2 tf tl
            go_wp2_with fail
            go_ret
            exact ⟨rfl, HWY.out⟩

end Go.Proofs.YtecpblabaelopaaGreatDoor
