/- The document's reader of bytes: what it is in memory; contracts of tape.next and tape.zig. -/
import Derived.Test.YtbjlfhpiebokkaaDoorBySpoilPart
import Derived.Test.YtbjlfhpiebokkaaDoorInfoPart
import Derived.Test.YtbjlfhpiebokkaaDoorToldCPart
import Derived.Test.YtbjlfhpiebokkaaDoorEvCheckPart
namespace Go.Proofs.YtbjlfhpiebokkaaDoor
open Go.RowKit
set_option maxRecDepth 100000

structure TpAt (w : World) (lo b : Nat) (v : Value) (l : List Int) (i : Nat) (e : Int) : Prop where
  box : w.heap[b]? = some (.cells #[v, .int .i64 i, .int .i64 e] 137 (0, 0))
  own : lo ≤ b
  bys : Bys w lo v l
  le : i ≤ l.length
theorem TpAt.lt {w : World} {lo b i : Nat} {v : Value} {l : List Int} {e : Int} (h : TpAt w lo b v l i e) : b < w.heap.size := lt_of_block h.box
theorem TpAt.below {w w' : World} {lo b i : Nat} {v : Value} {l : List Int} {e : Int} (h : TpAt w lo b v l i e) (hb : Below w.heap.size w w') : TpAt w' lo b v l i e :=
  ⟨by rw [hb.block b h.lt]; exact h.box, h.own, h.bys.below (hb.mono (by have := h.own; have := h.lt; omega)), h.le⟩
theorem Sans.setAny {b lo : Nat} (w : World) (h : lo ≤ b) (i : Nat) (u : Value) : Sans b lo w (w.setCell ⟨b, i, none⟩ u) :=
  ⟨(Below.refl _ w).setCell (p := ⟨b, i, none⟩) h u, by simp [World.setCell], fun g hg hn => Below.heap_setCell _ _ _ _ hn⟩
theorem TpAt.setI {w : World} {lo b i : Nat} {v : Value} {l : List Int} {e : Int} (h : TpAt w lo b v l i e) (j : Nat) (hj : j ≤ l.length) : TpAt (w.setCell ⟨b, 1, none⟩ (.int .i64 j)) lo b v l j e :=
  ⟨by rw [box1_set h.box]; rfl, h.own, h.bys.below ((Below.refl _ w).setCell (p := ⟨b, 1, none⟩) h.own _), hj⟩
theorem TpAt.setE {w : World} {lo b i : Nat} {v : Value} {l : List Int} {e : Int} (h : TpAt w lo b v l i e) (e' : Int) : TpAt (w.setCell ⟨b, 2, none⟩ (.int .i64 e')) lo b v l i e' :=
  ⟨by rw [box1_set h.box]; rfl, h.own, h.bys.below ((Below.refl _ w).setCell (p := ⟨b, 2, none⟩) h.own _), h.le⟩

theorem next_idle (b lo i : Nat) (v : Value) (l : List Int) (e : Int) (w : World) (h : TpAt w lo b v l i e) (he : e ≠ 0) :
    Calls Tryd.prog 105 #[.pointer (some ⟨b, 0, none⟩)] w fun e' w' => e' = .returned (.int .i64 0) ∧ w' = w := by
  obtain ⟨c0, c1, c2, cf, cl⟩ := three_cells h.box
  have he' : (e == 0) = false := by simpa using he
  clear h
  go_enter Tryd.func105, Tryd.ntmps105
  go_wp2_with fail
  go_loopw [3, 4, 5] (fun n u k wr => n = .int .i64 0 ∧ u = .int .i64 1 ∧ k = .int .i64 0 ∧ wr = w) (fun _ _ _ _ => 0)
  case atStart => exact ⟨rfl, rfl, rfl, rfl⟩
  case round =>
    obtain ⟨rfl, rfl, rfl, hw⟩ := hrel
    subst wr
    go_wp2_with fail
    go_ret
    exact ⟨rfl, rfl⟩

structure NextQ (w w' : World) (lo b : Nat) (v : Value) (l : List Int) (g : Got Int) : Prop where
  sans : Sans b lo w w'
  tp : ∃ j, TpAt w' lo b v l j g.no ∧ (g.no = 0 → l.drop j = g.rest)
  val : 0 ≤ g.val ∧ g.val < 562949953421312
  zero : g.no ≠ 0 → g.val = 0

set_option maxRecDepth 20000 in
set_option maxHeartbeats 2000000 in
theorem next_any (b lo i : Nat) (v : Value) (l : List Int) (w : World) (h : TpAt w lo b v l i 0) :
    Calls Tryd.prog 105 #[.pointer (some ⟨b, 0, none⟩)] w fun e w' => e = .returned (.int .i64 (numD (l.drop i)).val) ∧ NextQ w w' lo b v l (numD (l.drop i)) := by
  have H0 : Hid (TpAt w lo b v l i 0) := h
  have hown := h.own
  obtain ⟨⟨A, c, rfl, hcap, hA⟩, hfew, hby⟩ := h.bys
  clear h
  go_enter Tryd.func105, Tryd.ntmps105
  go_wp2_with fail
  go_loopw [3, 4, 5] (fun n u kk wr => ∃ (k j : Nat) (a q : Int), k ≤ 7 ∧ kk = .int .i64 k ∧ n = .int .i64 a ∧ u = .int .i64 q ∧ Hid (numG k a q (l.drop j) = numD (l.drop i)) ∧ (0 ≤ a ∧ a < q ∧ q ≤ 562949953421312) ∧ Hid (q = pw k) ∧ Hid (TpAt wr lo b (.slice A l.length c) l j 0) ∧ Hid (Sans b lo w wr)) (fun _ _ kk _ => 8 - (intOf kk).toNat)
  case atStart => exact ⟨0, i, 0, 1, by omega, rfl, rfl, rfl, (by show _ = _; rw [numD]), by omega, (by show _ = _; rfl), H0, Sans.refl _ _ _⟩
  case round =>
    obtain ⟨k, j, a, q, hk7, rfl, rfl, rfl, HN, ⟨ha0, haq, hq⟩, HQ, HT, HS⟩ := hrel
    obtain ⟨c0, c1, c2, cf, cl⟩ := three_cells HT.out.box
    have hjl := HT.out.le
    have hk8 : (k : Int) < 8 := by omega
    by_cases hlt : j < l.length
    · have hji : ¬ (l.length : Int) ≤ (j : Int) := by omega
      have hji2 : (j : Int) < (l.length : Int) := by omega
      obtain ⟨⟨A2, c2', e2, -, hA2⟩, -, -⟩ := HT.out.bys
      simp only [Value.slice.injEq] at e2
      obtain ⟨rfl, -, rfl⟩ := e2
      obtain ⟨g, off, rfl, hg, hgs, hj⟩ := hA2 (by omega)
      have hx := hj j hlt
      obtain ⟨x, hxe⟩ : ∃ x, x = l.getD j 0 := ⟨_, rfl⟩
      rw [← hxe] at hx
      have hxb : 0 ≤ x ∧ x ≤ 255 := by rw [hxe]; exact hby _ (by simp [List.getD, hlt])
      have HST : Hid (numD (l.drop i) = numG k a q (x :: l.drop (j + 1))) := by show _ = _; rw [← HN.out, drop_step hlt, ← hxe]
      have hgb : ¬ g = b := by omega
      have hw0 : IntKind.i64.wrap x = x := IntWalk.i64_in _ (by omega)
      have hwj : IntKind.i64.wrap ((j : Int) + 1) = (j : Int) + 1 := IntWalk.i64_in _ (by omega)
      clear hA hj HN hxe hby hA2
      go_wp2_with fail
      go_quiet (fail)
      revert nq
      intro n1
      go_wp2_with fail
      go_quiet (fail)
      obtain ⟨W, hW⟩ : ∃ W, W = (wr.drewN n1).drewN nq := ⟨_, rfl⟩
      have hB : Below wr.heap.size wr W := by rw [hW]; exact below_drewN (below_drewN (Below.refl _ _) _) _
      have HTW : Hid (TpAt W lo b (.slice (some ⟨g, off, none⟩) l.length c) l j 0) := HT.out.below hB
      have HSW : Hid (Sans b lo w W) := HS.out.trans (Sans.of_below hB (by have := HT.out.lt; omega))
      rw [← hW]
      clear hW hB HT HS c0 c1 c2 cf cl hx
      obtain ⟨c0, c1, c2, cf, cl⟩ := three_cells HTW.out.box
      have HT1 : Hid (TpAt (W.setCell ⟨b, 1, none⟩ (.int .i64 ((j : Int) + 1))) lo b (.slice (some ⟨g, off, none⟩) l.length c) l (j + 1) 0 ∧ Sans b lo w (W.setCell ⟨b, 1, none⟩ (.int .i64 ((j : Int) + 1)))) := ⟨HTW.out.setI (j + 1) (by omega), HSW.out.trans (Sans.setAny W hown 1 _)⟩
      have HT2 : Hid (numD (l.drop i) = ⟨4, 0, []⟩ → NextQ w ((W.setCell ⟨b, 1, none⟩ (.int .i64 ((j : Int) + 1))).setCell ⟨b, 2, none⟩ (.int .i64 4)) lo b (.slice (some ⟨g, off, none⟩) l.length c) l (numD (l.drop i))) := fun e => by
        rw [e]
        exact ⟨HT1.out.2.trans (Sans.setAny _ hown 2 _), ⟨j + 1, HT1.out.1.setE 4, fun e => by simp at e⟩, by simp, fun _ => rfl⟩
      clear HTW HSW
      by_cases h7 : k = 7
      · subst h7
        have HD : Hid (numD (l.drop i) = ⟨4, 0, []⟩) := by show _ = _; rw [HST.out, numG, if_pos rfl]
        clear HST HQ
        go_wp2_with fail
        go_ret
        exact ⟨by rw [HD.out]; rfl, HT2.out HD.out⟩
      · have hk7' : ¬ (k : Int) = 7 := by omega
        by_cases h2 : x = 0 ∧ 0 < k
        · obtain ⟨rfl, h0⟩ := h2
          have h0i : (0 : Int) < (k : Int) := by omega
          have HD : Hid (numD (l.drop i) = ⟨4, 0, []⟩) := by show _ = _; rw [HST.out, numG, if_neg h7, if_neg (by omega), if_pos ⟨rfl, h0⟩]
          clear HST
          go_wp2_with fail
          go_ret
          exact ⟨by rw [HD.out]; rfl, HT2.out HD.out⟩
        · have hpb : 0 ≤ x % 128 ∧ x % 128 ≤ 127 := by omega
          have hpq : 0 ≤ x % 128 * q ∧ x % 128 * q ≤ 127 * q := ⟨Int.mul_nonneg hpb.1 (by omega), Int.mul_le_mul_of_nonneg_right hpb.2 (by omega)⟩
          have hqn : q * 128 ≤ 562949953421312 := by rw [HQ.out]; exact pw_next (by omega)
          have hmod : Int.tmod x 128 = x % 128 := Int.tmod_eq_emod_of_nonneg hxb.1
          have hw1 : IntKind.i64.wrap (x % 128 * q) = x % 128 * q := IntWalk.i64_in _ (by omega)
          have hw2 : IntKind.i64.wrap (a + x % 128 * q) = a + x % 128 * q := IntWalk.i64_in _ (by omega)
          have hw3 : IntKind.i64.wrap (128 * q) = 128 * q := IntWalk.i64_in _ (by omega)
          have HNX : Hid (0 ≤ a + x % 128 * q ∧ a + x % 128 * q < 128 * q ∧ 128 * q ≤ 562949953421312) := ⟨by omega, by omega, by omega⟩
          have HPW : Hid (128 * q = pw (k + 1)) := by show _ = _; rw [HQ.out, pw_succ, Int.mul_comm]
          have hyc : (x = 0 ∧ ¬ (0 : Int) < (k : Int)) ∨ ((x == 0) = false ∧ (0 : Int) < (k : Int)) ∨ ((x == 0) = false ∧ ¬ (0 : Int) < (k : Int)) := by
            by_cases e0 : x = 0
            · exact Or.inl ⟨e0, by omega⟩
            · have : (x == 0) = false := by simpa using e0
              by_cases e1 : (0 : Int) < (k : Int)
              · exact Or.inr (Or.inl ⟨this, e1⟩)
              · exact Or.inr (Or.inr ⟨this, e1⟩)
          clear HQ hqn hpq hpb HT2
          by_cases h1 : 128 ≤ x
          · have HD : Hid (numG (k + 1) (a + x % 128 * q) (128 * q) (l.drop (j + 1)) = numD (l.drop i)) := by show _ = _; rw [HST.out, numG, if_neg h7, if_pos h1, Int.mul_comm q 128]
            have h1' : ¬ x < 128 := by omega
            clear HST
            rcases hyc with ⟨rfl, hy⟩ | ⟨hx0, hy⟩ | ⟨hx0, hy⟩
            · omega
            all_goals
              go_wp2_with fail
              refine ⟨⟨k + 1, j + 1, _, _, by omega, by go_num, rfl, rfl, HD, HNX.out, HPW, HT1.out.1, HT1.out.2⟩, ?_⟩
              simp [intOf]; omega
          · have HD : Hid (numD (l.drop i) = ⟨0, a + x % 128 * q, l.drop (j + 1)⟩) := by show _ = _; rw [HST.out, numG, if_neg h7, if_neg h1, if_neg h2]
            have h1' : x < 128 := by omega
            have HNQ : Hid (NextQ w (W.setCell ⟨b, 1, none⟩ (.int .i64 ((j : Int) + 1))) lo b (.slice (some ⟨g, off, none⟩) l.length c) l (numD (l.drop i))) := by
              show NextQ _ _ _ _ _ _ _
              rw [HD.out]
              have := HNX.out
              exact ⟨HT1.out.2, ⟨j + 1, HT1.out.1, fun _ => rfl⟩, ⟨this.1, by show a + x % 128 * q < _; omega⟩, fun e => absurd rfl e⟩
            clear HST HT1
            rcases hyc with ⟨rfl, hy⟩ | ⟨hx0, hy⟩ | ⟨hx0, hy⟩
            all_goals
              go_wp2_with fail
              go_ret
              exact ⟨by rw [HD.out]; first | rfl | simp, HNQ.out⟩
    · have hji : (l.length : Int) ≤ (j : Int) := by omega
      have HD : Hid (numD (l.drop i) = ⟨5, 0, []⟩) := by show _ = _; rw [← HN.out, numG_end hlt]
      have hlo : lo ≤ wr.heap.size := by have := HT.out.lt; omega
      clear hA HN HQ
      go_wp2_with fail
      go_quiet (fail)
      go_wp2_with fail
      go_ret
      have hB : Below wr.heap.size wr (wr.drewN nq) := below_drewN (Below.refl _ _) _
      refine ⟨by rw [HD.out]; rfl, ?_⟩
      rw [HD.out]
      exact ⟨(HS.out.trans (Sans.of_below hB hlo)).trans (Sans.setAny _ hown 2 _), ⟨j, (HT.out.below hB).setE 5, fun e => by simp at e⟩, by simp, fun _ => rfl⟩

theorem zig_idle (b lo i : Nat) (v : Value) (l : List Int) (e : Int) (w : World) (h : TpAt w lo b v l i e) (he : e ≠ 0) :
    Calls Tryd.prog 106 #[.pointer (some ⟨b, 0, none⟩)] w fun e' w' => e' = .returned (.int .i64 0) ∧ w' = w := by
  have HN : Hid (Calls Tryd.prog 105 #[.pointer (some ⟨b, 0, none⟩)] w fun e' w' => e' = .returned (.int .i64 0) ∧ w' = w) := next_idle b lo i v l e w h he
  clear h
  go_enter Tryd.func106, Tryd.ntmps106
  go_wp2_with fail
  refine HN.out.mono ?_
  rintro e w1 ⟨rfl, rfl⟩
  go_wp2_with fail
  go_ret
  exact ⟨rfl, rfl⟩
theorem anyK_bd {n : Int} (h : 0 ≤ n ∧ n < 562949953421312) : -281474976710656 ≤ anyK n ∧ anyK n ≤ 281474976710656 := by unfold anyK; split <;> omega
theorem zig_any (b lo i : Nat) (v : Value) (l : List Int) (w : World) (h : TpAt w lo b v l i 0) :
    Calls Tryd.prog 106 #[.pointer (some ⟨b, 0, none⟩)] w fun e w' => e = .returned (.int .i64 (anyK (numD (l.drop i)).val)) ∧ NextQ w w' lo b v l (numD (l.drop i)) := by
  have HN : Hid (Calls Tryd.prog 105 #[.pointer (some ⟨b, 0, none⟩)] w fun e w' => e = .returned (.int .i64 (numD (l.drop i)).val) ∧ NextQ w w' lo b v l (numD (l.drop i))) := next_any b lo i v l w h
  clear h
  revert HN
  generalize numD (l.drop i) = g
  intro HN
  go_enter Tryd.func106, Tryd.ntmps106
  go_wp2_with fail
  refine HN.out.mono ?_
  rintro e w1 ⟨rfl, hq⟩
  have HQ : Hid (NextQ w w1 lo b v l g) := hq
  obtain ⟨hv0, hv1⟩ := hq.val
  clear hq HN
  obtain ⟨x, hx⟩ : ∃ x, x = g.val := ⟨_, rfl⟩
  have HX : Hid (x = g.val) := hx
  rw [← hx] at hv0 hv1 ⊢
  clear hx
  have hm : Int.tmod x 2 = x % 2 := Int.tmod_eq_emod_of_nonneg hv0
  have hd : Int.tdiv x 2 = x / 2 := Int.tdiv_eq_ediv_of_nonneg hv0
  by_cases h2 : x % 2 = 0
  · have HE : Hid (anyK x = x / 2) := by show _ = _; unfold anyK; rw [if_neg (by omega)]
    go_wp2_with fail
    go_ret
    exact ⟨by rw [← HX.out, HE.out]; rfl, HQ.out⟩
  · have HE : Hid (anyK x = -(x / 2) - 1) := by show _ = _; unfold anyK; rw [if_pos (by omega)]; omega
    have h2' : x % 2 = 1 := by omega
    have hw1 : IntKind.i64.wrap (-(x / 2)) = -(x / 2) := IntWalk.i64_in _ (by omega)
    have hw2 : IntKind.i64.wrap (-(x / 2) - 1) = -(x / 2) - 1 := IntWalk.i64_in _ (by omega)
    clear h2
    go_wp2_with fail
    go_ret
    exact ⟨by rw [← HX.out, HE.out]; rfl, HQ.out⟩

end Go.Proofs.YtbjlfhpiebokkaaDoor

/- Contracts of hourglassref's wordMay, wordsMay: numbers that are words. -/

namespace Go.Proofs.YtbjlfhpiebokkaaDoor
open Go.RowKit
set_option maxRecDepth 100000

theorem wordMay_any (n : Int) (w : World) : Calls Tryd.prog 101 #[.int .i64 n] w fun e w' => e = .returned (.bool (wordB n)) ∧ w' = w := by
  go_enter Tryd.func101, Tryd.ntmps101
  go_wp2_with (go_at_call 32; refine (In_B _ _ _ _).mono ?_; rintro e w' ⟨rfl, rfl⟩)
  go_ret
  exact ⟨rfl, rfl⟩

set_option maxHeartbeats 400000 in
theorem wordsMay_any (v : Value) (l : List Int) (w : World) (h : IntsAt w v l) :
    Calls Tryd.prog 63 #[v] w fun e w' => e = .returned (.bool (allB l)) ∧ w' = w := by
  obtain ⟨A, c, rfl, hl, hc⟩ := h
  go_enter Tryd.func63, Tryd.ntmps63
  go_wp2
  go_loopw [3] (fun i wr => ∃ k : Nat, k ≤ l.length ∧ i = .int .i64 k ∧ Hid (∀ i, i < k → wordB (l.getD i 0) = true) ∧ wr = w) (fun i _ => l.length - (intOf i).toNat)
  case atStart => exact ⟨0, Nat.zero_le _, rfl, fun i hi => absurd hi (Nat.not_lt_zero _), rfl⟩
  case round =>
    obtain ⟨k, hk, rfl, ht, hw⟩ := hrel
    subst wr
    by_cases hlt : k < l.length
    · obtain ⟨b, off, rfl, hbs, hcell⟩ := hc (by omega)
      have h1 := hcell k hlt
      cases hw : wordB (l.getD k 0) with
      | false =>
        have HN : Hid (false = allB l) := (allB_no hlt hw).symm
        clear hcell hc
        revert h1 hw
        generalize l.getD k 0 = x
        intro h1 hw
        go_wp2_with (go_at_call 101; refine (wordMay_any _ _).mono ?_; rintro e w' ⟨rfl, rfl⟩)
        go_ret
        exact ⟨ret_bool HN.out, rfl⟩
      | true =>
        have HN : Hid (∀ i, i < k + 1 → wordB (l.getD i 0) = true) := allB_step ht.out hw
        clear hcell hc
        revert h1 hw
        generalize l.getD k 0 = x
        intro h1 hw
        go_wp2_with (go_at_call 101; refine (wordMay_any _ _).mono ?_; rintro e w' ⟨rfl, rfl⟩)
        refine ⟨⟨k + 1, by omega, by go_num, HN, trivial⟩, ?_⟩
        simp [intOf]; omega
    · have HN : Hid (true = allB l) := (allB_iff.2 fun i hi => ht.out i (by omega)).symm
      clear hc
      go_wp2
      go_ret
      exact ⟨ret_bool HN.out, rfl⟩

end Go.Proofs.YtbjlfhpiebokkaaDoor

/- Contracts of hourglassref.wordsIn and hourglassref.EventsFault. -/

namespace Go.Proofs.YtbjlfhpiebokkaaDoor
open Go.RowKit Go.Sort
set_option maxRecDepth 100000

theorem wordsIn_any (k : Int) (w : World) : Calls Tryd.prog 103 #[.int .i64 k] w fun e w' => e = .returned (.int .i64 (wordsN k)) ∧ w' = w := by
  by_cases h2 : k = 2
  · subst h2
    go_enter Tryd.func103, Tryd.ntmps103
    go_wp2
    go_ret
    exact ⟨rfl, rfl⟩
  · by_cases h3 : k = 3
    · subst h3
      go_enter Tryd.func103, Tryd.ntmps103
      go_wp2
      go_ret
      exact ⟨rfl, rfl⟩
    · have HR : Hid (0 = wordsN k) := by show _ = _; simp [wordsN, h2, h3]
      go_enter Tryd.func103, Tryd.ntmps103
      go_wp2
      go_ret
      exact ⟨ret_int HR.out, rfl⟩

theorem evNo_kind {a k : Int} {l : List Int} (h : inB k 1 3 = false) : evNo ⟨a, k, l⟩ = 3 := by simp [evNo, h]
theorem evNo_at {a k : Int} {l : List Int} (h : inB k 1 3 = true) (h1 : inB a 0 2999 = false) : evNo ⟨a, k, l⟩ = 2 := by simp [evNo, h, h1]
theorem evNo_words {a k : Int} {l : List Int} (h : inB k 1 3 = true) (h1 : inB a 0 2999 = true) (h2 : allB l = false) : evNo ⟨a, k, l⟩ = 2 := by simp [evNo, h, h1, h2]
theorem evNo_size {a k : Int} {l : List Int} (h : inB k 1 3 = true) (h1 : inB a 0 2999 = true) (h2 : allB l = true) (h3 : ¬ (l.length : Int) = wordsN k) : evNo ⟨a, k, l⟩ = 1 := by simp [evNo, h, h1, h2, h3]
theorem evNo_ok {a k : Int} {l : List Int} (h : inB k 1 3 = true) (h1 : inB a 0 2999 = true) (h2 : allB l = true) (h3 : (l.length : Int) = wordsN k) : evNo ⟨a, k, l⟩ = 0 := by simp [evNo, h, h1, h2, h3]

set_option maxRecDepth 20000 in
set_option maxHeartbeats 4000000 in
theorem EventsFault_any (v : Value) (L : List Ev) (w : World) (h : EvsAt w v L) :
    Calls Tryd.prog 67 #[v] w fun e w' => e = .returned (.int .i64 (chkNo L)) ∧ Below w.heap.size w w' := by
  obtain ⟨A, c, rfl, hl, hc⟩ := h
  by_cases h1 : 1000 < L.length
  · have HR : Hid (chkNo L = 1) := by show _ = _; simp [chkNo, h1]
    have d0 : decide (1000 < (L.length : Int)) = true := by simp; omega
    clear hc
    go_enter Tryd.func67, Tryd.ntmps67
    go_wp2
    go_ret
    exact ⟨ret_int HR.out.symm, Below.refl _ _⟩
  · have d0 : decide (1000 < (L.length : Int)) = false := by simp; omega
    have H0 : Hid (chkNo L = chk L 0) := by show _ = _; simp [chkNo, h1]
    clear h1
    go_enter Tryd.func67, Tryd.ntmps67
    go_wp2
    clear d0
    go_loopw [3] (fun i wr => ∃ k : Nat, k ≤ L.length ∧ i = .int .i64 k ∧ Hid (chkNo L = chk L k ∧ ∀ j, k = j + 1 → verdict L j = 0) ∧ Hid (Below w.heap.size w wr)) (fun i _ => L.length - (intOf i).toNat)
    case atStart => exact ⟨0, Nat.zero_le _, rfl, ⟨H0.out, fun j e => by omega⟩, Below.refl _ _⟩
    case round =>
      obtain ⟨k, hk, rfl, hR, hB⟩ := hrel
      by_cases hlt : k < L.length
      · obtain ⟨b, off, rfl, hbs, hcell⟩ := hc (by omega)
        obtain ⟨x, hx⟩ : ∃ x, L.getD k noEv = x := ⟨_, rfl⟩
        obtain ⟨x0, x1, vx, x2, xi⟩ := hcell k hlt
        rw [hx] at x0 x1 xi
        have HX : Hid (L.getD k noEv = x) := hx
        have hsz := hB.out.size
        have HC : Hid (∀ j, j < L.length → EvAt w b (off + j * 3) (L.getD j noEv)) := hcell
        have y0 := (hB.out.cell (p := ⟨b, off + k * 3, none⟩) hbs).trans x0
        have y1 := (hB.out.cell (p := ⟨b, off + k * 3 + 1, none⟩) hbs).trans x1
        have y2 := (hB.out.cell (p := ⟨b, off + k * 3 + 2, none⟩) hbs).trans x2
        obtain ⟨xa, xk, xd⟩ := x
        have HXI : Hid (IntsAt w vx xd) := xi
        obtain ⟨A1, c1, rfl, hl1, -⟩ := xi
        simp only at y0 y1 y2 hl1
        have HB2 : Hid (∀ o, Below w.heap.size w (wr.alloc o)) := fun o => hB.out.alloc hB.out.size o
        have zl : wr.heap.size < (wr.alloc (.cells #[.int .i64 xa, .int .i64 xk, .slice A1 xd.length c1] 54)).heap.size := by simp
        clear hc hx x0 x1 x2 hcell
        cases c0 : inB xk 1 3 with
        | false =>
          have HV : Hid (chkNo L = 3) := by
            have he := evNo_kind (a := xa) (l := xd) c0
            exact hR.out.1.trans ((chk_no hlt (by rw [verdict_no HX.out (by rw [he]; decide), he]; decide)).trans ((verdict_no HX.out (by rw [he]; decide)).trans he))
          clear hR HX HC
          go_wp2_with fail
          refine (In_B _ _ _ _).mono ?_
          rw [c0]
          rintro e w' ⟨rfl, rfl⟩
          go_wp2_with fail
          go_ret
          exact ⟨ret_int HV.out.symm, HB2.out _⟩
        | true =>
        cases c1' : inB xa 0 2999 with
        | false =>
          have HV : Hid (chkNo L = 2) := by
            have he := evNo_at (l := xd) c0 c1'
            exact hR.out.1.trans ((chk_no hlt (by rw [verdict_no HX.out (by rw [he]; decide), he]; decide)).trans ((verdict_no HX.out (by rw [he]; decide)).trans he))
          clear hR HX HC
          go_wp2_with fail
          refine (In_B _ _ _ _).mono ?_
          rw [c0]
          rintro e w' ⟨rfl, rfl⟩
          go_wp2_with fail
          refine (In_B _ _ _ _).mono ?_
          rw [c1']
          rintro e w' ⟨rfl, rfl⟩
          go_wp2_with fail
          go_ret
          exact ⟨ret_int HV.out.symm, HB2.out _⟩
        | true =>
        cases c2 : allB xd with
        | false =>
          have HV : Hid (chkNo L = 2) := by
            have he := evNo_words c0 c1' c2
            exact hR.out.1.trans ((chk_no hlt (by rw [verdict_no HX.out (by rw [he]; decide), he]; decide)).trans ((verdict_no HX.out (by rw [he]; decide)).trans he))
          clear hR HX HC
          go_wp2_with fail
          refine (In_B _ _ _ _).mono ?_
          rw [c0]
          rintro e w' ⟨rfl, rfl⟩
          go_wp2_with fail
          refine (In_B _ _ _ _).mono ?_
          rw [c1']
          rintro e w' ⟨rfl, rfl⟩
          go_wp2_with fail
          refine (wordsMay_any _ xd _ (HXI.out.below (HB2.out _))).mono ?_
          rw [c2]
          rintro e w' ⟨rfl, rfl⟩
          go_wp2_with fail
          go_ret
          exact ⟨ret_int HV.out.symm, HB2.out _⟩
        | true =>
          have hxk := inB_iff.1 c0
          have hxa := inB_iff.1 c1'
          have HW : Hid (∀ W : World, Calls Tryd.prog 103 #[.int .i64 xk] W fun e w' => e = .returned (.int .i64 (wordsN xk)) ∧ w' = W) := fun W => wordsIn_any xk W
          by_cases c3 : (xd.length : Int) = wordsN xk
          · have HE : Hid (evNo ⟨xa, xk, xd⟩ = 0) := evNo_ok c0 c1' c2 c3
            have HK : Hid (1 ≤ xk ∧ xk ≤ 3) := hxk
            clear hxk
            revert HW c3
            generalize wordsN xk = nx
            intro HW c3
            go_wp2_with fail
            refine (In_B _ _ _ _).mono ?_
            rw [c0]
            rintro e w' ⟨rfl, rfl⟩
            go_wp2_with fail
            refine (In_B _ _ _ _).mono ?_
            rw [c1']
            rintro e w' ⟨rfl, rfl⟩
            go_wp2_with fail
            refine (wordsMay_any _ xd _ (HXI.out.below (HB2.out _))).mono ?_
            rw [c2]
            rintro e w' ⟨rfl, rfl⟩
            clear c0 c1' c2 HXI y0 y1 y2
            go_wp2_with fail
            go_quiet ((go_at_call 103; exact Calls.quiet_of_same (HW.out _)))
            clear HW c3
            rcases k with _ | j
            · have HV : Hid (chkNo L = chk L (0 + 1) ∧ ∀ j, 0 + 1 = j + 1 → verdict L j = 0) := ⟨hR.out.1.trans (chk_ok hlt (verdict_first HX.out HE.out)), fun j e => by rw [show j = 0 by omega]; exact verdict_first HX.out HE.out⟩
              clear hR HX HC HE HK
              go_wp2_with fail
              go_quiet (fail)
              go_wp2_with fail
              refine ⟨⟨0 + 1, by omega, by go_num, HV, below_drewN (HB2.out _) _⟩, ?_⟩
              simp [intOf]; omega
            · obtain ⟨y, hy⟩ : ∃ y, L.getD j noEv = y := ⟨_, rfl⟩
              obtain ⟨t0, t1, -, -, -⟩ := HC.out j (by omega)
              rw [hy] at t0 t1
              have HY : Hid (L.getD j noEv = y) := hy
              have hy0 : evNo y = 0 := by rw [← hy]; exact verdict_ev (hR.out.2 j rfl)
              obtain ⟨ya, yk, yd⟩ := y
              obtain ⟨hyk, hya, -, -⟩ := evNo_bd hy0
              simp only at hyk hya
              have hxk := HK.out
              have s0 := (hB.out.cell (p := ⟨b, off + j * 3, none⟩) hbs).trans t0
              have s1 := (hB.out.cell (p := ⟨b, off + j * 3 + 1, none⟩) hbs).trans t1
              simp only at s0 s1
              have hbw : b < wr.heap.size := by omega
              have hbn : ¬ b = wr.heap.size := by omega
              have hwr : IntKind.i64.wrap (j : Int) = j := IntWalk.i64_in _ (by omega)
              have hj : j < L.length := by omega
              have hji : (j : Int) < (L.length : Int) := by omega
              have hj0 : (0 : Int) ≤ (j : Int) := by omega
              have w1 : IntKind.i64.wrap (4 * ya) = 4 * ya := IntWalk.i64_in _ (by omega)
              have w2 : IntKind.i64.wrap (4 * ya + yk) = 4 * ya + yk := IntWalk.i64_in _ (by omega)
              have w3 : IntKind.i64.wrap (4 * xa) = 4 * xa := IntWalk.i64_in _ (by omega)
              have w4 : IntKind.i64.wrap (4 * xa + xk) = 4 * xa + xk := IntWalk.i64_in _ (by omega)
              by_cases hbv : 4 * ya + yk < 4 * xa + xk
              · have hb' : behind ⟨xa, xk, xd⟩ ⟨ya, yk, yd⟩ = true := by simp [behind, hbv]
                have HV : Hid (chkNo L = chk L (j + 1 + 1) ∧ ∀ i, j + 1 + 1 = i + 1 → verdict L i = 0) := ⟨hR.out.1.trans (chk_ok hlt (verdict_yes HX.out HY.out HE.out hb')), fun i e => by rw [show i = j + 1 by omega]; exact verdict_yes HX.out HY.out HE.out hb'⟩
                have hg : decide (4 * xa + xk ≤ 4 * ya + yk) = false := by simp; omega
                clear hR HX HC HE HK hy hy0 t0 t1 HY hb' hxk hyk hya hxa
                go_wp2_with fail
                go_quiet (fail)
                go_wp2_with fail
                refine ⟨⟨j + 1 + 1, by omega, by go_num, HV, below_drewN (HB2.out _) _⟩, ?_⟩
                simp [intOf]; omega
              · have hb' : behind ⟨xa, xk, xd⟩ ⟨ya, yk, yd⟩ = false := by simp [behind, hbv]
                have HV : Hid (chkNo L = 9) := hR.out.1.trans ((chk_no hlt (by rw [verdict_not HX.out HY.out HE.out hb']; decide)).trans (verdict_not HX.out HY.out HE.out hb'))
                have hg : decide (4 * xa + xk ≤ 4 * ya + yk) = true := by simp; omega
                clear hR HX HC HE HK hy hy0 t0 t1 HY hb' hxk hyk hya hxa
                go_wp2_with fail
                go_quiet (fail)
                go_wp2_with fail
                go_ret
                exact ⟨ret_int HV.out.symm, below_drewN (below_drewN (HB2.out _) _) _⟩
          · have HV : Hid (chkNo L = 1) := by
              have he := evNo_size c0 c1' c2 c3
              exact hR.out.1.trans ((chk_no hlt (by rw [verdict_no HX.out (by rw [he]; decide), he]; decide)).trans ((verdict_no HX.out (by rw [he]; decide)).trans he))
            clear hxk hR HX HC
            revert HW c3
            generalize wordsN xk = nx
            intro HW c3
            go_wp2_with fail
            refine (In_B _ _ _ _).mono ?_
            rw [c0]
            rintro e w' ⟨rfl, rfl⟩
            go_wp2_with fail
            refine (In_B _ _ _ _).mono ?_
            rw [c1']
            rintro e w' ⟨rfl, rfl⟩
            go_wp2_with fail
            refine (wordsMay_any _ xd _ (HXI.out.below (HB2.out _))).mono ?_
            rw [c2]
            rintro e w' ⟨rfl, rfl⟩
            clear c0 c1' c2 HXI y0 y1 y2
            go_wp2_with fail
            go_quiet ((go_at_call 103; exact Calls.quiet_of_same (HW.out _)))
            go_wp2_with fail
            go_ret
            exact ⟨ret_int HV.out.symm, below_drewN (HB2.out _) _⟩
      · have HV : Hid (chkNo L = 0) := hR.out.1.trans (chk_end hlt)
        clear hc hR
        go_wp2_with fail
        go_ret
        exact ⟨ret_int HV.out.symm, hB.out⟩

end Go.Proofs.YtbjlfhpiebokkaaDoor
