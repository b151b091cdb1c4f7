/- The document's reader of bytes: what it is in memory; contracts of tape.next and tape.zig. -/
import Derived.Test.YtlcdefpdahjjeagDoorRdPart
import Derived.Test.YtlcdefpdahjjeagDoorInfo
import Derived.Test.YtlcdefpdahjjeagDoorRdV
import Derived.Test.YtlcdefpdahjjeagDoorEvRef
namespace Go.Proofs.YtlcdefpdahjjeagDoor
open Go.RowKit
set_option maxRecDepth 100000

/-- The tape that lies there is over these bytes, at this place, with this fault. -/
structure TpAt (w : World) (lo b : Nat) (v : Value) (l : List Int) (i : Nat) (e : Int) : Prop where
  box : w.heap[b]? = some (.cells #[v, .int .i64 i, .int .i64 e] 117 (0, 0))
  own : lo ≤ b
  bys : Bys w lo v l
  le : i ≤ l.length
theorem TpAt.lt {w : World} {lo b i : Nat} {v : Value} {l : List Int} {e : Int} (h : TpAt w lo b v l i e) : b < w.heap.size := lt_of_block h.box
theorem TpAt.below {w w' : World} {lo b i : Nat} {v : Value} {l : List Int} {e : Int} (h : TpAt w lo b v l i e) (hb : Below w.heap.size w w') : TpAt w' lo b v l i e :=
  ⟨by rw [hb.block b h.lt]; exact h.box, h.own, h.bys.below (hb.mono (by have := h.own; have := h.lt; omega)), h.le⟩
theorem Sans.setAny {b lo : Nat} (w : World) (h : lo ≤ b) (i : Nat) (u : Value) : Sans b lo w (w.setCell ⟨b, i, none⟩ u) :=
  ⟨(Below.refl _ w).setCell (p := ⟨b, i, none⟩) h u, by simp [World.setCell], fun g hg hn => Below.heap_setCell _ _ _ _ hn⟩
theorem TpAt.setI {w : World} {lo b i : Nat} {v : Value} {l : List Int} {e : Int} (h : TpAt w lo b v l i e) (j : Nat) (hj : j ≤ l.length) : TpAt (w.setCell ⟨b, 1, none⟩ (.int .i64 j)) lo b v l j e :=
  ⟨by rw [box1_set h.box]; rfl, h.own, h.bys.below ((Below.refl _ w).setCell (p := ⟨b, 1, none⟩) h.own _), hj⟩
theorem TpAt.setE {w : World} {lo b i : Nat} {v : Value} {l : List Int} {e : Int} (h : TpAt w lo b v l i e) (e' : Int) : TpAt (w.setCell ⟨b, 2, none⟩ (.int .i64 e')) lo b v l i e' :=
  ⟨by rw [box1_set h.box]; rfl, h.own, h.bys.below ((Below.refl _ w).setCell (p := ⟨b, 2, none⟩) h.own _), h.le⟩

theorem next_idle (b lo i : Nat) (v : Value) (l : List Int) (e : Int) (w : World) (h : TpAt w lo b v l i e) (he : e ≠ 0) :
    Calls Tryd.prog 76 #[.pointer (some ⟨b, 0, none⟩)] w fun e' w' => e' = .returned (.int .i64 0) ∧ w' = w := by
  obtain ⟨c0, c1, c2, cf, cl⟩ := three_cells h.box
  have he' : (e == 0) = false := by simpa using he
  clear h
  go_enter Tryd.func76, Tryd.ntmps76
  go_wp2_with fail
  go_loopw [3, 4, 5] (fun n u k wr => n = .int .i64 0 ∧ u = .int .i64 1 ∧ k = .int .i64 0 ∧ wr = w) (fun _ _ _ _ => 0)
  case atStart => exact ⟨rfl, rfl, rfl, rfl⟩
  case round =>
    obtain ⟨rfl, rfl, rfl, hw⟩ := hrel
    subst wr
    go_wp2_with fail
    go_ret
    exact ⟨rfl, rfl⟩

/-- What reading a number comes to. -/
structure NextQ (w w' : World) (lo b : Nat) (v : Value) (l : List Int) (g : Got Int) : Prop where
  sans : Sans b lo w w'
  tp : ∃ j, TpAt w' lo b v l j g.no ∧ (g.no = 0 → l.drop j = g.rest)
  val : 0 ≤ g.val ∧ g.val < 562949953421312
  zero : g.no ≠ 0 → g.val = 0

set_option maxRecDepth 20000 in
set_option maxHeartbeats 2000000 in
theorem next_any (b lo i : Nat) (v : Value) (l : List Int) (w : World) (h : TpAt w lo b v l i 0) :
    Calls Tryd.prog 76 #[.pointer (some ⟨b, 0, none⟩)] w fun e w' => e = .returned (.int .i64 (numD (l.drop i)).val) ∧ NextQ w w' lo b v l (numD (l.drop i)) := by
  have H0 : Hid (TpAt w lo b v l i 0) := h
  have hown := h.own
  obtain ⟨⟨A, c, rfl, hcap, hA⟩, hfew, hby⟩ := h.bys
  clear h
  go_enter Tryd.func76, Tryd.ntmps76
  go_wp2_with fail
  go_loopw [3, 4, 5] (fun n u kk wr => ∃ (k j : Nat) (a q : Int), k ≤ 7 ∧ kk = .int .i64 k ∧ n = .int .i64 a ∧ u = .int .i64 q ∧ Hid (numG k a q (l.drop j) = numD (l.drop i)) ∧ (0 ≤ a ∧ a < q ∧ q ≤ 562949953421312) ∧ Hid (q = pw k) ∧ Hid (TpAt wr lo b (.slice A l.length c) l j 0) ∧ Hid (Sans b lo w wr)) (fun _ _ kk _ => 8 - (intOf kk).toNat)
  case atStart => exact ⟨0, i, 0, 1, by omega, rfl, rfl, rfl, (by show _ = _; rw [numD]), by omega, (by show _ = _; rfl), H0, Sans.refl _ _ _⟩
  case round =>
    obtain ⟨k, j, a, q, hk7, rfl, rfl, rfl, HN, ⟨ha0, haq, hq⟩, HQ, HT, HS⟩ := hrel
    obtain ⟨c0, c1, c2, cf, cl⟩ := three_cells HT.out.box
    have hjl := HT.out.le
    have hk8 : (k : Int) < 8 := by omega
    by_cases hlt : j < l.length
    · have hji : ¬ (l.length : Int) ≤ (j : Int) := by omega
      have hji2 : (j : Int) < (l.length : Int) := by omega
      obtain ⟨⟨A2, c2', e2, -, hA2⟩, -, -⟩ := HT.out.bys
      simp only [Value.slice.injEq] at e2
      obtain ⟨rfl, -, rfl⟩ := e2
      obtain ⟨g, off, rfl, hg, hgs, hj⟩ := hA2 (by omega)
      have hx := hj j hlt
      obtain ⟨x, hxe⟩ : ∃ x, x = l.getD j 0 := ⟨_, rfl⟩
      rw [← hxe] at hx
      have hxb : 0 ≤ x ∧ x ≤ 255 := by rw [hxe]; exact hby _ (by simp [List.getD, hlt])
      have HST : Hid (numD (l.drop i) = numG k a q (x :: l.drop (j + 1))) := by show _ = _; rw [← HN.out, drop_step hlt, ← hxe]
      have hgb : ¬ g = b := by omega
      have hw0 : IntKind.i64.wrap x = x := IntWalk.i64_in _ (by omega)
      have hwj : IntKind.i64.wrap ((j : Int) + 1) = (j : Int) + 1 := IntWalk.i64_in _ (by omega)
      clear hA hj HN hxe hby hA2
      go_wp2_with fail
      go_quiet (fail)
      revert nq
      intro n1
      go_wp2_with fail
      go_quiet (fail)
      obtain ⟨W, hW⟩ : ∃ W, W = (wr.drewN n1).drewN nq := ⟨_, rfl⟩
      have hB : Below wr.heap.size wr W := by rw [hW]; exact below_drewN (below_drewN (Below.refl _ _) _) _
      have HTW : Hid (TpAt W lo b (.slice (some ⟨g, off, none⟩) l.length c) l j 0) := HT.out.below hB
      have HSW : Hid (Sans b lo w W) := HS.out.trans (Sans.of_below hB (by have := HT.out.lt; omega))
      rw [← hW]
      clear hW hB HT HS c0 c1 c2 cf cl hx
      obtain ⟨c0, c1, c2, cf, cl⟩ := three_cells HTW.out.box
      have HT1 : Hid (TpAt (W.setCell ⟨b, 1, none⟩ (.int .i64 ((j : Int) + 1))) lo b (.slice (some ⟨g, off, none⟩) l.length c) l (j + 1) 0 ∧ Sans b lo w (W.setCell ⟨b, 1, none⟩ (.int .i64 ((j : Int) + 1)))) := ⟨HTW.out.setI (j + 1) (by omega), HSW.out.trans (Sans.setAny W hown 1 _)⟩
      have HT2 : Hid (numD (l.drop i) = ⟨4, 0, []⟩ → NextQ w ((W.setCell ⟨b, 1, none⟩ (.int .i64 ((j : Int) + 1))).setCell ⟨b, 2, none⟩ (.int .i64 4)) lo b (.slice (some ⟨g, off, none⟩) l.length c) l (numD (l.drop i))) := fun e => by
        rw [e]
        exact ⟨HT1.out.2.trans (Sans.setAny _ hown 2 _), ⟨j + 1, HT1.out.1.setE 4, fun e => by simp at e⟩, by simp, fun _ => rfl⟩
      clear HTW HSW
      by_cases h7 : k = 7
      · subst h7
        have HD : Hid (numD (l.drop i) = ⟨4, 0, []⟩) := by show _ = _; rw [HST.out, numG, if_pos rfl]
        clear HST HQ
        go_wp2_with fail
        go_ret
        exact ⟨by rw [HD.out]; rfl, HT2.out HD.out⟩
      · have hk7' : ¬ (k : Int) = 7 := by omega
        by_cases h2 : x = 0 ∧ 0 < k
        · obtain ⟨rfl, h0⟩ := h2
          have h0i : (0 : Int) < (k : Int) := by omega
          have HD : Hid (numD (l.drop i) = ⟨4, 0, []⟩) := by show _ = _; rw [HST.out, numG, if_neg h7, if_neg (by omega), if_pos ⟨rfl, h0⟩]
          clear HST
          go_wp2_with fail
          go_ret
          exact ⟨by rw [HD.out]; rfl, HT2.out HD.out⟩
        · have hpb : 0 ≤ x % 128 ∧ x % 128 ≤ 127 := by omega
          have hpq : 0 ≤ x % 128 * q ∧ x % 128 * q ≤ 127 * q := ⟨Int.mul_nonneg hpb.1 (by omega), Int.mul_le_mul_of_nonneg_right hpb.2 (by omega)⟩
          have hqn : q * 128 ≤ 562949953421312 := by rw [HQ.out]; exact pw_next (by omega)
          have hmod : Int.tmod x 128 = x % 128 := Int.tmod_eq_emod_of_nonneg hxb.1
          have hw1 : IntKind.i64.wrap (x % 128 * q) = x % 128 * q := IntWalk.i64_in _ (by omega)
          have hw2 : IntKind.i64.wrap (a + x % 128 * q) = a + x % 128 * q := IntWalk.i64_in _ (by omega)
          have hw3 : IntKind.i64.wrap (128 * q) = 128 * q := IntWalk.i64_in _ (by omega)
          have HNX : Hid (0 ≤ a + x % 128 * q ∧ a + x % 128 * q < 128 * q ∧ 128 * q ≤ 562949953421312) := ⟨by omega, by omega, by omega⟩
          have HPW : Hid (128 * q = pw (k + 1)) := by show _ = _; rw [HQ.out, pw_succ, Int.mul_comm]
          have hyc : (x = 0 ∧ ¬ (0 : Int) < (k : Int)) ∨ ((x == 0) = false ∧ (0 : Int) < (k : Int)) ∨ ((x == 0) = false ∧ ¬ (0 : Int) < (k : Int)) := by
            by_cases e0 : x = 0
            · exact Or.inl ⟨e0, by omega⟩
            · have : (x == 0) = false := by simpa using e0
              by_cases e1 : (0 : Int) < (k : Int)
              · exact Or.inr (Or.inl ⟨this, e1⟩)
              · exact Or.inr (Or.inr ⟨this, e1⟩)
          clear HQ hqn hpq hpb HT2
          by_cases h1 : 128 ≤ x
          · have HD : Hid (numG (k + 1) (a + x % 128 * q) (128 * q) (l.drop (j + 1)) = numD (l.drop i)) := by show _ = _; rw [HST.out, numG, if_neg h7, if_pos h1, Int.mul_comm q 128]
            have h1' : ¬ x < 128 := by omega
            clear HST
            rcases hyc with ⟨rfl, hy⟩ | ⟨hx0, hy⟩ | ⟨hx0, hy⟩
            · omega
            all_goals
              go_wp2_with fail
              refine ⟨⟨k + 1, j + 1, _, _, by omega, by go_num, rfl, rfl, HD, HNX.out, HPW, HT1.out.1, HT1.out.2⟩, ?_⟩
              simp [intOf]; omega
          · have HD : Hid (numD (l.drop i) = ⟨0, a + x % 128 * q, l.drop (j + 1)⟩) := by show _ = _; rw [HST.out, numG, if_neg h7, if_neg h1, if_neg h2]
            have h1' : x < 128 := by omega
            have HNQ : Hid (NextQ w (W.setCell ⟨b, 1, none⟩ (.int .i64 ((j : Int) + 1))) lo b (.slice (some ⟨g, off, none⟩) l.length c) l (numD (l.drop i))) := by
              show NextQ _ _ _ _ _ _ _
              rw [HD.out]
              have := HNX.out
              exact ⟨HT1.out.2, ⟨j + 1, HT1.out.1, fun _ => rfl⟩, ⟨this.1, by show a + x % 128 * q < _; omega⟩, fun e => absurd rfl e⟩
            clear HST HT1
            rcases hyc with ⟨rfl, hy⟩ | ⟨hx0, hy⟩ | ⟨hx0, hy⟩
            all_goals
              go_wp2_with fail
              go_ret
              exact ⟨by rw [HD.out]; first | rfl | simp, HNQ.out⟩
    · have hji : (l.length : Int) ≤ (j : Int) := by omega
      have HD : Hid (numD (l.drop i) = ⟨5, 0, []⟩) := by show _ = _; rw [← HN.out, numG_end hlt]
      have hlo : lo ≤ wr.heap.size := by have := HT.out.lt; omega
      clear hA HN HQ
      go_wp2_with fail
      go_quiet (fail)
      go_wp2_with fail
      go_ret
      have hB : Below wr.heap.size wr (wr.drewN nq) := below_drewN (Below.refl _ _) _
      refine ⟨by rw [HD.out]; rfl, ?_⟩
      rw [HD.out]
      exact ⟨(HS.out.trans (Sans.of_below hB hlo)).trans (Sans.setAny _ hown 2 _), ⟨j, (HT.out.below hB).setE 5, fun e => by simp at e⟩, by simp, fun _ => rfl⟩

/-- The next number of any kind. -/
theorem zig_idle (b lo i : Nat) (v : Value) (l : List Int) (e : Int) (w : World) (h : TpAt w lo b v l i e) (he : e ≠ 0) :
    Calls Tryd.prog 77 #[.pointer (some ⟨b, 0, none⟩)] w fun e' w' => e' = .returned (.int .i64 0) ∧ w' = w := by
  have HN : Hid (Calls Tryd.prog 76 #[.pointer (some ⟨b, 0, none⟩)] w fun e' w' => e' = .returned (.int .i64 0) ∧ w' = w) := next_idle b lo i v l e w h he
  clear h
  go_enter Tryd.func77, Tryd.ntmps77
  go_wp2_with fail
  refine HN.out.mono ?_
  rintro e w1 ⟨rfl, rfl⟩
  go_wp2_with fail
  go_ret
  exact ⟨rfl, rfl⟩
theorem anyK_bd {n : Int} (h : 0 ≤ n ∧ n < 562949953421312) : -281474976710656 ≤ anyK n ∧ anyK n ≤ 281474976710656 := by unfold anyK; split <;> omega
theorem zig_any (b lo i : Nat) (v : Value) (l : List Int) (w : World) (h : TpAt w lo b v l i 0) :
    Calls Tryd.prog 77 #[.pointer (some ⟨b, 0, none⟩)] w fun e w' => e = .returned (.int .i64 (anyK (numD (l.drop i)).val)) ∧ NextQ w w' lo b v l (numD (l.drop i)) := by
  have HN : Hid (Calls Tryd.prog 76 #[.pointer (some ⟨b, 0, none⟩)] w fun e w' => e = .returned (.int .i64 (numD (l.drop i)).val) ∧ NextQ w w' lo b v l (numD (l.drop i))) := next_any b lo i v l w h
  clear h
  revert HN
  generalize numD (l.drop i) = g
  intro HN
  go_enter Tryd.func77, Tryd.ntmps77
  go_wp2_with fail
  refine HN.out.mono ?_
  rintro e w1 ⟨rfl, hq⟩
  have HQ : Hid (NextQ w w1 lo b v l g) := hq
  obtain ⟨hv0, hv1⟩ := hq.val
  clear hq HN
  obtain ⟨x, hx⟩ : ∃ x, x = g.val := ⟨_, rfl⟩
  have HX : Hid (x = g.val) := hx
  rw [← hx] at hv0 hv1 ⊢
  clear hx
  have hm : Int.tmod x 2 = x % 2 := Int.tmod_eq_emod_of_nonneg hv0
  have hd : Int.tdiv x 2 = x / 2 := Int.tdiv_eq_ediv_of_nonneg hv0
  by_cases h2 : x % 2 = 0
  · have HE : Hid (anyK x = x / 2) := by show _ = _; unfold anyK; rw [if_neg (by omega)]
    go_wp2_with fail
    go_ret
    exact ⟨by rw [← HX.out, HE.out]; rfl, HQ.out⟩
  · have HE : Hid (anyK x = -(x / 2) - 1) := by show _ = _; unfold anyK; rw [if_pos (by omega)]; omega
    have h2' : x % 2 = 1 := by omega
    have hw1 : IntKind.i64.wrap (-(x / 2)) = -(x / 2) := IntWalk.i64_in _ (by omega)
    have hw2 : IntKind.i64.wrap (-(x / 2) - 1) = -(x / 2) - 1 := IntWalk.i64_in _ (by omega)
    clear h2
    go_wp2_with fail
    go_ret
    exact ⟨by rw [← HX.out, HE.out]; rfl, HQ.out⟩

end Go.Proofs.YtlcdefpdahjjeagDoor

/- hourglassref.EventsOf: what it has made so far; where it refuses early. -/

namespace Go.Proofs.YtlcdefpdahjjeagDoor
open Go.RowKit
set_option maxRecDepth 100000

theorem TpAt.append {w1 W w2 : World} {lo lo' b n sz i : Nat} {t : TypeId} {v u : Value} {l : List Int} {e : Int} {xs : List Value} (h : TpAt w1 lo b v l i e) (hB : Below w1.heap.size w1 W) (hlo : lo ≤ lo') (hne : u.ownBlock ≠ some b) (ho : W.ownsRow lo' t sz u n xs) (hg : W.grownBy w2 u.ownBlock) : TpAt w2 lo b v l i e := by
  have hW := h.below hB
  refine ⟨block_grown hW.box hg hne, h.own, hW.bys.below ?_, h.le⟩
  exact (Below.refl _ W).grown hg (by have := hW.own; have := hW.lt; omega) (fun k hk => Nat.le_trans hlo (World.ownsRow.lt ho k hk).1)
theorem TpAt.put {w : World} {lo b i : Nat} {v : Value} {l : List Int} {e : Int} (h : TpAt w lo b v l i e) {p : Addr} (hp : lo ≤ p.block) (hb : b ≠ p.block) (u : Value) : TpAt (w.setCell p u) lo b v l i e :=
  ⟨by rw [Below.heap_setCell _ _ _ _ hb]; exact h.box, h.own, h.bys.below ((Below.refl _ w).setCell hp u), h.le⟩

/-- Between two events. -/
structure OfI (w wr : World) (lo t : Nat) (o v : Value) (l : List Int) (R : List (Ev × Value)) (j : Nat) (e : Int) : Prop where
  own : OwnE wr w.heap.size o R
  tp : TpAt wr lo t v l j e
  sans : Sans t lo w wr
  len : ∀ p ∈ R, p.1.data.length ≤ 1000
theorem OfI.on {w w1 w2 : World} {lo t j j' : Nat} {o v : Value} {l : List Int} {R : List (Ev × Value)} {e e' : Int} (h : OfI w w1 lo t o v l R j e) (hs : Sans t lo w1 w2) (ht : TpAt w2 lo t v l j' e') : OfI w w2 lo t o v l R j' e' :=
  ⟨⟨hs.owns h.own.row (ownE_ne h.own h.tp.box (by decide)), fun p hp => hs.owns (h.own.data p hp) (own_ne (h.own.data p hp) h.tp.box (by decide))⟩, ht, h.sans.trans hs, h.len⟩
theorem OfI.snoc {w w1 W w2 : World} {lo t j : Nat} {o o' v d : Value} {l : List Int} {R : List (Ev × Value)} {e : Int} {x : Ev} (h : OfI w w1 lo t o v l R j e) (hlo : lo ≤ w.heap.size) (hB : Below w1.heap.size w1 W) (hd : OwnI W w.heap.size d x.data) (hx : x.data.length ≤ 1000) (hg : W.grownBy w2 o.ownBlock)
    (ho : w2.ownsRow w.heap.size 56 3 o' (R.length + 1) (flat R ++ [.int .i64 x.at_, .int .i64 x.kind, d])) : OfI w w2 lo t o' v l (R ++ [(x, d)]) j e := by
  have hE := h.own.below hB
  refine ⟨hE.snoc hd hg ho, h.tp.append hB hlo (ownE_ne hE (h.tp.below hB).box (by decide)) hE.row hg, h.sans.append hlo hB hE.row hg, fun p hp => ?_⟩
  rcases List.mem_append.1 hp with hp | hp
  · exact h.len p hp
  · simp at hp
    subst hp
    exact hx

/-- An event, as it lies there: wx is the world ahead of its box. -/
structure EvT (wx wt : World) (lo t : Nat) (v : Value) (l : List Int) (j : Nat) (e : Int) (x : Ev) (dv : Value) : Prop where
  tp : TpAt wt lo t v l j e
  sans : Sans t lo wx wt
  box : wt.heap[wx.heap.size]? = some (.cells #[.int .i64 x.at_, .int .i64 x.kind, dv] 56 (0, 0))
  dat : OwnI wt wx.heap.size dv x.data
  lt : t < wx.heap.size
theorem EvT.start {wx : World} {lo t j : Nat} {v : Value} {l : List Int} {e : Int} (h : TpAt wx lo t v l j e) (a k : Int) : EvT wx (wx.alloc (.cells #[.int .i64 a, .int .i64 k, .slice none 0 0] 56)) lo t v l j e ⟨a, k, []⟩ (.slice none 0 0) :=
  ⟨h.below (below_alloc _ _), Sans.of_below (below_alloc _ _) (by have := h.own; have := h.lt; omega), Go.Deep.blk_alloc_new _ _, World.ownsRow_nil _ _ _ _, h.lt⟩
theorem EvT.on {wx w1 w2 : World} {lo t j j' : Nat} {v dv : Value} {l : List Int} {e e' : Int} {x : Ev} (h : EvT wx w1 lo t v l j e x dv) (hs : Sans t lo w1 w2) (ht : TpAt w2 lo t v l j' e') : EvT wx w2 lo t v l j' e' x dv := by
  have := h.lt
  exact ⟨ht, h.sans.trans hs, by rw [hs.block _ (lt_of_block h.box) (by omega)]; exact h.box, hs.owns h.dat (own_ne h.dat h.tp.box (by decide)), h.lt⟩
/-- Other words are put into it. -/
theorem EvT.words {wx w1 w2 : World} {lo t j : Nat} {v dv dv' : Value} {l d' : List Int} {e a k : Int} {d : List Int} (h : EvT wx w1 lo t v l j e ⟨a, k, d⟩ dv) (ht : TpAt w2 lo t v l j e) (hs : Sans t lo wx w2) (hb : w2.heap[wx.heap.size]? = some (.cells #[.int .i64 a, .int .i64 k, dv] 56 (0, 0))) (hd : OwnI w2 wx.heap.size dv' d') : EvT wx (w2.setCell ⟨wx.heap.size, 2, none⟩ dv') lo t v l j e ⟨a, k, d'⟩ dv' := by
  have hlt := h.lt
  have hown := h.tp.own
  refine ⟨ht.put (by simp; omega) (by simp; omega) _, hs.put (by omega) (by simp) _, ?_, ownsRow_setCell_other (a := ⟨wx.heap.size, 2, none⟩) hd (own_ne hd hb (by decide)) _, hlt⟩
  simp [World.setCell, Array.getElem?_modify, hb]
theorem EvT.append {wx w1 W w2 : World} {lo t j : Nat} {v dv dv' : Value} {l d : List Int} {e a k z : Int} (h : EvT wx w1 lo t v l j e ⟨a, k, d⟩ dv) (hB : Below w1.heap.size w1 W) (hg : W.grownBy w2 dv.ownBlock) (ho : OwnI w2 wx.heap.size dv' (d ++ [z])) :
    w2.heap[wx.heap.size]? = some (.cells #[.int .i64 a, .int .i64 k, dv] 56 (0, 0)) ∧ EvT wx (w2.setCell ⟨wx.heap.size, 2, none⟩ dv') lo t v l j e ⟨a, k, d ++ [z]⟩ dv' := by
  have hlt := h.lt
  have hown := h.tp.own
  have hD : OwnI W wx.heap.size dv d := h.dat.below hB
  have hb0 : W.heap[wx.heap.size]? = some (.cells #[.int .i64 a, .int .i64 k, dv] 56 (0, 0)) := by rw [hB.block _ (lt_of_block h.box)]; exact h.box
  have hb2 := block_grown hb0 hg (own_ne hD hb0 (by decide))
  exact ⟨hb2, h.words (h.tp.append hB (by omega) (own_ne hD (h.tp.below hB).box (by decide)) hD hg) (h.sans.append (by omega) hB hD hg) hb2 ho⟩

set_option maxRecDepth 20000 in
theorem EventsOf_size (A : Option Addr) (n c : Nat) (w : World) (h6 : 60000 < n) (h7 : n ≤ 140737488351232) :
    Calls Tryd.prog 42 #[.slice A n c] w fun e w' => e = .returned (.tuple #[.slice none 0 0, .int .i64 1]) ∧ w' = w := by
  have g1 : (60000 : Int) < (n : Int) := by omega
  clear h6
  go_enter Tryd.func42, Tryd.ntmps42
  go_wp2_with fail
  go_ret2
  exact ⟨rfl, rfl⟩
set_option maxRecDepth 20000 in
theorem EventsOf_short (A : Option Addr) (n c : Nat) (w : World) (h6 : n ≤ 4) :
    Calls Tryd.prog 42 #[.slice A n c] w fun e w' => e = .returned (.tuple #[.slice none 0 0, .int .i64 5]) ∧ w' = w := by
  have g1 : ¬ (60000 : Int) < (n : Int) := by omega
  have g2 : (n : Int) < 5 := by omega
  clear h6
  go_enter Tryd.func42, Tryd.ntmps42
  go_wp2_with fail
  go_ret2
  exact ⟨rfl, rfl⟩

set_option maxRecDepth 20000 in
set_option maxHeartbeats 2000000 in
theorem EventsOf_sum (b off c : Nat) (l : List Int) (w : World) (h : BytesAt w (.slice (some ⟨b, off, none⟩) l.length c) l) (hcap : l.length ≤ c) (h5 : 4 < l.length) (h6 : l.length ≤ 60000) (hne : l.drop (l.length - 4) ≠ sumB (l.take (l.length - 4))) :
    Calls Tryd.prog 42 #[.slice (some ⟨b, off, none⟩) l.length c] w fun e w' => e = .returned (.tuple #[.slice none 0 0, .int .i64 10]) ∧ Below w.heap.size w w' := by
  have HS : Hid (∀ W, Below w.heap.size w W → Calls Tryd.prog 73 #[.slice (some ⟨b, off, none⟩) (l.length - 4) c] W fun e w' => ∃ g, e = .returned (.slice (some ⟨g, 0, none⟩) 4 4) ∧ (convert 26 9 (.slice (some ⟨g, 0, none⟩) 4 4)).run Tryd.prog w' = .ok (.string (strOfNums (sumB (l.take (l.length - 4))))) w' ∧ Below W.heap.size W w') := fun W hb => (SumOf_any _ (l.take (l.length - 4)) W ((h.below hb).take (l.length - 4) (by omega) c)).mono fun e w' ⟨g, he, ho, hb'⟩ => ⟨g, he, (ho.read (by simp [sumB]) (sumB_byte _)).text (by simp [sumB]), hb'⟩
  have HT : Hid (∀ W, Below w.heap.size w W → (convert 26 9 (.slice (some ⟨b, off + (l.length - 4), none⟩) 4 (c - (l.length - 4)))).run Tryd.prog W = .ok (.string (strOfNums (l.drop (l.length - 4)))) W) := fun W hb => by
    have h1 := (h.below hb).drop (l.length - 4) (by omega) (c - (l.length - 4))
    rw [show l.length - (l.length - 4) = 4 by omega] at h1
    exact h1.text (by simp; omega)
  have hse : strOfNums (sumB (l.take (l.length - 4))) ≠ strOfNums (l.drop (l.length - 4)) := fun e => by
    obtain ⟨_, _, _, _, hy, _⟩ := h
    exact hne (strOfNums_inj (sumB_byte _) (fun x hx => hy x (List.mem_of_mem_drop hx)) e).symm
  obtain ⟨n, hn⟩ : ∃ n, n = l.length - 4 := ⟨_, rfl⟩
  rw [← hn] at HS HT hse
  obtain ⟨m, hm⟩ : ∃ m, m = l.length := ⟨_, rfl⟩
  rw [← hm] at h5 h6 hcap hn ⊢
  clear h hm hne
  revert HS HT hse
  generalize strOfNums (sumB (l.take n)) = s1
  generalize strOfNums (l.drop n) = s2
  intro hse HT HS
  have g1 : ¬ (60000 : Int) < (m : Int) := by omega
  have g2 : ¬ (m : Int) < 5 := by omega
  have g3 : IntKind.i64.wrap ((m : Int) - 4) = (n : Int) := by rw [IntWalk.i64_in _ (by omega)]; omega
  have g4 : (n : Int) ≤ c := by omega
  have g5 : (n : Int) ≤ m := by omega
  have g6 : (m : Int) ≤ c := by omega
  have g7 : m - n = 4 := by omega
  have hc1 : ¬ c = n := by omega
  have hc2 : ¬ c - n = 0 := by omega
  have hd : (s1.toList == s2.toList) = false := by
    rw [ByteArray.toList_eq, ByteArray.toList_eq]
    apply Bool.eq_false_iff.2
    rw [ne_eq, beq_iff_eq]
    obtain ⟨⟨a⟩⟩ := s1
    obtain ⟨⟨b⟩⟩ := s2
    simpa using hse
  have t0 := HT.out w.drew ((Below.refl _ w).drew)
  clear hn h5 h6
  go_enter Tryd.func42, Tryd.ntmps42
  go_wp2_with fail
  go_region_law
    (first
      | (go_simp; go_at_call 73; refine (HS.out _ ((Below.refl _ w).drew)).mono ?_; intro e w2 hh; obtain ⟨g, he, t1, hb⟩ := hh; subst he; have HB2 : Hid (Below w.heap.size w w2) := ((Below.refl _ w).drew).trans hb; have t2 := HT.out w2 HB2.out; clear hb))
  all_goals
    go_wp2_with fail
    go_ret2
    exact ⟨rfl, HB2.out⟩

end Go.Proofs.YtlcdefpdahjjeagDoor
