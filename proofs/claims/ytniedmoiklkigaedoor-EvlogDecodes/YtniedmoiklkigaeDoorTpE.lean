/- hourglassref.EventsOf: what it has made so far; where it refuses early. -/
import Derived.Test.YtniedmoiklkigaeDoorTp
import Derived.Test.YtniedmoiklkigaeDoorRdV
import Derived.Test.YtniedmoiklkigaeDoorEvRef
namespace Go.Proofs.YtniedmoiklkigaeDoor
open Go.RowKit

theorem TpAt.append {w1 W w2 : World} {lo lo' b n sz i : Nat} {t : TypeId} {v u : Value} {l : List Int} {e : Int} {xs : List Value} (h : TpAt w1 lo b v l i e) (hB : Below w1.heap.size w1 W) (hlo : lo ≤ lo') (hne : u.ownBlock ≠ some b) (ho : W.ownsRow lo' t sz u n xs) (hg : W.grownBy w2 u.ownBlock) : TpAt w2 lo b v l i e := by
  have hW := h.below hB
  refine ⟨block_grown hW.box hg hne, h.own, hW.bys.below ?_, h.le⟩
  exact (Below.refl _ W).grown hg (by have := hW.own; have := hW.lt; omega) (fun k hk => Nat.le_trans hlo (World.ownsRow.lt ho k hk).1)
theorem TpAt.put {w : World} {lo b i : Nat} {v : Value} {l : List Int} {e : Int} (h : TpAt w lo b v l i e) {p : Addr} (hp : lo ≤ p.block) (hb : b ≠ p.block) (u : Value) : TpAt (w.setCell p u) lo b v l i e :=
  ⟨by rw [Below.heap_setCell _ _ _ _ hb]; exact h.box, h.own, h.bys.below ((Below.refl _ w).setCell hp u), h.le⟩

/-- Between two events. -/
structure OfI (w wr : World) (lo t : Nat) (o v : Value) (l : List Int) (R : List (Ev × Value)) (j : Nat) (e : Int) : Prop where
  own : OwnE wr w.heap.size o R
  tp : TpAt wr lo t v l j e
  sans : Sans t lo w wr
  len : ∀ p ∈ R, p.1.data.length ≤ 1000
theorem OfI.on {w w1 w2 : World} {lo t j j' : Nat} {o v : Value} {l : List Int} {R : List (Ev × Value)} {e e' : Int} (h : OfI w w1 lo t o v l R j e) (hs : Sans t lo w1 w2) (ht : TpAt w2 lo t v l j' e') : OfI w w2 lo t o v l R j' e' :=
  ⟨⟨hs.owns h.own.row (ownE_ne h.own h.tp.box (by decide)), fun p hp => hs.owns (h.own.data p hp) (own_ne (h.own.data p hp) h.tp.box (by decide))⟩, ht, h.sans.trans hs, h.len⟩
theorem OfI.snoc {w w1 W w2 : World} {lo t j : Nat} {o o' v d : Value} {l : List Int} {R : List (Ev × Value)} {e : Int} {x : Ev} (h : OfI w w1 lo t o v l R j e) (hlo : lo ≤ w.heap.size) (hB : Below w1.heap.size w1 W) (hd : OwnI W w.heap.size d x.data) (hx : x.data.length ≤ 1000) (hg : W.grownBy w2 o.ownBlock)
    (ho : w2.ownsRow w.heap.size 35 3 o' (R.length + 1) (flat R ++ [.int .i64 x.at_, .int .i64 x.kind, d])) : OfI w w2 lo t o' v l (R ++ [(x, d)]) j e := by
  have hE := h.own.below hB
  refine ⟨hE.snoc hd hg ho, h.tp.append hB hlo (ownE_ne hE (h.tp.below hB).box (by decide)) hE.row hg, h.sans.append hlo hB hE.row hg, fun p hp => ?_⟩
  rcases List.mem_append.1 hp with hp | hp
  · exact h.len p hp
  · simp at hp
    subst hp
    exact hx

/-- An event, as it lies there: wx is the world ahead of its box. -/
structure EvT (wx wt : World) (lo t : Nat) (v : Value) (l : List Int) (j : Nat) (e : Int) (x : Ev) (dv : Value) : Prop where
  tp : TpAt wt lo t v l j e
  sans : Sans t lo wx wt
  box : wt.heap[wx.heap.size]? = some (.cells #[.int .i64 x.at_, .int .i64 x.kind, dv] 35 (0, 0))
  dat : OwnI wt wx.heap.size dv x.data
  lt : t < wx.heap.size
theorem EvT.start {wx : World} {lo t j : Nat} {v : Value} {l : List Int} {e : Int} (h : TpAt wx lo t v l j e) (a k : Int) : EvT wx (wx.alloc (.cells #[.int .i64 a, .int .i64 k, .slice none 0 0] 35)) lo t v l j e ⟨a, k, []⟩ (.slice none 0 0) :=
  ⟨h.below (below_alloc _ _), Sans.of_below (below_alloc _ _) (by have := h.own; have := h.lt; omega), Go.Deep.blk_alloc_new _ _, World.ownsRow_nil _ _ _ _, h.lt⟩
theorem EvT.on {wx w1 w2 : World} {lo t j j' : Nat} {v dv : Value} {l : List Int} {e e' : Int} {x : Ev} (h : EvT wx w1 lo t v l j e x dv) (hs : Sans t lo w1 w2) (ht : TpAt w2 lo t v l j' e') : EvT wx w2 lo t v l j' e' x dv := by
  have := h.lt
  exact ⟨ht, h.sans.trans hs, by rw [hs.block _ (lt_of_block h.box) (by omega)]; exact h.box, hs.owns h.dat (own_ne h.dat h.tp.box (by decide)), h.lt⟩
/-- Other words are put into it. -/
theorem EvT.words {wx w1 w2 : World} {lo t j : Nat} {v dv dv' : Value} {l d' : List Int} {e a k : Int} {d : List Int} (h : EvT wx w1 lo t v l j e ⟨a, k, d⟩ dv) (ht : TpAt w2 lo t v l j e) (hs : Sans t lo wx w2) (hb : w2.heap[wx.heap.size]? = some (.cells #[.int .i64 a, .int .i64 k, dv] 35 (0, 0))) (hd : OwnI w2 wx.heap.size dv' d') : EvT wx (w2.setCell ⟨wx.heap.size, 2, none⟩ dv') lo t v l j e ⟨a, k, d'⟩ dv' := by
  have hlt := h.lt
  have hown := h.tp.own
  refine ⟨ht.put (by simp; omega) (by simp; omega) _, hs.put (by omega) (by simp) _, ?_, ownsRow_setCell_other (a := ⟨wx.heap.size, 2, none⟩) hd (own_ne hd hb (by decide)) _, hlt⟩
  simp [World.setCell, Array.getElem?_modify, hb]
theorem EvT.append {wx w1 W w2 : World} {lo t j : Nat} {v dv dv' : Value} {l d : List Int} {e a k z : Int} (h : EvT wx w1 lo t v l j e ⟨a, k, d⟩ dv) (hB : Below w1.heap.size w1 W) (hg : W.grownBy w2 dv.ownBlock) (ho : OwnI w2 wx.heap.size dv' (d ++ [z])) :
    w2.heap[wx.heap.size]? = some (.cells #[.int .i64 a, .int .i64 k, dv] 35 (0, 0)) ∧ EvT wx (w2.setCell ⟨wx.heap.size, 2, none⟩ dv') lo t v l j e ⟨a, k, d ++ [z]⟩ dv' := by
  have hlt := h.lt
  have hown := h.tp.own
  have hD : OwnI W wx.heap.size dv d := h.dat.below hB
  have hb0 : W.heap[wx.heap.size]? = some (.cells #[.int .i64 a, .int .i64 k, dv] 35 (0, 0)) := by rw [hB.block _ (lt_of_block h.box)]; exact h.box
  have hb2 := block_grown hb0 hg (own_ne hD hb0 (by decide))
  exact ⟨hb2, h.words (h.tp.append hB (by omega) (own_ne hD (h.tp.below hB).box (by decide)) hD hg) (h.sans.append (by omega) hB hD hg) hb2 ho⟩

set_option maxRecDepth 20000 in
theorem EventsOf_size (A : Option Addr) (n c : Nat) (w : World) (h6 : 60000 < n) (h7 : n ≤ 140737488351232) :
    Calls Tryd.prog 11 #[.slice A n c] w fun e w' => e = .returned (.tuple #[.slice none 0 0, .int .i64 1]) ∧ w' = w := by
  have g1 : (60000 : Int) < (n : Int) := by omega
  clear h6
  go_enter Tryd.func11, Tryd.ntmps11
  go_wp2_with fail
  go_ret2
  exact ⟨rfl, rfl⟩
set_option maxRecDepth 20000 in
theorem EventsOf_short (A : Option Addr) (n c : Nat) (w : World) (h6 : n ≤ 4) :
    Calls Tryd.prog 11 #[.slice A n c] w fun e w' => e = .returned (.tuple #[.slice none 0 0, .int .i64 5]) ∧ w' = w := by
  have g1 : ¬ (60000 : Int) < (n : Int) := by omega
  have g2 : (n : Int) < 5 := by omega
  clear h6
  go_enter Tryd.func11, Tryd.ntmps11
  go_wp2_with fail
  go_ret2
  exact ⟨rfl, rfl⟩

set_option maxRecDepth 20000 in
set_option maxHeartbeats 2000000 in
theorem EventsOf_sum (b off c : Nat) (l : List Int) (w : World) (h : BytesAt w (.slice (some ⟨b, off, none⟩) l.length c) l) (hcap : l.length ≤ c) (h5 : 4 < l.length) (h6 : l.length ≤ 60000) (hne : l.drop (l.length - 4) ≠ sumB (l.take (l.length - 4))) :
    Calls Tryd.prog 11 #[.slice (some ⟨b, off, none⟩) l.length c] w fun e w' => e = .returned (.tuple #[.slice none 0 0, .int .i64 10]) ∧ Below w.heap.size w w' := by
  have HS : Hid (∀ W, Below w.heap.size w W → Calls Tryd.prog 23 #[.slice (some ⟨b, off, none⟩) (l.length - 4) c] W fun e w' => ∃ g, e = .returned (.slice (some ⟨g, 0, none⟩) 4 4) ∧ (convert 26 9 (.slice (some ⟨g, 0, none⟩) 4 4)).run Tryd.prog w' = .ok (.string (strOfNums (sumB (l.take (l.length - 4))))) w' ∧ Below W.heap.size W w') := fun W hb => (SumOf_any _ (l.take (l.length - 4)) W ((h.below hb).take (l.length - 4) (by omega) c)).mono fun e w' ⟨g, he, ho, hb'⟩ => ⟨g, he, (ho.read (by simp [sumB]) (sumB_byte _)).text (by simp [sumB]), hb'⟩
  have HT : Hid (∀ W, Below w.heap.size w W → (convert 26 9 (.slice (some ⟨b, off + (l.length - 4), none⟩) 4 (c - (l.length - 4)))).run Tryd.prog W = .ok (.string (strOfNums (l.drop (l.length - 4)))) W) := fun W hb => by
    have h1 := (h.below hb).drop (l.length - 4) (by omega) (c - (l.length - 4))
    rw [show l.length - (l.length - 4) = 4 by omega] at h1
    exact h1.text (by simp; omega)
  have hse : strOfNums (sumB (l.take (l.length - 4))) ≠ strOfNums (l.drop (l.length - 4)) := fun e => by
    obtain ⟨_, _, _, _, hy, _⟩ := h
    exact hne (strOfNums_inj (sumB_byte _) (fun x hx => hy x (List.mem_of_mem_drop hx)) e).symm
  obtain ⟨n, hn⟩ : ∃ n, n = l.length - 4 := ⟨_, rfl⟩
  rw [← hn] at HS HT hse
  obtain ⟨m, hm⟩ : ∃ m, m = l.length := ⟨_, rfl⟩
  rw [← hm] at h5 h6 hcap hn ⊢
  clear h hm hne
  revert HS HT hse
  generalize strOfNums (sumB (l.take n)) = s1
  generalize strOfNums (l.drop n) = s2
  intro hse HT HS
  have g1 : ¬ (60000 : Int) < (m : Int) := by omega
  have g2 : ¬ (m : Int) < 5 := by omega
  have g3 : IntKind.i64.wrap ((m : Int) - 4) = (n : Int) := by rw [IntWalk.i64_in _ (by omega)]; omega
  have g4 : (n : Int) ≤ c := by omega
  have g5 : (n : Int) ≤ m := by omega
  have g6 : (m : Int) ≤ c := by omega
  have g7 : m - n = 4 := by omega
  have hc1 : ¬ c = n := by omega
  have hc2 : ¬ c - n = 0 := by omega
  have hd : (s1.toList == s2.toList) = false := by
    rw [ByteArray.toList_eq, ByteArray.toList_eq]
    apply Bool.eq_false_iff.2
    rw [ne_eq, beq_iff_eq]
    obtain ⟨⟨a⟩⟩ := s1
    obtain ⟨⟨b⟩⟩ := s2
    simpa using hse
  have t0 := HT.out w.drew ((Below.refl _ w).drew)
  clear hn h5 h6
  go_enter Tryd.func11, Tryd.ntmps11
  go_wp2_with fail
  go_region_law
    (first
      | (go_simp; go_at_call 23; refine (HS.out _ ((Below.refl _ w).drew)).mono ?_; intro e w2 hh; obtain ⟨g, he, t1, hb⟩ := hh; subst he; have HB2 : Hid (Below w.heap.size w w2) := ((Below.refl _ w).drew).trans hb; have t2 := HT.out w2 HB2.out; clear hb))
  all_goals
    go_wp2_with fail
    go_ret2
    exact ⟨rfl, HB2.out⟩

end Go.Proofs.YtniedmoiklkigaeDoor
