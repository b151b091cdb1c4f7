/- hourglassref.EventsOf: what it has made so far; where it refuses early. -/
import Derived.Test.YtbjlfhpiebokkaaDoorTpPart
import Derived.Test.YtbjlfhpiebokkaaDoorKEvPart
import Derived.Test.YtbjlfhpiebokkaaDoorToldCPart
import Derived.Deep.DeepCutAuto
namespace Go.Proofs.YtbjlfhpiebokkaaDoor
open Go.RowKit
set_option maxRecDepth 100000

theorem TpAt.append {w1 W w2 : World} {lo lo' b n sz i : Nat} {t : TypeId} {v u : Value} {l : List Int} {e : Int} {xs : List Value} (h : TpAt w1 lo b v l i e) (hB : Below w1.heap.size w1 W) (hlo : lo ≤ lo') (hne : u.ownBlock ≠ some b) (ho : W.ownsRow lo' t sz u n xs) (hg : W.grownBy w2 u.ownBlock) : TpAt w2 lo b v l i e := by
  have hW := h.below hB
  refine ⟨block_grown hW.box hg hne, h.own, hW.bys.below ?_, h.le⟩
  exact (Below.refl _ W).grown hg (by have := hW.own; have := hW.lt; omega) (fun k hk => Nat.le_trans hlo (World.ownsRow.lt ho k hk).1)
theorem TpAt.put {w : World} {lo b i : Nat} {v : Value} {l : List Int} {e : Int} (h : TpAt w lo b v l i e) {p : Addr} (hp : lo ≤ p.block) (hb : b ≠ p.block) (u : Value) : TpAt (w.setCell p u) lo b v l i e :=
  ⟨by rw [Below.heap_setCell _ _ _ _ hb]; exact h.box, h.own, h.bys.below ((Below.refl _ w).setCell hp u), h.le⟩

structure OfI (w wr : World) (lo t : Nat) (o v : Value) (l : List Int) (R : List (Ev × Value)) (j : Nat) (e : Int) : Prop where
  own : OwnE wr w.heap.size o R
  tp : TpAt wr lo t v l j e
  sans : Sans t lo w wr
  len : ∀ p ∈ R, p.1.data.length ≤ 1000
theorem OfI.on {w w1 w2 : World} {lo t j j' : Nat} {o v : Value} {l : List Int} {R : List (Ev × Value)} {e e' : Int} (h : OfI w w1 lo t o v l R j e) (hs : Sans t lo w1 w2) (ht : TpAt w2 lo t v l j' e') : OfI w w2 lo t o v l R j' e' :=
  ⟨⟨hs.owns h.own.row (ownE_ne h.own h.tp.box (by decide)), fun p hp => hs.owns (h.own.data p hp) (own_ne (h.own.data p hp) h.tp.box (by decide))⟩, ht, h.sans.trans hs, h.len⟩
theorem OfI.snoc {w w1 W w2 : World} {lo t j : Nat} {o o' v d : Value} {l : List Int} {R : List (Ev × Value)} {e : Int} {x : Ev} (h : OfI w w1 lo t o v l R j e) (hlo : lo ≤ w.heap.size) (hB : Below w1.heap.size w1 W) (hd : OwnI W w.heap.size d x.data) (hx : x.data.length ≤ 1000) (hg : W.grownBy w2 o.ownBlock)
    (ho : w2.ownsRow w.heap.size 54 3 o' (R.length + 1) (flat R ++ [.int .i64 x.at_, .int .i64 x.kind, d])) : OfI w w2 lo t o' v l (R ++ [(x, d)]) j e := by
  have hE := h.own.below hB
  refine ⟨hE.snoc hd hg ho, h.tp.append hB hlo (ownE_ne hE (h.tp.below hB).box (by decide)) hE.row hg, h.sans.append hlo hB hE.row hg, fun p hp => ?_⟩
  rcases List.mem_append.1 hp with hp | hp
  · exact h.len p hp
  · simp at hp
    subst hp
    exact hx

structure EvT (wx wt : World) (lo t : Nat) (v : Value) (l : List Int) (j : Nat) (e : Int) (x : Ev) (dv : Value) : Prop where
  tp : TpAt wt lo t v l j e
  sans : Sans t lo wx wt
  box : wt.heap[wx.heap.size]? = some (.cells #[.int .i64 x.at_, .int .i64 x.kind, dv] 54 (0, 0))
  dat : OwnI wt wx.heap.size dv x.data
  lt : t < wx.heap.size
theorem EvT.start {wx : World} {lo t j : Nat} {v : Value} {l : List Int} {e : Int} (h : TpAt wx lo t v l j e) (a k : Int) : EvT wx (wx.alloc (.cells #[.int .i64 a, .int .i64 k, .slice none 0 0] 54)) lo t v l j e ⟨a, k, []⟩ (.slice none 0 0) :=
  ⟨h.below (below_alloc _ _), Sans.of_below (below_alloc _ _) (by have := h.own; have := h.lt; omega), Go.Deep.blk_alloc_new _ _, World.ownsRow_nil _ _ _ _, h.lt⟩
theorem EvT.on {wx w1 w2 : World} {lo t j j' : Nat} {v dv : Value} {l : List Int} {e e' : Int} {x : Ev} (h : EvT wx w1 lo t v l j e x dv) (hs : Sans t lo w1 w2) (ht : TpAt w2 lo t v l j' e') : EvT wx w2 lo t v l j' e' x dv := by
  have := h.lt
  exact ⟨ht, h.sans.trans hs, by rw [hs.block _ (lt_of_block h.box) (by omega)]; exact h.box, hs.owns h.dat (own_ne h.dat h.tp.box (by decide)), h.lt⟩
theorem EvT.words {wx w1 w2 : World} {lo t j : Nat} {v dv dv' : Value} {l d' : List Int} {e a k : Int} {d : List Int} (h : EvT wx w1 lo t v l j e ⟨a, k, d⟩ dv) (ht : TpAt w2 lo t v l j e) (hs : Sans t lo wx w2) (hb : w2.heap[wx.heap.size]? = some (.cells #[.int .i64 a, .int .i64 k, dv] 54 (0, 0))) (hd : OwnI w2 wx.heap.size dv' d') : EvT wx (w2.setCell ⟨wx.heap.size, 2, none⟩ dv') lo t v l j e ⟨a, k, d'⟩ dv' := by
  have hlt := h.lt
  have hown := h.tp.own
  refine ⟨ht.put (by simp; omega) (by simp; omega) _, hs.put (by omega) (by simp) _, ?_, ownsRow_setCell_other (a := ⟨wx.heap.size, 2, none⟩) hd (own_ne hd hb (by decide)) _, hlt⟩
  simp [World.setCell, Array.getElem?_modify, hb]
theorem EvT.append {wx w1 W w2 : World} {lo t j : Nat} {v dv dv' : Value} {l d : List Int} {e a k z : Int} (h : EvT wx w1 lo t v l j e ⟨a, k, d⟩ dv) (hB : Below w1.heap.size w1 W) (hg : W.grownBy w2 dv.ownBlock) (ho : OwnI w2 wx.heap.size dv' (d ++ [z])) :
    w2.heap[wx.heap.size]? = some (.cells #[.int .i64 a, .int .i64 k, dv] 54 (0, 0)) ∧ EvT wx (w2.setCell ⟨wx.heap.size, 2, none⟩ dv') lo t v l j e ⟨a, k, d ++ [z]⟩ dv' := by
  have hlt := h.lt
  have hown := h.tp.own
  have hD : OwnI W wx.heap.size dv d := h.dat.below hB
  have hb0 : W.heap[wx.heap.size]? = some (.cells #[.int .i64 a, .int .i64 k, dv] 54 (0, 0)) := by rw [hB.block _ (lt_of_block h.box)]; exact h.box
  have hb2 := block_grown hb0 hg (own_ne hD hb0 (by decide))
  exact ⟨hb2, h.words (h.tp.append hB (by omega) (own_ne hD (h.tp.below hB).box (by decide)) hD hg) (h.sans.append (by omega) hB hD hg) hb2 ho⟩

set_option maxRecDepth 20000 in
theorem EventsOf_size (A : Option Addr) (n c : Nat) (w : World) (h6 : 60000 < n) (h7 : n ≤ 140737488351232) :
    Calls Tryd.prog 75 #[.slice A n c] w fun e w' => e = .returned (.tuple #[.slice none 0 0, .int .i64 1]) ∧ w' = w := by
  have g1 : (60000 : Int) < (n : Int) := by omega
  clear h6
  go_enter Tryd.func75, Tryd.ntmps75
  go_wp2_with fail
  go_ret2
  exact ⟨rfl, rfl⟩
set_option maxRecDepth 20000 in
theorem EventsOf_short (A : Option Addr) (n c : Nat) (w : World) (h6 : n ≤ 4) :
    Calls Tryd.prog 75 #[.slice A n c] w fun e w' => e = .returned (.tuple #[.slice none 0 0, .int .i64 5]) ∧ w' = w := by
  have g1 : ¬ (60000 : Int) < (n : Int) := by omega
  have g2 : (n : Int) < 5 := by omega
  clear h6
  go_enter Tryd.func75, Tryd.ntmps75
  go_wp2_with fail
  go_ret2
  exact ⟨rfl, rfl⟩

set_option maxRecDepth 20000 in
set_option maxHeartbeats 2000000 in
theorem EventsOf_sum (b off c : Nat) (l : List Int) (w : World) (h : BytesAt w (.slice (some ⟨b, off, none⟩) l.length c) l) (hcap : l.length ≤ c) (h5 : 4 < l.length) (h6 : l.length ≤ 60000) (hne : l.drop (l.length - 4) ≠ sumB (l.take (l.length - 4))) :
    Calls Tryd.prog 75 #[.slice (some ⟨b, off, none⟩) l.length c] w fun e w' => e = .returned (.tuple #[.slice none 0 0, .int .i64 10]) ∧ Below w.heap.size w w' := by
  have HS : Hid (∀ W, Below w.heap.size w W → Calls Tryd.prog 70 #[.slice (some ⟨b, off, none⟩) (l.length - 4) c] W fun e w' => ∃ g, e = .returned (.slice (some ⟨g, 0, none⟩) 4 4) ∧ (convert 26 9 (.slice (some ⟨g, 0, none⟩) 4 4)).run Tryd.prog w' = .ok (.string (strOfNums (sumB (l.take (l.length - 4))))) w' ∧ Below W.heap.size W w') := fun W hb => (SumOf_any _ (l.take (l.length - 4)) W ((h.below hb).take (l.length - 4) (by omega) c)).mono fun e w' ⟨g, he, ho, hb'⟩ => ⟨g, he, (ho.read (by simp [sumB]) (sumB_byte _)).text (by simp [sumB]), hb'⟩
  have HT : Hid (∀ W, Below w.heap.size w W → (convert 26 9 (.slice (some ⟨b, off + (l.length - 4), none⟩) 4 (c - (l.length - 4)))).run Tryd.prog W = .ok (.string (strOfNums (l.drop (l.length - 4)))) W) := fun W hb => by
    have h1 := (h.below hb).drop (l.length - 4) (by omega) (c - (l.length - 4))
    rw [show l.length - (l.length - 4) = 4 by omega] at h1
    exact h1.text (by simp; omega)
  have hse : strOfNums (sumB (l.take (l.length - 4))) ≠ strOfNums (l.drop (l.length - 4)) := fun e => by
    obtain ⟨_, _, _, _, hy, _⟩ := h
    exact hne (strOfNums_inj (sumB_byte _) (fun x hx => hy x (List.mem_of_mem_drop hx)) e).symm
  obtain ⟨n, hn⟩ : ∃ n, n = l.length - 4 := ⟨_, rfl⟩
  rw [← hn] at HS HT hse
  obtain ⟨m, hm⟩ : ∃ m, m = l.length := ⟨_, rfl⟩
  rw [← hm] at h5 h6 hcap hn ⊢
  clear h hm hne
  revert HS HT hse
  generalize strOfNums (sumB (l.take n)) = s1
  generalize strOfNums (l.drop n) = s2
  intro hse HT HS
  have g1 : ¬ (60000 : Int) < (m : Int) := by omega
  have g2 : ¬ (m : Int) < 5 := by omega
  have g3 : IntKind.i64.wrap ((m : Int) - 4) = (n : Int) := by rw [IntWalk.i64_in _ (by omega)]; omega
  have g4 : (n : Int) ≤ c := by omega
  have g5 : (n : Int) ≤ m := by omega
  have g6 : (m : Int) ≤ c := by omega
  have g7 : m - n = 4 := by omega
  have hc1 : ¬ c = n := by omega
  have hc2 : ¬ c - n = 0 := by omega
  have hd : (s1.toList == s2.toList) = false := by
    rw [ByteArray.toList_eq, ByteArray.toList_eq]
    apply Bool.eq_false_iff.2
    rw [ne_eq, beq_iff_eq]
    obtain ⟨⟨a⟩⟩ := s1
    obtain ⟨⟨b⟩⟩ := s2
    simpa using hse
  have t0 := HT.out w.drew ((Below.refl _ w).drew)
  clear hn h5 h6
  go_enter Tryd.func75, Tryd.ntmps75
  go_wp2_with fail
  go_region_law
    (first
      | (go_simp; go_at_call 70; refine (HS.out _ ((Below.refl _ w).drew)).mono ?_; intro e w2 hh; obtain ⟨g, he, t1, hb⟩ := hh; subst he; have HB2 : Hid (Below w.heap.size w w2) := ((Below.refl _ w).drew).trans hb; have t2 := HT.out w2 HB2.out; clear hb))
  all_goals
    go_wp2_with fail
    go_ret2
    exact ⟨rfl, HB2.out⟩

end Go.Proofs.YtbjlfhpiebokkaaDoor

/- Contract of hourglassref.EventsOf. -/

namespace Go.Proofs.YtbjlfhpiebokkaaDoor
open Go.RowKit
set_option maxRecDepth 100000

def MidE (G : Got (List Ev)) (m : Nat) (last : Int) (got : List Ev) (rest : List Int) (e : Int) : Prop := (e = 0 → eventsD m last got rest = G) ∧ (e ≠ 0 → G.no = e)

theorem mid_ok {G : Got (List Ev)} {m : Nat} {last : Int} {got : List Ev} {l r : List Int} {x : Ev} (h : eventsD (m + 1) last got l = G) (hx : eventD last l = ⟨0, x, r⟩) : MidE G m x.at_ (got ++ [x]) r 0 := by
  refine ⟨fun _ => ?_, fun e => absurd rfl e⟩
  rw [← h, eventsD, hx]
  simp
theorem mid_no {G : Got (List Ev)} {m : Nat} {last : Int} {got : List Ev} {l : List Int} {en : Int} (h : eventsD (m + 1) last got l = G) (hx : (eventD last l).no = en) (hn : en ≠ 0) : G = ⟨en, [], []⟩ := by
  rw [← h, eventsD, if_pos (by rw [hx]; exact hn), hx]
theorem mid_of {G : Got (List Ev)} {m : Nat} {a : Int} {got : List Ev} {r : List Int} {en : Int} (h : G = ⟨en, [], []⟩) (hn : en ≠ 0) : MidE G m a got r en := ⟨fun e => absurd e hn, fun _ => by rw [h]⟩
theorem evT_zero {w2 : World} {lo t j : Nat} {v : Value} {l : List Int} {e a k e' : Int} (h : TpAt w2 lo t v l j e) : EvT w2 ((w2.setCell ⟨t, 2, none⟩ (.int .i64 e')).alloc (.cells #[.int .i64 a, .int .i64 k, .slice none 0 0] 54)) lo t v l j e' ⟨a, k, []⟩ (.slice none 0 0) := by
  have hlt := h.lt
  have hown := h.own
  have hs : (w2.setCell ⟨t, 2, none⟩ (.int .i64 e')).heap.size = w2.heap.size := by simp [World.setCell]
  refine ⟨(h.setE e').below (below_alloc _ _), (Sans.setAny w2 hown 2 _).trans (Sans.of_below (below_alloc _ _) (by rw [hs]; omega)), ?_, World.ownsRow_nil _ _ _ _, hlt⟩
  have := Go.Deep.blk_alloc_new (w2.setCell ⟨t, 2, none⟩ (.int .i64 e')) (.cells #[.int .i64 a, .int .i64 k, .slice none 0 0] 54)
  rwa [hs] at this
theorem evT_word {wx w1 : World} {lo t j : Nat} {v dv : Value} {l : List Int} {e a k z : Int} (h : EvT wx w1 lo t v l j e ⟨a, k, []⟩ dv) : EvT wx ((w1.setCell ⟨wx.heap.size, 2, none⟩ (.slice (some ⟨w1.heap.size, 0, none⟩) 1 1)).alloc (.cells #[.int .i64 z] 3)) lo t v l j e ⟨a, k, [z]⟩ (.slice (some ⟨w1.heap.size, 0, none⟩) 1 1) := by
  have hlt := h.lt
  have hown := h.tp.own
  have hbl := lt_of_block h.box
  have hs : (w1.setCell ⟨wx.heap.size, 2, none⟩ (.slice (some ⟨w1.heap.size, 0, none⟩) 1 1)).heap.size = w1.heap.size := by simp [World.setCell]
  have hB := below_alloc (w1.setCell ⟨wx.heap.size, 2, none⟩ (.slice (some ⟨w1.heap.size, 0, none⟩) 1 1)) (.cells #[.int .i64 z] 3)
  have hd := OwnI.one (w := w1.setCell ⟨wx.heap.size, 2, none⟩ (.slice (some ⟨w1.heap.size, 0, none⟩) 1 1)) (lo := wx.heap.size) (by rw [hs]; omega) z
  rw [hs] at hd
  refine ⟨(h.tp.put (by simp; omega) (by simp; omega) _).below hB, (h.sans.put (by omega) (by simp) _).trans (Sans.of_below hB (by rw [hs]; omega)), ?_, hd, hlt⟩
  rw [hB.block _ (by rw [hs]; exact hbl)]
  have hbb := h.box
  simp [World.setCell, Array.getElem?_modify, hbb]

set_option maxRecDepth 20000 in
set_option maxHeartbeats 8000000 in
theorem EventsOf_body (b off c : Nat) (l : List Int) (w : World) (h : BytesAt w (.slice (some ⟨b, off, none⟩) l.length c) l) (hcap : l.length ≤ c) (h5 : 4 < l.length) (h6 : l.length ≤ 60000) (he : l.drop (l.length - 4) = sumB (l.take (l.length - 4)))
    (g : Int × List Ev) (hg : g = if (allD (l.take (l.length - 4))).no ≠ 0 then ((allD (l.take (l.length - 4))).no, []) else if chkNo (allD (l.take (l.length - 4))).val ≠ 0 then (chkNo (allD (l.take (l.length - 4))).val, []) else (0, (allD (l.take (l.length - 4))).val)) :
    Calls Tryd.prog 75 #[.slice (some ⟨b, off, none⟩) l.length c] w fun e w' => ∃ u, e = .returned (.tuple #[u, .int .i64 g.1]) ∧ DecQ w w' u g := by
  have HS : Hid (∀ W, Below w.heap.size w W → Calls Tryd.prog 70 #[.slice (some ⟨b, off, none⟩) (l.length - 4) c] W fun e w' => ∃ g, e = .returned (.slice (some ⟨g, 0, none⟩) 4 4) ∧ (convert 26 9 (.slice (some ⟨g, 0, none⟩) 4 4)).run Tryd.prog w' = .ok (.string (strOfNums (l.drop (l.length - 4)))) w' ∧ Below W.heap.size W w') := fun W hb => (SumOf_any _ (l.take (l.length - 4)) W ((h.below hb).take (l.length - 4) (by omega) c)).mono fun e w' ⟨g, hh, ho, hb'⟩ => ⟨g, hh, by rw [he]; exact (ho.read (by simp [sumB]) (sumB_byte _)).text (by simp [sumB]), hb'⟩
  have HT : Hid (∀ W, Below w.heap.size w W → (convert 26 9 (.slice (some ⟨b, off + (l.length - 4), none⟩) 4 (c - (l.length - 4)))).run Tryd.prog W = .ok (.string (strOfNums (l.drop (l.length - 4)))) W) := fun W hb => by
    have h1 := (h.below hb).drop (l.length - 4) (by omega) (c - (l.length - 4))
    rw [show l.length - (l.length - 4) = 4 by omega] at h1
    exact h1.text (by simp; omega)
  have HG : Hid (g = if (allD (l.take (l.length - 4))).no ≠ 0 then ((allD (l.take (l.length - 4))).no, []) else if chkNo (allD (l.take (l.length - 4))).val ≠ 0 then (chkNo (allD (l.take (l.length - 4))).val, []) else (0, (allD (l.take (l.length - 4))).val)) := hg
  have HR : Hid (∀ W, Below w.heap.size w W → TpAt (W.alloc (.cells #[.slice (some ⟨b, off, none⟩) (l.length - 4) c, .int .i64 0, .int .i64 0] 137)) W.heap.size W.heap.size (.slice (some ⟨b, off, none⟩) (l.length - 4) c) (l.take (l.length - 4)) 0 0) := fun W hB => by
    have hz := hB.size
    have hb' := ((h.below hB).below (below_alloc W (.cells #[.slice (some ⟨b, off, none⟩) (l.length - 4) c, .int .i64 0, .int .i64 0] 137))).take (l.length - 4) (by omega) c
    obtain ⟨A0, c0, eA, _, hy, hcc⟩ := h
    obtain ⟨b0, off0, e0, hlt0, _⟩ := hcc (by omega)
    simp only [Value.slice.injEq] at eA
    have eB := eA.1.trans e0
    simp only [Option.some.injEq, Addr.mk.injEq] at eB
    obtain ⟨rfl, rfl, -⟩ := eB
    obtain ⟨A', c', e1, hl', hy', hc'⟩ := hb'
    have hlen : (l.take (l.length - 4)).length = l.length - 4 := by simp
    refine ⟨Go.Deep.blk_alloc_new _ _, Nat.le_refl _, ⟨⟨some ⟨b, off, none⟩, c, by rw [hlen], by omega, fun h0 => ?_⟩, by omega, hy'⟩, Nat.zero_le _⟩
    simp only [Value.slice.injEq] at e1
    obtain ⟨b2, off2, e2, hlt2, hj2⟩ := hc' h0
    have e3 := e1.1.trans e2
    simp only [Option.some.injEq, Addr.mk.injEq] at e3
    obtain ⟨rfl, rfl, -⟩ := e3
    exact ⟨b, off, rfl, by omega, hlt2, hj2⟩
  have hlen : (l.take (l.length - 4)).length = l.length - 4 := by simp
  obtain ⟨l4, hl4⟩ : ∃ l4, l4 = l.take (l.length - 4) := ⟨_, rfl⟩
  have H4 : Hid (∀ x ∈ l4, 0 ≤ x ∧ x ≤ 255) := by
    obtain ⟨_, _, _, _, hy, _⟩ := h
    rw [hl4]
    exact fun x hx => hy x (List.mem_of_mem_take hx)
  rw [← hl4] at HR HG hlen
  obtain ⟨sx, hsx⟩ : ∃ sx, sx = strOfNums (l.drop (l.length - 4)) := ⟨_, rfl⟩
  rw [← hsx] at HS HT
  obtain ⟨n, hn⟩ : ∃ n, n = l.length - 4 := ⟨_, rfl⟩
  rw [← hn] at HS
  rw [← hn] at HT
  rw [← hn] at HR
  rw [← hn] at hlen
  obtain ⟨m, hm⟩ : ∃ m, m = l.length := ⟨_, rfl⟩
  rw [← hm] at h5 h6 hcap hn ⊢
  have HLEN : Hid (l4.length = n) := hlen
  clear h hm he hg hlen hl4 hsx
  have g1 : ¬ (60000 : Int) < (m : Int) := by omega
  have g2 : ¬ (m : Int) < 5 := by omega
  have g3 : IntKind.i64.wrap ((m : Int) - 4) = (n : Int) := by rw [IntWalk.i64_in _ (by omega)]; omega
  have g4 : (n : Int) ≤ c := by omega
  have g5 : (n : Int) ≤ m := by omega
  have g6 : (m : Int) ≤ c := by omega
  have g7 : m - n = 4 := by omega
  have hc1 : ¬ c = n := by omega
  have hc2 : ¬ c - n = 0 := by omega
  have t0 := HT.out w.drew ((Below.refl _ w).drew)
  clear hn h5 h6
  obtain ⟨i0, hi, hz0, hz1, hz2⟩ := info_parts infoInt
  obtain ⟨i3, hi3, hz30, hz31, hz32⟩ := info_parts infoEvent
  go_enter Tryd.func75, Tryd.ntmps75
  go_upto_region 5 with fail
  go_cut [33] (fun q wx => q = .bool false ∧ Below w.heap.size w wx)
  case first =>
    go_region_law
      (first
        | (go_simp; go_at_call 70; refine (HS.out _ ((Below.refl _ w).drew)).mono ?_; rintro e w2 ⟨gs, rfl, t1, hb⟩; have HB2 : Hid (Below w.heap.size w w2) := ((Below.refl _ w).drew).trans hb; have t2 := HT.out w2 HB2.out; clear hb))
    all_goals
      go_wp2_with fail
      go_meet
      exact ⟨rfl, HB2.out⟩
  case rest =>
    obtain ⟨rfl, hbc⟩ := hcut
    have HBC : Hid (Below w.heap.size w wc) := hbc
    have HT0 := HR.out wc hbc
    clear hbc HS HT HR t0
    obtain ⟨t, ht⟩ : ∃ t, t = wc.heap.size := ⟨_, rfl⟩
    have hzw : w.heap.size ≤ t := by rw [ht]; exact HBC.out.size
    go_wp2_with fail
    rw [← ht] at HT0 ⊢
    obtain ⟨W0, hW0⟩ : ∃ W0, W0 = wc.alloc (.cells #[.slice (some ⟨b, off, none⟩) n c, .int .i64 0, .int .i64 0] 137) := ⟨_, rfl⟩
    rw [← hW0] at HT0 ⊢
    have HBW : Hid (Below w.heap.size w W0) := by rw [hW0]; exact HBC.out.trans ((below_alloc _ _).mono HBC.out.size)
    have hz0' : W0.heap.size = t + 1 := by rw [hW0, ht]; simp
    have HZ0 : Hid (W0.heap.size = t + 1) := hz0'
    have htW : t ≤ W0.heap.size := by omega
    clear hW0 ht HBC hz0'
    obtain ⟨v, hv⟩ : ∃ v, v = Value.slice (some ⟨b, off, none⟩) n c := ⟨_, rfl⟩
    have HV : Hid (v = Value.slice (some ⟨b, off, none⟩) n c) := hv
    rw [← hv] at HT0
    clear hv
    have HN0 := next_any t t 0 v l4 W0 HT0
    rw [List.drop_zero] at HN0
    refine HN0.mono ?_
    rintro e w1 ⟨rfl, hq⟩
    obtain ⟨j1, ht1, hr1⟩ := hq.tp
    have HQ1 : Hid (Sans t t W0 w1) := hq.sans
    have hval := hq.val
    have HQZ : Hid ((numD l4).no ≠ 0 → (numD l4).val = 0) := hq.zero
    clear hq HN0 HT0
    by_cases hn0 : (numD l4).no = 0
    · rw [hn0] at ht1
      by_cases h1000 : 1000 < (numD l4).val
      · have XE : Hid (g = (1, [])) := by
          have E : allD l4 = ⟨1, [], []⟩ := by
            unfold allD
            rw [if_neg (by simp [hn0]), if_pos h1000]
          show _ = _
          rw [HG.out, E]
          simp
        clear hr1 HG
        go_wp2_with fail
        go_ret2
        exact ⟨_, by rw [XE.out]; rfl, HBW.out.trans (HQ1.out.old.mono hzw), fun e => by rw [XE.out] at e; simp at e, fun _ => rfl⟩
      · obtain ⟨N, hN⟩ : ∃ N : Nat, (numD l4).val = (N : Int) := ⟨(numD l4).val.toNat, by omega⟩
        have hN1000 : N ≤ 1000 := by omega
        obtain ⟨G, hGG⟩ : ∃ G, G = eventsD N 0 [] (l4.drop j1) := ⟨_, rfl⟩
        have HALL : Hid (allD l4 = (if G.no ≠ 0 then ⟨G.no, [], []⟩ else if 0 < G.rest.length then ⟨4, [], []⟩ else G)) := by
          show _ = _
          unfold allD
          rw [if_neg (by simp [hn0]), if_neg h1000, hN, Int.toNat_natCast, ← hr1 hn0, hGG]
        have HI0 : Hid (OfI W0 w1 t t (.slice none 0 0) v l4 [] j1 0) := ⟨OwnE.nil _ _, ht1, HQ1.out, fun p hp => by simp at hp⟩
        have HM0 : Hid (MidE G N 0 [] (l4.drop j1) 0) := ⟨fun _ => hGG.symm, fun e => absurd rfl e⟩
        rw [hN] at h1000 hval ⊢
        clear hr1 ht1 HQ1 hn0 hN hGG HQZ
        have HFIN : Hid (∀ (en : Int) (W : World), en ≠ 0 → G = ⟨en, [], []⟩ ∨ (en = 4 ∧ G.no = 0 ∧ 0 < G.rest.length) → Below w.heap.size w W → g = (en, []) ∧ DecQ w W (.slice none 0 0) g) := fun en W h0 hG hB => by
          have E : allD l4 = ⟨en, [], []⟩ := by
            rw [HALL.out]
            rcases hG with hG | ⟨rfl, h1, h2⟩
            · rw [hG]
              simp only
              rw [if_pos h0]
            · rw [if_neg (by simp [h1]), if_pos h2]
          have e1 : g = (en, []) := by
            rw [HG.out, E]
            simp only
            rw [if_pos h0]
          exact ⟨e1, hB, fun e => by rw [e1] at e; exact absurd e h0, fun _ => rfl⟩
        go_wp2_with fail
        go_loopw [6, 7, 8] (fun o q i wr => ∃ (k : Nat) (R : List (Ev × Value)) (last : Int) (j : Nat) (e : Int), k ≤ N ∧ i = .int .i64 k ∧ q = .int .i64 last ∧ (0 ≤ last ∧ last ≤ 140737488355328 * k) ∧ Hid (R.length = k) ∧ Hid (MidE G (N - k) last (R.map Prod.fst) (l4.drop j) e) ∧ Hid (OfI W0 wr t t o v l4 R j e)) (fun _ _ i _ => N - (intOf i).toNat)
        case atStart => exact ⟨0, [], 0, j1, 0, Nat.zero_le _, rfl, rfl, by omega, rfl, HM0, HI0⟩
        case round =>
          obtain ⟨k, R, last, j, e, hk, rfl, rfl, hlast, HRk, HM, HI⟩ := hrel
          clear HI0 HM0
          obtain ⟨c0, c1, c2, cf, cl⟩ := three_cells HI.out.tp.box
          by_cases he0 : e = 0
          · subst he0
            by_cases hlt : k < N
            · have hki : (k : Int) < (N : Int) := by omega
              obtain ⟨m', hm'⟩ : ∃ m', N - k = m' + 1 := ⟨N - k - 1, by omega⟩
              rw [hm'] at HM
              have HMG : Hid (eventsD (m' + 1) last (R.map Prod.fst) (l4.drop j) = G) := HM.out.1 rfl
              clear HM
              go_wp2_with fail
              refine (next_any t t j v l4 _ HI.out.tp).mono ?_
              rintro e w2 ⟨rfl, hq⟩
              obtain ⟨j2, ht2, hr2⟩ := hq.tp
              by_cases hn2 : (numD (l4.drop j)).no = 0
              · rw [hn2] at ht2
                have HI2 : Hid (OfI W0 w2 t t u6 v l4 R j2 0) := HI.out.on hq.sans ht2
                have hs2 := HI2.out.sans.size
                have hR1000 : R.length ≤ 1000 := by have := HRk.out; omega
                obtain ⟨n0, hn0v⟩ : ∃ n0, n0 = (numD (l4.drop j)).val := ⟨_, rfl⟩
                have HEV : Hid (∀ x r, (n0 % 4 = 1 → x = ⟨last + n0 / 4, 1, []⟩ → r = l4.drop j2 → eventD last (l4.drop j) = ⟨0, x, r⟩)
                    ∧ (n0 % 4 = 2 → (runsD 16 [] 0 (l4.drop j2)).no = 0 → x = ⟨last + n0 / 4, 2, (runsD 16 [] 0 (l4.drop j2)).val⟩ → r = (runsD 16 [] 0 (l4.drop j2)).rest → eventD last (l4.drop j) = ⟨0, x, r⟩)
                    ∧ (n0 % 4 = 2 → (runsD 16 [] 0 (l4.drop j2)).no ≠ 0 → (eventD last (l4.drop j)).no = (runsD 16 [] 0 (l4.drop j2)).no)
                    ∧ (n0 % 4 = 3 → (numD (l4.drop j2)).no = 0 → x = ⟨last + n0 / 4, 3, [anyK (numD (l4.drop j2)).val]⟩ → r = (numD (l4.drop j2)).rest → eventD last (l4.drop j) = ⟨0, x, r⟩)
                    ∧ (n0 % 4 = 3 → (numD (l4.drop j2)).no ≠ 0 → (eventD last (l4.drop j)).no = (numD (l4.drop j2)).no)
                    ∧ (n0 % 4 = 0 → (eventD last (l4.drop j)).no = 3)) := by
                  intro x r
                  unfold eventD
                  rw [if_neg (by simp [hn2]), ← hr2 hn2, ← hn0v]
                  refine ⟨fun a1 hx hr => ?_, fun a1 a2 hx hr => ?_, fun a1 a2 => ?_, fun a1 a2 hx hr => ?_, fun a1 a2 => ?_, fun a1 => ?_⟩
                  · rw [if_pos a1, hx, hr]
                  · rw [if_neg (by omega), if_pos a1, if_neg (by simp [a2]), hx, hr]
                  · rw [if_neg (by omega), if_pos a1, if_pos a2]
                  · rw [if_neg (by omega), if_neg (by omega), if_pos a1, if_neg (by simp [a2]), hx, hr]
                  · rw [if_neg (by omega), if_neg (by omega), if_pos a1, if_pos a2]
                  · rw [if_neg (by omega), if_neg (by omega), if_neg (by omega)]
                have hv0 := hq.val
                rw [← hn0v] at hv0 ⊢
                clear hq hr2 hn2 hn0v HI c0 c1 c2 cf cl
                obtain ⟨c0, c1, c2, cf, cl⟩ := three_cells ht2.box
                have HT2 : Hid (TpAt w2 t t v l4 j2 0) := ht2
                clear ht2
                have hq4 : Int.tdiv n0 4 = n0 / 4 := Int.tdiv_eq_ediv_of_nonneg hv0.1
                have hm4 : Int.tmod n0 4 = n0 % 4 := Int.tmod_eq_emod_of_nonneg hv0.1
                have hwa : IntKind.i64.wrap (last + n0 / 4) = last + n0 / 4 := IntWalk.i64_in _ (by omega)
                obtain ⟨a, ha⟩ : ∃ a, a = last + n0 / 4 := ⟨_, rfl⟩
                have hab : 0 ≤ a ∧ a ≤ 140737488355328 * (k + 1) := by omega
                have HA : Hid (a = last + n0 / 4) := ha
                have htw2 : ¬ t = w2.heap.size := by omega
                rw [← ha] at hwa HEV
                have hk4 : n0 % 4 = 0 ∨ n0 % 4 = 1 ∨ n0 % 4 = 2 ∨ n0 % 4 = 3 := by omega
                rcases hk4 with hk4 | hk4 | hk4 | hk4
                · rw [hk4] at hm4
                  have HMt : Hid (MidE G m' a (R.map Prod.fst ++ [⟨a, 0, []⟩]) (l4.drop j2) 3) := mid_of (mid_no HMG.out ((HEV.out noEv []).2.2.2.2.2 hk4) (by simp)) (by simp)
                  clear hk4 HEV HMG
                  go_wp2_with fail
                  rw [← ha]
                  obtain ⟨wt, hwt⟩ : ∃ wt, wt = (w2.setCell ⟨t, 2, none⟩ (.int .i64 3)).alloc (.cells #[.int .i64 a, .int .i64 0, .slice none 0 0] 54) := ⟨_, rfl⟩
                  have HX : Hid (EvT w2 wt t t v l4 j2 3 ⟨a, 0, []⟩ (.slice none 0 0)) := by rw [hwt]; exact evT_zero HT2.out
                  rw [← hwt]
                  clear hwt ha hwa hq4 hm4 c0 c1 c2 cf cl
                  obtain ⟨e0, e1, e2, ef, el⟩ := three_cells HX.out.box
                  obtain ⟨jt, hjt⟩ : ∃ jt, jt = j2 := ⟨_, rfl⟩
                  obtain ⟨d, hd⟩ : ∃ d : List Int, d = [] := ⟨_, rfl⟩
                  obtain ⟨et, het⟩ : ∃ et : Int, et = 3 := ⟨_, rfl⟩
                  rw [← hjt, ← hd, ← het] at HMt HX
                  have hdl : d.length ≤ 1000 := by rw [hd]; simp
                  clear hjt hd het
                  go_loopw [11] (fun q wr => q = .int .i64 0 ∧ wr = wt) (fun _ _ => 0)
                  case atStart => exact ⟨rfl, rfl⟩
                  case round =>
                    obtain ⟨rfl, hww⟩ := hrel
                    subst wr
                    clear e0 e1 e2 ef el
                    have HI3 : Hid (OfI W0 wt t t u6 v l4 R jt et) := HI2.out.on HX.out.sans HX.out.tp
                    have HDW : Hid (OwnI wt W0.heap.size (.slice none 0 0) d) := ownsRow_mono HX.out.dat hs2
                    have hs3 := HI3.out.sans.size
                    obtain ⟨e0, e1, e2, ef, el⟩ := three_cells HX.out.box
                    clear HX HI2
                    go_wp2_with (first
                      | (at_builtin; refine wpList_append_own_at _ rfl _ _ 43 rfl W0.heap.size 54 i3 (.agg #[.int .i64 0, .int .i64 0, .slice none 0 0]) 3 40 Tryd.underlying43 hi3 hz30 hz31 hz32 rfl (by decide) u6 R.length (flat R) rfl (World.ownsRow.alloc HI3.out.own.row _) ⟨wt.heap.size, 0, none⟩ 1 1 [.int .i64 a, .int .i64 0, .slice none 0 0] rfl rfl (cell_three_new _ _ _ _ _) (by intro u hu; simp at hu; rcases hu with rfl | rfl | rfl <;> rfl) ?c3 ?c4 ?c5 ?_))
                    case c3 => unfold maxLen; omega
                    case c4 => omega
                    case c5 => first | omega | (simp; omega)
                    intro v9 w9 hown hgrow _ _
                    have HI4 : Hid (OfI W0 w9 t t v9 v l4 (R ++ [(⟨a, 0, d⟩, .slice none 0 0)]) jt et) := HI3.out.snoc (x := ⟨a, 0, d⟩) htW (below_alloc _ _) (OwnI.below HDW.out (below_alloc _ _)) hdl hgrow (by simpa using hown)
                    clear hown hgrow
                    go_wp2_with fail
                    refine ⟨⟨k + 1, _, a, jt, et, by omega, by go_num, (by first | rfl | rw [HA.out]), by omega, (by show _ = _; simp [HRk.out]), (by rw [show N - (k + 1) = m' by omega, List.map_append]; exact HMt), HI4⟩, ?_⟩
                    simp [intOf]; omega
                · rw [hk4] at hm4
                  have HMt : Hid (MidE G m' a (R.map Prod.fst ++ [⟨a, 1, []⟩]) (l4.drop j2) 0) := mid_ok (x := ⟨a, 1, []⟩) HMG.out ((HEV.out _ _).1 hk4 rfl rfl)
                  clear hk4 HEV HMG
                  go_wp2_with fail
                  rw [← ha]
                  obtain ⟨wt, hwt⟩ : ∃ wt, wt = w2.alloc (.cells #[.int .i64 a, .int .i64 1, .slice none 0 0] 54) := ⟨_, rfl⟩
                  have HX : Hid (EvT w2 wt t t v l4 j2 0 ⟨a, 1, []⟩ (.slice none 0 0)) := by rw [hwt]; exact EvT.start HT2.out a 1
                  rw [← hwt]
                  clear hwt ha hwa hq4 hm4 c0 c1 c2 cf cl
                  obtain ⟨e0, e1, e2, ef, el⟩ := three_cells HX.out.box
                  obtain ⟨jt, hjt⟩ : ∃ jt, jt = j2 := ⟨_, rfl⟩
                  obtain ⟨d, hd⟩ : ∃ d : List Int, d = [] := ⟨_, rfl⟩
                  obtain ⟨et, het⟩ : ∃ et : Int, et = 0 := ⟨_, rfl⟩
                  rw [← hjt, ← hd, ← het] at HMt HX
                  have hdl : d.length ≤ 1000 := by rw [hd]; simp
                  clear hjt hd het
                  go_loopw [11] (fun q wr => q = .int .i64 0 ∧ wr = wt) (fun _ _ => 0)
                  case atStart => exact ⟨rfl, rfl⟩
                  case round =>
                    obtain ⟨rfl, hww⟩ := hrel
                    subst wr
                    clear e0 e1 e2 ef el
                    have HI3 : Hid (OfI W0 wt t t u6 v l4 R jt et) := HI2.out.on HX.out.sans HX.out.tp
                    have HDW : Hid (OwnI wt W0.heap.size (.slice none 0 0) d) := ownsRow_mono HX.out.dat hs2
                    have hs3 := HI3.out.sans.size
                    obtain ⟨e0, e1, e2, ef, el⟩ := three_cells HX.out.box
                    clear HX HI2
                    go_wp2_with (first
                      | (at_builtin; refine wpList_append_own_at _ rfl _ _ 43 rfl W0.heap.size 54 i3 (.agg #[.int .i64 0, .int .i64 0, .slice none 0 0]) 3 40 Tryd.underlying43 hi3 hz30 hz31 hz32 rfl (by decide) u6 R.length (flat R) rfl (World.ownsRow.alloc HI3.out.own.row _) ⟨wt.heap.size, 0, none⟩ 1 1 [.int .i64 a, .int .i64 1, .slice none 0 0] rfl rfl (cell_three_new _ _ _ _ _) (by intro u hu; simp at hu; rcases hu with rfl | rfl | rfl <;> rfl) ?c3 ?c4 ?c5 ?_))
                    case c3 => unfold maxLen; omega
                    case c4 => omega
                    case c5 => first | omega | (simp; omega)
                    intro v9 w9 hown hgrow _ _
                    have HI4 : Hid (OfI W0 w9 t t v9 v l4 (R ++ [(⟨a, 1, d⟩, .slice none 0 0)]) jt et) := HI3.out.snoc (x := ⟨a, 1, d⟩) htW (below_alloc _ _) (OwnI.below HDW.out (below_alloc _ _)) hdl hgrow (by simpa using hown)
                    clear hown hgrow
                    go_wp2_with fail
                    refine ⟨⟨k + 1, _, a, jt, et, by omega, by go_num, (by first | rfl | rw [HA.out]), by omega, (by show _ = _; simp [HRk.out]), (by rw [show N - (k + 1) = m' by omega, List.map_append]; exact HMt), HI4⟩, ?_⟩
                    simp [intOf]; omega
                · rw [hk4] at hm4
                  have HX0 : Hid (EvT w2 (w2.alloc (.cells #[.int .i64 a, .int .i64 2, .slice none 0 0] 54)) t t v l4 j2 0 ⟨a, 2, []⟩ (.slice none 0 0)) := EvT.start HT2.out a 2
                  obtain ⟨GR, hGR⟩ : ∃ GR, GR = runsD 16 [] 0 (l4.drop j2) := ⟨_, rfl⟩
                  have HRO : Hid (∀ (d r : List Int), GR = ⟨0, d, r⟩ → MidE G m' a (R.map Prod.fst ++ [⟨a, 2, d⟩]) r 0) := fun d r e => by
                    refine mid_ok (x := ⟨a, 2, d⟩) HMG.out ((HEV.out _ _).2.1 hk4 ?_ ?_ ?_)
                    · rw [← hGR, e]
                    · rw [← hGR, e]
                    · rw [← hGR, e]
                  have HRN : Hid (∀ (en : Int) (d r : List Int), en ≠ 0 → GR = ⟨en, [], []⟩ → MidE G m' a (R.map Prod.fst ++ [⟨a, 2, d⟩]) r en) := fun en d r h0 e => mid_of (mid_no HMG.out (by rw [(HEV.out noEv []).2.2.1 hk4 (by rw [← hGR, e]; exact h0), ← hGR, e]) h0) h0
                  have HE0 : Hid (runsD 16 [] 0 (l4.drop j2) = GR) := hGR.symm
                  clear hk4 HEV HMG hGR
                  go_wp2_with fail
                  rw [← ha]
                  obtain ⟨wt0, hwt⟩ : ∃ wt0, wt0 = w2.alloc (.cells #[.int .i64 a, .int .i64 2, .slice none 0 0] 54) := ⟨_, rfl⟩
                  rw [← hwt] at HX0 ⊢
                  clear hwt ha hwa hq4 hm4 c0 c1 c2 cf cl
                  go_loopw [11] (fun q wr => ∃ (f : Nat) (got : List Int) (lst : Int) (jj : Nat) (dv : Value), got.length ≤ 16 ∧ 16 - got.length ≤ f ∧ q = .int .i64 lst ∧ (-(562949953421312 * got.length) ≤ lst ∧ lst ≤ 562949953421312 * got.length) ∧ Hid (runsD f got lst (l4.drop jj) = GR) ∧ Hid (EvT w2 wr t t v l4 jj 0 ⟨a, 2, got⟩ dv)) (fun _ wr => match wr.cell? ⟨w2.heap.size, 2, none⟩ with | some (.slice _ nn _) => 16 - nn | _ => 0)
                  case atStart => exact ⟨16, [], 0, j2, _, by simp, by simp, rfl, by simp, HE0, HX0⟩
                  case round =>
                    obtain ⟨f, d, lst, jt, dv, hg16, hf, rfl, hlst, HE, HX⟩ := hrel
                    clear HX0 HE0
                    obtain ⟨Ad, cd, rfl⟩ := HX.out.dat.shape
                    obtain ⟨e0, e1, e2, ef, el⟩ := three_cells HX.out.box
                    obtain ⟨c0, c1, c2, cf, cl⟩ := three_cells HX.out.tp.box
                    have HME : Hid (wr.cell? ⟨w2.heap.size, 2, none⟩ = some (.slice Ad d.length cd)) := e2
                    have hdl : d.length ≤ 1000 := by omega
                    by_cases hlt : d.length < 16
                    · have hlti : (d.length : Int) < 16 := by omega
                      obtain ⟨f', rfl⟩ : ∃ f', f = f' + 1 := ⟨f - 1, by omega⟩
                      have HE1 : Hid (GR = runsD (f' + 1) d lst (l4.drop jt)) := HE.out.symm
                      clear HE
                      go_wp2_with fail
                      refine (next_any t t jt v l4 _ HX.out.tp).mono ?_
                      rintro e w3 ⟨rfl, hq1⟩
                      obtain ⟨j3, ht3, hr3⟩ := hq1.tp
                      have HX3 : Hid (EvT w2 w3 t t v l4 j3 (numD (l4.drop jt)).no ⟨a, 2, d⟩ (.slice Ad d.length cd)) := HX.out.on hq1.sans ht3
                      have hv1 := hq1.val
                      have hvz := hq1.zero
                      clear hq1 HX e0 e1 e2 ef el c0 c1 c2 cf cl
                      by_cases h1 : (numD (l4.drop jt)).no = 0
                      · rw [h1] at HX3
                        clear ht3 hvz
                        go_wp2_with fail
                        refine (zig_any t t j3 v l4 _ HX3.out.tp).mono ?_
                        rintro e w4 ⟨rfl, hq2⟩
                        obtain ⟨j4, ht4, hr4⟩ := hq2.tp
                        have HX4 : Hid (EvT w2 w4 t t v l4 j4 (numD (l4.drop j3)).no ⟨a, 2, d⟩ (.slice Ad d.length cd)) := HX3.out.on hq2.sans ht4
                        have hv2 := hq2.val
                        have hvz2 := hq2.zero
                        clear hq2 ht4 HX3
                        by_cases h2 : (numD (l4.drop j3)).no = 0
                        · rw [h2] at HX4
                          have HR : Hid (∀ x y, (numD (l4.drop jt)).val = x → (numD (l4.drop j3)).val = y → ((x < 1 ∨ 16 - (d.length : Int) < x ∨ (y = 0 ∧ 0 < d.length)) → GR = ⟨4, [], []⟩) ∧ (¬ (x < 1 ∨ 16 - (d.length : Int) < x ∨ (y = 0 ∧ 0 < d.length)) → GR = runsD f' (d ++ List.replicate x.toNat (lst + anyK y)) (lst + anyK y) (l4.drop j4))) := by
                            intro x y hx hy
                            subst hx hy
                            rw [HE1.out, runsD, if_pos hlt, if_neg (by simp [h1]), ← hr3 h1, if_neg (by simp [h2]), ← hr4 h2]
                            exact ⟨fun hc => by rw [if_pos hc], fun hc => by rw [if_neg hc]⟩
                          clear HE1 hvz2 hr3 hr4 h1 h2
                          revert hv1 hv2 HR
                          generalize (numD (l4.drop j3)).val = y
                          generalize (numD (l4.drop jt)).val = x
                          intro hv1 hv2 HR
                          have hak := anyK_bd hv2
                          have hak0 : anyK y = 0 ↔ y = 0 := by
                            obtain ⟨yn, rfl⟩ : ∃ yn : Nat, y = (yn : Int) := ⟨y.toNat, by omega⟩
                            rw [anyK_zero]
                            omega
                          have HR2 : Hid (∀ z, z = anyK y → ((x < 1 ∨ 16 - (d.length : Int) < x ∨ (z = 0 ∧ 0 < d.length)) → GR = ⟨4, [], []⟩) ∧ (¬ (x < 1 ∨ 16 - (d.length : Int) < x ∨ (z = 0 ∧ 0 < d.length)) → GR = runsD f' (d ++ List.replicate x.toNat (lst + z)) (lst + z) (l4.drop j4))) := fun z hz => by
                            subst hz
                            have := HR.out x y rfl rfl
                            rw [hak0]
                            exact this
                          clear HR hak0 hv2
                          revert hak HR2
                          generalize anyK y = z
                          intro hak HR2
                          have hwz : IntKind.i64.wrap (lst + z) = lst + z := IntWalk.i64_in _ (by omega)
                          have hw16 : IntKind.i64.wrap (16 - (d.length : Int)) = 16 - (d.length : Int) := IntWalk.i64_in _ (by omega)
                          obtain ⟨e0, e1, e2, ef, el⟩ := three_cells HX4.out.box
                          obtain ⟨c0, c1, c2, cf, cl⟩ := three_cells HX4.out.tp.box
                          have HIN : Hid (∀ W, Calls Tryd.prog 32 #[.int .i64 x, .int .i64 1, .int .i64 (16 - (d.length : Int))] W fun e w' => e = .returned (.bool (inB x 1 (16 - (d.length : Int)))) ∧ w' = W) := fun W => In_B _ _ _ W
                          have hbad : (inB x 1 (16 - (d.length : Int)) = false ∧ (x < 1 ∨ 16 - (d.length : Int) < x)) ∨ (inB x 1 (16 - (d.length : Int)) = true ∧ 1 ≤ x ∧ x ≤ 16 - (d.length : Int)) := by
                            cases hib : inB x 1 (16 - (d.length : Int)) with
                            | true => exact Or.inr ⟨rfl, inB_iff.1 hib⟩
                            | false =>
                              refine Or.inl ⟨rfl, ?_⟩
                              by_cases h3 : x < 1 ∨ 16 - (d.length : Int) < x
                              · exact h3
                              · have := inB_iff.2 (show 1 ≤ x ∧ x ≤ 16 - (d.length : Int) by omega)
                                rw [hib] at this
                                cases this
                          have HFM : Hid (GR = ⟨4, [], []⟩ → MidE G m' a (R.map Prod.fst ++ [⟨a, 2, d⟩]) (l4.drop j4) 4) := fun e => HRN.out 4 _ _ (by simp) e
                          obtain ⟨jt', hjt⟩ : ∃ jt', jt' = j4 := ⟨_, rfl⟩
                          obtain ⟨wtE, hwtE⟩ : ∃ wtE, wtE = w4.setCell ⟨t, 2, none⟩ (.int .i64 4) := ⟨_, rfl⟩
                          have HXE : Hid (EvT w2 wtE t t v l4 j4 4 ⟨a, 2, d⟩ (.slice Ad d.length cd)) := by rw [hwtE]; exact HX4.out.on (Sans.setAny w4 HX4.out.tp.own 2 _) (HX4.out.tp.setE 4)
                          rcases hbad with ⟨hib, hbd⟩ | ⟨hib, hbd⟩
                          · have HE4 : Hid (GR = ⟨4, [], []⟩) := (HR2.out z rfl).1 (by omega)
                            rw [hib] at HIN
                            clear hib hbd
                            clear HR2 HRO HRN
                            go_upto_region 35 with (first | (go_at_call 32; refine (HIN.out _).mono ?_; rintro e w5 ⟨rfl, hw5⟩; subst w5))
                            rw [← hwtE]
                            clear hwtE e0 e1 e2 ef el c0 c1 c2 cf cl HX4 HIN
                            have HMt : Hid (MidE G m' a (R.map Prod.fst ++ [⟨a, 2, d⟩]) (l4.drop j4) 4) := HFM.out HE4.out
                            obtain ⟨et, het⟩ : ∃ et : Int, et = 4 := ⟨_, rfl⟩
                            rw [← het] at HMt HXE
                            clear het
                            have HI3 : Hid (OfI W0 wtE t t u6 v l4 R j4 et) := HI2.out.on HXE.out.sans HXE.out.tp
                            have HDW : Hid (OwnI wtE W0.heap.size (.slice Ad d.length cd) d) := ownsRow_mono HXE.out.dat hs2
                            have hs3 := HI3.out.sans.size
                            obtain ⟨e0, e1, e2, ef, el⟩ := three_cells HXE.out.box
                            clear HXE HI2
                            go_wp2_with (first
                              | (at_builtin; refine wpList_append_own_at _ rfl _ _ 43 rfl W0.heap.size 54 i3 (.agg #[.int .i64 0, .int .i64 0, .slice none 0 0]) 3 40 Tryd.underlying43 hi3 hz30 hz31 hz32 rfl (by decide) u6 R.length (flat R) rfl (World.ownsRow.alloc HI3.out.own.row _) ⟨wtE.heap.size, 0, none⟩ 1 1 [.int .i64 a, .int .i64 2, .slice Ad d.length cd] rfl rfl (cell_three_new _ _ _ _ _) (by intro u hu; simp at hu; rcases hu with rfl | rfl | rfl <;> rfl) ?c3 ?c4 ?c5 ?_))
                            case c3 => unfold maxLen; omega
                            case c4 => omega
                            case c5 => first | omega | (simp; omega)
                            intro v9 w9 hown hgrow _ _
                            have HI4 : Hid (OfI W0 w9 t t v9 v l4 (R ++ [(⟨a, 2, d⟩, .slice Ad d.length cd)]) j4 et) := HI3.out.snoc (x := ⟨a, 2, d⟩) htW (below_alloc _ _) (OwnI.below HDW.out (below_alloc _ _)) hdl hgrow (by simpa using hown)
                            clear hown hgrow
                            go_wp2_with fail
                            refine ⟨⟨k + 1, _, a, j4, et, by omega, by go_num, (by first | rfl | rw [HA.out]), by omega, (by show _ = _; simp [HRk.out]), (by rw [show N - (k + 1) = m' by omega, List.map_append]; exact HMt), HI4⟩, ?_⟩
                            simp [intOf]; omega
                          rw [hib] at HIN
                          clear hib
                          have hyc : ((0 : Int) < (d.length : Int) ∧ z = 0) ∨ ¬ (0 : Int) < (d.length : Int) ∨ ((0 : Int) < (d.length : Int) ∧ (lst + z == lst) = false) := by
                            by_cases h0 : (0 : Int) < (d.length : Int)
                            · by_cases hz : z = 0
                              · exact Or.inl ⟨h0, hz⟩
                              · exact Or.inr (Or.inr ⟨h0, by simp; omega⟩)
                            · exact Or.inr (Or.inl h0)
                          rcases hyc with ⟨hg0, rfl⟩ | hyc
                          · have HE4 : Hid (GR = ⟨4, [], []⟩) := (HR2.out 0 rfl).1 (Or.inr (Or.inr ⟨rfl, by omega⟩))
                            clear hbd
                            clear HR2 HRO HRN
                            go_upto_region 35 with (first | (go_at_call 32; refine (HIN.out _).mono ?_; rintro e w5 ⟨rfl, hw5⟩; subst w5))
                            rw [← hwtE]
                            clear hwtE e0 e1 e2 ef el c0 c1 c2 cf cl HX4 HIN
                            have HMt : Hid (MidE G m' a (R.map Prod.fst ++ [⟨a, 2, d⟩]) (l4.drop j4) 4) := HFM.out HE4.out
                            obtain ⟨et, het⟩ : ∃ et : Int, et = 4 := ⟨_, rfl⟩
                            rw [← het] at HMt HXE
                            clear het
                            have HI3 : Hid (OfI W0 wtE t t u6 v l4 R j4 et) := HI2.out.on HXE.out.sans HXE.out.tp
                            have HDW : Hid (OwnI wtE W0.heap.size (.slice Ad d.length cd) d) := ownsRow_mono HXE.out.dat hs2
                            have hs3 := HI3.out.sans.size
                            obtain ⟨e0, e1, e2, ef, el⟩ := three_cells HXE.out.box
                            clear HXE HI2
                            go_wp2_with (first
                              | (at_builtin; refine wpList_append_own_at _ rfl _ _ 43 rfl W0.heap.size 54 i3 (.agg #[.int .i64 0, .int .i64 0, .slice none 0 0]) 3 40 Tryd.underlying43 hi3 hz30 hz31 hz32 rfl (by decide) u6 R.length (flat R) rfl (World.ownsRow.alloc HI3.out.own.row _) ⟨wtE.heap.size, 0, none⟩ 1 1 [.int .i64 a, .int .i64 2, .slice Ad d.length cd] rfl rfl (cell_three_new _ _ _ _ _) (by intro u hu; simp at hu; rcases hu with rfl | rfl | rfl <;> rfl) ?c3 ?c4 ?c5 ?_))
                            case c3 => unfold maxLen; omega
                            case c4 => omega
                            case c5 => first | omega | (simp; omega)
                            intro v9 w9 hown hgrow _ _
                            have HI4 : Hid (OfI W0 w9 t t v9 v l4 (R ++ [(⟨a, 2, d⟩, .slice Ad d.length cd)]) j4 et) := HI3.out.snoc (x := ⟨a, 2, d⟩) htW (below_alloc _ _) (OwnI.below HDW.out (below_alloc _ _)) hdl hgrow (by simpa using hown)
                            clear hown hgrow
                            go_wp2_with fail
                            refine ⟨⟨k + 1, _, a, j4, et, by omega, by go_num, (by first | rfl | rw [HA.out]), by omega, (by show _ = _; simp [HRk.out]), (by rw [show N - (k + 1) = m' by omega, List.map_append]; exact HMt), HI4⟩, ?_⟩
                            simp [intOf]; omega
                          have HGD : Hid (runsD f' (d ++ List.replicate x.toNat (lst + z)) (lst + z) (l4.drop j4) = GR) := ((HR2.out z rfl).2 (by
                            rintro (h | h | ⟨h, h'⟩)
                            · omega
                            · omega
                            · rcases hyc with hyc | ⟨_, hyc⟩
                              · omega
                              · rw [h] at hyc
                                simp at hyc)).symm
                          obtain ⟨n1, rfl⟩ : ∃ n1 : Nat, x = (n1 : Int) := ⟨x.toNat, by omega⟩
                          rw [Int.toNat_natCast] at HGD
                          clear HR2 HRN HFM HXE hwtE
                          rcases hyc with hyc | ⟨hyc, hyd⟩
                          all_goals
                            go_wp2_with (first | (go_at_call 32; refine (HIN.out _).mono ?_; rintro e w5 ⟨rfl, hw5⟩; subst w5))
                            obtain ⟨z', hz'⟩ : ∃ z', z' = lst + z := ⟨_, rfl⟩
                            rw [← hz'] at HGD ⊢
                            have hzb : -(562949953421312 * ((d.length : Int) + 1)) ≤ z' ∧ z' ≤ 562949953421312 * ((d.length : Int) + 1) := by omega
                            clear hz' hwz hak HIN e0 e1 e2 ef el c0 c1 c2 cf cl
                            go_loopw [12] (fun q wi => ∃ (mm : Nat) (dv2 : Value), mm ≤ n1 ∧ q = .int .i64 mm ∧ Hid (EvT w2 wi t t v l4 j4 0 ⟨a, 2, d ++ List.replicate (n1 - mm) z'⟩ dv2)) (fun q _ => (intOf q).toNat)
                            case atStart => exact ⟨n1, _, Nat.le_refl _, rfl, (by show EvT _ _ _ _ _ _ _ _ _ _; rw [Nat.sub_self, List.replicate_zero, List.append_nil]; exact HX4.out)⟩
                            case round =>
                              obtain ⟨mm, dv2, hmm, rfl, HJ⟩ := hrel
                              obtain ⟨D2, hD2⟩ : ∃ D2, D2 = d ++ List.replicate (n1 - mm) z' := ⟨_, rfl⟩
                              have hDl : D2.length = d.length + (n1 - mm) := by rw [hD2]; simp
                              have HD2 : Hid (D2 = d ++ List.replicate (n1 - mm) z') := hD2
                              rw [← hD2] at HJ
                              clear hD2
                              have HDL : Hid (D2.length = d.length + (n1 - mm)) := hDl
                              have hDb : D2.length ≤ 16 := by omega
                              clear hDl
                              obtain ⟨A2, c2, rfl⟩ := HJ.out.dat.shape
                              have HOJ : Hid (OwnI wr w2.heap.size (.slice A2 D2.length c2) D2) := HJ.out.dat
                              obtain ⟨e0, e1, e2, ef, el⟩ := three_cells HJ.out.box
                              by_cases hm0 : 0 < mm
                              · have hmi : (0 : Int) < (mm : Int) := by omega
                                have hwm : IntKind.i64.wrap ((mm : Int) - 1) = (mm : Int) - 1 := IntWalk.i64_in _ (by omega)
                                go_wp2_with (first
                                  | (at_builtin; refine wpList_append_own_at _ rfl _ _ 22 rfl w2.heap.size 3 i0 (.int .i64 0) 1 8 Tryd.underlying22 hi hz0 hz1 hz2 rfl (by decide) (.slice A2 D2.length c2) D2.length (D2.map (Value.int .i64)) rfl (World.ownsRow.alloc HOJ.out _) ⟨wr.heap.size, 0, none⟩ 1 1 [.int .i64 z'] rfl rfl (cell_one_new _ _ _) (by intro u hu; simp at hu; subst hu; rfl) ?c3 ?c4 ?c5 ?_))
                                case c3 => unfold maxLen; omega
                                case c4 => omega
                                case c5 => first | omega | (simp; omega)
                                intro vn w6 hown' hgrow _ _
                                obtain ⟨hb6, hJ6⟩ := HJ.out.append (below_alloc _ _) hgrow (OwnI.snoc hown' rfl)
                                have HJ6 : Hid (EvT w2 (w6.setCell ⟨w2.heap.size, 2, none⟩ vn) t t v l4 j4 0 ⟨a, 2, d ++ List.replicate (n1 - (mm - 1)) z'⟩ vn) := by
                                  have e3 : D2 ++ [z'] = d ++ List.replicate (n1 - (mm - 1)) z' := by rw [HD2.out, List.append_assoc, ← List.replicate_succ', show n1 - mm + 1 = n1 - (mm - 1) by omega]
                                  rw [← e3]
                                  exact hJ6
                                clear hown' hgrow hJ6 e0 e1 e2 ef el
                                obtain ⟨e0, e1, e2, ef, el⟩ := three_cells hb6
                                clear hb6
                                obtain ⟨An, cn, hvn⟩ := HJ6.out.dat.shape
                                obtain ⟨Ln, hLn⟩ : ∃ Ln, Ln = (d ++ List.replicate (n1 - (mm - 1)) z').length := ⟨_, rfl⟩
                                simp only at hvn
                                rw [← hLn] at hvn
                                clear hLn
                                subst hvn
                                clear HJ HOJ
                                go_wp2_with fail
                                refine ⟨⟨mm - 1, _, by omega, by go_num, HJ6⟩, ?_⟩
                                simp [intOf]; omega
                              · have hmi : ¬ (0 : Int) < (mm : Int) := by omega
                                obtain rfl : mm = 0 := by omega
                                have hDl := HDL.out
                                have hm1 := (three_cells HJ.out.box).2.2.1
                                go_wp2_with fail
                                refine ⟨⟨f', D2, z', j4, _, hDb, by omega, rfl, by omega, (by show _ = _; rw [HD2.out, Nat.sub_zero]; exact HGD.out), HJ⟩, ?_⟩
                                rw [hm1, HME.out]
                                show 16 - D2.length < 16 - d.length
                                omega
                        · have HMt : Hid (MidE G m' a (R.map Prod.fst ++ [⟨a, 2, d⟩]) (l4.drop j4) (numD (l4.drop j3)).no) := HRN.out _ _ _ h2 (by rw [HE1.out, runsD, if_pos hlt, if_neg (by simp [h1]), ← hr3 h1, if_pos h2])
                          have hz2 : (numD (l4.drop j3)).val = 0 := hvz2 h2
                          have hak : anyK (numD (l4.drop j3)).val = 0 := by rw [hz2]; rfl
                          rw [hak]
                          clear HE1 hvz2 hz2 hak hr3 hr4 h1 hv2
                          revert h2 HMt HX4
                          generalize (numD (l4.drop j3)).no = et
                          generalize (numD (l4.drop jt)).val = xx
                          intro HX h2 HMt
                          obtain ⟨e0, e1, e2, ef, el⟩ := three_cells HX.out.box
                          obtain ⟨c0, c1, c2, cf, cl⟩ := three_cells HX.out.tp.box
                          have hen' : (et == 0) = false := by simpa using h2
                          have hen2 : (et != 0) = true := by simpa using h2
                          obtain ⟨jt, hjt⟩ : ∃ jt, jt = j4 := ⟨_, rfl⟩
                          obtain ⟨wt, hwt⟩ : ∃ wt, wt = w4 := ⟨_, rfl⟩
                          rw [← hjt] at HMt HX c1
                          rw [← hwt] at HX e0 e1 e2 el c0 c1 c2 cl ⊢
                          simp only [← hwt] at ef cf
                          clear hjt hwt
                          have HI3 : Hid (OfI W0 wt t t u6 v l4 R jt et) := HI2.out.on HX.out.sans HX.out.tp
                          have HDW : Hid (OwnI wt W0.heap.size (.slice Ad d.length cd) d) := ownsRow_mono HX.out.dat hs2
                          have hs3 := HI3.out.sans.size
                          clear HX HI2
                          go_wp2_with (first
                            | (at_builtin; refine wpList_append_own_at _ rfl _ _ 43 rfl W0.heap.size 54 i3 (.agg #[.int .i64 0, .int .i64 0, .slice none 0 0]) 3 40 Tryd.underlying43 hi3 hz30 hz31 hz32 rfl (by decide) u6 R.length (flat R) rfl (World.ownsRow.alloc HI3.out.own.row _) ⟨wt.heap.size, 0, none⟩ 1 1 [.int .i64 a, .int .i64 2, .slice Ad d.length cd] rfl rfl (cell_three_new _ _ _ _ _) (by intro u hu; simp at hu; rcases hu with rfl | rfl | rfl <;> rfl) ?c3 ?c4 ?c5 ?_))
                          case c3 => unfold maxLen; omega
                          case c4 => omega
                          case c5 => first | omega | (simp; omega)
                          intro v9 w9 hown hgrow _ _
                          have HI4 : Hid (OfI W0 w9 t t v9 v l4 (R ++ [(⟨a, 2, d⟩, .slice Ad d.length cd)]) jt et) := HI3.out.snoc (x := ⟨a, 2, d⟩) htW (below_alloc _ _) (OwnI.below HDW.out (below_alloc _ _)) hdl hgrow (by simpa using hown)
                          clear hown hgrow
                          go_wp2_with fail
                          refine ⟨⟨k + 1, _, a, jt, et, by omega, by go_num, (by first | rfl | rw [HA.out]), by omega, (by show _ = _; simp [HRk.out]), (by rw [show N - (k + 1) = m' by omega, List.map_append]; exact HMt), HI4⟩, ?_⟩
                          simp [intOf]; omega
                      · have HMt : Hid (MidE G m' a (R.map Prod.fst ++ [⟨a, 2, d⟩]) (l4.drop j3) (numD (l4.drop jt)).no) := HRN.out _ _ _ h1 (by rw [HE1.out, runsD, if_pos hlt, if_pos h1])
                        have hz2 : (numD (l4.drop jt)).val = 0 := hvz h1
                        rw [hz2]
                        clear HE1 hvz hz2 hr3 hv1 ht3
                        revert h1 HMt HX3
                        generalize (numD (l4.drop jt)).no = et
                        intro HX h1 HMt
                        obtain ⟨e0, e1, e2, ef, el⟩ := three_cells HX.out.box
                        obtain ⟨c0, c1, c2, cf, cl⟩ := three_cells HX.out.tp.box
                        have hen' : (et == 0) = false := by simpa using h1
                        have hen2 : (et != 0) = true := by simpa using h1
                        have HZI : Hid (Calls Tryd.prog 106 #[.pointer (some ⟨t, 0, none⟩)] w3 fun e' w' => e' = .returned (.int .i64 0) ∧ w' = w3) := zig_idle t t j3 v l4 et w3 HX.out.tp h1
                        obtain ⟨jt, hjt⟩ : ∃ jt, jt = j3 := ⟨_, rfl⟩
                        obtain ⟨wt, hwt⟩ : ∃ wt, wt = w3 := ⟨_, rfl⟩
                        rw [← hjt] at HMt HX c1
                        rw [← hwt] at HX HZI e0 e1 e2 el c0 c1 c2 cl ⊢
                        simp only [← hwt] at ef cf
                        clear hjt hwt
                        go_wp2_with fail
                        refine HZI.out.mono ?_
                        rintro e w4 ⟨rfl, rfl⟩
                        clear HZI
                        have HI3 : Hid (OfI W0 w4 t t u6 v l4 R jt et) := HI2.out.on HX.out.sans HX.out.tp
                        have HDW : Hid (OwnI w4 W0.heap.size (.slice Ad d.length cd) d) := ownsRow_mono HX.out.dat hs2
                        have hs3 := HI3.out.sans.size
                        clear HX HI2
                        go_wp2_with (first
                          | (at_builtin; refine wpList_append_own_at _ rfl _ _ 43 rfl W0.heap.size 54 i3 (.agg #[.int .i64 0, .int .i64 0, .slice none 0 0]) 3 40 Tryd.underlying43 hi3 hz30 hz31 hz32 rfl (by decide) u6 R.length (flat R) rfl (World.ownsRow.alloc HI3.out.own.row _) ⟨w4.heap.size, 0, none⟩ 1 1 [.int .i64 a, .int .i64 2, .slice Ad d.length cd] rfl rfl (cell_three_new _ _ _ _ _) (by intro u hu; simp at hu; rcases hu with rfl | rfl | rfl <;> rfl) ?c3 ?c4 ?c5 ?_))
                        case c3 => unfold maxLen; omega
                        case c4 => omega
                        case c5 => first | omega | (simp; omega)
                        intro v9 w9 hown hgrow _ _
                        have HI4 : Hid (OfI W0 w9 t t v9 v l4 (R ++ [(⟨a, 2, d⟩, .slice Ad d.length cd)]) jt et) := HI3.out.snoc (x := ⟨a, 2, d⟩) htW (below_alloc _ _) (OwnI.below HDW.out (below_alloc _ _)) hdl hgrow (by simpa using hown)
                        clear hown hgrow
                        go_wp2_with fail
                        refine ⟨⟨k + 1, _, a, jt, et, by omega, by go_num, (by first | rfl | rw [HA.out]), by omega, (by show _ = _; simp [HRk.out]), (by rw [show N - (k + 1) = m' by omega, List.map_append]; exact HMt), HI4⟩, ?_⟩
                        simp [intOf]; omega
                    · have hd16 : d.length = 16 := by omega
                      have HMt : Hid (MidE G m' a (R.map Prod.fst ++ [⟨a, 2, d⟩]) (l4.drop jt) 0) := HRO.out d (l4.drop jt) (by
                        rw [← HE.out]
                        cases f with
                        | zero => rfl
                        | succ f => rw [runsD, if_neg hlt])
                      have hlti : ¬ (d.length : Int) < 16 := by omega
                      clear HE hd16
                      obtain ⟨et, het⟩ : ∃ et : Int, et = 0 := ⟨_, rfl⟩
                      obtain ⟨wt, hwt⟩ : ∃ wt, wt = wr := ⟨_, rfl⟩
                      rw [← het] at HMt HX
                      rw [← hwt] at HX e0 e1 e2 el c0 c1 c2 cl ⊢
                      simp only [← hwt] at ef cf
                      clear het hwt
                      have HI3 : Hid (OfI W0 wt t t u6 v l4 R jt et) := HI2.out.on HX.out.sans HX.out.tp
                      have HDW : Hid (OwnI wt W0.heap.size (.slice Ad d.length cd) d) := ownsRow_mono HX.out.dat hs2
                      have hs3 := HI3.out.sans.size
                      clear HX HI2
                      go_wp2_with (first
                        | (at_builtin; refine wpList_append_own_at _ rfl _ _ 43 rfl W0.heap.size 54 i3 (.agg #[.int .i64 0, .int .i64 0, .slice none 0 0]) 3 40 Tryd.underlying43 hi3 hz30 hz31 hz32 rfl (by decide) u6 R.length (flat R) rfl (World.ownsRow.alloc HI3.out.own.row _) ⟨wt.heap.size, 0, none⟩ 1 1 [.int .i64 a, .int .i64 2, .slice Ad d.length cd] rfl rfl (cell_three_new _ _ _ _ _) (by intro u hu; simp at hu; rcases hu with rfl | rfl | rfl <;> rfl) ?c3 ?c4 ?c5 ?_))
                      case c3 => unfold maxLen; omega
                      case c4 => omega
                      case c5 => first | omega | (simp; omega)
                      intro v9 w9 hown hgrow _ _
                      have HI4 : Hid (OfI W0 w9 t t v9 v l4 (R ++ [(⟨a, 2, d⟩, .slice Ad d.length cd)]) jt et) := HI3.out.snoc (x := ⟨a, 2, d⟩) htW (below_alloc _ _) (OwnI.below HDW.out (below_alloc _ _)) hdl hgrow (by simpa using hown)
                      clear hown hgrow
                      go_wp2_with fail
                      refine ⟨⟨k + 1, _, a, jt, et, by omega, by go_num, (by first | rfl | rw [HA.out]), by omega, (by show _ = _; simp [HRk.out]), (by rw [show N - (k + 1) = m' by omega, List.map_append]; exact HMt), HI4⟩, ?_⟩
                      simp [intOf]; omega
                · rw [hk4] at hm4
                  have HX1 : Hid (EvT w2 (w2.alloc (.cells #[.int .i64 a, .int .i64 3, .slice none 0 0] 54)) t t v l4 j2 0 ⟨a, 3, []⟩ (.slice none 0 0)) := EvT.start HT2.out a 3
                  go_wp2_with fail
                  rw [← ha]
                  refine (zig_any t t j2 v l4 _ HX1.out.tp).mono ?_
                  rintro e w3 ⟨rfl, hq3⟩
                  obtain ⟨jt, ht3, hr3⟩ := hq3.tp
                  have HX3 : Hid (EvT w2 w3 t t v l4 jt (numD (l4.drop j2)).no ⟨a, 3, []⟩ (.slice none 0 0)) := HX1.out.on hq3.sans ht3
                  have HMt : Hid (MidE G m' a (R.map Prod.fst ++ [⟨a, 3, [anyK (numD (l4.drop j2)).val]⟩]) (l4.drop jt) (numD (l4.drop j2)).no) := by
                    by_cases hen : (numD (l4.drop j2)).no = 0
                    · show MidE _ _ _ _ _ _
                      rw [hen]
                      exact mid_ok (x := ⟨a, 3, [anyK (numD (l4.drop j2)).val]⟩) HMG.out ((HEV.out _ _).2.2.2.1 hk4 hen rfl (hr3 hen))
                    · exact mid_of (mid_no HMG.out ((HEV.out noEv []).2.2.2.2.1 hk4 hen) hen) hen
                  clear hk4 HEV HMG hq3 ht3 hr3 HX1
                  revert HX3 HMt
                  generalize (numD (l4.drop j2)).no = et
                  generalize anyK (numD (l4.drop j2)).val = z
                  intro HX3 HMt
                  obtain ⟨e0, e1, e2, ef, el⟩ := three_cells HX3.out.box
                  have hx3 := HX3.out.sans.size
                  have hxn : ¬ w2.heap.size = w3.heap.size := by omega
                  clear c0 c1 c2 cf cl
                  go_wp2_with fail
                  obtain ⟨wt, hwt⟩ : ∃ wt, wt = (w3.setCell ⟨w2.heap.size, 2, none⟩ (.slice (some ⟨w3.heap.size, 0, none⟩) 1 1)).alloc (.cells #[.int .i64 z] 3) := ⟨_, rfl⟩
                  have HX : Hid (EvT w2 wt t t v l4 jt et ⟨a, 3, [z]⟩ (.slice (some ⟨w3.heap.size, 0, none⟩) 1 1)) := by rw [hwt]; exact evT_word HX3.out
                  rw [← hwt]
                  clear hwt ha hwa hq4 hm4 HX3 e0 e1 e2 ef el
                  obtain ⟨e0, e1, e2, ef, el⟩ := three_cells HX.out.box
                  obtain ⟨d, hd⟩ : ∃ d : List Int, d = [z] := ⟨_, rfl⟩
                  rw [← hd] at HMt HX
                  have hdl : d.length ≤ 1000 := by rw [hd]; simp
                  clear hd
                  go_loopw [11] (fun q wr => q = .int .i64 0 ∧ wr = wt) (fun _ _ => 0)
                  case atStart => exact ⟨rfl, rfl⟩
                  case round =>
                    obtain ⟨rfl, hww⟩ := hrel
                    subst wr
                    clear e0 e1 e2 ef el
                    have HI3 : Hid (OfI W0 wt t t u6 v l4 R jt et) := HI2.out.on HX.out.sans HX.out.tp
                    have HDW : Hid (OwnI wt W0.heap.size (.slice (some ⟨w3.heap.size, 0, none⟩) 1 1) d) := ownsRow_mono HX.out.dat hs2
                    have hs3 := HI3.out.sans.size
                    obtain ⟨e0, e1, e2, ef, el⟩ := three_cells HX.out.box
                    clear HX HI2
                    go_wp2_with (first
                      | (at_builtin; refine wpList_append_own_at _ rfl _ _ 43 rfl W0.heap.size 54 i3 (.agg #[.int .i64 0, .int .i64 0, .slice none 0 0]) 3 40 Tryd.underlying43 hi3 hz30 hz31 hz32 rfl (by decide) u6 R.length (flat R) rfl (World.ownsRow.alloc HI3.out.own.row _) ⟨wt.heap.size, 0, none⟩ 1 1 [.int .i64 a, .int .i64 3, .slice (some ⟨w3.heap.size, 0, none⟩) 1 1] rfl rfl (cell_three_new _ _ _ _ _) (by intro u hu; simp at hu; rcases hu with rfl | rfl | rfl <;> rfl) ?c3 ?c4 ?c5 ?_))
                    case c3 => unfold maxLen; omega
                    case c4 => omega
                    case c5 => first | omega | (simp; omega)
                    intro v9 w9 hown hgrow _ _
                    have HI4 : Hid (OfI W0 w9 t t v9 v l4 (R ++ [(⟨a, 3, d⟩, .slice (some ⟨w3.heap.size, 0, none⟩) 1 1)]) jt et) := HI3.out.snoc (x := ⟨a, 3, d⟩) htW (below_alloc _ _) (OwnI.below HDW.out (below_alloc _ _)) hdl hgrow (by simpa using hown)
                    clear hown hgrow
                    go_wp2_with fail
                    refine ⟨⟨k + 1, _, a, jt, et, by omega, by go_num, (by first | rfl | rw [HA.out]), by omega, (by show _ = _; simp [HRk.out]), (by rw [show N - (k + 1) = m' by omega, List.map_append]; exact HMt), HI4⟩, ?_⟩
                    simp [intOf]; omega
              · have HGN : Hid (G = ⟨(numD (l4.drop j)).no, [], []⟩) := mid_no HMG.out (by unfold eventD; rw [if_pos hn2]) hn2
                have HSX : Hid (Sans t t W0 w2) := HI.out.sans.trans hq.sans
                have HTX : Hid (TpAt w2 t t v l4 j2 (numD (l4.drop j)).no) := ht2
                clear hq ht2 hr2 HI HMG c0 c1 c2 cf cl
                revert hn2 HGN HTX
                generalize (numD (l4.drop j)).no = en
                generalize (numD (l4.drop j)).val = xx
                intro hen HGN HTX
                have HEG : Hid (G = ⟨en, [], []⟩ ∨ (en = 4 ∧ G.no = 0 ∧ 0 < G.rest.length)) := Or.inl HGN.out
                obtain rfl := HV.out
                obtain ⟨x0, x1, x2, xf, xl⟩ := three_cells HTX.out.box
                have hen' : (en == 0) = false := by simpa using hen
                have hen2 : (en != 0) = true := by simpa using hen
                go_wp2_with fail
                go_quiet (fail)
                go_wp2_with fail
                go_quiet (fail)
                go_wp2_with fail
                go_ret2
                obtain ⟨f1, f2⟩ := HFIN.out en _ hen HEG.out (below_drewN (below_drewN (HBW.out.trans (HSX.out.old.mono hzw)) _) _)
                exact ⟨_, by rw [f1]; rfl, f2⟩
            · have hki : ¬ (k : Int) < (N : Int) := by omega
              rw [show N - k = 0 by omega] at HM
              have HGE : Hid (G = ⟨0, R.map Prod.fst, l4.drop j⟩) := (HM.out.1 rfl).symm
              have hR1000 : R.length ≤ 1000 := by have := HRk.out; omega
              have hjn := HI.out.tp.le
              rw [HLEN.out] at hjn
              obtain rfl := HV.out
              by_cases hjl : j < n
              · have hji : (j : Int) < (n : Int) := by omega
                clear HM
                go_wp2_with fail
                go_quiet (fail)
                go_wp2_with fail
                go_quiet (fail)
                go_wp2_with fail
                go_ret2
                obtain ⟨f1, f2⟩ := HFIN.out 4 _ (by simp) (Or.inr ⟨rfl, by rw [HGE.out], by rw [HGE.out]; simp; rw [HLEN.out]; omega⟩) (below_drewN ((below_drewN (HBW.out.trans (HI.out.sans.old.mono hzw)) _).setCell (p := ⟨t, 2, none⟩) hzw (.int .i64 4)) _)
                exact ⟨_, by rw [f1]; rfl, f2⟩
              · have hji : ¬ (j : Int) < (n : Int) := by omega
                have HAL : Hid (allD l4 = ⟨0, R.map Prod.fst, l4.drop j⟩) := by
                  show _ = _
                  rw [HALL.out, HGE.out]
                  simp only
                  rw [if_neg (by simp), if_neg (by simp; rw [HLEN.out]; omega)]
                have HEF : Hid (∀ W, Below wr.heap.size wr W → Calls Tryd.prog 67 #[u6] W fun e w' => e = .returned (.int .i64 (chkNo (R.map Prod.fst))) ∧ Below W.heap.size W w') := fun W hB => EventsFault_any u6 _ W ((HI.out.own.evs hR1000 HI.out.len).at_.below hB)
                clear HM
                go_wp2_with fail
                go_quiet (fail)
                go_wp2_with fail
                refine (HEF.out _ (below_drewN (Below.refl _ _) _)).mono ?_
                rintro e w5 ⟨rfl, hb5⟩
                have hB5 : Below wr.heap.size wr w5 := (below_drewN (Below.refl _ _) nq).trans hb5
                have HB5 : Hid (Below w.heap.size w w5) := (HBW.out.trans (HI.out.sans.old.mono hzw)).trans (hB5.mono (by have := HI.out.sans.size; omega))
                have HT5 : Hid (TpAt w5 t t (.slice (some ⟨b, off, none⟩) n c) l4 j 0) := HI.out.tp.below hB5
                have HO5 : Hid (OwnE w5 W0.heap.size u6 R) := HI.out.own.below hB5
                have HLN : Hid (∀ p ∈ R, p.1.data.length ≤ 1000) := HI.out.len
                clear hb5 hB5 HEF HI c0 c1 c2 cf cl
                obtain ⟨c0, c1, c2, cf, cl⟩ := three_cells HT5.out.box
                by_cases hc0 : chkNo (R.map Prod.fst) = 0
                · have XE : Hid (g = (0, R.map Prod.fst)) := by
                    show _ = _
                    rw [HG.out, HAL.out]
                    simp only
                    rw [if_neg (by simp), if_neg (by simp [hc0])]
                  rw [hc0]
                  clear HG HAL HALL HGE HFIN HT5
                  go_wp2_with fail
                  go_ret2
                  have hzz := HZ0.out
                  exact ⟨_, by rw [XE.out]; rfl, HB5.out.setCell (p := ⟨t, 2, none⟩) hzw _, fun _ => ⟨R, by rw [XE.out], (OwnE.mono ⟨ownsRow_setCell_other (a := ⟨t, 2, none⟩) HO5.out.row (fun e => by have := (World.ownsRow.lt HO5.out.row _ e).1; simp at this; omega) _, fun p hp => ownsRow_setCell_other (a := ⟨t, 2, none⟩) (HO5.out.data p hp) (fun e => by have := (World.ownsRow.lt (HO5.out.data p hp) _ e).1; simp at this; omega) _⟩ (by omega)), hR1000, HLN.out⟩, fun e => by rw [XE.out] at e; simp at e⟩
                · have XE : Hid (g = (chkNo (R.map Prod.fst), [])) := by
                    show _ = _
                    rw [HG.out, HAL.out]
                    simp only
                    rw [if_neg (by simp), if_pos hc0]
                  obtain ⟨en, hen⟩ : ∃ en, en = chkNo (R.map Prod.fst) := ⟨_, rfl⟩
                  rw [← hen] at hc0 XE ⊢
                  have hn' : (en == 0) = false := by simpa using hc0
                  have hn2 : (en != 0) = true := by simpa using hc0
                  clear HG HAL HALL HGE HFIN HT5 hen
                  go_wp2_with fail
                  go_quiet (fail)
                  go_wp2_with fail
                  go_ret2
                  exact ⟨_, by rw [XE.out]; rfl, below_drewN (HB5.out.setCell (p := ⟨t, 2, none⟩) hzw _) _, fun e => by rw [XE.out] at e; exact absurd e hc0, fun _ => rfl⟩
          · obtain ⟨en, hee⟩ : ∃ en, en = e := ⟨_, rfl⟩
            subst hee
            have hen : ¬ en = 0 := he0
            have HGN : Hid (G.no = en) := HM.out.2 he0
            have HTX : Hid (TpAt wr t t v l4 j en) := HI.out.tp
            have HSX : Hid (Sans t t W0 wr) := HI.out.sans
            have HFN : Hid (∀ W : World, Below w.heap.size w W → g = (en, []) ∧ DecQ w W (.slice none 0 0) g) := fun W hB => by
              have E : allD l4 = ⟨en, [], []⟩ := by rw [HALL.out, if_pos (by rw [HGN.out]; exact he0), HGN.out]
              have e1 : g = (en, []) := by
                rw [HG.out, E]
                simp only
                rw [if_pos he0]
              exact ⟨e1, hB, fun e => by rw [e1] at e; exact absurd e he0, fun _ => rfl⟩
            obtain rfl := HV.out
            have hen' : (en == 0) = false := by simpa using hen
            have hen2 : (en != 0) = true := by simpa using hen
            clear HI HM HFIN HG HALL HGN
            by_cases hlt : k < N
            · have hki : (k : Int) < (N : Int) := by omega
              go_wp2_with fail
              go_quiet (fail)
              go_wp2_with fail
              go_quiet (fail)
              go_wp2_with fail
              go_ret2
              obtain ⟨f1, f2⟩ := HFN.out _ (below_drewN (below_drewN (HBW.out.trans (HSX.out.old.mono hzw)) _) _)
              exact ⟨_, by rw [f1]; rfl, f2⟩
            · have hki : ¬ (k : Int) < (N : Int) := by omega
              go_wp2_with fail
              go_quiet (fail)
              go_wp2_with fail
              go_quiet (fail)
              go_wp2_with fail
              go_ret2
              obtain ⟨f1, f2⟩ := HFN.out _ (below_drewN (below_drewN (HBW.out.trans (HSX.out.old.mono hzw)) _) _)
              exact ⟨_, by rw [f1]; rfl, f2⟩
    · have XE : Hid (g = ((numD l4).no, [])) := by
        have E : allD l4 = ⟨(numD l4).no, [], []⟩ := by
          unfold allD
          rw [if_pos hn0]
        show _ = _
        rw [HG.out, E]
        simp only
        rw [if_pos hn0]
      have HTX : Hid (TpAt w1 t t v l4 j1 (numD l4).no) := ht1
      rw [HQZ.out hn0]
      clear hr1 ht1 HG HQZ hval
      revert hn0 XE HTX
      generalize (numD l4).no = en
      intro hen XE HTX
      obtain rfl := HV.out
      obtain ⟨x0, x1, x2, xf, xl⟩ := three_cells HTX.out.box
      have hen' : (en == 0) = false := by simpa using hen
      have hen2 : (en != 0) = true := by simpa using hen
      go_wp2_with fail
      go_loopw [6, 7, 8] (fun o q i wr => o = .slice none 0 0 ∧ q = .int .i64 0 ∧ i = .int .i64 0 ∧ wr = w1) (fun _ _ _ _ => 0)
      case atStart => exact ⟨rfl, rfl, rfl, rfl⟩
      case round =>
        obtain ⟨rfl, rfl, rfl, hww⟩ := hrel
        subst wr
        go_wp2_with fail
        go_quiet (fail)
        go_wp2_with fail
        go_quiet (fail)
        go_wp2_with fail
        go_ret2
        exact ⟨_, by rw [XE.out]; rfl, below_drewN (below_drewN (HBW.out.trans (HQ1.out.old.mono hzw)) _) _, fun e => by rw [XE.out] at e; exact absurd e hen, fun _ => rfl⟩

end Go.Proofs.YtbjlfhpiebokkaaDoor
