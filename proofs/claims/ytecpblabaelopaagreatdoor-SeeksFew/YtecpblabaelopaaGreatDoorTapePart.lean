/- A tape, plainly: may it be, and which events does it have? -/
import Derived.Test.YtecpblabaelopaaGreatDoorByFPart
import Derived.Test.YtecpblabaelopaaGreatDoorCpuMPart
import Derived.Test.YtecpblabaelopaaGreatDoorBasePart
import Derived.Deep.RegionHeld3
import Derived.Deep.RegionLaw
import Derived.Deep.RegionWith
import Derived.Deep.DeepCutAuto
namespace Go.Proofs.YtecpblabaelopaaGreatDoor
open Go.RowKit
set_option maxRecDepth 100000

def lateB (cnt : Int) (L : List Ev) : Bool := L.any fun x => decide (cnt ≤ x.at_)
def tapeG (im bs : List Int) (cnt : Int) : Int × List Ev :=
  if newNo im ≠ 0 then (newNo im, []) else if inB cnt 0 3000 = false then (2, []) else if (decD bs).1 ≠ 0 then ((decD bs).1, []) else if lateB cnt (decD bs).2 = true then (9, []) else (0, (decD bs).2)
theorem lateB_iff {cnt : Int} {L : List Ev} : lateB cnt L = true ↔ ∃ j, j < L.length ∧ cnt ≤ (L.getD j noEv).at_ := by
  unfold lateB
  rw [List.any_eq_true]
  constructor
  · rintro ⟨x, hx, hd⟩
    obtain ⟨i, hi, rfl⟩ := List.mem_iff_getElem.1 hx
    exact ⟨i, hi, by simpa [List.getD, hi] using hd⟩
  · rintro ⟨j, hj, hd⟩
    exact ⟨L[j], List.getElem_mem hj, by simpa [List.getD, hj] using hd⟩
theorem chk_verdict {L : List Ev} (h : chkNo L = 0) : ∀ k, k < L.length → verdict L k = 0 := by
  have h0 : chk L 0 = 0 := by
    unfold chkNo at h
    split at h
    · cases h
    · exact h
  have : ∀ k, k ≤ L.length → chk L k = 0 := by
    intro k
    induction k with
    | zero => exact fun _ => h0
    | succ k ih =>
      intro hk
      have h1 := ih (by omega)
      by_cases hv : verdict L k = 0
      · rw [chk_ok (by omega) hv] at h1; exact h1
      · rw [chk_no (by omega) hv] at h1; exact absurd h1 hv
  intro k hk
  have h1 := this k (by omega)
  by_cases hv : verdict L k = 0
  · exact hv
  · rw [chk_no hk hv] at h1; exact absurd h1 hv
theorem chk_step {L : List Ev} (h : chkNo L = 0) {k : Nat} (hk : k + 1 < L.length) : (L.getD k noEv).at_ ≤ (L.getD (k + 1) noEv).at_ := by
  have h1 := chk_verdict h (k + 1) hk
  have h2 := chk_verdict h k (by omega)
  have e1 := (evNo_bd (verdict_ev h1)).1
  have e2 := (evNo_bd (verdict_ev h2)).1
  unfold verdict at h1
  rw [if_pos (verdict_ev (chk_verdict h (k + 1) hk)), if_neg (by omega)] at h1
  split at h1
  · rename_i hb
    simp only [behind, decide_eq_true_eq, Nat.add_sub_cancel] at hb
    omega
  · cases h1
theorem chk_mono {L : List Ev} (h : chkNo L = 0) : ∀ (d k : Nat), k + d < L.length → (L.getD k noEv).at_ ≤ (L.getD (k + d) noEv).at_
  | 0, _, _ => Int.le_refl _
  | d + 1, k, hk => Int.le_trans (chk_mono h d k (by omega)) (by have := chk_step h (k := k + d) (by omega); exact this)
theorem late_last {L : List Ev} (h : chkNo L = 0) {m : Nat} (hm : L.length = m + 1) (cnt : Int) : lateB cnt L = decide (cnt ≤ (L.getD m noEv).at_) := by
  by_cases hc : cnt ≤ (L.getD m noEv).at_
  · rw [decide_eq_true hc]
    exact lateB_iff.2 ⟨m, by omega, hc⟩
  · rw [decide_eq_false hc]
    cases e : lateB cnt L with
    | false => rfl
    | true =>
      obtain ⟨j, hj, hd⟩ := lateB_iff.1 e
      have := chk_mono h (m - j) j (by omega)
      rw [show j + (m - j) = m by omega] at this
      omega
theorem late_nil (cnt : Int) : lateB cnt [] = false := rfl
theorem late_all {cnt : Int} {L : List Ev} (h : ∀ j, j < L.length → ¬ cnt ≤ (L.getD j noEv).at_) : lateB cnt L = false := by
  cases e : lateB cnt L with
  | false => rfl
  | true =>
    obtain ⟨j, hj, hd⟩ := lateB_iff.1 e
    exact absurd hd (h j hj)

def Twelve (e : Ending) (no : Int) : Prop :=
  ∃ A1 n1 c1 p b i wt tb ct fn A2 n2 c2 A3 n3 c3 rd wn, e = .returned (.tuple #[.agg #[.slice A1 n1 c1, .int .i64 p, .int .i64 b, .bool i, .bool wt, .int .i64 tb, .int .i64 ct, .int .i64 fn, .slice A2 n2 c2, .slice A3 n3 c3, .int .i64 rd, .int .i64 wn], .int .i64 no])
theorem twelve_of {w' : World} {lo : Nat} {rv mv ov : Value} {m : Mach} {no : Int} (h : OwnM w' lo rv mv ov m) : Twelve (.returned (.tuple #[.agg (m.cells rv mv ov), .int .i64 no])) no := by
  obtain ⟨A, c, B, c', C, c'', rfl, rfl, rfl⟩ := h.shape
  exact ⟨_, _, _, _, _, _, _, _, _, _, _, _, _, _, _, _, _, _, rfl⟩
theorem New_12 (v : Value) (l : List Int) (w : World) (h : IntsAt w v l) : Calls Tryz.prog 46 #[v] w fun e w' => Twelve e (newNo l) ∧ Below w.heap.size w w' := by
  by_cases hn : newNo l = 0
  · rw [hn]
    exact (New_ok v l w h hn).mono fun e w' ⟨rv, mv, ov, he, ho, hb⟩ => ⟨he ▸ twelve_of ho, hb⟩
  · exact (New_no v l w h hn).mono fun e w' ⟨he, hb⟩ => ⟨⟨_, _, _, _, _, _, _, _, _, _, _, _, _, _, _, _, _, _, he⟩, hb⟩

end Go.Proofs.YtecpblabaelopaaGreatDoor

/- A world, plainly: may it be? -/

namespace Go.Proofs.YtecpblabaelopaaGreatDoor
open Go.RowKit

structure Wd where
  irqs : List Int
  values : List Int
  blocks : List (List Int)
  delays : List Int

def allIn (lo hi : Int) (l : List Int) : Bool := l.all fun x => inB x lo hi
theorem allIn_iff {lo hi : Int} {l : List Int} : allIn lo hi l = true ↔ ∀ i, i < l.length → inB (l.getD i 0) lo hi = true := by
  unfold allIn
  rw [List.all_eq_true]
  constructor
  · intro h i hi
    have e : l.getD i 0 = l[i] := by simp [List.getD, hi]
    rw [e]
    exact h _ (List.getElem_mem hi)
  · intro h x hx
    obtain ⟨i, hi, rfl⟩ := List.mem_iff_getElem.1 hx
    have e : l.getD i 0 = l[i] := by simp [List.getD, hi]
    rw [← e]
    exact h i hi
theorem allIn_no {lo hi : Int} {l : List Int} {k : Nat} (hk : k < l.length) (h : inB (l.getD k 0) lo hi = false) : allIn lo hi l = false := by
  cases e : allIn lo hi l with
  | false => rfl
  | true => rw [allIn_iff.1 e k hk] at h; exact absurd h (by decide)
theorem allIn_step {lo hi : Int} {l : List Int} {k : Nat} (h : ∀ i, i < k → inB (l.getD i 0) lo hi = true) (hk : inB (l.getD k 0) lo hi = true) : ∀ i, i < k + 1 → inB (l.getD i 0) lo hi = true := fun i hi => by
  by_cases e : i = k
  · subst e; exact hk
  · exact h i (by omega)
theorem allIn_word (l : List Int) : allIn (-1099511627776) 1099511627776 l = allB l := rfl

def blocksNo : List (List Int) → Int
  | [] => 0
  | b :: r => if b.length = 16 then (if allB b = true then blocksNo r else 2) else 1
theorem blocksNo_drop (D : List (List Int)) (k : Nat) (hk : k < D.length) : blocksNo (D.drop k) = if (D.getD k []).length = 16 then (if allB (D.getD k []) = true then blocksNo (D.drop (k + 1)) else 2) else 1 := by
  have e := List.drop_eq_getElem_cons hk
  have e2 : D.getD k [] = D[k] := by simp [List.getD, hk]
  rw [e, blocksNo, e2]

def Wd.fits (x : Wd) : Bool := decide (x.irqs.length ≤ 1000 ∧ x.values.length ≤ 1000 ∧ x.blocks.length ≤ 1000 ∧ x.delays.length ≤ 1000)
def worldNo (x : Wd) : Int :=
  if x.fits = true then (if allIn 0 3000 x.irqs = true ∧ allIn 0 3000 x.delays = true ∧ allB x.values = true then blocksNo x.blocks else 2) else 1

structure WdAt (w : World) (a b c d : Value) (x : Wd) : Prop where
  irqs : IntsAt w a x.irqs
  values : IntsAt w b x.values
  blocks : RowsAt w c x.blocks
  delays : IntsAt w d x.delays
theorem WdAt.below {w w' : World} {a b c d : Value} {x : Wd} (h : WdAt w a b c d x) (hb : Below w.heap.size w w') : WdAt w' a b c d x :=
  ⟨h.irqs.below hb, h.values.below hb, h.blocks.below hb, h.delays.below hb⟩

end Go.Proofs.YtecpblabaelopaaGreatDoor

/- Contracts of run.outside, of the closure that it makes, and of what is no word. -/

namespace Go.Proofs.YtecpblabaelopaaGreatDoor
open Go.RowKit

abbrev cloR (p q : Nat) : Value := .func (.func 72) #[] #[.pointer (some ⟨p, 0, none⟩), .pointer (some ⟨q, 0, none⟩)]
structure CloAtR (w : World) (p q : Nat) (lo hi : Int) : Prop where
  c1 : w.cell? ⟨p, 0, none⟩ = some (.int .i64 lo)
  c2 : w.cell? ⟨q, 0, none⟩ = some (.int .i64 hi)
  l1 : p < w.heap.size
  l2 : q < w.heap.size
theorem CloAtR.below {w w' : World} {p q : Nat} {lo hi : Int} (h : CloAtR w p q lo hi) (hb : Below w.heap.size w w') : CloAtR w' p q lo hi :=
  ⟨(hb.cell (p := ⟨p, 0, none⟩) h.l1).trans h.c1, (hb.cell (p := ⟨q, 0, none⟩) h.l2).trans h.c2, Nat.lt_of_lt_of_le h.l1 hb.size, Nat.lt_of_lt_of_le h.l2 hb.size⟩
theorem CloAtR.drew {w : World} {p q : Nat} {lo hi : Int} (h : CloAtR w p q lo hi) : CloAtR w.drew p q lo hi := h.below ((Below.refl _ w).drew)

theorem one_cellR {w : World} {b : Nat} {x : Value} {t : TypeId} (h : w.heap[b]? = some (.cells #[x] t (0, 0))) : w.cell? ⟨b, 0, none⟩ = some x := by simp [World.cell?, h]

theorem outsideR_any (lo hi : Int) (w : World) : Calls Tryz.prog 45 #[.int .i64 lo, .int .i64 hi] w fun e w' => ∃ p q, e = .returned (cloR p q) ∧ CloAtR w' p q lo hi ∧ Below w.heap.size w w' := by
  go_enter Tryz.func45, Tryz.ntmps45
  go_wp2
  go_ret
  obtain ⟨b0, b1, b2⟩ := two_boxes (Below.refl ((w.alloc (.cells #[.int .i64 lo] 3)).alloc (.cells #[.int .i64 hi] 3)).heap.size ((w.alloc (.cells #[.int .i64 lo] 3)).alloc (.cells #[.int .i64 hi] 3)))
  exact ⟨_, _, rfl, ⟨one_cellR b0, one_cellR b1, by simp; omega, by simp⟩, b2⟩

theorem cloR_any (x lo hi : Int) (p q : Nat) (w : World) (h : CloAtR w p q lo hi) :
    Calls Tryz.prog 72 #[.int .i64 x, .pointer (some ⟨p, 0, none⟩), .pointer (some ⟨q, 0, none⟩)] w fun e w' => e = .returned (.bool (!inB x lo hi)) ∧ w' = w := by
  obtain ⟨c1, c2, -, -⟩ := h
  by_cases h1 : x < lo
  · have hI : (!inB x lo hi) = true := by simp [inB]; omega
    rw [hI]
    go_enter Tryz.func72, Tryz.ntmps72
    go_wp2
    go_ret
    exact ⟨rfl, rfl⟩
  · by_cases h2 : hi < x
    · have hI : (!inB x lo hi) = true := by simp [inB]; omega
      rw [hI]
      go_enter Tryz.func72, Tryz.ntmps72
      go_wp2
      go_ret
      exact ⟨rfl, rfl⟩
    · have hI : (!inB x lo hi) = false := by simp [inB]; omega
      rw [hI]
      go_enter Tryz.func72, Tryz.ntmps72
      go_wp2
      go_ret
      exact ⟨rfl, rfl⟩

set_option maxHeartbeats 400000 in
theorem IndexFuncR (v : Value) (l : List Int) (p q : Nat) (lo hi : Int) (w : World) (h : IntsAt w v l) (hq : CloAtR w p q lo hi) :
    Calls Tryz.prog 63 #[v, cloR p q] w fun e w' => ∃ r : Int, e = .returned (.int .i64 r) ∧ decide (0 ≤ r) = !allIn lo hi l ∧ w' = w := by
  obtain ⟨A, c, rfl, hl, hc⟩ := h
  have HQ : Hid (CloAtR w p q lo hi) := hq
  clear hq
  go_enter Tryz.func63, Tryz.ntmps63
  go_wp2
  go_loopw [8] (fun i wr => ∃ k : Nat, k ≤ l.length ∧ i = .int .i64 k ∧ Hid (∀ i, i < k → inB (l.getD i 0) lo hi = true) ∧ wr = w) (fun i _ => l.length - (intOf i).toNat)
  case atStart => exact ⟨0, Nat.zero_le _, rfl, fun i hi => absurd hi (Nat.not_lt_zero _), rfl⟩
  case round =>
    obtain ⟨k, hk, rfl, ht, hw⟩ := hrel
    subst wr
    by_cases hlt : k < l.length
    · obtain ⟨b, off, rfl, hbs, hcell⟩ := hc (by omega)
      have h1 := hcell k hlt
      cases hw : inB (l.getD k 0) lo hi with
      | false =>
        have HN : Hid (true = !allIn lo hi l) := by show _ = _; rw [allIn_no hlt hw]; rfl
        clear hcell hc
        revert h1 hw
        generalize l.getD k 0 = x
        intro h1 hw
        go_wp2_with (go_at_call 72; refine (cloR_any _ lo hi p q _ HQ.out).mono ?_; rintro e w' ⟨rfl, rfl⟩)
        go_ret
        exact ⟨k, rfl, by rw [← HN.out]; simp, rfl⟩
      | true =>
        have HN : Hid (∀ i, i < k + 1 → inB (l.getD i 0) lo hi = true) := allIn_step ht.out hw
        clear hcell hc
        revert h1 hw
        generalize l.getD k 0 = x
        intro h1 hw
        go_wp2_with (go_at_call 72; refine (cloR_any _ lo hi p q _ HQ.out).mono ?_; rintro e w' ⟨rfl, rfl⟩)
        refine ⟨⟨k + 1, by omega, by go_num, HN, trivial⟩, ?_⟩
        simp [intOf]; omega
    · have HN : Hid (false = !allIn lo hi l) := by show _ = _; rw [allIn_iff.2 fun i hi => ht.out i (by omega)]; rfl
      clear hc
      go_wp2
      go_ret
      exact ⟨-1, rfl, by rw [← HN.out]; rfl, rfl⟩

theorem ContainsFuncR (v : Value) (l : List Int) (p q : Nat) (lo hi : Int) (w : World) (h : IntsAt w v l) (hq : CloAtR w p q lo hi) :
    Calls Tryz.prog 36 #[v, cloR p q] w fun e w' => e = .returned (.bool (!allIn lo hi l)) ∧ w' = w := by
  go_enter Tryz.func36, Tryz.ntmps36
  go_wp2_with (go_at_call 63; refine (IndexFuncR v l p q lo hi _ h hq).mono ?_; rintro e w' ⟨r, rfl, hr, rfl⟩)
  go_ret
  exact ⟨rfl, rfl⟩

theorem isNoWordR_any (w : World) : Calls Tryz.prog 83 #[] w fun e w' => ∃ p q, e = .returned (cloR p q) ∧ CloAtR w' p q (-1099511627776) 1099511627776 ∧ Below w.heap.size w w' := by
  go_enter Tryz.func83, Tryz.ntmps83
  go_wp2_with (go_at_call 45; refine (outsideR_any _ _ _).mono ?_; rintro e w' ⟨p, q, rfl, hc, hb⟩)
  go_ret
  exact ⟨p, q, rfl, hc, hb⟩

theorem isNoCount_any (w : World) : Calls Tryz.prog 51 #[] w fun e w' => ∃ p q, e = .returned (cloR p q) ∧ CloAtR w' p q 0 3000 ∧ Below w.heap.size w w' := by
  go_enter Tryz.func51, Tryz.ntmps51
  go_wp2_with (go_at_call 45; refine (outsideR_any _ _ _).mono ?_; rintro e w' ⟨p, q, rfl, hc, hb⟩)
  go_ret
  exact ⟨p, q, rfl, hc, hb⟩

end Go.Proofs.YtecpblabaelopaaGreatDoor

/- Contract of run.Check. -/

namespace Go.Proofs.YtecpblabaelopaaGreatDoor
open Go.RowKit
set_option maxRecDepth 100000

structure TapeAt (w : World) (iv ev : Value) (im bs : List Int) : Prop where
  ims : IntsAt w iv im
  evs : BytesAt w ev bs
  fit : ∃ A c, ev = .slice A bs.length c ∧ bs.length ≤ c
theorem TapeAt.below {w w' : World} {iv ev : Value} {im bs : List Int} (h : TapeAt w iv ev im bs) (hb : Below w.heap.size w w') : TapeAt w' iv ev im bs := ⟨h.ims.below hb, h.evs.below hb, h.fit⟩
theorem DecQ.nil {w w' : World} {no : Int} {L : List Ev} (hb : Below w.heap.size w w') (h : no ≠ 0) : DecQ w w' (.slice none 0 0) (no, L) := ⟨hb, fun e => absurd e h, fun _ => rfl⟩
theorem DecQ.look {w w' : World} {u : Value} {L : List Ev} (h : DecQ w w' u (0, L)) : EvsAt w' u L := by
  obtain ⟨R, hR, ho, hR1, hR2⟩ := h.ok rfl
  have := (ho.evs hR1 hR2).at_
  rwa [hR] at this
theorem DecQ.from {w w1 w' : World} {u : Value} {g : Int × List Ev} (h : DecQ w1 w' u g) (hb : Below w.heap.size w w1) : DecQ w w' u g :=
  ⟨hb.trans (h.old.mono hb.size), fun e => by
    obtain ⟨R, hR, ho, r⟩ := h.ok e
    exact ⟨R, hR, ⟨ownsRow_mono ho.row hb.size, fun p hp => ownsRow_mono (ho.data p hp) hb.size⟩, r⟩, h.no⟩
theorem DecQ.below {w w' w2 : World} {u : Value} {g : Int × List Ev} (h : DecQ w w' u g) (hb : Below w'.heap.size w' w2) : DecQ w w2 u g :=
  ⟨h.old.trans (hb.mono h.old.size), fun e => by
    obtain ⟨R, hR, ho, r⟩ := h.ok e
    exact ⟨R, hR, ho.below hb, r⟩, h.no⟩

set_option maxHeartbeats 4000000 in
theorem RunCheck_any (iv ev : Value) (im bs : List Int) (cnt : Int) (w : World) (h : TapeAt w iv ev im bs) (hL : Laid w) :
    Calls Tryz.prog 29 #[.agg #[iv, ev, .int .i64 cnt]] w fun e w' => ∃ u, e = .returned (.tuple #[u, .int .i64 (tapeG im bs cnt).1]) ∧ DecQ w w' u (tapeG im bs cnt) := by
  obtain ⟨Ai, ci, rfl, -, -⟩ := h.ims
  obtain ⟨Ae, ce, rfl, hfit⟩ := h.fit
  obtain ⟨W, hW⟩ : ∃ W, W = w.alloc (.cells #[.slice Ai im.length ci, .slice Ae bs.length ce, .int .i64 cnt] 27) := ⟨_, rfl⟩
  have hx : W.heap[w.heap.size]? = some (.cells #[.slice Ai im.length ci, .slice Ae bs.length ce, .int .i64 cnt] 27 (0, 0)) := by rw [hW]; exact Go.Deep.blk_alloc_new _ _
  have hb0 : Below w.heap.size w W := by rw [hW]; exact below_alloc _ _
  have HW : Hid (W = w.alloc (.cells #[.slice Ai im.length ci, .slice Ae bs.length ce, .int .i64 cnt] 27)) := hW
  have HX : Hid (W.heap[w.heap.size]? = some (.cells #[.slice Ai im.length ci, .slice Ae bs.length ce, .int .i64 cnt] 27 (0, 0)) ∧ Below w.heap.size w W) := ⟨hx, hb0⟩
  have HN : Hid (Calls Tryz.prog 46 #[.slice Ai im.length ci] W fun e w' => Twelve e (newNo im) ∧ Below W.heap.size W w') := New_12 _ im W (h.ims.below hb0)
  have HD : Hid (∀ X, Below w.heap.size w X → Calls Tryz.prog 56 #[.slice Ae bs.length ce] X fun e w' => ∃ u, e = .returned (.tuple #[u, .int .i64 (decD bs).1]) ∧ DecQ X w' u (decD bs)) := fun X hX => Decode_any _ bs X (h.evs.below hX) h.fit (hL.below hX)
  have HBY : Hid (∀ x ∈ bs, 0 ≤ x ∧ x ≤ 255) := by
    obtain ⟨_, _, _, _, hy, _⟩ := h.evs
    exact hy
  obtain ⟨G, hG⟩ : ∃ G, G = tapeG im bs cnt := ⟨_, rfl⟩
  rw [← hG]
  have HG : Hid (G = tapeG im bs cnt) := hG
  obtain ⟨q0, hq0⟩ : ∃ q, q = newNo im := ⟨_, rfl⟩
  have HQ0 : Hid (q0 = newNo im) := hq0
  rw [← hq0] at HN
  obtain ⟨⟨dn, DL⟩, hD0⟩ : ∃ D, D = decD bs := ⟨_, rfl⟩
  have HD0 : Hid ((dn, DL) = decD bs) := hD0
  rw [← hD0] at HD
  clear h hL hW hx hb0 hG hq0 hD0
  go_enter Tryz.func29, Tryz.ntmps29
  go_wp2_with fail
  rw [← HW.out]
  refine HN.out.mono ?_
  rintro e w1 ⟨⟨A1, n1, c1, p, b, i, wt, tb, ct, fn, A2, n2, c2, A3, n3, c3, rd, wn, rfl⟩, hb1⟩
  have hb01 : Below w.heap.size w w1 := HX.out.2.trans (hb1.mono HX.out.2.size)
  have hx1 : w1.heap[w.heap.size]? = some (.cells #[.slice Ai im.length ci, .slice Ae bs.length ce, .int .i64 cnt] 27 (0, 0)) := (hb1.block _ (lt_of_block HX.out.1)).trans HX.out.1
  have H1 : Hid (Below w.heap.size w w1 ∧ w1.heap[w.heap.size]? = some (.cells #[.slice Ai im.length ci, .slice Ae bs.length ce, .int .i64 cnt] 27 (0, 0))) := ⟨hb01, hx1⟩
  clear hb1 HN HX HW hb01 hx1
  by_cases hn : q0 = 0
  case neg =>
    have HE : Hid (G = (q0, [])) := by show _ = _; rw [HG.out, tapeG, if_pos (by rw [← HQ0.out]; exact hn), ← HQ0.out]
    have d0 : (q0 != 0) = true := by simpa using hn
    have HNE : Hid (q0 ≠ 0) := hn
    clear hn
    go_wp2_with fail
    refine bodyPost_ret (v := .tuple #[.slice none 0 0, .int .i64 q0]) (by simp [results, Tryz.results29, go_sem]) rfl ?_
    rw [HE.out]
    exact ⟨_, rfl, DecQ.nil (H1.out.1.alloc H1.out.1.size _) HNE.out⟩
  case pos =>
    have d0 : (q0 != 0) = false := by simp [hn]
    have HQ : Hid (newNo im = 0) := by show _ = _; rw [← HQ0.out]; exact hn
    go_upto_region 4 with fail
    obtain ⟨W2, hW2⟩ : ∃ W2, W2 = w1.alloc (.cells #[.slice A1 n1 c1, .int .i64 p, .int .i64 b, .bool i, .bool wt, .int .i64 tb, .int .i64 ct, .int .i64 fn, .slice A2 n2 c2, .slice A3 n3 c3, .int .i64 rd, .int .i64 wn] 37) := ⟨_, rfl⟩
    have hb2 := below_alloc w1 (.cells #[.slice A1 n1 c1, .int .i64 p, .int .i64 b, .bool i, .bool wt, .int .i64 tb, .int .i64 ct, .int .i64 fn, .slice A2 n2 c2, .slice A3 n3 c3, .int .i64 rd, .int .i64 wn] 37)
    rw [← hW2] at hb2 ⊢
    have H2 : Hid (Below w.heap.size w W2 ∧ W2.heap[w.heap.size]? = some (.cells #[.slice Ai im.length ci, .slice Ae bs.length ce, .int .i64 cnt] 27 (0, 0))) := ⟨H1.out.1.trans (hb2.mono H1.out.1.size), (hb2.block _ (lt_of_block H1.out.2)).trans H1.out.2⟩
    obtain ⟨z0, z1, z2, zf, zl⟩ := three_cells H2.out.2
    clear hW2 hb2 H1 hn
    cases hc : inB cnt 0 3000 with
    | false =>
      have HE : Hid (G = (2, [])) := by show _ = _; rw [HG.out, tapeG, if_neg (by rw [HQ.out]; simp), if_pos hc]
      go_region_held3 (fun w' => w'.cell? ⟨w.heap.size, 2, none⟩ = some (.int .i64 cnt)) (go_keep)
        (first
          | (go_at_call 51; refine (isNoCount_any _).mono ?_; rintro e w3 ⟨p3, q3, rfl, hc3, hb3⟩; have hB3 : Below W2.heap.size W2 w3 := ((Below.refl _ W2).drew).trans hb3; have HC3 : Hid (CloAtR w3 p3 q3 0 3000 ∧ Below w.heap.size w w3) := ⟨hc3, H2.out.1.trans (hB3.mono H2.out.1.size)⟩; have m2 := (hB3.cell (p := ⟨w.heap.size, 2, none⟩) zl).trans z2; clear hc3 hb3 hB3)
          | (go_at_call 72; refine (cloR_any cnt 0 3000 _ _ _ HC3.out.1).mono ?_; rw [hc]; rintro e w' ⟨rfl, hw'⟩; rw [hw']; clear hw' w'))
      all_goals
        go_wp2_with fail
        refine bodyPost_ret (v := .tuple #[.slice none 0 0, .int .i64 2]) (by simp [results, Tryz.results29, go_sem]) rfl ?_
        rw [HE.out]
        exact ⟨_, rfl, DecQ.nil HC3.out.2 (by decide)⟩
    | true =>
      go_region_held3 (fun w' => w'.cell? ⟨w.heap.size, 2, none⟩ = some (.int .i64 cnt)) (go_keep)
        (first
          | (go_at_call 51; refine (isNoCount_any _).mono ?_; rintro e w3 ⟨p3, q3, rfl, hc3, hb3⟩; have hB3 : Below W2.heap.size W2 w3 := ((Below.refl _ W2).drew).trans hb3; have HC3 : Hid (CloAtR w3 p3 q3 0 3000 ∧ Below w.heap.size w w3 ∧ w3.heap[w.heap.size]? = some (.cells #[.slice Ai im.length ci, .slice Ae bs.length ce, .int .i64 cnt] 27 (0, 0))) := ⟨hc3, H2.out.1.trans (hB3.mono H2.out.1.size), (hB3.block _ zl).trans H2.out.2⟩; have m2 := (hB3.cell (p := ⟨w.heap.size, 2, none⟩) zl).trans z2; clear hc3 hb3 hB3)
          | (go_at_call 72; refine (cloR_any cnt 0 3000 _ _ _ HC3.out.1).mono ?_; rw [hc]; rintro e w' ⟨rfl, hw'⟩; rw [hw']; clear hw' w'))
      all_goals
        have HG2 : Hid (G = if dn ≠ 0 then (dn, []) else if lateB cnt DL = true then (9, []) else (0, DL)) := by show _ = _; rw [HG.out, tapeG, if_neg (by rw [HQ.out]; simp), if_neg (by rw [hc]; simp), ← HD0.out]
        obtain ⟨y0, y1, y2, yf, yl⟩ := three_cells HC3.out.2.2
        clear z0 z1 z2 zf zl HQ0 HQ hc m2
        go_wp2_with fail
        refine (HD.out _ HC3.out.2.1).mono ?_
        rintro e w4 ⟨u, rfl, hq⟩
        have HQD : Hid (DecQ w w4 u (dn, DL)) := hq.from HC3.out.2.1
        have m2 := (hq.old.cell (p := ⟨w.heap.size, 2, none⟩) yl).trans y2
        have ml : w.heap.size < w4.heap.size := Nat.lt_of_lt_of_le yl hq.old.size
        clear hq y0 y1 y2 yf yl HD
        by_cases hd : dn = 0
        case neg =>
          have HE : Hid (G = (dn, []) ∧ dn ≠ 0) := ⟨by rw [HG2.out, if_pos hd], hd⟩
          have HU : Hid (u = .slice none 0 0) := HQD.out.no hd
          have d1 : (dn != 0) = true := by simpa using hd
          clear hd
          go_wp2_with fail
          refine bodyPost_ret (v := .tuple #[.slice none 0 0, .int .i64 dn]) (by simp [results, Tryz.results29, go_sem]) rfl ?_
          rw [HE.out.1]
          exact ⟨_, rfl, DecQ.nil HQD.out.old HE.out.2⟩
        case pos =>
          subst hd
          have HCK : Hid (chkNo DL = 0) := by
            show _ = _
            have := (decD_back HBY.out (by rw [← HD0.out])).2.1
            rwa [← HD0.out] at this
          obtain ⟨Au, cu, hu, hbd, hev⟩ := HQD.out.look
          subst hu
          by_cases h0 : 0 < DL.length
          · obtain ⟨k, hk⟩ : ∃ k, DL.length = k + 1 := ⟨DL.length - 1, by omega⟩
            obtain ⟨be, oe, rfl, hbe, hce⟩ := hev h0
            have hat := (hce k (by omega)).1
            obtain ⟨x, hx⟩ : ∃ x, x = (DL.getD k noEv).at_ := ⟨_, rfl⟩
            rw [← hx] at hat
            have HLT : Hid (lateB cnt DL = decide (cnt ≤ x)) := by show _ = _; rw [late_last HCK.out hk, ← hx]
            have g0 : (0 : Int) < (DL.length : Int) := by omega
            have gd : decide ((0 : Int) < (DL.length : Int)) = true := decide_eq_true g0
            have ge : decide (0 < DL.length) = true := decide_eq_true (by omega)
            have gg : 0 < DL.length := by omega
            have hw2 : IntKind.i64.wrap ((DL.length : Int) - 1) = (k : Int) := by rw [IntWalk.i64_in _ (by omega)]; omega
            have g1 : (k : Int) < (DL.length : Int) := by omega
            clear hce hev hk hx hbd h0
            by_cases hl : cnt ≤ x
            · have HE : Hid (G = (9, [])) := by show _ = _; rw [HG2.out, if_neg (by simp), HLT.out, decide_eq_true hl, if_pos rfl]
              go_wp2_with fail
              go_quiet (fail)
              go_wp2_with fail
              refine bodyPost_ret (v := .tuple #[.slice none 0 0, .int .i64 9]) (by simp [results, Tryz.results29, go_sem]) rfl ?_
              rw [HE.out]
              exact ⟨_, rfl, DecQ.nil (below_drewN HQD.out.old _) (by decide)⟩
            · have HE : Hid (G = (0, DL)) := by show _ = _; rw [HG2.out, if_neg (by simp), HLT.out, decide_eq_false hl, if_neg (by decide)]
              go_wp2_with fail
              go_quiet (fail)
              go_wp2_with fail
              refine bodyPost_ret (v := .tuple #[.slice (some ⟨be, oe, none⟩) DL.length cu, .int .i64 0]) (by simp [results, Tryz.results29, go_sem]) rfl ?_
              rw [HE.out]
              exact ⟨_, rfl, HQD.out.below (below_drewN (Below.refl _ _) _)⟩
          · have HE : Hid (G = (0, DL)) := by
              show _ = _
              have : DL = [] := List.eq_nil_of_length_eq_zero (by omega)
              rw [HG2.out, if_neg (by simp), this, late_nil, if_neg (by decide)]
            have g0 : ¬ (0 : Int) < (DL.length : Int) := by omega
            have gd : decide ((0 : Int) < (DL.length : Int)) = false := decide_eq_false g0
            have ge : decide (0 < DL.length) = false := decide_eq_false (by omega)
            have gg : ¬ 0 < DL.length := by omega
            clear hev hbd h0
            go_wp2_with fail
            go_quiet (fail)
            go_wp2_with fail
            refine bodyPost_ret (v := .tuple #[.slice Au DL.length cu, .int .i64 0]) (by simp [results, Tryz.results29, go_sem]) rfl ?_
            rw [HE.out]
            exact ⟨_, rfl, HQD.out.below (below_drewN (Below.refl _ _) _)⟩

end Go.Proofs.YtecpblabaelopaaGreatDoor

/- What events tell a step at its place; contracts of cmp.Compare, told's closure. -/

namespace Go.Proofs.YtecpblabaelopaaGreatDoor
open Go.RowKit
set_option maxRecDepth 100000

structure Tl where
  irq : Bool
  blk : List Int
  val : Int
def noTl : Tl := ⟨false, [], 0⟩
def tellE (k : Int) (t : Tl) (x : Ev) : Tl := if x.at_ = k then (if x.kind = 1 then { t with irq := true } else if x.kind = 2 then { t with blk := x.data } else { t with val := x.data.getD 0 0 }) else t
def toldL (k : Int) (L : List Ev) : Tl := L.foldl (tellE k) noTl
theorem toldL_take (k : Int) (L : List Ev) (j : Nat) (hj : j < L.length) : toldL k (L.take (j + 1)) = tellE k (toldL k (L.take j)) (L.getD j noEv) := by
  unfold toldL
  rw [List.take_succ_eq_append_getElem hj, List.foldl_append]
  simp [List.getD, hj]
theorem toldL_all (k : Int) (L : List Ev) (j : Nat) (h : L.length ≤ j) : toldL k (L.take j) = toldL k L := by rw [List.take_of_length_le h]
theorem tell_other {k : Int} {t : Tl} {x : Ev} (h : x.at_ ≠ k) : tellE k t x = t := by rw [tellE, if_neg h]
theorem told_before (k : Int) (L : List Ev) : ∀ j, (∀ i, i < j → i < L.length → (L.getD i noEv).at_ ≠ k) → toldL k (L.take j) = noTl
  | 0, _ => by simp [toldL]
  | j + 1, h => by
    by_cases hj : j < L.length
    · rw [toldL_take k L j hj, tell_other (h j (by omega) hj)]
      exact told_before k L j (fun i hi => h i (by omega))
    · have e : L.take (j + 1) = L.take j := by rw [List.take_of_length_le (by omega), List.take_of_length_le (by omega)]
      rw [e]
      exact told_before k L j (fun i hi => h i (by omega))
theorem told_behind (k : Int) (L : List Ev) (j : Nat) (h : ∀ i, j ≤ i → i < L.length → (L.getD i noEv).at_ ≠ k) : ∀ d, toldL k (L.take (j + d)) = toldL k (L.take j)
  | 0 => rfl
  | d + 1 => by
    by_cases hj : j + d < L.length
    · rw [← Nat.add_assoc, toldL_take k L (j + d) hj, tell_other (h (j + d) (by omega) hj)]
      exact told_behind k L j h d
    · have e : L.take (j + (d + 1)) = L.take (j + d) := by rw [List.take_of_length_le (by omega), List.take_of_length_le (by omega)]
      rw [e]
      exact told_behind k L j h d
theorem told_end (k : Int) (L : List Ev) (j : Nat) (h : ∀ i, j ≤ i → i < L.length → (L.getD i noEv).at_ ≠ k) : toldL k L = toldL k (L.take j) := by
  rw [← told_behind k L j h L.length, List.take_of_length_le (by omega)]
structure TlMay (t : Tl) : Prop where
  len : t.blk.length = 0 ∨ t.blk.length = 16
  all : allB t.blk = true
  val : wordB t.val = true
theorem tell_may {k : Int} {t : Tl} {x : Ev} (h : TlMay t) (hx : evNo x = 0) : TlMay (tellE k t x) := by
  obtain ⟨h1, h2, h3, h4⟩ := evNo_bd hx
  unfold tellE
  split
  · split
    · exact ⟨h.len, h.all, h.val⟩
    · split
      · rename_i e
        refine ⟨Or.inr ?_, h3, h.val⟩
        rw [e] at h4
        have h5 : (x.data.length : Int) = 16 := h4
        show x.data.length = 16
        omega
      · refine ⟨h.len, h.all, ?_⟩
        have e : x.kind = 3 := by omega
        rw [e] at h4
        have : x.data.length = 1 := by
          have h5 : (x.data.length : Int) = 1 := h4
          omega
        exact allB_iff.1 h3 0 (by omega)
  · exact h
theorem told_may {L : List Ev} (h : chkNo L = 0) (k : Int) : ∀ j, TlMay (toldL k (L.take j))
  | 0 => by simp [toldL, noTl]; exact ⟨Or.inl rfl, rfl, by decide⟩
  | j + 1 => by
    by_cases hj : j < L.length
    · rw [toldL_take k L j hj]
      exact tell_may (told_may h k j) (verdict_ev (chk_verdict h j hj))
    · have e : L.take (j + 1) = L.take j := by rw [List.take_of_length_le (by omega), List.take_of_length_le (by omega)]
      rw [e]
      exact told_may h k j
theorem toldL_may {L : List Ev} (h : chkNo L = 0) (k : Int) : TlMay (toldL k L) := by
  rw [← toldL_all k L L.length (Nat.le_refl _)]
  exact told_may h k _

def cmpI (a b : Int) : Int := if a < b then -1 else if b < a then 1 else 0
theorem isNaN_any (n : Int) (w : World) : Calls Tryz.prog 108 #[.int .i64 n] w fun e w' => e = .returned (.bool false) ∧ w' = w := by
  have d0 : (n != n) = false := by simp
  go_enter Tryz.func108, Tryz.ntmps108
  go_wp2_with fail
  go_ret
  exact ⟨ret_bool (by simp), rfl⟩
theorem Compare_any (a b : Int) (w : World) : Calls Tryz.prog 76 #[.int .i64 a, .int .i64 b] w fun e w' => e = .returned (.int .i64 (cmpI a b)) ∧ w' = w := by
  by_cases h1 : a < b
  · have HE : Hid (cmpI a b = -1) := by show _ = _; rw [cmpI, if_pos h1]
    go_enter Tryz.func76, Tryz.ntmps76
    go_wp2_with (go_at_call 108; refine (isNaN_any _ _).mono ?_; rintro e w' ⟨rfl, hw'⟩; rw [hw']; clear hw' w')
    go_ret
    exact ⟨ret_int HE.out.symm, rfl⟩
  · by_cases h2 : b < a
    · have HE : Hid (cmpI a b = 1) := by show _ = _; rw [cmpI, if_neg h1, if_pos h2]
      go_enter Tryz.func76, Tryz.ntmps76
      go_wp2_with (go_at_call 108; refine (isNaN_any _ _).mono ?_; rintro e w' ⟨rfl, hw'⟩; rw [hw']; clear hw' w')
      go_ret
      exact ⟨ret_int HE.out.symm, rfl⟩
    · have HE : Hid (cmpI a b = 0) := by show _ = _; rw [cmpI, if_neg h1, if_neg h2]
      go_enter Tryz.func76, Tryz.ntmps76
      go_wp2_with (go_at_call 108; refine (isNaN_any _ _).mono ?_; rintro e w' ⟨rfl, hw'⟩; rw [hw']; clear hw' w')
      go_ret
      exact ⟨ret_int HE.out.symm, rfl⟩
theorem toldClo_any (a k b : Int) (A : Option Addr) (n c : Nat) (w : World) : Calls Tryz.prog 75 #[.agg #[.int .i64 a, .int .i64 k, .slice A n c], .int .i64 b] w fun e w' => e = .returned (.int .i64 (cmpI a b)) ∧ Below w.heap.size w w' := by
  go_enter Tryz.func75, Tryz.ntmps75
  go_wp2_with (go_at_call 76; refine (Compare_any _ _ _).mono ?_; rintro e w' ⟨rfl, hw'⟩; rw [hw']; clear hw' w')
  go_ret
  exact ⟨rfl, below_alloc _ _⟩

end Go.Proofs.YtecpblabaelopaaGreatDoor

/- Contract of slices.BinarySearchFunc, as run.Told calls it. -/

namespace Go.Proofs.YtecpblabaelopaaGreatDoor
open Go.RowKit
set_option maxRecDepth 100000

theorem EvsAt.look {w : World} {A : Option Addr} {c : Nat} {L : List Ev} (h : EvsAt w (.slice A L.length c) L) :
    L.length * 40 ≤ 140737488351232 ∧ (0 < L.length → ∃ b off, A = some ⟨b, off, none⟩ ∧ b < w.heap.size ∧ ∀ j, j < L.length → EvAt w b (off + j * 3) (L.getD j noEv)) := by
  obtain ⟨A', c', e, hl, hc⟩ := h
  simp only [Value.slice.injEq, true_and] at e
  obtain ⟨rfl, rfl⟩ := e
  exact ⟨hl, hc⟩

set_option maxHeartbeats 2000000 in
theorem Bins_any (A : Option Addr) (c : Nat) (L : List Ev) (k : Int) (w : World) (h : EvsAt w (.slice A L.length c) L) (hs : chkNo L = 0) :
    Calls Tryz.prog 74 #[.slice A L.length c, .int .i64 k, .func (.func 75) #[] #[]] w fun e w' => ∃ (f : Nat) (b : Bool), e = .returned (.tuple #[.int .i64 (f : Int), .bool b]) ∧ f ≤ L.length ∧ (∀ j, j < f → (L.getD j noEv).at_ < k) ∧ (∀ j, f ≤ j → j < L.length → k ≤ (L.getD j noEv).at_) ∧ Below w.heap.size w w' := by
  have HEV : Hid (EvsAt w (.slice A L.length c) L ∧ chkNo L = 0) := ⟨h, hs⟩
  have hbd := h.look.1
  clear h hs
  go_enter Tryz.func74, Tryz.ntmps74
  go_wp2_with fail
  go_loopw [9, 10] (fun iv jv wr => ∃ (i j : Nat), i ≤ j ∧ j ≤ L.length ∧ iv = .int .i64 (i : Int) ∧ jv = .int .i64 (j : Int) ∧ Hid ((∀ x, x < i → (L.getD x noEv).at_ < k) ∧ (∀ x, j ≤ x → x < L.length → k ≤ (L.getD x noEv).at_) ∧ Below w.heap.size w wr)) (fun iv jv _ => (intOf jv).toNat - (intOf iv).toNat)
  case atStart => exact ⟨0, L.length, Nat.zero_le _, Nat.le_refl _, rfl, rfl, fun x hx => absurd hx (Nat.not_lt_zero _), fun x h1 h2 => by omega, Below.refl _ _⟩
  case round =>
    obtain ⟨i, j, hij, hj, rfl, rfl, HI⟩ := hrel
    by_cases hlt : i < j
    · have hl : (i : Int) < (j : Int) := by omega
      obtain ⟨m, hm⟩ : ∃ m, m = (i + j) / 2 := ⟨_, rfl⟩
      have hmL : (m : Int) < (L.length : Int) := by omega
      have hw0 : IntKind.i64.wrap ((i : Int) + (j : Int)) = (i : Int) + (j : Int) := IntWalk.i64_in _ (by omega)
      have hw1 : IntKind.u64.wrap ((i : Int) + (j : Int)) = (i : Int) + (j : Int) := by rw [IntKind.wrap_u64]; omega
      have hw2 : IntKind.i64.wrap ((m : Int) + 1) = (m : Int) + 1 := IntWalk.i64_in _ (by omega)
      obtain ⟨b, off, hA, hb, hc⟩ := HEV.out.1.look.2 (by omega)
      obtain ⟨e0, e1, v, e2, hv⟩ := hc m (by omega)
      have g0 := (HI.out.2.2.cell (p := ⟨b, off + m * 3, none⟩) hb).trans e0
      have g1 := (HI.out.2.2.cell (p := ⟨b, off + m * 3 + 1, none⟩) hb).trans e1
      have g2 := (HI.out.2.2.cell (p := ⟨b, off + m * 3 + 2, none⟩) hb).trans e2
      obtain ⟨Av, cv, rfl, -, -⟩ := hv
      subst hA
      have gl : b < wr.heap.size := Nat.lt_of_lt_of_le hb HI.out.2.2.size
      clear e0 e1 e2 hc hb
      have hm2 : ((i : Int) + (j : Int)) / 2 = (m : Int) := by omega
      obtain ⟨x, hx⟩ : ∃ x, x = (L.getD m noEv).at_ := ⟨_, rfl⟩
      rw [← hx] at g0
      have HX : Hid (x = (L.getD m noEv).at_ ∧ m = (i + j) / 2 ∧ i < j ∧ j ≤ L.length) := ⟨hx, hm, hlt, hj⟩
      obtain ⟨y, hy⟩ : ∃ y, y = (L.getD m noEv).kind := ⟨_, rfl⟩
      rw [← hy] at g1
      obtain ⟨nv, hnv⟩ : ∃ nv, nv = (L.getD m noEv).data.length := ⟨_, rfl⟩
      rw [← hnv] at g2
      clear hx hy hnv hm
      by_cases hlx : x < k
      · have hcm : cmpI x k = -1 := by rw [cmpI, if_pos hlx]
        go_wp2_with fail
        refine (toldClo_any _ _ _ _ _ _ _).mono ?_
        rw [hcm]
        rintro e w2 ⟨rfl, hb2⟩
        have HN : Hid ((∀ x, x < m + 1 → (L.getD x noEv).at_ < k) ∧ (∀ x, j ≤ x → x < L.length → k ≤ (L.getD x noEv).at_) ∧ Below w.heap.size w w2) := by
          refine ⟨fun z hz => ?_, HI.out.2.1, HI.out.2.2.trans (hb2.mono HI.out.2.2.size)⟩
          have h1 := HX.out
          have := chk_mono HEV.out.2 (m - z) z (by omega)
          rw [show z + (m - z) = m by omega, ← h1.1] at this
          omega
        clear hb2 hcm
        go_wp2_with fail
        refine ⟨⟨m + 1, j, by have := HX.out; omega, HX.out.2.2.2, by go_num, rfl, HN⟩, ?_⟩
        have := HX.out
        simp [intOf]; omega
      · have hcm : ∃ r : Int, cmpI x k = r ∧ ¬ r < 0 := by
          by_cases h2 : k < x
          · exact ⟨1, by rw [cmpI, if_neg hlx, if_pos h2], by decide⟩
          · exact ⟨0, by rw [cmpI, if_neg hlx, if_neg h2], by decide⟩
        obtain ⟨r, hr, hr0⟩ := hcm
        go_wp2_with fail
        refine (toldClo_any _ _ _ _ _ _ _).mono ?_
        rw [hr]
        rintro e w2 ⟨rfl, hb2⟩
        have HN : Hid ((∀ x, x < i → (L.getD x noEv).at_ < k) ∧ (∀ x, m ≤ x → x < L.length → k ≤ (L.getD x noEv).at_) ∧ Below w.heap.size w w2) := by
          refine ⟨HI.out.1, fun z hz hz2 => ?_, HI.out.2.2.trans (hb2.mono HI.out.2.2.size)⟩
          have h1 := HX.out
          have := chk_mono HEV.out.2 (z - m) m (by omega)
          rw [show m + (z - m) = z by omega, ← h1.1] at this
          omega
        clear hb2 hr
        go_wp2_with fail
        refine ⟨⟨i, m, by have := HX.out; omega, by have := HX.out; omega, rfl, by go_num, HN⟩, ?_⟩
        have := HX.out
        simp [intOf]; omega
    · have e : i = j := by omega
      subst e
      have hnl : ¬ (i : Int) < (i : Int) := by omega
      have HF : Hid (i ≤ L.length) := hj
      by_cases hiL : i < L.length
      · have hl : (i : Int) < (L.length : Int) := by omega
        obtain ⟨b, off, hA, hb, hc⟩ := HEV.out.1.look.2 (by omega)
        obtain ⟨e0, e1, v, e2, hv⟩ := hc i hiL
        have g0 := (HI.out.2.2.cell (p := ⟨b, off + i * 3, none⟩) hb).trans e0
        have g1 := (HI.out.2.2.cell (p := ⟨b, off + i * 3 + 1, none⟩) hb).trans e1
        have g2 := (HI.out.2.2.cell (p := ⟨b, off + i * 3 + 2, none⟩) hb).trans e2
        obtain ⟨Av, cv, rfl, -, -⟩ := hv
        subst hA
        have gl : b < wr.heap.size := Nat.lt_of_lt_of_le hb HI.out.2.2.size
        clear e0 e1 e2 hc hb
        revert g0 g1 g2
        generalize (L.getD i noEv).at_ = x
        generalize (L.getD i noEv).kind = y
        generalize (L.getD i noEv).data.length = nv
        intro g0 g1 g2
        go_wp2_with fail
        refine (toldClo_any _ _ _ _ _ _ _).mono ?_
        rintro e w2 ⟨rfl, hb2⟩
        have HN : Hid (Below w.heap.size w w2) := HI.out.2.2.trans (hb2.mono HI.out.2.2.size)
        clear hb2
        go_wp2_with fail
        refine bodyPost_ret (v := .tuple #[.int .i64 (i : Int), .bool (cmpI x k == 0)]) (by simp [results, Tryz.results74, go_sem]) rfl ?_
        exact ⟨i, _, rfl, HF.out, HI.out.1, HI.out.2.1, HN.out⟩
      · have hl : ¬ (i : Int) < (L.length : Int) := by omega
        go_wp2_with fail
        refine bodyPost_ret (v := .tuple #[.int .i64 (i : Int), .bool false]) (by simp [results, Tryz.results74, go_sem]) rfl ?_
        exact ⟨i, Or.inl rfl, HF.out, fun j hj => by simpa using HI.out.1 j hj, fun j h1 h2 => by simpa using HI.out.2.1 j h1 h2, HI.out.2.2⟩

end Go.Proofs.YtecpblabaelopaaGreatDoor
