/- Contract of reader.word. -/
import Derived.Test.YtbjlfhpiebokkaaDoorBySpoilPart
import Derived.Test.YtbjlfhpiebokkaaDoorInfoPart
import Derived.Deep.RegionLaw
import Derived.Test.YtbjlfhpiebokkaaDoorOwnFPart
namespace Go.Proofs.YtbjlfhpiebokkaaDoor
open Go.RowKit
set_option maxRecDepth 100000

theorem OwnI.one {w : World} {lo : Nat} (h : lo ≤ w.heap.size) (x : Int) : OwnI (w.alloc (.cells #[.int .i64 x] 3)) lo (.slice (some ⟨w.heap.size, 0, none⟩) 1 1) [x] :=
  ⟨by simp, Or.inr ⟨w.heap.size, 1, _, rfl, h, Go.Deep.blk_alloc_new _ _, by simp, by unfold maxLen; omega, by simp, by simp⟩⟩

set_option maxHeartbeats 1000000 in
theorem word_no (b lo : Nat) (v : Value) (l : List Int) (w : World) (h : RdAt w lo b v l) (hn : (numD l).no ≠ 0) :
    Calls Tryd.prog 120 #[.pointer (some ⟨b, 0, none⟩)] w fun e w' => e = .returned (.tuple #[.slice none 0 0, .int .i64 (numD l).no]) ∧ Sans b lo w w' := by
  have HN : Hid (Calls Tryd.prog 108 #[.pointer (some ⟨b, 0, none⟩)] w fun e w' => e = .returned (.tuple #[.int .i64 (numD l).val, .int .i64 (numD l).no]) ∧ Sans b lo w w') := (number_any b lo v l w h).mono fun e w' ⟨h1, h2⟩ => ⟨h1, h2.sans⟩
  clear h
  revert hn HN
  generalize (numD l).no = en
  generalize (numD l).val = x
  intro hn HN
  have hn' : (en == 0) = false := by simpa using hn
  go_enter Tryd.func120, Tryd.ntmps120
  go_wp2_with fail
  refine HN.out.mono ?_
  rintro e w' ⟨rfl, hb⟩
  have HB : Hid (Sans b lo w w') := hb
  clear hb
  go_wp2_with fail
  go_ret2
  exact ⟨rfl, HB.out⟩

set_option maxHeartbeats 1000000 in
theorem word_ok (b lo : Nat) (v : Value) (l : List Int) (w : World) (h : RdAt w lo b v l) (hn : (numD l).no = 0) :
    Calls Tryd.prog 120 #[.pointer (some ⟨b, 0, none⟩)] w fun e w' => ∃ g v', e = .returned (.tuple #[.slice (some ⟨g, 0, none⟩) 1 1, .int .i64 0]) ∧ OwnI w' w.heap.size (.slice (some ⟨g, 0, none⟩) 1 1) [anyK (numD l).val] ∧ RdAt w' lo b v' (numD l).rest ∧ Sans b lo w w' := by
  have HN : Hid (Calls Tryd.prog 108 #[.pointer (some ⟨b, 0, none⟩)] w fun e w' => e = .returned (.tuple #[.int .i64 (numD l).val, .int .i64 0]) ∧ (∃ v', RdAt w' lo b v' (numD l).rest) ∧ Sans b lo w w' ∧ 0 ≤ (numD l).val ∧ (numD l).val < 562949953421312) := (number_any b lo v l w h).mono fun e w' ⟨h1, h2⟩ => ⟨by rw [h1, hn], h2.rd hn, h2.sans, h2.val⟩
  clear h hn
  revert HN
  generalize (numD l).rest = r
  generalize (numD l).val = x
  intro HN
  have HK : Hid (∀ W, 0 ≤ x → x < 562949953421312 → Calls Tryd.prog 123 #[.int .i64 x] W fun e w' => e = .returned (.int .i64 (anyK x)) ∧ w' = W) := fun W h0 h1 => anyKind_any x W h0 (by omega)
  go_enter Tryd.func120, Tryd.ntmps120
  go_wp2_with fail
  refine HN.out.mono ?_
  rintro e w1 ⟨rfl, ⟨v', hr⟩, hb, hx0, hx1⟩
  have HB : Hid (RdAt w1 lo b v' r ∧ Sans b lo w w1) := ⟨hr, hb⟩
  clear hr hb HN
  go_wp2_with fail
  refine (HK.out _ hx0 hx1).mono ?_
  rintro e w2 ⟨rfl, rfl⟩
  go_wp2_with fail
  go_ret2
  have hsz := HB.out.2.size
  have hlw : lo ≤ w2.heap.size := by have := HB.out.1.own; have := HB.out.1.lt; omega
  exact ⟨_, v', rfl, OwnI.one hsz _, HB.out.1.below (below_alloc _ _), HB.out.2.trans (Sans.of_below (below_alloc _ _) hlw)⟩

end Go.Proofs.YtbjlfhpiebokkaaDoor

/- Frames that a call makes by append: what an append does to them. Plain laws, without the program. -/

namespace Go.Proofs.YtbjlfhpiebokkaaDoor
open Go.RowKit
set_option maxRecDepth 100000

theorem own_apart {w : World} {lo lo' n n' : Nat} {e e' : TypeId} {v v' : Value} {xs xs' : List Value} (h : w.ownsRow lo e 1 v n xs) (h' : w.ownsRow lo' e' 1 v' n' xs') (hne : e ≠ e') : v.ownBlock = none ∨ v.ownBlock ≠ v'.ownBlock := by
  cases hv : v.ownBlock with
  | none => exact Or.inl rfl
  | some g =>
    right
    intro e2
    rcases h'.2 with ⟨rfl, _⟩ | ⟨g', cap, cur, rfl, _, hg', _⟩
    · simp [Value.ownBlock] at e2
    · have : g = g' := by simpa [Value.ownBlock] using e2
      subst this
      exact own_ne h hg' hne hv

theorem OwnD.grown {w w' : World} {lo : Nat} {dv : Value} {rows : List Value} {D : List (List Int)} {row : Option Nat} (h : OwnD w lo dv rows D) (hg : w.grownBy w' row) (h1 : dv.ownBlock = none ∨ dv.ownBlock ≠ row) (h2 : ∀ i, i < D.length → (rows.getD i nilv).ownBlock = none ∨ (rows.getD i nilv).ownBlock ≠ row) : OwnD w' lo dv rows D :=
  ⟨h.top.kept hg h1, fun i hi => World.ownsRow.kept (h.each i hi) hg (h2 i hi), h.apart⟩

theorem getD_snoc {α : Type} (l : List α) (x d : α) (j : Nat) : (l ++ [x]).getD j d = if j < l.length then l.getD j d else if j = l.length then x else d := by
  by_cases h : j < l.length
  · rw [if_pos h, List.getD, List.getD, List.getElem?_append_left h]
  · by_cases e : j = l.length
    · subst e; simp [List.getD]
    · have : (l ++ [x]).length ≤ j := by simp; omega
      simp [List.getD, h, e, List.getElem?_eq_none this]

theorem OwnD.snoc {w w' : World} {lo : Nat} {dv dv' u : Value} {rows : List Value} {D : List (List Int)} {l : List Int} (h : OwnD w lo dv rows D) (hu : OwnI w lo u l) (hap : ∀ j, j < D.length → ∀ g, u.ownBlock = some g → (rows.getD j nilv).ownBlock ≠ some g)
    (hg : w.grownBy w' dv.ownBlock) (ho : w'.ownsRow lo 22 1 dv' (D.length + 1) (rows ++ [u])) : OwnD w' lo dv' (rows ++ [u]) (D ++ [l]) := by
  have hlen := h.len
  refine ⟨by simpa using ho, fun i hi => ?_, fun i j hi hj hij g hgi => ?_⟩
  · simp at hi
    rw [getD_snoc, getD_snoc, hlen]
    by_cases e : i < D.length
    · rw [if_pos e, if_pos e]
      exact World.ownsRow.kept (h.each i e) hg (own_apart (h.each i e) h.top (by decide))
    · have e2 : i = D.length := by omega
      rw [if_neg e, if_neg e, if_pos e2, if_pos e2]
      exact World.ownsRow.kept hu hg (own_apart hu h.top (by decide))
  · simp at hi hj
    rw [getD_snoc, hlen] at hgi ⊢
    by_cases e : i < D.length
    · rw [if_pos e] at hgi
      by_cases e2 : j < D.length
      · rw [if_pos e2]; exact h.apart i j e e2 hij g hgi
      · rw [if_neg e2, if_pos (by omega)]
        intro hu'
        exact hap i e g hu' hgi
    · rw [if_neg e, if_pos (by omega)] at hgi
      by_cases e2 : j < D.length
      · rw [if_pos e2]; exact hap j e2 g hgi
      · omega

theorem ownNil (w : World) (lo : Nat) : OwnI w lo nilv [] := World.ownsRow_nil _ _ _ _

theorem block_grown {w w' : World} {b : Nat} {o : Obj} {row : Option Nat} (h : w.heap[b]? = some o) (hg : w.grownBy w' row) (hne : row ≠ some b) : w'.heap[b]? = some o := by
  rw [hg.block b (lt_of_block h) (fun e => hne e.symm)]; exact h

theorem OwnF.reRow {w w1 : World} {lo n cap gd k : Nat} {u' rv : Value} {rows : List Value} {D : List (List Int)} {R l : List Int} (h : OwnF w lo (.slice (some ⟨gd, 0, none⟩) n cap) rv rows D R) (hk : k < D.length)
    (hg : w.grownBy w1 (rows.getD k nilv).ownBlock) (hu : OwnI w1 lo u' l) (hat : (rows.getD k nilv).ownBlock = u'.ownBlock ∨ ∀ g, u'.ownBlock = some g → w.heap.size ≤ g) :
    OwnF (w1.setCell ⟨gd, k, none⟩ u') lo (.slice (some ⟨gd, 0, none⟩) n cap) rv (rows.set k u') (D.set k l) R := by
  have hlen := h.dat.len
  have htop := h.dat.top.kept hg (own_apart h.dat.top (h.dat.each k hk) (by decide))
  obtain ⟨⟨cur, hgd⟩, hn⟩ := own_block htop
  subst hn
  have hne : ∀ j, j < D.length → j ≠ k → ∀ g, u'.ownBlock = some g → (rows.getD j nilv).ownBlock ≠ some g := fun j hj hjk g hg' e => by
    rcases hat with hat | hat
    · exact h.dat.apart k j hk hj (Ne.symm hjk) g (by rw [hat]; exact hg') e
    · have := (World.ownsRow.lt (h.dat.each j hj) g e).2
      have := hat g hg'
      omega
  have hother : ∀ j, j < D.length → j ≠ k → (rows.getD j nilv).ownBlock = none ∨ (rows.getD j nilv).ownBlock ≠ (rows.getD k nilv).ownBlock := fun j hj hjk => by
    cases e : (rows.getD j nilv).ownBlock with
    | none => exact Or.inl rfl
    | some g => exact Or.inr (fun e2 => h.dat.apart j k hj hk hjk g e e2.symm)
  have hrv : rv.ownBlock = none ∨ rv.ownBlock ≠ (rows.getD k nilv).ownBlock := by
    cases e : rv.ownBlock with
    | none => exact Or.inl rfl
    | some g => exact Or.inr (fun e2 => h.off k hk g e e2.symm)
  have hR1 : OwnI w1 lo rv R := World.ownsRow.kept h.ref hg hrv
  refine ⟨⟨?_, fun j hj => ?_, fun a b ha hb hab g hg' => ?_⟩, ownsRow_setCell_other (a := ⟨gd, k, none⟩) hR1 (own_ne hR1 hgd (by decide)) u', fun j hj g hg' => ?_⟩
  · have := (htop.stored k u').1
    simpa using this
  · simp at hj
    rw [getD_set _ _ _ _ _ (by omega), getD_set _ _ _ _ _ hk]
    by_cases e : j = k
    · rw [if_pos e, if_pos e]
      exact ownsRow_setCell_other (a := ⟨gd, k, none⟩) hu (own_ne hu hgd (by decide)) u'
    · rw [if_neg e, if_neg e]
      have hj1 : OwnI w1 lo (rows.getD j nilv) (D.getD j []) := World.ownsRow.kept (h.dat.each j hj) hg (hother j hj e)
      exact ownsRow_setCell_other (a := ⟨gd, k, none⟩) hj1 (own_ne hj1 hgd (by decide)) u'
  · simp at ha hb
    rw [getD_set _ _ _ _ _ (by omega)] at hg' ⊢
    by_cases e1 : a = k
    · rw [if_pos e1] at hg'
      rw [if_neg (by omega)]
      exact hne b hb (by omega) g hg'
    · rw [if_neg e1] at hg'
      by_cases e2 : b = k
      · rw [if_pos e2]
        intro hu'
        exact hne a ha e1 g hu' hg'
      · rw [if_neg e2]
        exact h.dat.apart a b ha hb hab g hg'
  · simp at hj
    rw [getD_set _ _ _ _ _ (by omega)]
    by_cases e : j = k
    · rw [if_pos e]
      intro e2
      rcases hat with hat | hat
      · exact h.off k hk g hg' (by rw [hat]; exact e2)
      · have := (World.ownsRow.lt h.ref g hg').2
        have := hat g e2
        omega
    · rw [if_neg e]; exact h.off j hj g hg'

end Go.Proofs.YtbjlfhpiebokkaaDoor

/- Contract of reader.runs. -/

namespace Go.Proofs.YtbjlfhpiebokkaaDoor
open Go.RowKit
set_option maxRecDepth 100000

theorem Sans.append {b lo n sz : Nat} {e : TypeId} {w w1 W w2 : World} {v : Value} {xs : List Value} (h : Sans b lo w w1) (hlo : lo ≤ w.heap.size) (hB : Below w1.heap.size w1 W) (ho : W.ownsRow w.heap.size e sz v n xs) (hg : W.grownBy w2 v.ownBlock) : Sans b lo w w2 := by
  have hW : Sans b lo w W := h.trans (Sans.of_below hB (Nat.le_trans hlo h.size))
  refine ⟨hW.old.grown hg (Nat.le_trans hlo hW.size) (fun k hk => Nat.le_trans hlo (World.ownsRow.lt ho k hk).1), Nat.le_trans hW.size hg.size, fun g hg' hn => ?_⟩
  rw [hg.block g (Nat.lt_of_lt_of_le hg' hW.size) (fun e => ?_), hW.block g hg' hn]
  have := (World.ownsRow.lt ho g e.symm).1
  omega
theorem RdAt.append {w1 W w2 : World} {lo lo' b n sz : Nat} {e : TypeId} {v u : Value} {l : List Int} {xs : List Value} (h : RdAt w1 lo b v l) (hB : Below w1.heap.size w1 W) (hlo : lo ≤ lo') (hne : u.ownBlock ≠ some b) (ho : W.ownsRow lo' e sz u n xs) (hg : W.grownBy w2 u.ownBlock) : RdAt w2 lo b v l := by
  have hW := h.below hB
  refine ⟨block_grown hW.box hg hne, h.own, hW.bys.below ?_⟩
  exact (Below.refl _ W).grown hg (by have := hW.own; have := hW.lt; omega) (fun k hk => Nat.le_trans hlo (World.ownsRow.lt ho k hk).1)

structure RunsQ (w w' : World) (lo b : Nat) (u : Value) (l : List Int) : Prop where
  sans : Sans b lo w w'
  ok : (runsD 16 [] 0 l).no = 0 → OwnI w' w.heap.size u (runsD 16 [] 0 l).val ∧ ∃ v', RdAt w' lo b v' (runsD 16 [] 0 l).rest
  no : (runsD 16 [] 0 l).no ≠ 0 → u = .slice none 0 0
structure RunsI (w wr : World) (lo b : Nat) (o v : Value) (got l : List Int) : Prop where
  own : OwnI wr w.heap.size o got
  rd : RdAt wr lo b v l
  sans : Sans b lo w wr
theorem RunsI.read {w w1 w2 : World} {lo b : Nat} {o v : Value} {got l : List Int} (h : RunsI w w1 lo b o v got l) (q : NumQ w1 w2 lo b v l) (h0 : (numD l).no = 0) : ∃ v', RunsI w w2 lo b o v' got (numD l).rest := by
  obtain ⟨v', r⟩ := q.rd h0
  exact ⟨v', q.sans.ints h.own h.rd.box, r, h.sans.trans q.sans⟩
theorem RunsI.append {w w1 W w2 : World} {lo b : Nat} {o o' v : Value} {got l : List Int} {x : Int} (h : RunsI w w1 lo b o v got l) (hlo : lo ≤ w.heap.size) (hB : Below w1.heap.size w1 W) (hg : W.grownBy w2 o.ownBlock) (ho : OwnI w2 w.heap.size o' (got ++ [x])) : RunsI w w2 lo b o' v (got ++ [x]) l := by
  have hO := h.own.below hB
  exact ⟨ho, h.rd.append hB hlo (own_ne hO (h.rd.below hB).box (by decide)) hO hg, h.sans.append hlo hB hO hg⟩

set_option maxHeartbeats 2000000 in
theorem runs_any (b lo : Nat) (v : Value) (l : List Int) (w : World) (h : RdAt w lo b v l) (hlo : lo ≤ w.heap.size) :
    Calls Tryd.prog 119 #[.pointer (some ⟨b, 0, none⟩), .int .i64 16] w fun e w' => ∃ u, e = .returned (.tuple #[u, .int .i64 (runsD 16 [] 0 l).no]) ∧ RunsQ w w' lo b u l := by
  obtain ⟨i0, hi, hz0, hz1, hz2⟩ := info_parts infoInt
  have HI0 : Hid (RunsI w w lo b (.slice none 0 0) v [] l) := ⟨World.ownsRow_nil _ _ _ _, h, Sans.refl _ _ _⟩
  have HN : Hid (∀ W v1 l1, RdAt W lo b v1 l1 → Calls Tryd.prog 108 #[.pointer (some ⟨b, 0, none⟩)] W fun e w' => e = .returned (.tuple #[.int .i64 (numD l1).val, .int .i64 (numD l1).no]) ∧ NumQ W w' lo b v1 l1) := fun W v1 l1 hr => number_any b lo v1 l1 W hr
  have HK : Hid (∀ W x, 0 ≤ x → x < 562949953421312 → Calls Tryd.prog 123 #[.int .i64 x] W fun e w' => e = .returned (.int .i64 (anyK x)) ∧ w' = W) := fun W x h0 h1 => anyKind_any x W h0 (by omega)
  clear h
  go_enter Tryd.func119, Tryd.ntmps119
  go_wp2_with fail
  go_loopw [6, 7] (fun o t wr => ∃ (f : Nat) (got : List Int) (last : Int) (l' : List Int) (v' : Value), got.length ≤ 16 ∧ 16 - got.length ≤ f ∧ t = .int .i64 last ∧ (-(562949953421312 * got.length) ≤ last ∧ last ≤ 562949953421312 * got.length) ∧ Hid (runsD f got last l' = runsD 16 [] 0 l) ∧ Hid (RunsI w wr lo b o v' got l')) (fun o _ _ => match o with | .slice _ n _ => 16 - n | _ => 0)
  case atStart => exact ⟨16, [], 0, l, v, by simp, by simp, rfl, by simp, rfl, HI0⟩
  case round =>
    obtain ⟨f, got, last, l', v', hg16, hf, rfl, hlast, HE, HI⟩ := hrel
    obtain ⟨A, c, rfl⟩ := HI.out.own.shape
    by_cases hlt : got.length < 16
    · have hlti : (got.length : Int) < 16 := by omega
      obtain ⟨f', rfl⟩ : ∃ f', f = f' + 1 := ⟨f - 1, by omega⟩
      have HE1 : Hid (runsD 16 [] 0 l = runsD (f' + 1) got last l') := HE.out.symm
      clear HE
      go_wp2_with fail
      refine (HN.out _ _ _ HI.out.rd).mono ?_
      rintro e w1 ⟨rfl, hq1⟩
      have HQ1 : Hid (NumQ wr w1 lo b v' l') := hq1
      have hv1 := hq1.val
      clear hq1
      by_cases h1 : (numD l').no = 0
      · obtain ⟨v1, hi1⟩ := HI.out.read HQ1.out h1
        have HI1 : Hid (RunsI w w1 lo b (.slice A got.length c) v1 got (numD l').rest) := hi1
        clear hi1 HQ1 HI
        rw [h1]
        go_wp2_with fail
        refine (HN.out _ _ _ HI1.out.rd).mono ?_
        rintro e w2 ⟨rfl, hq2⟩
        have HQ2 : Hid (NumQ w1 w2 lo b v1 (numD l').rest) := hq2
        have hv2 := hq2.val
        clear hq2
        by_cases h2 : (numD (numD l').rest).no = 0
        · obtain ⟨v2, hi2⟩ := HI1.out.read HQ2.out h2
          have HI2 : Hid (RunsI w w2 lo b (.slice A got.length c) v2 got (numD (numD l').rest).rest) := hi2
          clear hi2 HQ2 HI1
          rw [h2]
          have HR : Hid (∀ x y r, (numD l').val = x → (numD (numD l').rest).val = y → (numD (numD l').rest).rest = r → ((x < 1 ∨ 16 - (got.length : Int) < x ∨ (y = 0 ∧ 0 < got.length)) → runsD 16 [] 0 l = ⟨4, [], []⟩) ∧ (¬ (x < 1 ∨ 16 - (got.length : Int) < x ∨ (y = 0 ∧ 0 < got.length)) → runsD 16 [] 0 l = runsD f' (got ++ List.replicate x.toNat (last + anyK y)) (last + anyK y) r)) := by
            intro x y r hx hy hr
            subst hx hy hr
            rw [HE1.out, runsD, if_pos hlt, if_neg (by simp [h1]), if_neg (by simp [h2])]
            exact ⟨fun hc => by rw [if_pos hc], fun hc => by rw [if_neg hc]⟩
          clear HE1 h1 h2
          revert hv1 hv2 HR HI2
          generalize (numD (numD l').rest).rest = r
          generalize (numD (numD l').rest).val = y
          generalize (numD l').val = x
          intro hv1 hv2 HI2 HR
          have HS : Hid (RunsI w w2 lo b (.slice A got.length c) v2 got r) := HI2.out
          have hyc : (y = 0 ∧ (0 : Int) < (got.length : Int)) ∨ (y = 0 ∧ ¬ (0 : Int) < (got.length : Int)) ∨ ¬ y = 0 := by omega
          have hw16 : IntKind.i64.wrap (16 - (got.length : Int)) = 16 - (got.length : Int) := IntWalk.i64_in _ (by omega)
          have HZ : Hid (runsD 16 [] 0 l = ⟨4, [], []⟩ → RunsQ w w2 lo b (.slice none 0 0) l) := fun e4 => ⟨HI2.out.sans, fun e => by rw [e4] at e; simp at e, fun _ => rfl⟩
          clear HI2
          by_cases hA : x < 1
          · have HE4 : Hid (runsD 16 [] 0 l = ⟨4, [], []⟩) := (HR.out _ _ _ rfl rfl rfl).1 (Or.inl hA)
            clear HR HN HK
            rcases hyc with ⟨rfl, hg0⟩ | ⟨rfl, hg0⟩ | hg0
            all_goals
              go_wp2_with fail
              go_ret2
              exact ⟨_, by rw [HE4.out]; rfl, HZ.out HE4.out⟩
          by_cases hB : 16 - (got.length : Int) < x
          · have HE4 : Hid (runsD 16 [] 0 l = ⟨4, [], []⟩) := (HR.out _ _ _ rfl rfl rfl).1 (Or.inr (Or.inl hB))
            clear HR HN HK
            rcases hyc with ⟨rfl, hg0⟩ | ⟨rfl, hg0⟩ | hg0
            all_goals
              go_wp2_with fail
              go_ret2
              exact ⟨_, by rw [HE4.out]; rfl, HZ.out HE4.out⟩
          rcases hyc with ⟨rfl, hg0⟩ | hyc
          · have HE4 : Hid (runsD 16 [] 0 l = ⟨4, [], []⟩) := (HR.out _ _ _ rfl rfl rfl).1 (Or.inr (Or.inr ⟨rfl, by omega⟩))
            clear HR HN HK
            go_wp2_with fail
            go_ret2
            exact ⟨_, by rw [HE4.out]; rfl, HZ.out HE4.out⟩
          have HG : Hid (runsD f' (got ++ List.replicate x.toNat (last + anyK y)) (last + anyK y) r = runsD 16 [] 0 l) := ((HR.out _ _ _ rfl rfl rfl).2 (by omega)).symm
          have HKy : Hid (∀ W, Calls Tryd.prog 123 #[.int .i64 y] W fun e w' => e = .returned (.int .i64 (anyK y)) ∧ w' = W) := fun W => HK.out W y hv2.1 hv2.2
          have hak : -281474976710656 ≤ anyK y ∧ anyK y ≤ 281474976710656 := by unfold anyK; split <;> omega
          clear HR HN HK HZ
          revert HG HKy hak
          generalize anyK y = z
          intro HG HKy hak
          obtain ⟨n, rfl⟩ : ∃ n : Nat, x = (n : Int) := ⟨x.toNat, by omega⟩
          rw [Int.toNat_natCast] at HG
          have hwz : IntKind.i64.wrap (last + z) = last + z := IntWalk.i64_in _ (by omega)
          obtain ⟨z', hz'⟩ : ∃ z', z' = last + z := ⟨_, rfl⟩
          rw [← hz'] at HG hwz
          have hzb : -(562949953421312 * ((got.length : Int) + 1)) ≤ z' ∧ z' ≤ 562949953421312 * ((got.length : Int) + 1) := by omega
          rcases hyc with ⟨rfl, hg0⟩ | hg0
          all_goals
            go_wp2_with fail
            refine (HKy.out _).mono ?_
            rintro e w3 ⟨rfl, rfl⟩
            go_wp2_with fail
            rw [← hz']
            have HZE : Hid (z' = last + z) := hz'
            clear hz' HKy hwz hak
            go_loopw [6, 57] (fun o i wi => ∃ k : Nat, k ≤ n ∧ i = .int .i64 k ∧ Hid (RunsI w wi lo b o v2 (got ++ List.replicate k z') r)) (fun _ i _ => n - (intOf i).toNat)
            case atStart => exact ⟨0, Nat.zero_le _, rfl, (by show RunsI _ _ _ _ _ _ _ _; rw [List.replicate_zero, List.append_nil]; exact HS.out)⟩
            case round =>
              obtain ⟨k, hk, rfl, HJ⟩ := hrel
              obtain ⟨G, hG⟩ : ∃ G, G = got ++ List.replicate k z' := ⟨_, rfl⟩
              have hGl : G.length = got.length + k := by rw [hG]; simp
              have HG2 : Hid (G ++ [z'] = got ++ List.replicate (k + 1) z') := by show _ = _; rw [hG, List.replicate_succ', List.append_assoc]
              have HG1 : Hid (G = got ++ List.replicate k z') := hG
              rw [← hG] at HJ
              clear hG
              have HGL : Hid (G.length = got.length + k) := hGl
              have hGb : G.length ≤ 16 := by omega
              clear hGl
              obtain ⟨A2, c2, rfl⟩ := HJ.out.own.shape
              have HO : Hid (OwnI wr w.heap.size (.slice A2 G.length c2) G) := HJ.out.own
              by_cases hkn : k < n
              · have hki : (k : Int) < (n : Int) := by omega
                go_wp2_with (first
                  | (at_builtin; refine wpList_append_own_at _ rfl _ _ 22 rfl w.heap.size 3 i0 (.int .i64 0) 1 8 Tryd.underlying22 hi hz0 hz1 hz2 rfl (by decide) (.slice A2 G.length c2) G.length (G.map (Value.int .i64)) rfl (World.ownsRow.alloc HO.out _) ⟨wr.heap.size, 0, none⟩ 1 1 [.int .i64 z'] rfl rfl (cell_one_new _ _ _) (by intro u hu; simp at hu; subst hu; rfl) ?c3 ?c4 ?c5 ?_))
                case c3 => unfold maxLen; omega
                case c4 => omega
                case c5 => simp; have := HJ.out.sans.size; omega
                intro vn w4 hown' hgrow _ _
                have HJ2 : Hid (RunsI w w4 lo b vn v2 (got ++ List.replicate (k + 1) z') r) := by rw [← HG2.out]; exact HJ.out.append hlo (below_alloc _ _) hgrow (OwnI.snoc hown' rfl)
                clear hown' hgrow
                go_wp2_with fail
                refine ⟨⟨k + 1, by omega, by go_num, HJ2⟩, ?_⟩
                simp [intOf]; omega
              · have hki : ¬ (k : Int) < (n : Int) := by omega
                obtain rfl : k = n := by omega
                have hGL := HGL.out
                go_wp2_with fail
                refine ⟨⟨f', G, z', r, v2, hGb, by omega, rfl, by omega, (by rw [HG1.out]; exact HG.out), HJ⟩, ?_⟩
                show 16 - G.length < 16 - got.length
                omega
        · have HR : Hid (runsD 16 [] 0 l = ⟨(numD (numD l').rest).no, [], []⟩) := by
            show _ = _
            rw [HE1.out, runsD, if_pos hlt, if_neg (by simp [h1]), if_pos h2]
          have HZ : Hid (RunsQ w w2 lo b (.slice none 0 0) l) := ⟨HI1.out.sans.trans HQ2.out.sans, fun e => by rw [HR.out] at e; exact absurd e h2, fun _ => rfl⟩
          clear HE1 HI1 HQ2 h1
          revert h2 HR
          generalize (numD (numD l').rest).no = en
          intro h2 HR
          have h2' : (en == 0) = false := by simpa using h2
          go_wp2_with fail
          go_ret2
          exact ⟨_, by rw [HR.out]; rfl, HZ.out⟩
      · have HR : Hid (runsD 16 [] 0 l = ⟨(numD l').no, [], []⟩) := by
          show _ = _
          rw [HE1.out, runsD, if_pos hlt, if_pos h1]
        have HZ : Hid (RunsQ w w1 lo b (.slice none 0 0) l) := ⟨HI.out.sans.trans HQ1.out.sans, fun e => by rw [HR.out] at e; exact absurd e h1, fun _ => rfl⟩
        clear HE1 HI HQ1
        revert h1 HR
        generalize (numD l').no = en
        intro h1 HR
        have h1' : (en == 0) = false := by simpa using h1
        go_wp2_with fail
        go_ret2
        exact ⟨_, by rw [HR.out]; rfl, HZ.out⟩
    · have hg : got.length = 16 := by omega
      have HR : Hid (runsD 16 [] 0 l = ⟨0, got, l'⟩) := by
        show _ = _
        rw [← HE.out]
        cases f with
        | zero => rfl
        | succ f => rw [runsD, if_neg hlt]
      have HZ : Hid (RunsQ w wr lo b (.slice A got.length c) l) := ⟨HI.out.sans, fun _ => by rw [HR.out]; exact ⟨HI.out.own, v', HI.out.rd⟩, fun e => by rw [HR.out] at e; exact absurd rfl e⟩
      rw [hg] at HZ ⊢
      clear HE HI
      go_wp2_with fail
      go_ret2
      exact ⟨_, by rw [HR.out]; rfl, HZ.out⟩

end Go.Proofs.YtbjlfhpiebokkaaDoor
