/- Contract of reader.word. -/
import Derived.Test.YtlcdefpdahjjeagDoorByDPart
import Derived.Test.YtlcdefpdahjjeagDoorByPart
import Derived.Deep.RegionLaw
import Derived.Test.YtlcdefpdahjjeagDoorEvChkPart
namespace Go.Proofs.YtlcdefpdahjjeagDoor
open Go.RowKit
set_option maxRecDepth 100000

theorem OwnI.one {w : World} {lo : Nat} (h : lo ≤ w.heap.size) (x : Int) : OwnI (w.alloc (.cells #[.int .i64 x] 3)) lo (.slice (some ⟨w.heap.size, 0, none⟩) 1 1) [x] :=
  ⟨by simp, Or.inr ⟨w.heap.size, 1, _, rfl, h, Go.Deep.blk_alloc_new _ _, by simp, by unfold maxLen; omega, by simp, by simp⟩⟩

set_option maxHeartbeats 1000000 in
theorem word_no (b lo : Nat) (v : Value) (l : List Int) (w : World) (h : RdAt w lo b v l) (hn : (numD l).no ≠ 0) :
    Calls Tryd.prog 122 #[.pointer (some ⟨b, 0, none⟩)] w fun e w' => e = .returned (.tuple #[.slice none 0 0, .int .i64 (numD l).no]) ∧ Sans b lo w w' := by
  have HN : Hid (Calls Tryd.prog 109 #[.pointer (some ⟨b, 0, none⟩)] w fun e w' => e = .returned (.tuple #[.int .i64 (numD l).val, .int .i64 (numD l).no]) ∧ Sans b lo w w') := (number_any b lo v l w h).mono fun e w' ⟨h1, h2⟩ => ⟨h1, h2.sans⟩
  clear h
  revert hn HN
  generalize (numD l).no = en
  generalize (numD l).val = x
  intro hn HN
  have hn' : (en == 0) = false := by simpa using hn
  go_enter Tryd.func122, Tryd.ntmps122
  go_wp2_with fail
  refine HN.out.mono ?_
  rintro e w' ⟨rfl, hb⟩
  have HB : Hid (Sans b lo w w') := hb
  clear hb
  go_wp2_with fail
  go_ret2
  exact ⟨rfl, HB.out⟩

set_option maxHeartbeats 1000000 in
theorem word_ok (b lo : Nat) (v : Value) (l : List Int) (w : World) (h : RdAt w lo b v l) (hn : (numD l).no = 0) :
    Calls Tryd.prog 122 #[.pointer (some ⟨b, 0, none⟩)] w fun e w' => ∃ g v', e = .returned (.tuple #[.slice (some ⟨g, 0, none⟩) 1 1, .int .i64 0]) ∧ OwnI w' w.heap.size (.slice (some ⟨g, 0, none⟩) 1 1) [anyK (numD l).val] ∧ RdAt w' lo b v' (numD l).rest ∧ Sans b lo w w' := by
  have HN : Hid (Calls Tryd.prog 109 #[.pointer (some ⟨b, 0, none⟩)] w fun e w' => e = .returned (.tuple #[.int .i64 (numD l).val, .int .i64 0]) ∧ (∃ v', RdAt w' lo b v' (numD l).rest) ∧ Sans b lo w w' ∧ 0 ≤ (numD l).val ∧ (numD l).val < 562949953421312) := (number_any b lo v l w h).mono fun e w' ⟨h1, h2⟩ => ⟨by rw [h1, hn], h2.rd hn, h2.sans, h2.val⟩
  clear h hn
  revert HN
  generalize (numD l).rest = r
  generalize (numD l).val = x
  intro HN
  have HK : Hid (∀ W, 0 ≤ x → x < 562949953421312 → Calls Tryd.prog 125 #[.int .i64 x] W fun e w' => e = .returned (.int .i64 (anyK x)) ∧ w' = W) := fun W h0 h1 => anyKind_any x W h0 (by omega)
  go_enter Tryd.func122, Tryd.ntmps122
  go_wp2_with fail
  refine HN.out.mono ?_
  rintro e w1 ⟨rfl, ⟨v', hr⟩, hb, hx0, hx1⟩
  have HB : Hid (RdAt w1 lo b v' r ∧ Sans b lo w w1) := ⟨hr, hb⟩
  clear hr hb HN
  go_wp2_with fail
  refine (HK.out _ hx0 hx1).mono ?_
  rintro e w2 ⟨rfl, rfl⟩
  go_wp2_with fail
  go_ret2
  have hsz := HB.out.2.size
  have hlw : lo ≤ w2.heap.size := by have := HB.out.1.own; have := HB.out.1.lt; omega
  exact ⟨_, v', rfl, OwnI.one hsz _, HB.out.1.below (below_alloc _ _), HB.out.2.trans (Sans.of_below (below_alloc _ _) hlw)⟩

end Go.Proofs.YtlcdefpdahjjeagDoor

/- Frames that a call makes by append: what an append does to them. Plain laws, without the program. -/

namespace Go.Proofs.YtlcdefpdahjjeagDoor
open Go.RowKit
set_option maxRecDepth 100000

theorem own_apart {w : World} {lo lo' n n' : Nat} {e e' : TypeId} {v v' : Value} {xs xs' : List Value} (h : w.ownsRow lo e 1 v n xs) (h' : w.ownsRow lo' e' 1 v' n' xs') (hne : e ≠ e') : v.ownBlock = none ∨ v.ownBlock ≠ v'.ownBlock := by
  cases hv : v.ownBlock with
  | none => exact Or.inl rfl
  | some g =>
    right
    intro e2
    rcases h'.2 with ⟨rfl, _⟩ | ⟨g', cap, cur, rfl, _, hg', _⟩
    · simp [Value.ownBlock] at e2
    · have : g = g' := by simpa [Value.ownBlock] using e2
      subst this
      exact own_ne h hg' hne hv

/-- Writes to another row alone. -/
theorem OwnD.grown {w w' : World} {lo : Nat} {dv : Value} {rows : List Value} {D : List (List Int)} {row : Option Nat} (h : OwnD w lo dv rows D) (hg : w.grownBy w' row) (h1 : dv.ownBlock = none ∨ dv.ownBlock ≠ row) (h2 : ∀ i, i < D.length → (rows.getD i nilv).ownBlock = none ∨ (rows.getD i nilv).ownBlock ≠ row) : OwnD w' lo dv rows D :=
  ⟨h.top.kept hg h1, fun i hi => World.ownsRow.kept (h.each i hi) hg (h2 i hi), h.apart⟩

theorem getD_snoc {α : Type} (l : List α) (x d : α) (j : Nat) : (l ++ [x]).getD j d = if j < l.length then l.getD j d else if j = l.length then x else d := by
  by_cases h : j < l.length
  · rw [if_pos h, List.getD, List.getD, List.getElem?_append_left h]
  · by_cases e : j = l.length
    · subst e; simp [List.getD]
    · have : (l ++ [x]).length ≤ j := by simp; omega
      simp [List.getD, h, e, List.getElem?_eq_none this]

/-- A row is appended. -/
theorem OwnD.snoc {w w' : World} {lo : Nat} {dv dv' u : Value} {rows : List Value} {D : List (List Int)} {l : List Int} (h : OwnD w lo dv rows D) (hu : OwnI w lo u l) (hap : ∀ j, j < D.length → ∀ g, u.ownBlock = some g → (rows.getD j nilv).ownBlock ≠ some g)
    (hg : w.grownBy w' dv.ownBlock) (ho : w'.ownsRow lo 22 1 dv' (D.length + 1) (rows ++ [u])) : OwnD w' lo dv' (rows ++ [u]) (D ++ [l]) := by
  have hlen := h.len
  refine ⟨by simpa using ho, fun i hi => ?_, fun i j hi hj hij g hgi => ?_⟩
  · simp at hi
    rw [getD_snoc, getD_snoc, hlen]
    by_cases e : i < D.length
    · rw [if_pos e, if_pos e]
      exact World.ownsRow.kept (h.each i e) hg (own_apart (h.each i e) h.top (by decide))
    · have e2 : i = D.length := by omega
      rw [if_neg e, if_neg e, if_pos e2, if_pos e2]
      exact World.ownsRow.kept hu hg (own_apart hu h.top (by decide))
  · simp at hi hj
    rw [getD_snoc, hlen] at hgi ⊢
    by_cases e : i < D.length
    · rw [if_pos e] at hgi
      by_cases e2 : j < D.length
      · rw [if_pos e2]; exact h.apart i j e e2 hij g hgi
      · rw [if_neg e2, if_pos (by omega)]
        intro hu'
        exact hap i e g hu' hgi
    · rw [if_neg e, if_pos (by omega)] at hgi
      by_cases e2 : j < D.length
      · rw [if_pos e2]; exact hap j e2 g hgi
      · omega

theorem ownNil (w : World) (lo : Nat) : OwnI w lo nilv [] := World.ownsRow_nil _ _ _ _

/-- A block of another type under writes to a row. -/
theorem block_grown {w w' : World} {b : Nat} {o : Obj} {row : Option Nat} (h : w.heap[b]? = some o) (hg : w.grownBy w' row) (hne : row ≠ some b) : w'.heap[b]? = some o := by
  rw [hg.block b (lt_of_block h) (fun e => hne e.symm)]; exact h

/-- A row is appended to, and put back into its place. -/
theorem OwnF.reRow {w w1 : World} {lo n cap gd k : Nat} {u' rv : Value} {rows : List Value} {D : List (List Int)} {R l : List Int} (h : OwnF w lo (.slice (some ⟨gd, 0, none⟩) n cap) rv rows D R) (hk : k < D.length)
    (hg : w.grownBy w1 (rows.getD k nilv).ownBlock) (hu : OwnI w1 lo u' l) (hat : (rows.getD k nilv).ownBlock = u'.ownBlock ∨ ∀ g, u'.ownBlock = some g → w.heap.size ≤ g) :
    OwnF (w1.setCell ⟨gd, k, none⟩ u') lo (.slice (some ⟨gd, 0, none⟩) n cap) rv (rows.set k u') (D.set k l) R := by
  have hlen := h.dat.len
  have htop := h.dat.top.kept hg (own_apart h.dat.top (h.dat.each k hk) (by decide))
  obtain ⟨⟨cur, hgd⟩, hn⟩ := own_block htop
  subst hn
  have hne : ∀ j, j < D.length → j ≠ k → ∀ g, u'.ownBlock = some g → (rows.getD j nilv).ownBlock ≠ some g := fun j hj hjk g hg' e => by
    rcases hat with hat | hat
    · exact h.dat.apart k j hk hj (Ne.symm hjk) g (by rw [hat]; exact hg') e
    · have := (World.ownsRow.lt (h.dat.each j hj) g e).2
      have := hat g hg'
      omega
  have hother : ∀ j, j < D.length → j ≠ k → (rows.getD j nilv).ownBlock = none ∨ (rows.getD j nilv).ownBlock ≠ (rows.getD k nilv).ownBlock := fun j hj hjk => by
    cases e : (rows.getD j nilv).ownBlock with
    | none => exact Or.inl rfl
    | some g => exact Or.inr (fun e2 => h.dat.apart j k hj hk hjk g e e2.symm)
  have hrv : rv.ownBlock = none ∨ rv.ownBlock ≠ (rows.getD k nilv).ownBlock := by
    cases e : rv.ownBlock with
    | none => exact Or.inl rfl
    | some g => exact Or.inr (fun e2 => h.off k hk g e e2.symm)
  have hR1 : OwnI w1 lo rv R := World.ownsRow.kept h.ref hg hrv
  refine ⟨⟨?_, fun j hj => ?_, fun a b ha hb hab g hg' => ?_⟩, ownsRow_setCell_other (a := ⟨gd, k, none⟩) hR1 (own_ne hR1 hgd (by decide)) u', fun j hj g hg' => ?_⟩
  · have := (htop.stored k u').1
    simpa using this
  · simp at hj
    rw [getD_set _ _ _ _ _ (by omega), getD_set _ _ _ _ _ hk]
    by_cases e : j = k
    · rw [if_pos e, if_pos e]
      exact ownsRow_setCell_other (a := ⟨gd, k, none⟩) hu (own_ne hu hgd (by decide)) u'
    · rw [if_neg e, if_neg e]
      have hj1 : OwnI w1 lo (rows.getD j nilv) (D.getD j []) := World.ownsRow.kept (h.dat.each j hj) hg (hother j hj e)
      exact ownsRow_setCell_other (a := ⟨gd, k, none⟩) hj1 (own_ne hj1 hgd (by decide)) u'
  · simp at ha hb
    rw [getD_set _ _ _ _ _ (by omega)] at hg' ⊢
    by_cases e1 : a = k
    · rw [if_pos e1] at hg'
      rw [if_neg (by omega)]
      exact hne b hb (by omega) g hg'
    · rw [if_neg e1] at hg'
      by_cases e2 : b = k
      · rw [if_pos e2]
        intro hu'
        exact hne a ha e1 g hu' hg'
      · rw [if_neg e2]
        exact h.dat.apart a b ha hb hab g hg'
  · simp at hj
    rw [getD_set _ _ _ _ _ (by omega)]
    by_cases e : j = k
    · rw [if_pos e]
      intro e2
      rcases hat with hat | hat
      · exact h.off k hk g hg' (by rw [hat]; exact e2)
      · have := (World.ownsRow.lt h.ref g hg').2
        have := hat g e2
        omega
    · rw [if_neg e]; exact h.off j hj g hg'

end Go.Proofs.YtlcdefpdahjjeagDoor
