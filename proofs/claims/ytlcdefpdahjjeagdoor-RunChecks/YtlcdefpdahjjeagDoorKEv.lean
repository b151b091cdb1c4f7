/- Events that a call makes by append: plain laws. -/
import Derived.Test.YtlcdefpdahjjeagDoorByEnc
import Derived.Deep.AppendLies
namespace Go.Proofs.YtlcdefpdahjjeagDoor
open Go.RowKit
set_option maxRecDepth 100000

/-- Their cells. -/
def flat : List (Ev × Value) → List Value
  | [] => []
  | p :: R => .int .i64 p.1.at_ :: .int .i64 p.1.kind :: p.2 :: flat R
theorem flat_len : ∀ R : List (Ev × Value), (flat R).length = R.length * 3
  | [] => rfl
  | p :: R => by simp [flat, flat_len R]; omega
theorem flat_append : ∀ (R : List (Ev × Value)) (p : Ev × Value), flat (R ++ [p]) = flat R ++ [.int .i64 p.1.at_, .int .i64 p.1.kind, p.2]
  | [], p => rfl
  | q :: R, p => by simp [flat, flat_append R p]
theorem flat_get : ∀ (R : List (Ev × Value)) (j : Nat) (hj : j < R.length), (flat R)[j * 3]? = some (.int .i64 R[j].1.at_) ∧ (flat R)[j * 3 + 1]? = some (.int .i64 R[j].1.kind) ∧ (flat R)[j * 3 + 2]? = some R[j].2
  | p :: R, 0, _ => by simp [flat]
  | p :: R, j + 1, hj => by
    have := flat_get R j (by simpa using hj)
    rw [show (j + 1) * 3 = j * 3 + 1 + 1 + 1 by omega]
    simpa [flat] using this

/-- Events of the call's own, each one's words in a slice of the call's own. -/
structure OwnE (w : World) (lo : Nat) (v : Value) (R : List (Ev × Value)) : Prop where
  row : w.ownsRow lo 56 3 v R.length (flat R)
  data : ∀ p ∈ R, OwnI w lo p.2 p.1.data
theorem OwnE.nil (w : World) (lo : Nat) : OwnE w lo (.slice none 0 0) [] := ⟨World.ownsRow_nil _ _ _ _, fun p hp => by simp at hp⟩
theorem OwnE.below {w w' : World} {lo : Nat} {v : Value} {R : List (Ev × Value)} (h : OwnE w lo v R) (hb : Below w.heap.size w w') : OwnE w' lo v R := ⟨ownsRow_below h.row hb, fun p hp => (h.data p hp).below hb⟩
theorem OwnE.ne {w : World} {lo lo' n : Nat} {v u : Value} {R : List (Ev × Value)} {xs : List Value} (h : OwnE w lo v R) (hu : w.ownsRow lo' 3 1 u n xs) : u.ownBlock = none ∨ u.ownBlock ≠ v.ownBlock := by
  rcases h.row.2 with ⟨rfl, _⟩ | ⟨g, cap, cur, rfl, _, hh, _⟩
  · cases e : u.ownBlock with
    | none => exact Or.inl rfl
    | some g => exact Or.inr (by simp [Value.ownBlock])
  · exact Or.inr (by simpa [Value.ownBlock] using own_ne hu hh (by decide))
/-- One more. -/
theorem OwnE.snoc {w w1 : World} {lo : Nat} {v v' d : Value} {R : List (Ev × Value)} {x : Ev} (h : OwnE w lo v R) (hd : OwnI w lo d x.data) (hg : w.grownBy w1 v.ownBlock)
    (ho : w1.ownsRow lo 56 3 v' (R.length + 1) (flat R ++ [.int .i64 x.at_, .int .i64 x.kind, d])) : OwnE w1 lo v' (R ++ [(x, d)]) := by
  refine ⟨by rw [flat_append]; simpa using ho, fun p hp => ?_⟩
  simp at hp
  rcases hp with hp | rfl
  · exact World.ownsRow.kept (h.data p hp) hg (h.ne (h.data p hp))
  · exact World.ownsRow.kept hd hg (h.ne hd)
theorem ownI_fits {w : World} {lo : Nat} {v : Value} {l : List Int} (h : OwnI w lo v l) : Fits v := by
  rcases h.2 with ⟨rfl, _⟩ | ⟨g, cap, cur, rfl, _, _, hc, _⟩
  · exact ⟨none, 0, 0, rfl, Nat.le_refl _⟩
  · exact ⟨_, _, _, rfl, hc⟩
theorem OwnE.evs {w : World} {lo : Nat} {v : Value} {R : List (Ev × Value)} (h : OwnE w lo v R) (hl : R.length ≤ 1000) (hd : ∀ p ∈ R, p.1.data.length ≤ 1000) : EvsF w v (R.map Prod.fst) := by
  have hat : ∀ g cap, v = .slice (some ⟨g, 0, none⟩) R.length cap → (∀ j, j < R.length * 3 → w.cell? ⟨g, j, none⟩ = (flat R)[j]?) := fun g cap e j hj => by
    subst e
    exact h.row.cellAt j hj
  refine ⟨?_, ?_⟩
  · rcases h.row.2 with ⟨rfl, h0⟩ | ⟨g, cap, cur, rfl, _, hh, _⟩
    · exact ⟨none, 0, by simp [h0], by simp [h0], fun h => by simp [h0] at h⟩
    · refine ⟨some ⟨g, 0, none⟩, cap, by simp, by simp; omega, fun h0 => ⟨g, 0, rfl, lt_of_block hh, fun j hj => ?_⟩⟩
      simp at hj
      obtain ⟨f0, f1, f2⟩ := flat_get R j hj
      have hg : (R.map Prod.fst).getD j noEv = R[j].1 := by simp [List.getD, hj]
      rw [hg, Nat.zero_add]
      have hm : R[j] ∈ R := List.getElem_mem hj
      refine ⟨(hat g cap rfl _ (by omega)).trans f0, (hat g cap rfl _ (by omega)).trans f1, R[j].2, (hat g cap rfl _ (by omega)).trans f2, (h.data _ hm).at (by have := hd _ hm; omega)⟩
  · intro b off c e j hj u hu
    simp at hj
    obtain ⟨f0, f1, f2⟩ := flat_get R j hj
    rcases h.row.2 with ⟨e0, h0⟩ | ⟨g, cap, cur, e2, _, hh, _⟩
    · rw [e] at e0
      simp at e0
    · have e3 := e.symm.trans e2
      simp only [Value.slice.injEq, Option.some.injEq, Addr.mk.injEq] at e3
      obtain ⟨⟨rfl, rfl, -⟩, -, rfl⟩ := e3
      rw [Nat.zero_add, hat b c e2 _ (by omega), f2] at hu
      simp only [Option.some.injEq] at hu
      subst hu
      exact ownI_fits (h.data _ (List.getElem_mem hj))

/-- Events that may be, one after another. -/
theorem chk_of {L : List Ev} (hl : L.length ≤ 1000) (h : ∀ k, k < L.length → verdict L k = 0) : chkNo L = 0 := by
  have h1 : ¬ 1000 < L.length := by omega
  have : ∀ n k, L.length - k = n → chk L k = 0 := by
    intro n
    induction n with
    | zero => intro k hk; exact chk_end (by omega)
    | succ n ih => intro k hk; rw [chk_ok (by omega) (h k (by omega))]; exact ih (k + 1) (by omega)
  simp only [chkNo, if_neg h1]
  exact this _ 0 rfl
/-- The count that comes behind all of them. -/
def Upto (L : List Ev) (a : Int) : Prop := ∀ x ∈ L, x.at_ ≤ a
theorem getD_snoc_lt (L : List Ev) (x : Ev) {k : Nat} (h : k < L.length) : (L ++ [x]).getD k noEv = L.getD k noEv := by simp [List.getD, List.getElem?_append_left h]
theorem getD_snoc_eq (L : List Ev) (x : Ev) : (L ++ [x]).getD L.length noEv = x := by simp [List.getD]
theorem chk_snoc {L : List Ev} {x : Ev} {a : Int} (h : chkNo L = 0) (hl : L.length < 1000) (hu : Upto L a) (hx : evNo x = 0) (ha : a < x.at_) : chkNo (L ++ [x]) = 0 := by
  obtain ⟨_, hv⟩ := chk_zero h
  refine chk_of (by simp; omega) (fun k hk => ?_)
  simp at hk
  by_cases e : k < L.length
  · have h1 := hv k e
    unfold verdict at h1 ⊢
    rw [getD_snoc_lt L x e]
    by_cases e0 : k = 0
    · rw [if_pos e0] at h1 ⊢
      exact h1
    · rw [if_neg e0] at h1 ⊢
      rw [getD_snoc_lt L x (show k - 1 < L.length by omega)]
      exact h1
  · obtain rfl : k = L.length := by omega
    unfold verdict
    rw [getD_snoc_eq, if_pos hx]
    by_cases e0 : L.length = 0
    · rw [if_pos e0]
    · rw [if_neg e0, getD_snoc_lt L x (show L.length - 1 < L.length by omega)]
      have hm : L.getD (L.length - 1) noEv ∈ L := by
        rw [List.getD, List.getElem?_eq_getElem (by omega)]
        simp
      have h2 := hu _ hm
      have h3 := verdict_ev (hv (L.length - 1) (by omega))
      have h4 := evNo_bd h3
      have h5 := evNo_bd hx
      rw [if_pos (show behind x (L.getD (L.length - 1) noEv) = true from decide_eq_true (by omega))]

theorem infoEvent : (Tryd.prog.info? 56).map (fun i => (i.zero, i.size, i.bytes)) = some (some (.agg #[.int .i64 0, .int .i64 0, .slice none 0 0]), 3, 40) := by kernel_rfl

theorem cell_three_new (w : World) (x y z : Value) (t : TypeId) : ∀ j u, [x, y, z][j]? = some u → (w.alloc (.cells #[x, y, z] t)).cell? ((⟨w.heap.size, 0, none⟩ : Addr).add j) = some u :=
  World.news_of_block (cs := #[x, y, z]) (t := t) (Go.Deep.blk_alloc_new w (.cells #[x, y, z] t))

end Go.Proofs.YtlcdefpdahjjeagDoor
