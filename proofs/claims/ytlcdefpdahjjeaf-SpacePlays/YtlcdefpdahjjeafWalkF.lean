/- Contract of frames.Copy: the same frames in new memory. -/
import Derived.Test.YtlcdefpdahjjeafOwnF
import Derived.Test.YtlcdefpdahjjeafWalkE
namespace Go.Proofs.Ytlcdefpdahjjeaf
open Go.RowKit

/-- The first k rows are there, the others are empty. -/
def firstK (D : List (List Int)) (k : Nat) : List (List Int) := D.take k ++ List.replicate (D.length - k) []
theorem firstK_len (D : List (List Int)) (k : Nat) (h : k ≤ D.length) : (firstK D k).length = D.length := by simp [firstK]; omega
theorem firstK_zero (D : List (List Int)) : firstK D 0 = List.replicate D.length [] := by simp [firstK]
theorem firstK_all (D : List (List Int)) (k : Nat) (h : D.length ≤ k) : firstK D k = D := by
  simp [firstK, List.take_of_length_le h, Nat.sub_eq_zero_of_le h]
theorem firstK_step (D : List (List Int)) (k : Nat) (h : k < D.length) : (firstK D k).set k (D.getD k []) = firstK D (k + 1) := by
  have e : D.length - k = (D.length - (k + 1)) + 1 := by omega
  have hl : (D.take k).length = k := by simp; omega
  have e2 : D.take (k + 1) = D.take k ++ [D[k]] := List.take_succ_eq_append_getElem h
  unfold firstK
  rw [List.set_append_right _ _ (by omega), hl, Nat.sub_self, e, List.replicate_succ, List.set_cons_zero, e2, List.append_assoc, List.getD, List.getElem?_eq_getElem h]
  rfl

theorem OwnD.made {w : World} {lo g n : Nat} (hlo : lo ≤ g) (hn : n ≤ maxLen) (h : w.heap[g]? = some (.cells (madeCells #[nilv] n) 24 (0, 0))) : OwnD w lo (.slice (some ⟨g, 0, none⟩) n n) (List.replicate n nilv) (List.replicate n []) := by
  have hget : ∀ i, (List.replicate n nilv).getD i nilv = nilv := fun i => by
    by_cases hi : i < n <;> simp [List.getD, hi]
  refine ⟨⟨by simp, Or.inr ⟨g, n, _, by simp, hlo, h, by simp, hn, by simp [size_madeCells], ?_⟩⟩, fun i hi => ?_, fun i j _ _ _ g hg => ?_⟩
  · rw [toList_madeCells_one]; simp
  · simp at hi
    rw [hget i]
    simp [List.getD, hi]
    exact World.ownsRow_nil _ _ _ _
  · rw [hget i] at hg; simp [Value.ownBlock] at hg

/-- What the loop of Copy keeps. -/
structure CopyInv (w : World) (dA rB : Value) (D : List (List Int)) (k : Nat) (wr : World) : Prop where
  old : Below w.heap.size w wr
  box : wr.heap[w.heap.size]? = some (.cells #[dA, rB] 44 (0, 0))
  res : wr.heap[w.heap.size + 1]? = some (.cells #[nilv, nilv] 44 (0, 0))
  own : ∃ rows, OwnD wr w.heap.size (.slice (some ⟨w.heap.size + 1 + 1, 0, none⟩) D.length D.length) rows (firstK D k)

theorem CopyInv.step {w wr w1 : World} {dA rB v' : Value} {D : List (List Int)} {k : Nat} (h : CopyInv w dA rB D k wr) (hk : k < D.length) (hb : Below wr.heap.size wr w1) (hv : OwnI w1 wr.heap.size v' (D.getD k [])) :
    CopyInv w dA rB D (k + 1) (w1.setCell ⟨w.heap.size + 1 + 1, k, none⟩ v') := by
  obtain ⟨rows, ho⟩ := h.own
  have hz := h.old.size
  have hbox := lt_of_block h.box
  have hres := lt_of_block h.res
  have hlen := firstK_len D k (by omega)
  refine ⟨(h.old.trans (hb.mono hz)).setCell (by simp; omega) _, ?_, ?_, rows.set k v', ?_⟩
  · rw [Go.Deep.blk_setCell_other _ _ _ _ (by simp; omega), hb.block _ hbox]; exact h.box
  · rw [Go.Deep.blk_setCell_other _ _ _ _ (by simp), hb.block _ hres]; exact h.res
  · rw [← firstK_step D k hk]
    refine OwnD.putRow (ho.below hb) (by omega) (ownsRow_mono hv hz) (fun j hj _ g hg => ?_)
    intro e
    have h1 := (World.ownsRow.lt (ho.each j hj) g e).2
    have h2 := (World.ownsRow.lt hv g hg).1
    omega

theorem CopyInv.store {w wr w1 : World} {dA rB : Value} {D : List (List Int)} {k : Nat} (h : CopyInv w dA rB D k wr) (hk : k < D.length) (hb : Below wr.heap.size wr w1) :
    (∃ v, w1.cell? ⟨w.heap.size + 1 + 1, k, none⟩ = some v) ∧ w1.frozen? ⟨w.heap.size + 1 + 1, k, none⟩ = false := by
  obtain ⟨rows, ho⟩ := h.own
  have hlen := firstK_len D k (by omega)
  have h1 := (ho.below hb)
  have hl := h1.len
  obtain ⟨g, cap, hv, _, _, _, hc, hf⟩ := ownsRow_at h1.top (by omega)
  simp only [Value.slice.injEq, Option.some.injEq, Addr.mk.injEq, and_true] at hv
  obtain ⟨rfl, _, _⟩ := hv
  refine ⟨⟨_, (hc k (by omega)).trans (List.getElem?_eq_getElem (by omega))⟩, hf k⟩

theorem CopyInv.start (w : World) (dA rB : Value) (D : List (List Int)) (hl : D.length * 24 ≤ 140737488351232) :
    CopyInv w dA rB D 0 (((w.alloc (.cells #[dA, rB] 44)).alloc (.cells #[nilv, nilv] 44)).alloc (.cells (madeCells #[nilv] D.length) 24)) := by
  refine ⟨(((below_alloc _ _).alloc (by simp) _).alloc (by simp; omega) _), ?_, ?_, List.replicate D.length nilv, ?_⟩
  · rw [Go.Deep.blk_alloc_lt _ _ _ (by simp; omega), Go.Deep.blk_alloc_lt _ _ _ (by simp), Go.Deep.blk_alloc_new]
  · rw [Go.Deep.blk_alloc_lt _ _ _ (by simp)]
    have := Go.Deep.blk_alloc_new (w.alloc (.cells #[dA, rB] 44)) (.cells #[nilv, nilv] 44)
    simpa using this
  · rw [firstK_zero]
    refine OwnD.made (by omega) (by unfold maxLen; omega) ?_
    have := Go.Deep.blk_alloc_new ((w.alloc (.cells #[dA, rB] 44)).alloc (.cells #[nilv, nilv] 44)) (.cells (madeCells #[nilv] D.length) 24)
    simpa using this

theorem CopyInv.fin {w wr w1 : World} {dA rB v' : Value} {D : List (List Int)} {R : List Int} {k : Nat} (h : CopyInv w dA rB D k wr) (hk : D.length ≤ k) (hb : Below wr.heap.size wr w1) (hv : OwnI w1 wr.heap.size v' R) (u u' : Value) :
    ∃ rows, OwnF ((w1.setCell ⟨w.heap.size + 1, 0, none⟩ u).setCell ⟨w.heap.size + 1, 1, none⟩ u') w.heap.size (.slice (some ⟨w.heap.size + 1 + 1, 0, none⟩) D.length D.length) v' rows D R ∧
      Below w.heap.size w ((w1.setCell ⟨w.heap.size + 1, 0, none⟩ u).setCell ⟨w.heap.size + 1, 1, none⟩ u') := by
  obtain ⟨rows, ho⟩ := h.own
  rw [firstK_all D k hk] at ho
  have hz := h.old.size
  refine ⟨rows, OwnF.store2 (x := nilv) (y := nilv) (t := 44) ⟨ho.below hb, ownsRow_mono hv hz, fun i hi g hg e => ?_⟩ ?_ (by decide) (by decide) u u', ?_⟩
  · have h1 := (World.ownsRow.lt (ho.each i hi) g e).2
    have h2 := (World.ownsRow.lt hv g hg).1
    omega
  · rw [hb.block _ (lt_of_block h.res)]; exact h.res
  · exact ((h.old.trans (hb.mono hz)).setCell (by simp) _).setCell (by simp) _

set_option maxHeartbeats 400000 in
theorem Copy_some (dv rv : Value) (D : List (List Int)) (R : List Int) (w : World) (hd : RowsAt w dv D) (hr : IntsAt w rv R) :
    Calls Try.prog 35 #[.agg #[dv, rv]] w fun e w' => ∃ dv' rv' rows, e = .returned (.agg #[dv', rv']) ∧ OwnF w' w.heap.size dv' rv' rows D R ∧ Below w.heap.size w w' := by
  have HR : Hid (IntsAt w rv R) := hr
  have HD : Hid (RowsAt w dv D) := hd
  obtain ⟨A, ca, rfl, hla, hca⟩ := hd
  obtain ⟨B, cb, rfl, hlb, hcb⟩ := hr
  clear hcb
  have hmk := run_make_row' (P := Try.prog) 38 24 (.slice none 0 0) 24 Try.underlying38 infoInts rfl .i64 .i64 D.length (by omega) (by omega)
  go_enter Try.func35, Try.ntmps35
  go_wp2_with fail
  go_loopw [13] (fun i wr => ∃ k : Nat, k ≤ D.length ∧ i = .int .i64 k ∧ CopyInv w (.slice A D.length ca) (.slice B R.length cb) D k wr) (fun i _ => D.length - (intOf i).toNat)
  case atStart => exact ⟨0, Nat.zero_le _, rfl, CopyInv.start _ _ _ _ hla⟩
  case round =>
    obtain ⟨k, hk, rfl, hinv⟩ := hrel
    by_cases hlt : k < D.length
    · obtain ⟨b, off, rfl, hbs, hcell⟩ := hca (by omega)
      obtain ⟨u, h1, hrow⟩ := hcell k hlt
      have h2 : wr.cell? ⟨b, off + k, none⟩ = some u := (hinv.old.cell (p := ⟨b, off + k, none⟩) hbs).trans h1
      obtain ⟨row, hrowe⟩ : ∃ row, row = D.getD k [] := ⟨_, rfl⟩
      rw [← hrowe] at hrow
      have HROW : Hid (row = D.getD k []) := hrowe
      have hrow2 : Hid (IntsAt wr u row) := hrow.below hinv.old
      obtain ⟨A1, cc, rfl, hl8, h3⟩ := hrow
      clear h3 hcell hca h1 hrowe
      go_wp2_with (go_at_call 37; refine (copyWords_any _ _ _ hrow2.out).mono ?_; rintro e w1 ⟨A2, c2, rfl, hv', hb1⟩; obtain ⟨⟨v0, hc1⟩, hf1⟩ := hinv.store hlt hb1)
      refine ⟨⟨k + 1, by omega, by go_num, hinv.step hlt hb1 (by rw [← HROW.out]; exact hv')⟩, ?_⟩
      simp [intOf]; omega
    · clear hca
      obtain ⟨hx0, hx1, hxf, hxl⟩ := two_cells hinv.box
      obtain ⟨hy0, hy1, hyf, hyl⟩ := two_cells hinv.res
      have HR2 : Hid (IntsAt wr (.slice B R.length cb) R) := HR.out.below hinv.old
      go_wp2_with (go_at_call 37; refine (copyWords_any _ _ _ HR2.out).mono ?_; rintro e w1 ⟨A2, c2, rfl, hv', hb1⟩; obtain ⟨hc1, hf1⟩ := bcell hb1)
      obtain ⟨rows, hof, hbf⟩ := hinv.fin (by omega) hb1 hv' (.slice (some ⟨w.heap.size + 1 + 1, 0, none⟩) D.length D.length) (.slice A2 R.length c2)
      exact bodyPost_ret (v := .agg #[.slice (some ⟨w.heap.size + 1 + 1, 0, none⟩) D.length D.length, .slice A2 R.length c2]) (by simp [results, Try.results35, go_sem, hc1, hyl, hy0, hy1]) rfl ⟨_, _, rows, rfl, hof, hbf⟩

theorem Copy_any (dv rv : Value) (D : List (List Int)) (R : List Int) (w : World) (hd : RowsAt w dv D) (hr : IntsAt w rv R) :
    Calls Try.prog 35 #[.agg #[dv, rv]] w fun e w' => ∃ A c B c' rows, e = .returned (.agg #[.slice A D.length c, .slice B R.length c']) ∧ OwnF w' w.heap.size (.slice A D.length c) (.slice B R.length c') rows D R ∧ Below w.heap.size w w' :=
  (Copy_some dv rv D R w hd hr).mono fun e w' ⟨dv', rv', rows, he, ho, hb⟩ => by
    obtain ⟨A, c, B, c', rfl, rfl⟩ := ho.shape
    exact ⟨A, c, B, c', rows, he, ho, hb⟩

end Go.Proofs.Ytlcdefpdahjjeaf
