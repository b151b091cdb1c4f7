/- Contracts of evlog.sum and hourglassref.SumOf. -/
import Derived.Test.YtlcdefpdahjjeagDoorByA
namespace Go.Proofs.YtlcdefpdahjjeagDoor
open Go.RowKit
set_option maxRecDepth 100000

/-- The value is a slice over these bytes. -/
def BytesAt (w : World) (v : Value) (l : List Int) : Prop :=
  ∃ (A : Option Addr) (c : Nat), v = .slice A l.length c ∧ l.length ≤ 140737488351232 ∧ (∀ x ∈ l, 0 ≤ x ∧ x ≤ 255) ∧
    (0 < l.length → ∃ b off, A = some ⟨b, off, none⟩ ∧ b < w.heap.size ∧ ∀ j, j < l.length → w.cell? ⟨b, off + j, none⟩ = some (.int .u8 (l.getD j 0)))
theorem BytesAt.below {w w' : World} {v : Value} {l : List Int} (h : BytesAt w v l) (hb : Below w.heap.size w w') : BytesAt w' v l := by
  obtain ⟨A, c, rfl, hl, hy, hc⟩ := h
  refine ⟨A, c, rfl, hl, hy, fun h0 => ?_⟩
  obtain ⟨b, off, rfl, hlt, hj⟩ := hc h0
  exact ⟨b, off, rfl, Nat.lt_of_lt_of_le hlt hb.size, fun j hjl => (hb.cell (p := ⟨b, off + j, none⟩) hlt).trans (hj j hjl)⟩
theorem OwnB.read {w : World} {lo : Nat} {v : Value} {l : List Int} (h : OwnB w lo v l) (hl : l.length ≤ 140737488351232) (hy : ∀ x ∈ l, 0 ≤ x ∧ x ≤ 255) : BytesAt w v l := by
  by_cases h0 : 0 < l.length
  · obtain ⟨g, cap, rfl, hlo, hlt, _, hc, _⟩ := ownsRow_at h h0
    refine ⟨_, cap, rfl, hl, hy, fun _ => ⟨g, 0, rfl, hlt, fun j hj => ?_⟩⟩
    rw [Nat.zero_add, hc j hj]
    simp [List.getD, hj]
  · obtain ⟨A, c, rfl⟩ := h.shape
    exact ⟨A, c, rfl, hl, hy, fun h => absurd h h0⟩
theorem OwnB.made4 {w : World} {a b c d : Int} : OwnB (w.alloc (.cells #[.int .u8 a, .int .u8 b, .int .u8 c, .int .u8 d] 5)) w.heap.size (.slice (some ⟨w.heap.size, 0, none⟩) 4 4) [a, b, c, d] :=
  ⟨by simp, Or.inr ⟨w.heap.size, 4, _, rfl, Nat.le_refl _, Go.Deep.blk_alloc_new _ _, by simp, by unfold maxLen; omega, by simp, by simp⟩⟩

set_option maxHeartbeats 1000000 in
theorem sum_any (v : Value) (l : List Int) (w : World) (h : BytesAt w v l) :
    Calls Tryd.prog 65 #[v] w fun e w' => ∃ g, e = .returned (.slice (some ⟨g, 0, none⟩) 4 4) ∧ OwnB w' w.heap.size (.slice (some ⟨g, 0, none⟩) 4 4) (sumB l) ∧ Below w.heap.size w w' := by
  obtain ⟨A, c, rfl, hl, hy, hc⟩ := h
  go_enter Tryd.func65, Tryd.ntmps65
  go_wp2
  go_loopw [3, 4, 9] (fun x y i wr => ∃ k : Nat, k ≤ l.length ∧ i = .int .i64 k ∧ x = .int .i64 (sumP (l.take k)).1 ∧ y = .int .i64 (sumP (l.take k)).2 ∧ wr = w) (fun _ _ i _ => l.length - (intOf i).toNat)
  case atStart => exact ⟨0, Nat.zero_le _, rfl, rfl, rfl, rfl⟩
  case round =>
    obtain ⟨k, hk, rfl, rfl, rfl, hw⟩ := hrel
    subst wr
    have hbd := sumP_bd (l.take k)
    by_cases hlt : k < l.length
    · obtain ⟨b, off, rfl, hbs, hcell⟩ := hc (by omega)
      have h1 := hcell k hlt
      have hx := hy (l.getD k 0) (by simp [List.getD, hlt])
      have HS : Hid (sumP (l.take (k + 1)) = sumStep (sumP (l.take k)) (l.getD k 0)) := by show _ = _; rw [take_snoc l k hlt, sumP_snoc]
      clear hcell hc hy
      revert h1 hx HS hbd
      generalize l.getD k 0 = xb
      generalize hs1 : (sumP (l.take k)).1 = s1
      generalize hs2 : (sumP (l.take k)).2 = s2
      intro hbd h1 hx HS
      have HT : Hid (sumP (l.take (k + 1)) = ((s1 + xb) % 65521, (s2 + (s1 + xb) % 65521) % 65521)) := by
        show _ = _
        rw [HS.out]
        simp only [sumStep, hs1, hs2]
      clear HS hs1 hs2
      have hw0 : IntKind.i64.wrap xb = xb := IntWalk.i64_in _ (by omega)
      have hw1 : IntKind.i64.wrap (s1 + xb) = s1 + xb := IntWalk.i64_in _ (by omega)
      have hm1 : Int.tmod (s1 + xb) 65521 = (s1 + xb) % 65521 := Int.tmod_eq_emod_of_nonneg (by omega)
      have hw2 : IntKind.i64.wrap (s2 + (s1 + xb) % 65521) = s2 + (s1 + xb) % 65521 := IntWalk.i64_in _ (by omega)
      have hm2 : Int.tmod (s2 + (s1 + xb) % 65521) 65521 = (s2 + (s1 + xb) % 65521) % 65521 := Int.tmod_eq_emod_of_nonneg (by omega)
      go_wp2
      refine ⟨⟨k + 1, by omega, by go_num, by rw [HT.out], by rw [HT.out]; simp, trivial⟩, ?_⟩
      simp [intOf]; omega
    · have hT : l.take k = l := List.take_of_length_le (by omega)
      rw [hT] at hbd ⊢
      have HB : Hid (sumB l = [(sumP l).2 / 256, (sumP l).2 % 256, (sumP l).1 / 256, (sumP l).1 % 256]) := rfl
      clear hc hT hy
      revert hbd HB
      generalize (sumP l).1 = s1
      generalize (sumP l).2 = s2
      intro hbd HB
      have hd1 : Int.tdiv s1 256 = s1 / 256 := Int.tdiv_eq_ediv_of_nonneg (by omega)
      have hd2 : Int.tdiv s2 256 = s2 / 256 := Int.tdiv_eq_ediv_of_nonneg (by omega)
      have hm1 : Int.tmod s1 256 = s1 % 256 := Int.tmod_eq_emod_of_nonneg (by omega)
      have hm2 : Int.tmod s2 256 = s2 % 256 := Int.tmod_eq_emod_of_nonneg (by omega)
      have hw1 : IntKind.u8.wrap (s1 / 256) = s1 / 256 := IntWalk.u8_in _ (by omega)
      have hw2 : IntKind.u8.wrap (s2 / 256) = s2 / 256 := IntWalk.u8_in _ (by omega)
      have hw3 : IntKind.u8.wrap (s1 % 256) = s1 % 256 := IntWalk.u8_in _ (by omega)
      have hw4 : IntKind.u8.wrap (s2 % 256) = s2 % 256 := IntWalk.u8_in _ (by omega)
      go_wp2
      go_ret
      exact ⟨_, rfl, HB.out ▸ OwnB.made4, below_alloc _ _⟩

set_option maxHeartbeats 1000000 in
theorem SumOf_any (v : Value) (l : List Int) (w : World) (h : BytesAt w v l) :
    Calls Tryd.prog 73 #[v] w fun e w' => ∃ g, e = .returned (.slice (some ⟨g, 0, none⟩) 4 4) ∧ OwnB w' w.heap.size (.slice (some ⟨g, 0, none⟩) 4 4) (sumB l) ∧ Below w.heap.size w w' := by
  obtain ⟨A, c, rfl, hl, hy, hc⟩ := h
  go_enter Tryd.func73, Tryd.ntmps73
  go_wp2
  go_loopw [3, 4, 5] (fun x y i wr => ∃ k : Nat, k ≤ l.length ∧ i = .int .i64 k ∧ x = .int .i64 (sumP (l.take k)).1 ∧ y = .int .i64 (sumP (l.take k)).2 ∧ wr = w) (fun _ _ i _ => l.length - (intOf i).toNat)
  case atStart => exact ⟨0, Nat.zero_le _, rfl, rfl, rfl, rfl⟩
  case round =>
    obtain ⟨k, hk, rfl, rfl, rfl, hw⟩ := hrel
    subst wr
    have hbd := sumP_bd (l.take k)
    by_cases hlt : k < l.length
    · obtain ⟨b, off, rfl, hbs, hcell⟩ := hc (by omega)
      have h1 := hcell k hlt
      have hx := hy (l.getD k 0) (by simp [List.getD, hlt])
      have HS : Hid (sumP (l.take (k + 1)) = sumStep (sumP (l.take k)) (l.getD k 0)) := by show _ = _; rw [take_snoc l k hlt, sumP_snoc]
      clear hcell hc hy
      revert h1 hx HS hbd
      generalize l.getD k 0 = xb
      generalize hs1 : (sumP (l.take k)).1 = s1
      generalize hs2 : (sumP (l.take k)).2 = s2
      intro hbd h1 hx HS
      have HT : Hid (sumP (l.take (k + 1)) = ((s1 + xb) % 65521, (s2 + (s1 + xb) % 65521) % 65521)) := by
        show _ = _
        rw [HS.out]
        simp only [sumStep, hs1, hs2]
      clear HS hs1 hs2
      have hw0 : IntKind.i64.wrap xb = xb := IntWalk.i64_in _ (by omega)
      have hw1 : IntKind.i64.wrap (s1 + xb) = s1 + xb := IntWalk.i64_in _ (by omega)
      have hm1 : Int.tmod (s1 + xb) 65521 = (s1 + xb) % 65521 := Int.tmod_eq_emod_of_nonneg (by omega)
      have hw2 : IntKind.i64.wrap (s2 + (s1 + xb) % 65521) = s2 + (s1 + xb) % 65521 := IntWalk.i64_in _ (by omega)
      have hm2 : Int.tmod (s2 + (s1 + xb) % 65521) 65521 = (s2 + (s1 + xb) % 65521) % 65521 := Int.tmod_eq_emod_of_nonneg (by omega)
      go_wp2
      refine ⟨⟨k + 1, by omega, by go_num, by rw [HT.out], by rw [HT.out]; simp, trivial⟩, ?_⟩
      simp [intOf]; omega
    · have hT : l.take k = l := List.take_of_length_le (by omega)
      rw [hT] at hbd ⊢
      have HB : Hid (sumB l = [(sumP l).2 / 256, (sumP l).2 % 256, (sumP l).1 / 256, (sumP l).1 % 256]) := rfl
      clear hc hT hy
      revert hbd HB
      generalize (sumP l).1 = s1
      generalize (sumP l).2 = s2
      intro hbd HB
      have hd1 : Int.tdiv s1 256 = s1 / 256 := Int.tdiv_eq_ediv_of_nonneg (by omega)
      have hd2 : Int.tdiv s2 256 = s2 / 256 := Int.tdiv_eq_ediv_of_nonneg (by omega)
      have hm1 : Int.tmod s1 256 = s1 % 256 := Int.tmod_eq_emod_of_nonneg (by omega)
      have hm2 : Int.tmod s2 256 = s2 % 256 := Int.tmod_eq_emod_of_nonneg (by omega)
      have hw1 : IntKind.u8.wrap (s1 / 256) = s1 / 256 := IntWalk.u8_in _ (by omega)
      have hw2 : IntKind.u8.wrap (s2 / 256) = s2 / 256 := IntWalk.u8_in _ (by omega)
      have hw3 : IntKind.u8.wrap (s1 % 256) = s1 % 256 := IntWalk.u8_in _ (by omega)
      have hw4 : IntKind.u8.wrap (s2 % 256) = s2 % 256 := IntWalk.u8_in _ (by omega)
      go_wp2
      go_ret
      exact ⟨_, rfl, HB.out ▸ OwnB.made4, below_alloc _ _⟩

end Go.Proofs.YtlcdefpdahjjeagDoor
