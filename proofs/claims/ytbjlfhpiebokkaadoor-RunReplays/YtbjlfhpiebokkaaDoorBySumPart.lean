/- Contracts of evlog.sum and hourglassref.SumOf. -/
import Derived.Test.YtbjlfhpiebokkaaDoorInfoPart
import Derived.Test.YtbjlfhpiebokkaaDoorBasePart
import Derived.Deep.RegionHeld3
import Derived.Deep.RegionLaw
import Derived.Deep.RegionWith
import Derived.Deep.DeepCutAuto
namespace Go.Proofs.YtbjlfhpiebokkaaDoor
open Go.RowKit
set_option maxRecDepth 100000

def BytesAt (w : World) (v : Value) (l : List Int) : Prop :=
  ∃ (A : Option Addr) (c : Nat), v = .slice A l.length c ∧ l.length ≤ 140737488351232 ∧ (∀ x ∈ l, 0 ≤ x ∧ x ≤ 255) ∧
    (0 < l.length → ∃ b off, A = some ⟨b, off, none⟩ ∧ b < w.heap.size ∧ ∀ j, j < l.length → w.cell? ⟨b, off + j, none⟩ = some (.int .u8 (l.getD j 0)))
theorem BytesAt.below {w w' : World} {v : Value} {l : List Int} (h : BytesAt w v l) (hb : Below w.heap.size w w') : BytesAt w' v l := by
  obtain ⟨A, c, rfl, hl, hy, hc⟩ := h
  refine ⟨A, c, rfl, hl, hy, fun h0 => ?_⟩
  obtain ⟨b, off, rfl, hlt, hj⟩ := hc h0
  exact ⟨b, off, rfl, Nat.lt_of_lt_of_le hlt hb.size, fun j hjl => (hb.cell (p := ⟨b, off + j, none⟩) hlt).trans (hj j hjl)⟩
theorem OwnB.read {w : World} {lo : Nat} {v : Value} {l : List Int} (h : OwnB w lo v l) (hl : l.length ≤ 140737488351232) (hy : ∀ x ∈ l, 0 ≤ x ∧ x ≤ 255) : BytesAt w v l := by
  by_cases h0 : 0 < l.length
  · obtain ⟨g, cap, rfl, hlo, hlt, _, hc, _⟩ := ownsRow_at h h0
    refine ⟨_, cap, rfl, hl, hy, fun _ => ⟨g, 0, rfl, hlt, fun j hj => ?_⟩⟩
    rw [Nat.zero_add, hc j hj]
    simp [List.getD, hj]
  · obtain ⟨A, c, rfl⟩ := h.shape
    exact ⟨A, c, rfl, hl, hy, fun h => absurd h h0⟩
theorem OwnB.made4 {w : World} {a b c d : Int} : OwnB (w.alloc (.cells #[.int .u8 a, .int .u8 b, .int .u8 c, .int .u8 d] 5)) w.heap.size (.slice (some ⟨w.heap.size, 0, none⟩) 4 4) [a, b, c, d] :=
  ⟨by simp, Or.inr ⟨w.heap.size, 4, _, rfl, Nat.le_refl _, Go.Deep.blk_alloc_new _ _, by simp, by unfold maxLen; omega, by simp, by simp⟩⟩

set_option maxHeartbeats 1000000 in
theorem sum_any (v : Value) (l : List Int) (w : World) (h : BytesAt w v l) :
    Calls Tryd.prog 62 #[v] w fun e w' => ∃ g, e = .returned (.slice (some ⟨g, 0, none⟩) 4 4) ∧ OwnB w' w.heap.size (.slice (some ⟨g, 0, none⟩) 4 4) (sumB l) ∧ Below w.heap.size w w' := by
  obtain ⟨A, c, rfl, hl, hy, hc⟩ := h
  go_enter Tryd.func62, Tryd.ntmps62
  go_wp2
  go_loopw [3, 4, 9] (fun x y i wr => ∃ k : Nat, k ≤ l.length ∧ i = .int .i64 k ∧ x = .int .i64 (sumP (l.take k)).1 ∧ y = .int .i64 (sumP (l.take k)).2 ∧ wr = w) (fun _ _ i _ => l.length - (intOf i).toNat)
  case atStart => exact ⟨0, Nat.zero_le _, rfl, rfl, rfl, rfl⟩
  case round =>
    obtain ⟨k, hk, rfl, rfl, rfl, hw⟩ := hrel
    subst wr
    have hbd := sumP_bd (l.take k)
    by_cases hlt : k < l.length
    · obtain ⟨b, off, rfl, hbs, hcell⟩ := hc (by omega)
      have h1 := hcell k hlt
      have hx := hy (l.getD k 0) (by simp [List.getD, hlt])
      have HS : Hid (sumP (l.take (k + 1)) = sumStep (sumP (l.take k)) (l.getD k 0)) := by show _ = _; rw [take_snoc l k hlt, sumP_snoc]
      clear hcell hc hy
      revert h1 hx HS hbd
      generalize l.getD k 0 = xb
      generalize hs1 : (sumP (l.take k)).1 = s1
      generalize hs2 : (sumP (l.take k)).2 = s2
      intro hbd h1 hx HS
      have HT : Hid (sumP (l.take (k + 1)) = ((s1 + xb) % 65521, (s2 + (s1 + xb) % 65521) % 65521)) := by
        show _ = _
        rw [HS.out]
        simp only [sumStep, hs1, hs2]
      clear HS hs1 hs2
      have hw0 : IntKind.i64.wrap xb = xb := IntWalk.i64_in _ (by omega)
      have hw1 : IntKind.i64.wrap (s1 + xb) = s1 + xb := IntWalk.i64_in _ (by omega)
      have hm1 : Int.tmod (s1 + xb) 65521 = (s1 + xb) % 65521 := Int.tmod_eq_emod_of_nonneg (by omega)
      have hw2 : IntKind.i64.wrap (s2 + (s1 + xb) % 65521) = s2 + (s1 + xb) % 65521 := IntWalk.i64_in _ (by omega)
      have hm2 : Int.tmod (s2 + (s1 + xb) % 65521) 65521 = (s2 + (s1 + xb) % 65521) % 65521 := Int.tmod_eq_emod_of_nonneg (by omega)
      go_wp2
      refine ⟨⟨k + 1, by omega, by go_num, by rw [HT.out], by rw [HT.out]; simp, trivial⟩, ?_⟩
      simp [intOf]; omega
    · have hT : l.take k = l := List.take_of_length_le (by omega)
      rw [hT] at hbd ⊢
      have HB : Hid (sumB l = [(sumP l).2 / 256, (sumP l).2 % 256, (sumP l).1 / 256, (sumP l).1 % 256]) := rfl
      clear hc hT hy
      revert hbd HB
      generalize (sumP l).1 = s1
      generalize (sumP l).2 = s2
      intro hbd HB
      have hd1 : Int.tdiv s1 256 = s1 / 256 := Int.tdiv_eq_ediv_of_nonneg (by omega)
      have hd2 : Int.tdiv s2 256 = s2 / 256 := Int.tdiv_eq_ediv_of_nonneg (by omega)
      have hm1 : Int.tmod s1 256 = s1 % 256 := Int.tmod_eq_emod_of_nonneg (by omega)
      have hm2 : Int.tmod s2 256 = s2 % 256 := Int.tmod_eq_emod_of_nonneg (by omega)
      have hw1 : IntKind.u8.wrap (s1 / 256) = s1 / 256 := IntWalk.u8_in _ (by omega)
      have hw2 : IntKind.u8.wrap (s2 / 256) = s2 / 256 := IntWalk.u8_in _ (by omega)
      have hw3 : IntKind.u8.wrap (s1 % 256) = s1 % 256 := IntWalk.u8_in _ (by omega)
      have hw4 : IntKind.u8.wrap (s2 % 256) = s2 % 256 := IntWalk.u8_in _ (by omega)
      go_wp2
      go_ret
      exact ⟨_, rfl, HB.out ▸ OwnB.made4, below_alloc _ _⟩

set_option maxHeartbeats 1000000 in
theorem SumOf_any (v : Value) (l : List Int) (w : World) (h : BytesAt w v l) :
    Calls Tryd.prog 70 #[v] w fun e w' => ∃ g, e = .returned (.slice (some ⟨g, 0, none⟩) 4 4) ∧ OwnB w' w.heap.size (.slice (some ⟨g, 0, none⟩) 4 4) (sumB l) ∧ Below w.heap.size w w' := by
  obtain ⟨A, c, rfl, hl, hy, hc⟩ := h
  go_enter Tryd.func70, Tryd.ntmps70
  go_wp2
  go_loopw [3, 4, 5] (fun x y i wr => ∃ k : Nat, k ≤ l.length ∧ i = .int .i64 k ∧ x = .int .i64 (sumP (l.take k)).1 ∧ y = .int .i64 (sumP (l.take k)).2 ∧ wr = w) (fun _ _ i _ => l.length - (intOf i).toNat)
  case atStart => exact ⟨0, Nat.zero_le _, rfl, rfl, rfl, rfl⟩
  case round =>
    obtain ⟨k, hk, rfl, rfl, rfl, hw⟩ := hrel
    subst wr
    have hbd := sumP_bd (l.take k)
    by_cases hlt : k < l.length
    · obtain ⟨b, off, rfl, hbs, hcell⟩ := hc (by omega)
      have h1 := hcell k hlt
      have hx := hy (l.getD k 0) (by simp [List.getD, hlt])
      have HS : Hid (sumP (l.take (k + 1)) = sumStep (sumP (l.take k)) (l.getD k 0)) := by show _ = _; rw [take_snoc l k hlt, sumP_snoc]
      clear hcell hc hy
      revert h1 hx HS hbd
      generalize l.getD k 0 = xb
      generalize hs1 : (sumP (l.take k)).1 = s1
      generalize hs2 : (sumP (l.take k)).2 = s2
      intro hbd h1 hx HS
      have HT : Hid (sumP (l.take (k + 1)) = ((s1 + xb) % 65521, (s2 + (s1 + xb) % 65521) % 65521)) := by
        show _ = _
        rw [HS.out]
        simp only [sumStep, hs1, hs2]
      clear HS hs1 hs2
      have hw0 : IntKind.i64.wrap xb = xb := IntWalk.i64_in _ (by omega)
      have hw1 : IntKind.i64.wrap (s1 + xb) = s1 + xb := IntWalk.i64_in _ (by omega)
      have hm1 : Int.tmod (s1 + xb) 65521 = (s1 + xb) % 65521 := Int.tmod_eq_emod_of_nonneg (by omega)
      have hw2 : IntKind.i64.wrap (s2 + (s1 + xb) % 65521) = s2 + (s1 + xb) % 65521 := IntWalk.i64_in _ (by omega)
      have hm2 : Int.tmod (s2 + (s1 + xb) % 65521) 65521 = (s2 + (s1 + xb) % 65521) % 65521 := Int.tmod_eq_emod_of_nonneg (by omega)
      go_wp2
      refine ⟨⟨k + 1, by omega, by go_num, by rw [HT.out], by rw [HT.out]; simp, trivial⟩, ?_⟩
      simp [intOf]; omega
    · have hT : l.take k = l := List.take_of_length_le (by omega)
      rw [hT] at hbd ⊢
      have HB : Hid (sumB l = [(sumP l).2 / 256, (sumP l).2 % 256, (sumP l).1 / 256, (sumP l).1 % 256]) := rfl
      clear hc hT hy
      revert hbd HB
      generalize (sumP l).1 = s1
      generalize (sumP l).2 = s2
      intro hbd HB
      have hd1 : Int.tdiv s1 256 = s1 / 256 := Int.tdiv_eq_ediv_of_nonneg (by omega)
      have hd2 : Int.tdiv s2 256 = s2 / 256 := Int.tdiv_eq_ediv_of_nonneg (by omega)
      have hm1 : Int.tmod s1 256 = s1 % 256 := Int.tmod_eq_emod_of_nonneg (by omega)
      have hm2 : Int.tmod s2 256 = s2 % 256 := Int.tmod_eq_emod_of_nonneg (by omega)
      have hw1 : IntKind.u8.wrap (s1 / 256) = s1 / 256 := IntWalk.u8_in _ (by omega)
      have hw2 : IntKind.u8.wrap (s2 / 256) = s2 / 256 := IntWalk.u8_in _ (by omega)
      have hw3 : IntKind.u8.wrap (s1 % 256) = s1 % 256 := IntWalk.u8_in _ (by omega)
      have hw4 : IntKind.u8.wrap (s2 % 256) = s2 % 256 := IntWalk.u8_in _ (by omega)
      go_wp2
      go_ret
      exact ⟨_, rfl, HB.out ▸ OwnB.made4, below_alloc _ _⟩

end Go.Proofs.YtbjlfhpiebokkaaDoor

/- Contracts of hourglassref.sevens and hourglassref.zigs. -/

namespace Go.Proofs.YtbjlfhpiebokkaaDoor
open Go.RowKit
set_option maxRecDepth 100000

theorem OwnB.made1 {w : World} {a : Int} : OwnB (w.alloc (.cells #[.int .u8 a] 5)) w.heap.size (.slice (some ⟨w.heap.size, 0, none⟩) 1 1) [a] :=
  ⟨by simp, Or.inr ⟨w.heap.size, 1, _, rfl, Nat.le_refl _, Go.Deep.blk_alloc_new _ _, by simp, by unfold maxLen; omega, by simp, by simp⟩⟩

theorem bytes_oneCell (l : List Int) : ∀ u ∈ l.map (Value.int .u8), u.oneCell' = true := by
  intro u hu
  obtain ⟨x, _, rfl⟩ := List.mem_map.1 hu
  rfl

set_option maxHeartbeats 1000000 in
theorem sevens_any (n : Nat) : n < 4611686018427387904 → ∀ w : World,
    Calls Tryd.prog 68 #[.int .i64 n] w fun e w' => ∃ A c, e = .returned (.slice A (sevens n).length c) ∧ OwnB w' w.heap.size (.slice A (sevens n).length c) (sevens n) ∧ Below w.heap.size w w' := by
  induction n using Nat.strongRecOn with
  | _ n ih =>
    intro hn w
    by_cases hlt : n < 128
    · have d0 : decide ((n : Int) < 128) = true := by simp; omega
      have hwr : IntKind.u8.wrap (n : Int) = n := IntWalk.u8_in _ (by omega)
      rw [sevens_small hlt]
      clear ih
      go_enter Tryd.func68, Tryd.ntmps68
      go_wp2
      go_ret
      exact ⟨_, _, rfl, OwnB.made1, below_alloc _ _⟩
    · have d0 : decide ((n : Int) < 128) = false := by simp; omega
      have hmod : Int.tmod (n : Int) 128 = (n : Int) % 128 := Int.tmod_eq_emod_of_nonneg (by omega)
      have hdiv : Int.tdiv (n : Int) 128 = (n : Int) / 128 := Int.tdiv_eq_ediv_of_nonneg (by omega)
      have hwr : IntKind.u8.wrap (128 + (n : Int) % 128) = 128 + (n : Int) % 128 := IntWalk.u8_in _ (by omega)
      have hw6 : IntKind.i64.wrap (128 + (n : Int) % 128) = 128 + (n : Int) % 128 := IntWalk.i64_in _ (by omega)
      have HF : Hid (∀ W : World, Calls Tryd.prog 68 #[.int .i64 ((n : Int) / 128)] W fun e w' => ∃ A c, e = .returned (.slice A (sevens (n / 128)).length c) ∧ OwnB w' W.heap.size (.slice A (sevens (n / 128)).length c) (sevens (n / 128)) ∧ Below W.heap.size W w') := fun W => by
        have := ih (n / 128) (by omega) (by omega) W
        rwa [show (((n / 128 : Nat)) : Int) = (n : Int) / 128 by omega] at this
      have HS : Hid (sevens n = [128 + (n : Int) % 128] ++ sevens (n / 128)) := by
        show _ = _
        rw [sevens_more hlt, List.singleton_append]
        congr 1
      have HP : Hid (0 < (sevens (n / 128)).length ∧ (sevens (n / 128)).length ≤ 100000) := ⟨sevens_ne _, by have := sevens_len 9 (n / 128) (by omega); omega⟩
      obtain ⟨i0, hi, hz0, hz1, hz2⟩ := info_parts infoByte
      clear ih
      revert HF HS HP
      generalize sevens (n / 128) = l1
      generalize sevens n = l0
      intro HF HS HP
      go_enter Tryd.func68, Tryd.ntmps68
      go_wp2_with fail
      refine (HF.out _).mono ?_
      rintro e w1 ⟨A, c, rfl, ho, hb⟩
      obtain ⟨g, cap, hv, hlo1, hlt1, hc⟩ := ho.at HP.out.1
      simp only [Value.slice.injEq] at hv
      obtain ⟨rfl, -, rfl⟩ := hv
      have HO : Hid (OwnB w1 w.heap.size (.slice (some ⟨w.heap.size, 0, none⟩) 1 1) [128 + (n : Int) % 128]) := OwnB.made1.below hb
      have HB : Hid (Below w.heap.size w w1) := (below_alloc _ _).trans (hb.mono (by simp))
      have HC : Hid (∀ j u, (l1.map (Value.int .u8))[j]? = some u → w1.cell? ((⟨g, 0, none⟩ : Addr).add j) = some u) := hc
      clear ho hb hc HF
      go_wp2_with (first
        | (at_builtin; refine wpList_append_own_at _ rfl _ _ 26 rfl w.heap.size 5 i0 (.int .u8 0) 1 1 Tryd.underlying26 hi hz0 hz1 hz2 rfl (by decide) (.slice (some ⟨w.heap.size, 0, none⟩) 1 1) 1 ([128 + (n : Int) % 128].map (Value.int .u8)) rfl HO.out ⟨g, 0, none⟩ l1.length c (l1.map (Value.int .u8)) rfl (by simp) HC.out (bytes_oneCell _) ?c3 ?c4 ?c5 ?_))
      case c3 => have := HP.out; unfold maxLen; omega
      case c4 => have := HP.out; omega
      case c5 => exact HB.out.size
      intro v' w2 hown' hgrow _ _
      have HR : Hid (OwnB w2 w.heap.size v' l0 ∧ Below w.heap.size w w2) := ⟨OwnB.of (l := [128 + (n : Int) % 128]) (m := l1) (n := 1) (k := l1.length) (by simpa using hown') rfl rfl HS.out, HB.out.grown hgrow HB.out.size (fun k hk => by simp [Value.ownBlock] at hk; omega)⟩
      clear hown' hgrow
      obtain ⟨A', c', rfl⟩ := HR.out.1.shape
      go_wp2
      go_ret
      exact ⟨A', c', rfl, HR.out.1, HR.out.2⟩

theorem zigs_any (z : Int) (w : World) (hz : -281474976710656 < z ∧ z < 281474976710656) :
    Calls Tryd.prog 69 #[.int .i64 z] w fun e w' => ∃ A c, e = .returned (.slice A (zigs z).length c) ∧ OwnB w' w.heap.size (.slice A (zigs z).length c) (zigs z) ∧ Below w.heap.size w w' := by
  by_cases hn : z < 0
  · have hw0 : IntKind.i64.wrap (-z) = -z := IntWalk.i64_in _ (by omega)
    have hw1 : IntKind.i64.wrap (-z - z) = -z - z := IntWalk.i64_in _ (by omega)
    have hw2 : IntKind.i64.wrap (-z - z - 1) = -z - z - 1 := IntWalk.i64_in _ (by omega)
    have HF : Hid (Calls Tryd.prog 68 #[.int .i64 (-z - z - 1)] w fun e w' => ∃ A c, e = .returned (.slice A (zigs z).length c) ∧ OwnB w' w.heap.size (.slice A (zigs z).length c) (zigs z) ∧ Below w.heap.size w w') := by
      have := sevens_any (-2 * z - 1).toNat (by omega) w
      rw [show (((-2 * z - 1).toNat : Nat) : Int) = -z - z - 1 by omega] at this
      rw [show zigs z = sevens (-2 * z - 1).toNat by simp [zigs, hn]]
      exact this
    revert HF
    generalize zigs z = l0
    intro HF
    go_enter Tryd.func69, Tryd.ntmps69
    go_wp2_with fail
    refine (HF.out).mono ?_
    rintro e w' ⟨A, c, rfl, ha⟩
    have HA : Hid (OwnB w' w.heap.size (.slice A l0.length c) l0 ∧ Below w.heap.size w w') := ha
    clear ha
    go_wp2_with fail
    go_ret
    exact ⟨A, c, rfl, HA.out⟩
  · have hw1 : IntKind.i64.wrap (z + z) = z + z := IntWalk.i64_in _ (by omega)
    have HF : Hid (Calls Tryd.prog 68 #[.int .i64 (z + z)] w fun e w' => ∃ A c, e = .returned (.slice A (zigs z).length c) ∧ OwnB w' w.heap.size (.slice A (zigs z).length c) (zigs z) ∧ Below w.heap.size w w') := by
      have := sevens_any (2 * z).toNat (by omega) w
      rw [show (((2 * z).toNat : Nat) : Int) = z + z by omega] at this
      rw [show zigs z = sevens (2 * z).toNat by simp [zigs, hn]]
      exact this
    revert HF
    generalize zigs z = l0
    intro HF
    go_enter Tryd.func69, Tryd.ntmps69
    go_wp2_with fail
    refine (HF.out).mono ?_
    rintro e w' ⟨A, c, rfl, ha⟩
    have HA : Hid (OwnB w' w.heap.size (.slice A l0.length c) l0 ∧ Below w.heap.size w w') := ha
    clear ha
    go_wp2_with fail
    go_ret
    exact ⟨A, c, rfl, HA.out⟩

end Go.Proofs.YtbjlfhpiebokkaaDoor

/- Contracts of evlog.outside, of the closure that it makes, and of what is no word. -/

namespace Go.Proofs.YtbjlfhpiebokkaaDoor
open Go.RowKit
set_option maxRecDepth 100000

abbrev cloE (p q : Nat) : Value := .func (.func 122) #[] #[.pointer (some ⟨p, 0, none⟩), .pointer (some ⟨q, 0, none⟩)]
structure CloAtE (w : World) (p q : Nat) (lo hi : Int) : Prop where
  c1 : w.cell? ⟨p, 0, none⟩ = some (.int .i64 lo)
  c2 : w.cell? ⟨q, 0, none⟩ = some (.int .i64 hi)
  l1 : p < w.heap.size
  l2 : q < w.heap.size
theorem CloAtE.below {w w' : World} {p q : Nat} {lo hi : Int} (h : CloAtE w p q lo hi) (hb : Below w.heap.size w w') : CloAtE w' p q lo hi :=
  ⟨(hb.cell (p := ⟨p, 0, none⟩) h.l1).trans h.c1, (hb.cell (p := ⟨q, 0, none⟩) h.l2).trans h.c2, Nat.lt_of_lt_of_le h.l1 hb.size, Nat.lt_of_lt_of_le h.l2 hb.size⟩
theorem CloAtE.drew {w : World} {p q : Nat} {lo hi : Int} (h : CloAtE w p q lo hi) : CloAtE w.drew p q lo hi := h.below ((Below.refl _ w).drew)

theorem one_cellE {w : World} {b : Nat} {x : Value} {t : TypeId} (h : w.heap[b]? = some (.cells #[x] t (0, 0))) : w.cell? ⟨b, 0, none⟩ = some x := by simp [World.cell?, h]

theorem outsideE_any (lo hi : Int) (w : World) : Calls Tryd.prog 115 #[.int .i64 lo, .int .i64 hi] w fun e w' => ∃ p q, e = .returned (cloE p q) ∧ CloAtE w' p q lo hi ∧ Below w.heap.size w w' := by
  go_enter Tryd.func115, Tryd.ntmps115
  go_wp2
  go_ret
  obtain ⟨b0, b1, b2⟩ := two_boxes (Below.refl ((w.alloc (.cells #[.int .i64 lo] 3)).alloc (.cells #[.int .i64 hi] 3)).heap.size ((w.alloc (.cells #[.int .i64 lo] 3)).alloc (.cells #[.int .i64 hi] 3)))
  exact ⟨_, _, rfl, ⟨one_cellE b0, one_cellE b1, by simp; omega, by simp⟩, b2⟩

theorem cloE_any (x lo hi : Int) (p q : Nat) (w : World) (h : CloAtE w p q lo hi) :
    Calls Tryd.prog 122 #[.int .i64 x, .pointer (some ⟨p, 0, none⟩), .pointer (some ⟨q, 0, none⟩)] w fun e w' => e = .returned (.bool (!inB x lo hi)) ∧ w' = w := by
  obtain ⟨c1, c2, -, -⟩ := h
  by_cases h1 : x < lo
  · have hI : (!inB x lo hi) = true := by simp [inB]; omega
    rw [hI]
    go_enter Tryd.func122, Tryd.ntmps122
    go_wp2
    go_ret
    exact ⟨rfl, rfl⟩
  · by_cases h2 : hi < x
    · have hI : (!inB x lo hi) = true := by simp [inB]; omega
      rw [hI]
      go_enter Tryd.func122, Tryd.ntmps122
      go_wp2
      go_ret
      exact ⟨rfl, rfl⟩
    · have hI : (!inB x lo hi) = false := by simp [inB]; omega
      rw [hI]
      go_enter Tryd.func122, Tryd.ntmps122
      go_wp2
      go_ret
      exact ⟨rfl, rfl⟩

theorem word_cloE (x : Int) (p q : Nat) (w : World) (h : CloAtE w p q (-1099511627776) 1099511627776) :
    Calls Tryd.prog 122 #[.int .i64 x, .pointer (some ⟨p, 0, none⟩), .pointer (some ⟨q, 0, none⟩)] w fun e w' => e = .returned (.bool (!wordB x)) ∧ w' = w := cloE_any x _ _ p q w h

set_option maxHeartbeats 400000 in
theorem IndexFuncE_word (v : Value) (l : List Int) (p q : Nat) (w : World) (h : IntsAt w v l) (hq : CloAtE w p q (-1099511627776) 1099511627776) :
    Calls Tryd.prog 92 #[v, cloE p q] w fun e w' => ∃ r : Int, e = .returned (.int .i64 r) ∧ decide (0 ≤ r) = !allB l ∧ w' = w := by
  obtain ⟨A, c, rfl, hl, hc⟩ := h
  have HQ : Hid (CloAtE w p q (-1099511627776) 1099511627776) := hq
  clear hq
  go_enter Tryd.func92, Tryd.ntmps92
  go_wp2
  go_loopw [8] (fun i wr => ∃ k : Nat, k ≤ l.length ∧ i = .int .i64 k ∧ Hid (∀ i, i < k → wordB (l.getD i 0) = true) ∧ wr = w) (fun i _ => l.length - (intOf i).toNat)
  case atStart => exact ⟨0, Nat.zero_le _, rfl, fun i hi => absurd hi (Nat.not_lt_zero _), rfl⟩
  case round =>
    obtain ⟨k, hk, rfl, ht, hw⟩ := hrel
    subst wr
    by_cases hlt : k < l.length
    · obtain ⟨b, off, rfl, hbs, hcell⟩ := hc (by omega)
      have h1 := hcell k hlt
      cases hw : wordB (l.getD k 0) with
      | false =>
        have HN : Hid (true = !allB l) := by show _ = _; rw [allB_no hlt hw]; rfl
        clear hcell hc
        revert h1 hw
        generalize l.getD k 0 = x
        intro h1 hw
        go_wp2_with (go_at_call 122; refine (word_cloE _ p q _ HQ.out).mono ?_; rintro e w' ⟨rfl, rfl⟩)
        go_ret
        exact ⟨k, rfl, by rw [← HN.out]; simp, rfl⟩
      | true =>
        have HN : Hid (∀ i, i < k + 1 → wordB (l.getD i 0) = true) := allB_step ht.out hw
        clear hcell hc
        revert h1 hw
        generalize l.getD k 0 = x
        intro h1 hw
        go_wp2_with (go_at_call 122; refine (word_cloE _ p q _ HQ.out).mono ?_; rintro e w' ⟨rfl, rfl⟩)
        refine ⟨⟨k + 1, by omega, by go_num, HN, trivial⟩, ?_⟩
        simp [intOf]; omega
    · have HN : Hid (false = !allB l) := by show _ = _; rw [allB_iff.2 fun i hi => ht.out i (by omega)]; rfl
      clear hc
      go_wp2
      go_ret
      exact ⟨-1, rfl, by rw [← HN.out]; rfl, rfl⟩

theorem ContainsFuncE_word (v : Value) (l : List Int) (p q : Nat) (w : World) (h : IntsAt w v l) (hq : CloAtE w p q (-1099511627776) 1099511627776) :
    Calls Tryd.prog 53 #[v, cloE p q] w fun e w' => e = .returned (.bool (!allB l)) ∧ w' = w := by
  go_enter Tryd.func53, Tryd.ntmps53
  go_wp2_with (go_at_call 92; refine (IndexFuncE_word v l p q _ h hq).mono ?_; rintro e w' ⟨r, rfl, hr, rfl⟩)
  go_ret
  exact ⟨rfl, rfl⟩

end Go.Proofs.YtbjlfhpiebokkaaDoor
