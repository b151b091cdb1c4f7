/- Contracts of evlog.appendNumber and evlog.appendAnyKind. -/
import Derived.Test.YtlcdefpdahjjeagDoorBy
import Derived.Test.YtlcdefpdahjjeagDoorInfo
namespace Go.Proofs.YtlcdefpdahjjeagDoor
open Go.RowKit
set_option maxRecDepth 100000

theorem infoByte : (Tryd.prog.info? 5).map (fun i => (i.zero, i.size, i.bytes)) = some (some (.int .u8 0), 1, 1) := by kernel_rfl

/-- What an append of bytes leaves. -/
structure Appd (lo : Nat) (w w' : World) (v v' : Value) (l : List Int) : Prop where
  own : OwnB w' lo v' l
  old : Below lo w w'
  grown : Grown w w' v v'
theorem Appd.trans {lo : Nat} {w w1 w2 : World} {v v1 v2 : Value} {l l' : List Int} (h : Appd lo w w1 v v1 l) (k : Appd lo w1 w2 v1 v2 l') : Appd lo w w2 v v2 l' := ⟨k.own, h.old.trans k.old, h.grown.trans k.grown⟩
theorem Appd.pre {lo : Nat} {w0 w w' : World} {v v' : Value} {l : List Int} (hb : Below w0.heap.size w0 w) (hlo : lo ≤ w0.heap.size) (h : Appd lo w w' v v' l) : Appd lo w0 w' v v' l := ⟨h.own, (hb.mono hlo).trans h.old, h.grown.pre hb⟩

set_option maxHeartbeats 1000000 in
theorem appendNumber_any (v : Value) (bs : List Int) (n lo : Nat) (w : World) (h : OwnB w lo v bs) (hlo : lo ≤ w.heap.size) (hn : n < 4611686018427387904) (hlen : bs.length + (sevens n).length ≤ 100000000) :
    Calls Tryd.prog 63 #[v, .int .i64 n] w fun e w' => ∃ v', e = .returned v' ∧ Appd lo w w' v v' (bs ++ sevens n) := by
  obtain ⟨i0, hi, hz0, hz1, hz2⟩ := info_parts infoByte
  have H0 : Hid (OwnB w lo v bs) := h
  clear h
  go_enter Tryd.func63, Tryd.ntmps63
  go_wp2
  go_loopw [0, 1] (fun o i wr => ∃ (m : Nat) (bs' : List Int), m ≤ n ∧ i = .int .i64 m ∧ Hid (bs ++ sevens n = bs' ++ sevens m) ∧ Hid (Appd lo w wr v o bs')) (fun _ i _ => (intOf i).toNat)
  case atStart => exact ⟨n, bs, Nat.le_refl _, rfl, rfl, ⟨H0.out, Below.refl _ _, Grown.refl _ _⟩⟩
  case round =>
    obtain ⟨m, bs', hm, rfl, hE, hI⟩ := hrel
    have hL : bs'.length + (sevens m).length ≤ 100000000 := by
      have := congrArg List.length hE.out
      simp at this
      omega
    have hmod : Int.tmod (m : Int) 128 = (m : Int) % 128 := Int.tmod_eq_emod_of_nonneg (by omega)
    have hdiv : Int.tdiv (m : Int) 128 = (m : Int) / 128 := Int.tdiv_eq_ediv_of_nonneg (by omega)
    have hsz := hI.out.old.size
    obtain ⟨A, c, rfl⟩ := hI.out.own.shape
    have HO : Hid (OwnB wr lo (.slice A bs'.length c) bs') := hI.out.own
    by_cases hlt : m < 128
    · have d0 : decide (128 ≤ (m : Int)) = false := by simp; omega
      have hwr : IntKind.u8.wrap (m : Int) = m := IntWalk.u8_in _ (by omega)
      have HS : Hid (bs ++ sevens n = bs' ++ [(m : Int)]) := by show _ = _; rw [hE.out, sevens_small hlt]
      rw [sevens_small hlt] at hL
      clear hmod hdiv hE
      go_wp2_with (first
        | (at_builtin; refine wpList_append_own_at _ rfl _ _ 26 rfl lo 5 i0 (.int .u8 0) 1 1 Tryd.underlying26 hi hz0 hz1 hz2 rfl (by decide) (.slice A bs'.length c) bs'.length (bs'.map (Value.int .u8)) rfl (World.ownsRow.alloc HO.out _) ⟨wr.heap.size, 0, none⟩ 1 1 [.int .u8 m] rfl rfl (cell_one_new _ _ _) (by intro u hu; simp at hu; subst hu; rfl) ?c3 ?c4 ?c5 ?_))
      case c3 => unfold maxLen; simp at hL; omega
      case c4 => simp at hL; omega
      case c5 => simp; omega
      intro v' w1 hown' hgrow _ hat
      have HR : Hid (Appd lo wr w1 (.slice A bs'.length c) v' (bs' ++ [(m : Int)])) := ⟨OwnB.of (m := [(m : Int)]) hown' rfl rfl rfl, append_below (below_alloc _ _) (Nat.le_trans hlo hsz) (World.ownsRow.alloc HO.out _) hgrow, Grown.of_append (below_alloc _ _) hgrow hat (by omega)⟩
      clear hown' hgrow hat
      go_wp2
      go_ret
      exact ⟨v', rfl, HS.out ▸ hI.out.trans HR.out⟩
    · have d0 : decide (128 ≤ (m : Int)) = true := by simp; omega
      have hwr : IntKind.u8.wrap ((m : Int) % 128 + 128) = (m : Int) % 128 + 128 := IntWalk.u8_in _ (by omega)
      have HS : Hid (bs ++ sevens n = (bs' ++ [(m : Int) % 128 + 128]) ++ sevens (m / 128)) := by
        show _ = _
        rw [hE.out, sevens_more hlt, List.append_assoc]
        congr 2
        omega
      rw [sevens_more hlt] at hL
      clear hE
      go_wp2_with (first
        | (at_builtin; refine wpList_append_own_at _ rfl _ _ 26 rfl lo 5 i0 (.int .u8 0) 1 1 Tryd.underlying26 hi hz0 hz1 hz2 rfl (by decide) (.slice A bs'.length c) bs'.length (bs'.map (Value.int .u8)) rfl (World.ownsRow.alloc HO.out _) ⟨wr.heap.size, 0, none⟩ 1 1 [.int .u8 ((m : Int) % 128 + 128)] rfl rfl ?c1 (by intro u hu; simp at hu; subst hu; rfl) ?c3 ?c4 ?c5 ?_))
      case c1 => exact cell_one_new _ _ _
      case c3 => unfold maxLen; simp at hL; omega
      case c4 => simp at hL; omega
      case c5 => simp; omega
      intro v' w1 hown' hgrow _ hat
      have HR : Hid (Appd lo wr w1 (.slice A bs'.length c) v' (bs' ++ [(m : Int) % 128 + 128])) := ⟨OwnB.of (m := [(m : Int) % 128 + 128]) hown' rfl rfl rfl, append_below (below_alloc _ _) (Nat.le_trans hlo hsz) (World.ownsRow.alloc HO.out _) hgrow, Grown.of_append (below_alloc _ _) hgrow hat (by omega)⟩
      clear hown' hgrow hat
      go_wp2
      refine ⟨⟨m / 128, _, by omega, by simp, HS, hI.out.trans HR.out⟩, ?_⟩
      simp [intOf]
      omega

/-- The number that stands for one of any kind. -/
theorem appendAnyKind_any (v : Value) (bs : List Int) (z : Int) (lo : Nat) (w : World) (h : OwnB w lo v bs) (hlo : lo ≤ w.heap.size) (hz : -281474976710656 < z ∧ z < 281474976710656) (hlen : bs.length + 7 ≤ 100000000) :
    Calls Tryd.prog 104 #[v, .int .i64 z] w fun e w' => ∃ v', e = .returned v' ∧ Appd lo w w' v v' (bs ++ zigs z) := by
  by_cases hn : z < 0
  · have hw1 : IntKind.i64.wrap (-2 * z) = -2 * z := IntWalk.i64_in _ (by omega)
    have hw2 : IntKind.i64.wrap (-2 * z - 1) = -2 * z - 1 := IntWalk.i64_in _ (by omega)
    have HF : Hid (∀ W, W = w → Calls Tryd.prog 63 #[v, .int .i64 (-2 * z - 1)] W fun e w' => ∃ v', e = .returned v' ∧ Appd lo w w' v v' (bs ++ zigs z)) := fun W e => by
      subst e
      have := appendNumber_any v bs (-2 * z - 1).toNat lo W h hlo (by omega) (by have := sevens_len7 (n := (-2 * z - 1).toNat) (by omega); omega)
      rw [show (((-2 * z - 1).toNat : Nat) : Int) = -2 * z - 1 by omega] at this
      rw [show zigs z = sevens (-2 * z - 1).toNat by simp [zigs, hn]]
      exact this
    clear h
    go_enter Tryd.func104, Tryd.ntmps104
    go_wp2_with fail
    refine (HF.out _ rfl).mono ?_
    rintro e w' ⟨v', rfl, ha⟩
    have HA : Hid (Appd lo w w' v v' (bs ++ zigs z)) := ha
    clear ha
    go_wp2_with fail
    go_ret
    exact ⟨v', rfl, HA.out⟩
  · have hw1 : IntKind.i64.wrap (2 * z) = 2 * z := IntWalk.i64_in _ (by omega)
    have HF : Hid (∀ W, W = w → Calls Tryd.prog 63 #[v, .int .i64 (2 * z)] W fun e w' => ∃ v', e = .returned v' ∧ Appd lo w w' v v' (bs ++ zigs z)) := fun W e => by
      subst e
      have := appendNumber_any v bs (2 * z).toNat lo W h hlo (by omega) (by have := sevens_len7 (n := (2 * z).toNat) (by omega); omega)
      rw [show (((2 * z).toNat : Nat) : Int) = 2 * z by omega] at this
      rw [show zigs z = sevens (2 * z).toNat by simp [zigs, hn]]
      exact this
    clear h
    go_enter Tryd.func104, Tryd.ntmps104
    go_wp2_with fail
    refine (HF.out _ rfl).mono ?_
    rintro e w' ⟨v', rfl, ha⟩
    have HA : Hid (Appd lo w w' v v' (bs ++ zigs z)) := ha
    clear ha
    go_wp2_with fail
    go_ret
    exact ⟨v', rfl, HA.out⟩

end Go.Proofs.YtlcdefpdahjjeagDoor
