/- Contracts of evlog.appendNumber and evlog.appendAnyKind. -/
import Derived.Test.YtecpblabaelopaaDoorRepAPart
import Derived.Test.YtecpblabaelopaaDoorInfoPart
import Derived.Test.YtecpblabaelopaaDoorBasePart
import Derived.Deep.RegionHeld3
import Derived.Deep.RegionLaw
import Derived.Deep.RegionWith
import Derived.Deep.DeepCutAuto
namespace Go.Proofs.YtecpblabaelopaaDoor
open Go.RowKit
set_option maxRecDepth 100000

theorem infoByte : (Tryd.prog.info? 5).map (fun i => (i.zero, i.size, i.bytes)) = some (some (.int .u8 0), 1, 1) := by kernel_rfl

/-- What an append of bytes leaves. -/
structure Appd (lo : Nat) (w w' : World) (v v' : Value) (l : List Int) : Prop where
  own : OwnB w' lo v' l
  old : Below lo w w'
  grown : Grown w w' v v'
theorem Appd.trans {lo : Nat} {w w1 w2 : World} {v v1 v2 : Value} {l l' : List Int} (h : Appd lo w w1 v v1 l) (k : Appd lo w1 w2 v1 v2 l') : Appd lo w w2 v v2 l' := ⟨k.own, h.old.trans k.old, h.grown.trans k.grown⟩
theorem Appd.pre {lo : Nat} {w0 w w' : World} {v v' : Value} {l : List Int} (hb : Below w0.heap.size w0 w) (hlo : lo ≤ w0.heap.size) (h : Appd lo w w' v v' l) : Appd lo w0 w' v v' l := ⟨h.own, (hb.mono hlo).trans h.old, h.grown.pre hb⟩

set_option maxHeartbeats 1000000 in
theorem appendNumber_any (v : Value) (bs : List Int) (n lo : Nat) (w : World) (h : OwnB w lo v bs) (hlo : lo ≤ w.heap.size) (hn : n < 4611686018427387904) (hlen : bs.length + (sevens n).length ≤ 100000000) :
    Calls Tryd.prog 52 #[v, .int .i64 n] w fun e w' => ∃ v', e = .returned v' ∧ Appd lo w w' v v' (bs ++ sevens n) := by
  obtain ⟨i0, hi, hz0, hz1, hz2⟩ := info_parts infoByte
  have H0 : Hid (OwnB w lo v bs) := h
  clear h
  go_enter Tryd.func52, Tryd.ntmps52
  go_wp2
  go_loopw [0, 1] (fun o i wr => ∃ (m : Nat) (bs' : List Int), m ≤ n ∧ i = .int .i64 m ∧ Hid (bs ++ sevens n = bs' ++ sevens m) ∧ Hid (Appd lo w wr v o bs')) (fun _ i _ => (intOf i).toNat)
  case atStart => exact ⟨n, bs, Nat.le_refl _, rfl, rfl, ⟨H0.out, Below.refl _ _, Grown.refl _ _⟩⟩
  case round =>
    obtain ⟨m, bs', hm, rfl, hE, hI⟩ := hrel
    have hL : bs'.length + (sevens m).length ≤ 100000000 := by
      have := congrArg List.length hE.out
      simp at this
      omega
    have hmod : Int.tmod (m : Int) 128 = (m : Int) % 128 := Int.tmod_eq_emod_of_nonneg (by omega)
    have hdiv : Int.tdiv (m : Int) 128 = (m : Int) / 128 := Int.tdiv_eq_ediv_of_nonneg (by omega)
    have hsz := hI.out.old.size
    obtain ⟨A, c, rfl⟩ := hI.out.own.shape
    have HO : Hid (OwnB wr lo (.slice A bs'.length c) bs') := hI.out.own
    by_cases hlt : m < 128
    · have d0 : decide (128 ≤ (m : Int)) = false := by simp; omega
      have hwr : IntKind.u8.wrap (m : Int) = m := IntWalk.u8_in _ (by omega)
      have HS : Hid (bs ++ sevens n = bs' ++ [(m : Int)]) := by show _ = _; rw [hE.out, sevens_small hlt]
      rw [sevens_small hlt] at hL
      clear hmod hdiv hE
      go_wp2_with (first
        | (at_builtin; refine wpList_append_own_at _ rfl _ _ 24 rfl lo 5 i0 (.int .u8 0) 1 1 Tryd.underlying24 hi hz0 hz1 hz2 rfl (by decide) (.slice A bs'.length c) bs'.length (bs'.map (Value.int .u8)) rfl (World.ownsRow.alloc HO.out _) ⟨wr.heap.size, 0, none⟩ 1 1 [.int .u8 m] rfl rfl (cell_one_new _ _ _) (by intro u hu; simp at hu; subst hu; rfl) ?c3 ?c4 ?c5 ?_))
      case c3 => unfold maxLen; simp at hL; omega
      case c4 => simp at hL; omega
      case c5 => simp; omega
      intro v' w1 hown' hgrow _ hat
      have HR : Hid (Appd lo wr w1 (.slice A bs'.length c) v' (bs' ++ [(m : Int)])) := ⟨OwnB.of (m := [(m : Int)]) hown' rfl rfl rfl, append_below (below_alloc _ _) (Nat.le_trans hlo hsz) (World.ownsRow.alloc HO.out _) hgrow, Grown.of_append (below_alloc _ _) hgrow hat (by omega)⟩
      clear hown' hgrow hat
      go_wp2
      go_ret
      exact ⟨v', rfl, HS.out ▸ hI.out.trans HR.out⟩
    · have d0 : decide (128 ≤ (m : Int)) = true := by simp; omega
      have hwr : IntKind.u8.wrap ((m : Int) % 128 + 128) = (m : Int) % 128 + 128 := IntWalk.u8_in _ (by omega)
      have HS : Hid (bs ++ sevens n = (bs' ++ [(m : Int) % 128 + 128]) ++ sevens (m / 128)) := by
        show _ = _
        rw [hE.out, sevens_more hlt, List.append_assoc]
        congr 2
        omega
      rw [sevens_more hlt] at hL
      clear hE
      go_wp2_with (first
        | (at_builtin; refine wpList_append_own_at _ rfl _ _ 24 rfl lo 5 i0 (.int .u8 0) 1 1 Tryd.underlying24 hi hz0 hz1 hz2 rfl (by decide) (.slice A bs'.length c) bs'.length (bs'.map (Value.int .u8)) rfl (World.ownsRow.alloc HO.out _) ⟨wr.heap.size, 0, none⟩ 1 1 [.int .u8 ((m : Int) % 128 + 128)] rfl rfl ?c1 (by intro u hu; simp at hu; subst hu; rfl) ?c3 ?c4 ?c5 ?_))
      case c1 => exact cell_one_new _ _ _
      case c3 => unfold maxLen; simp at hL; omega
      case c4 => simp at hL; omega
      case c5 => simp; omega
      intro v' w1 hown' hgrow _ hat
      have HR : Hid (Appd lo wr w1 (.slice A bs'.length c) v' (bs' ++ [(m : Int) % 128 + 128])) := ⟨OwnB.of (m := [(m : Int) % 128 + 128]) hown' rfl rfl rfl, append_below (below_alloc _ _) (Nat.le_trans hlo hsz) (World.ownsRow.alloc HO.out _) hgrow, Grown.of_append (below_alloc _ _) hgrow hat (by omega)⟩
      clear hown' hgrow hat
      go_wp2
      refine ⟨⟨m / 128, _, by omega, by simp, HS, hI.out.trans HR.out⟩, ?_⟩
      simp [intOf]
      omega

/-- The number that stands for one of any kind. -/
theorem appendAnyKind_any (v : Value) (bs : List Int) (z : Int) (lo : Nat) (w : World) (h : OwnB w lo v bs) (hlo : lo ≤ w.heap.size) (hz : -281474976710656 < z ∧ z < 281474976710656) (hlen : bs.length + 7 ≤ 100000000) :
    Calls Tryd.prog 79 #[v, .int .i64 z] w fun e w' => ∃ v', e = .returned v' ∧ Appd lo w w' v v' (bs ++ zigs z) := by
  by_cases hn : z < 0
  · have hw1 : IntKind.i64.wrap (-2 * z) = -2 * z := IntWalk.i64_in _ (by omega)
    have hw2 : IntKind.i64.wrap (-2 * z - 1) = -2 * z - 1 := IntWalk.i64_in _ (by omega)
    have HF : Hid (∀ W, W = w → Calls Tryd.prog 52 #[v, .int .i64 (-2 * z - 1)] W fun e w' => ∃ v', e = .returned v' ∧ Appd lo w w' v v' (bs ++ zigs z)) := fun W e => by
      subst e
      have := appendNumber_any v bs (-2 * z - 1).toNat lo W h hlo (by omega) (by have := sevens_len7 (n := (-2 * z - 1).toNat) (by omega); omega)
      rw [show (((-2 * z - 1).toNat : Nat) : Int) = -2 * z - 1 by omega] at this
      rw [show zigs z = sevens (-2 * z - 1).toNat by simp [zigs, hn]]
      exact this
    clear h
    go_enter Tryd.func79, Tryd.ntmps79
    go_wp2_with fail
    refine (HF.out _ rfl).mono ?_
    rintro e w' ⟨v', rfl, ha⟩
    have HA : Hid (Appd lo w w' v v' (bs ++ zigs z)) := ha
    clear ha
    go_wp2_with fail
    go_ret
    exact ⟨v', rfl, HA.out⟩
  · have hw1 : IntKind.i64.wrap (2 * z) = 2 * z := IntWalk.i64_in _ (by omega)
    have HF : Hid (∀ W, W = w → Calls Tryd.prog 52 #[v, .int .i64 (2 * z)] W fun e w' => ∃ v', e = .returned v' ∧ Appd lo w w' v v' (bs ++ zigs z)) := fun W e => by
      subst e
      have := appendNumber_any v bs (2 * z).toNat lo W h hlo (by omega) (by have := sevens_len7 (n := (2 * z).toNat) (by omega); omega)
      rw [show (((2 * z).toNat : Nat) : Int) = 2 * z by omega] at this
      rw [show zigs z = sevens (2 * z).toNat by simp [zigs, hn]]
      exact this
    clear h
    go_enter Tryd.func79, Tryd.ntmps79
    go_wp2_with fail
    refine (HF.out _ rfl).mono ?_
    rintro e w' ⟨v', rfl, ha⟩
    have HA : Hid (Appd lo w w' v v' (bs ++ zigs z)) := ha
    clear ha
    go_wp2_with fail
    go_ret
    exact ⟨v', rfl, HA.out⟩

end Go.Proofs.YtecpblabaelopaaDoor

/- Contracts of evlog.firstRun and evlog.appendRuns. -/

namespace Go.Proofs.YtecpblabaelopaaDoor
open Go.RowKit
set_option maxRecDepth 100000

theorem runLen_is : ∀ (l : List Int) (k : Nat), 1 ≤ k → k ≤ l.length → (∀ j, j < k → l.getD j 0 = l.getD 0 0) → (k = l.length ∨ l.getD k 0 ≠ l.getD 0 0) → runLen l = k
  | [], k, h1, h2, _, _ => by simp at h2; omega
  | [x], k, h1, h2, _, _ => by simp at h2; simp [runLen]; omega
  | x :: y :: t, k, h1, h2, h3, h4 => by
    by_cases h : y = x
    · subst h
      have hk : 2 ≤ k := by
        by_cases e : k = 1
        · subst e
          rcases h4 with h4 | h4
          · simp at h4
          · simp at h4
        · omega
      obtain ⟨k', rfl⟩ : ∃ k', k = k' + 1 := ⟨k - 1, by omega⟩
      have := runLen_is (y :: t) k' (by omega) (by simp at h2 ⊢; omega) (fun j hj => by have := h3 (j + 1) (by omega); simpa using this) (by
        rcases h4 with h4 | h4
        · left; simp at h4 ⊢; omega
        · right; simpa using h4)
      simp [runLen, this]
    · have : k = 1 := by
        by_cases e : 2 ≤ k
        · have := h3 1 (by omega)
          simp at this
          exact absurd this h
        · omega
      subst this
      simp [runLen, h]

set_option maxHeartbeats 1000000 in
theorem firstRun_any (v : Value) (l : List Int) (w : World) (h : IntsAt w v l) (h0 : 0 < l.length) :
    Calls Tryd.prog 88 #[v] w fun e w' => e = .returned (.int .i64 (runLen l)) ∧ ∃ m, w' = w.drewN m := by
  obtain ⟨A, c, rfl, hl, hc⟩ := h
  obtain ⟨b, off, rfl, hbs, hcell⟩ := hc h0
  have c0 := hcell 0 h0
  simp only [Nat.add_zero] at c0
  have h0i : (0 : Int) < (l.length : Int) := by omega
  have HC : Hid (∀ j, j < l.length → w.cell? ⟨b, off + j, none⟩ = some (.int .i64 (l.getD j 0))) := hcell
  clear hc hcell
  go_enter Tryd.func88, Tryd.ntmps88
  go_wp2
  go_loopw [3] (fun i wr => ∃ (k m : Nat), 1 ≤ k ∧ k ≤ l.length ∧ i = .int .i64 k ∧ Hid (∀ j, j < k → l.getD j 0 = l.getD 0 0) ∧ wr = w.drewN m) (fun i _ => l.length - (intOf i).toNat)
  case atStart => exact ⟨1, 0, Nat.le_refl _, h0, rfl, fun j hj => by rw [show j = 0 by omega], rfl⟩
  case round =>
    obtain ⟨k, m, hk1, hk, rfl, hE, hw⟩ := hrel
    subst wr
    by_cases hlt : k < l.length
    · have ck := HC.out k hlt
      have hki : (k : Int) < (l.length : Int) := by omega
      by_cases he : l.getD k 0 = l.getD 0 0
      · have HE : Hid (∀ j, j < k + 1 → l.getD j 0 = l.getD 0 0) := fun j hj => by
          by_cases e : j = k
          · rw [e, he]
          · exact hE.out j (by omega)
        rw [he] at ck
        clear hE he HC
        revert c0 ck HE
        generalize l.getD 0 0 = x0
        intro c0 ck HE
        go_wp2_with fail
        go_quiet (fail)
        go_wp2_with fail
        refine ⟨⟨k + 1, _, by omega, by omega, by go_num, HE, rfl⟩, ?_⟩
        simp [intOf]; omega
      · have HR : Hid (runLen l = k) := runLen_is l k hk1 hk hE.out (Or.inr he)
        clear hE HC
        revert c0 ck he
        generalize l.getD 0 0 = x0
        generalize l.getD k 0 = xk
        intro c0 ck he
        go_wp2_with fail
        go_quiet (fail)
        go_wp2_with fail
        go_ret
        exact ⟨ret_int (by rw [HR.out]), drewN_two w m _⟩
    · have HR : Hid (runLen l = k) := runLen_is l k hk1 hk hE.out (Or.inl (by omega))
      have hki : ¬ (k : Int) < (l.length : Int) := by omega
      clear hE HC c0
      go_wp2_with fail
      go_quiet (fail)
      go_wp2_with fail
      go_ret
      exact ⟨ret_int (by rw [HR.out]), drewN_two w m _⟩

/-- A part of a slice. -/
theorem IntsAt.rest {w : World} {b off c : Nat} {l : List Int} (h : IntsAt w (.slice (some ⟨b, off, none⟩) l.length c) l) (k : Nat) (hk : k ≤ l.length) (c' : Nat) : IntsAt w (.slice (some ⟨b, off + k, none⟩) (l.length - k) c') (l.drop k) := by
  obtain ⟨A, c1, e, hl, hc⟩ := h
  simp only [Value.slice.injEq] at e
  obtain ⟨rfl, -, rfl⟩ := e
  refine ⟨some ⟨b, off + k, none⟩, c', by simp, by simp; omega, fun h0 => ?_⟩
  simp at h0
  obtain ⟨b', off', e, hlt, hj⟩ := hc (by omega)
  simp only [Option.some.injEq, Addr.mk.injEq] at e
  obtain ⟨rfl, rfl, -⟩ := e
  refine ⟨b, off + k, rfl, hlt, fun j hjl => ?_⟩
  simp at hjl
  rw [Nat.add_assoc, hj (k + j) (by omega)]
  simp [List.getD]

theorem IntsAt.belowLo {w w' : World} {b off c lo n : Nat} {l : List Int} (h : IntsAt w (.slice (some ⟨b, off, none⟩) n c) l) (hb : b < lo) (hB : Below lo w w') : IntsAt w' (.slice (some ⟨b, off, none⟩) n c) l := by
  obtain ⟨A, c1, e, hl, hc⟩ := h
  refine ⟨A, c1, e, hl, fun h0 => ?_⟩
  obtain ⟨b', off', e', hlt, hj⟩ := hc h0
  simp only [Value.slice.injEq] at e
  have e2 := e.1.trans e'
  simp only [Option.some.injEq, Addr.mk.injEq] at e2
  obtain ⟨rfl, rfl, -⟩ := e2
  exact ⟨b, off, e', Nat.lt_of_lt_of_le hlt hB.size, fun j hjl => (hB.cell (p := ⟨b, off + j, none⟩) hb).trans (hj j hjl)⟩
theorem IntsAt.head {w : World} {b off c n : Nat} {x : Int} {t : List Int} (h : IntsAt w (.slice (some ⟨b, off, none⟩) n c) (x :: t)) : w.cell? ⟨b, off, none⟩ = some (.int .i64 x) := by
  obtain ⟨A, c1, e, hl, hc⟩ := h
  obtain ⟨b', off', e', hlt, hj⟩ := hc (by simp)
  simp only [Value.slice.injEq] at e
  have e2 := e.1.trans e'
  simp only [Option.some.injEq, Addr.mk.injEq] at e2
  obtain ⟨rfl, rfl, -⟩ := e2
  simpa using hj 0 (by simp)

set_option maxHeartbeats 2000000 in
theorem appendRuns_any (v wv : Value) (bs l : List Int) (lo : Nat) (w : World) (h : OwnB w lo v bs) (hlo : lo ≤ w.heap.size) (hv : ∃ b off c, wv = .slice (some ⟨b, off, none⟩) l.length c ∧ l.length ≤ c ∧ b < lo) (hi : IntsAt w wv l) (hl : l.length ≤ 1000) (hw : ∀ x ∈ l, -1099511627776 ≤ x ∧ x ≤ 1099511627776) (hlen : bs.length ≤ 10000000) :
    Calls Tryd.prog 78 #[v, wv] w fun e w' => ∃ v', e = .returned v' ∧ Appd lo w w' v v' (bs ++ runsB 0 0 l) := by
  obtain ⟨b, off, c, rfl, hcap, hblo⟩ := hv
  have HI : Hid (IntsAt w (.slice (some ⟨b, off, none⟩) l.length c) l) := hi
  have H0 : Hid (OwnB w lo v bs) := h
  have HW : Hid (∀ x ∈ l, -1099511627776 ≤ x ∧ x ≤ 1099511627776) := hw
  have HT : Hid ((runsB 0 0 l).length ≤ 14 * l.length) := runsB_len l 0 0 (by omega) (by simp) hw
  clear h hi hw
  go_enter Tryd.func78, Tryd.ntmps78
  go_wp2
  go_loopw [0, 1, 5] (fun o u t wr => ∃ (p : Nat) (last : Int) (bs' : List Int) (Au : Option Addr), p ≤ l.length ∧ u = .slice Au (l.length - p) (c - p) ∧ (p < l.length → Au = some ⟨b, off + p, none⟩) ∧ t = .int .i64 last ∧ Hid (bs ++ runsB 0 0 l = bs' ++ runsB last 0 (l.drop p) ∧ (-1099511627776 ≤ last ∧ last ≤ 1099511627776)) ∧ Hid (Appd lo w wr v o bs')) (fun _ u _ _ => match u with | .slice _ n _ => n | _ => 0)
  case atStart => exact ⟨0, 0, bs, _, Nat.zero_le _, rfl, fun _ => rfl, rfl, ⟨rfl, by simp⟩, ⟨H0.out, Below.refl _ _, Grown.refl _ _⟩⟩
  case round =>
    obtain ⟨p, last, bs', Au, hp, rfl, hAu, rfl, hE, hA⟩ := hrel
    have hsz := hA.out.old.size
    obtain ⟨A0, c0, rfl⟩ := hA.out.own.shape
    have hL : bs'.length + (runsB last 0 (l.drop p)).length ≤ 10000000 + 14000 := by
      have := congrArg List.length hE.out.1
      have := HT.out
      simp at *
      omega
    by_cases hlt : p < l.length
    · have hls : 0 < l.length - p := by omega
      obtain rfl := hAu hlt
      have HR : Hid (IntsAt w (.slice (some ⟨b, off + p, none⟩) (l.length - p) (c - p)) (l.drop p)) := HI.out.rest p hp _
      obtain ⟨x, t, hxt⟩ : ∃ x t, l.drop p = x :: t := by
        cases e : l.drop p with
        | nil => have := congrArg List.length e; simp at this; omega
        | cons x t => exact ⟨x, t, rfl⟩
      have hxl : (x :: t).length = l.length - p := by rw [← hxt]; simp
      have hx := HW.out x (List.mem_of_mem_drop (by rw [hxt]; simp))
      have hn1 := runLen_pos x t
      have hn2 := runLen_le (x :: t)
      rw [hxt] at hL HR
      have HE : Hid (bs ++ runsB 0 0 l = (bs' ++ sevens (runLen (x :: t)) ++ zigs (x - last)) ++ runsB x 0 (l.drop (p + runLen (x :: t)))) := by
        show _ = _
        rw [hE.out.1, hxt, runsB_run, ← hxt, List.drop_drop, hxt]
        simp [List.append_assoc]
      have hlast := hE.out.2
      have HS1 := sevens_len7 (n := runLen (x :: t)) (by omega)
      have HS2 := zigs_len7 (z := x - last) (by omega)
      have hbs' : bs'.length ≤ 10014000 := by omega
      have HF : Hid (∀ W, Below lo w W → Calls Tryd.prog 88 #[.slice (some ⟨b, off + p, none⟩) (l.length - p) (c - p)] W fun e w' => e = .returned (.int .i64 (runLen (x :: t))) ∧ ∃ m, w' = W.drewN m) := fun W hB => firstRun_any _ (x :: t) W (HR.out.belowLo hblo hB) (by simp)
      have HH : Hid (∀ W, Below lo w W → W.cell? ⟨b, off + p, none⟩ = some (.int .i64 x)) := fun W hB => (HR.out.belowLo hblo hB).head
      have HN : Hid (∀ W v1 l1, OwnB W lo v1 l1 → lo ≤ W.heap.size → l1.length ≤ 10014000 → Calls Tryd.prog 52 #[v1, .int .i64 (runLen (x :: t))] W fun e w' => ∃ v', e = .returned v' ∧ Appd lo W w' v1 v' (l1 ++ sevens (runLen (x :: t)))) := fun W v1 l1 ho hlo hl => appendNumber_any v1 l1 (runLen (x :: t)) lo W ho hlo (by omega) (by omega)
      have HK : Hid (∀ W v1 l1, OwnB W lo v1 l1 → lo ≤ W.heap.size → l1.length ≤ 10014007 → Calls Tryd.prog 79 #[v1, .int .i64 (x - last)] W fun e w' => ∃ v', e = .returned v' ∧ Appd lo W w' v1 v' (l1 ++ zigs (x - last))) := fun W v1 l1 ho hlo hl => appendAnyKind_any v1 l1 (x - last) lo W ho hlo (by omega) (by omega)
      have hwr : IntKind.i64.wrap (x - last) = x - last := IntWalk.i64_in _ (by omega)
      clear hE hL HR HT HI HW hxt
      simp only [hxl] at hn2
      revert HF HE HN HS1 hn1 hn2
      generalize runLen (x :: t) = n
      intro hn1 HE HS1 HF HN hn2
      have hni : (n : Int) ≤ ((l.length - p : Nat) : Int) := by omega
      have hA' := hA.out
      have HB0 : Hid (Below lo w wr) := hA.out.old
      go_wp2_with fail
      refine (HF.out _ HB0.out).mono ?_
      rintro e w' ⟨rfl, m, rfl⟩
      go_wp2_with fail
      refine (HN.out _ _ bs' (OwnB.below hA.out.own (below_drewN (Below.refl _ _) _)) (Nat.le_trans hlo hsz) hbs').mono ?_
      rintro e w1 ⟨v1, rfl, ha1⟩
      have HA1 : Hid (Appd lo w w1 v v1 (bs' ++ sevens n)) := hA.out.trans (ha1.pre (below_drewN (Below.refl _ _) _) (Nat.le_trans hlo hsz))
      clear ha1 HF HN hA'
      have hsz1 := HA1.out.old.size
      have k1 := HH.out _ HA1.out.old
      go_wp2_with fail
      refine (HK.out _ _ _ HA1.out.own (Nat.le_trans hlo hsz1) (by simp; omega)).mono ?_
      rintro e w2 ⟨v2, rfl, ha2⟩
      have HA2 : Hid (Appd lo w w2 v v2 (bs' ++ sevens n ++ zigs (x - last))) := HA1.out.trans ha2
      clear ha2 HK
      have k2 := HH.out _ HA2.out.old
      clear HH
      go_wp2_with fail
      refine ⟨⟨p + n, x, _, _, by omega, by rw [Nat.sub_sub, Nat.sub_sub], fun h => by rw [if_neg (by omega), Nat.add_assoc], rfl, ⟨HE.out, hx⟩, HA2.out⟩, ?_⟩
      show l.length - p - n < l.length - p
      omega
    · have HS : Hid (bs ++ runsB 0 0 l = bs') := by
        show _ = _
        rw [hE.out.1, List.drop_eq_nil_of_le (by omega)]
        simp [runsB]
      have e0 : l.length - p = 0 := by omega
      clear hE HI HT HW hL hAu
      go_wp2_with fail
      go_ret
      exact ⟨_, rfl, HS.out ▸ hA.out⟩

end Go.Proofs.YtecpblabaelopaaDoor

/- Contracts of evlog.sum and hourglassref.SumOf. -/

namespace Go.Proofs.YtecpblabaelopaaDoor
open Go.RowKit
set_option maxRecDepth 100000

/-- The value is a slice over these bytes. -/
def BytesAt (w : World) (v : Value) (l : List Int) : Prop :=
  ∃ (A : Option Addr) (c : Nat), v = .slice A l.length c ∧ l.length ≤ 140737488351232 ∧ (∀ x ∈ l, 0 ≤ x ∧ x ≤ 255) ∧
    (0 < l.length → ∃ b off, A = some ⟨b, off, none⟩ ∧ b < w.heap.size ∧ ∀ j, j < l.length → w.cell? ⟨b, off + j, none⟩ = some (.int .u8 (l.getD j 0)))
theorem BytesAt.below {w w' : World} {v : Value} {l : List Int} (h : BytesAt w v l) (hb : Below w.heap.size w w') : BytesAt w' v l := by
  obtain ⟨A, c, rfl, hl, hy, hc⟩ := h
  refine ⟨A, c, rfl, hl, hy, fun h0 => ?_⟩
  obtain ⟨b, off, rfl, hlt, hj⟩ := hc h0
  exact ⟨b, off, rfl, Nat.lt_of_lt_of_le hlt hb.size, fun j hjl => (hb.cell (p := ⟨b, off + j, none⟩) hlt).trans (hj j hjl)⟩
theorem OwnB.read {w : World} {lo : Nat} {v : Value} {l : List Int} (h : OwnB w lo v l) (hl : l.length ≤ 140737488351232) (hy : ∀ x ∈ l, 0 ≤ x ∧ x ≤ 255) : BytesAt w v l := by
  by_cases h0 : 0 < l.length
  · obtain ⟨g, cap, rfl, hlo, hlt, _, hc, _⟩ := ownsRow_at h h0
    refine ⟨_, cap, rfl, hl, hy, fun _ => ⟨g, 0, rfl, hlt, fun j hj => ?_⟩⟩
    rw [Nat.zero_add, hc j hj]
    simp [List.getD, hj]
  · obtain ⟨A, c, rfl⟩ := h.shape
    exact ⟨A, c, rfl, hl, hy, fun h => absurd h h0⟩
theorem OwnB.made4 {w : World} {a b c d : Int} : OwnB (w.alloc (.cells #[.int .u8 a, .int .u8 b, .int .u8 c, .int .u8 d] 5)) w.heap.size (.slice (some ⟨w.heap.size, 0, none⟩) 4 4) [a, b, c, d] :=
  ⟨by simp, Or.inr ⟨w.heap.size, 4, _, rfl, Nat.le_refl _, Go.Deep.blk_alloc_new _ _, by simp, by unfold maxLen; omega, by simp, by simp⟩⟩

set_option maxHeartbeats 1000000 in
theorem sum_any (v : Value) (l : List Int) (w : World) (h : BytesAt w v l) :
    Calls Tryd.prog 54 #[v] w fun e w' => ∃ g, e = .returned (.slice (some ⟨g, 0, none⟩) 4 4) ∧ OwnB w' w.heap.size (.slice (some ⟨g, 0, none⟩) 4 4) (sumB l) ∧ Below w.heap.size w w' := by
  obtain ⟨A, c, rfl, hl, hy, hc⟩ := h
  go_enter Tryd.func54, Tryd.ntmps54
  go_wp2
  go_loopw [3, 4, 9] (fun x y i wr => ∃ k : Nat, k ≤ l.length ∧ i = .int .i64 k ∧ x = .int .i64 (sumP (l.take k)).1 ∧ y = .int .i64 (sumP (l.take k)).2 ∧ wr = w) (fun _ _ i _ => l.length - (intOf i).toNat)
  case atStart => exact ⟨0, Nat.zero_le _, rfl, rfl, rfl, rfl⟩
  case round =>
    obtain ⟨k, hk, rfl, rfl, rfl, hw⟩ := hrel
    subst wr
    have hbd := sumP_bd (l.take k)
    by_cases hlt : k < l.length
    · obtain ⟨b, off, rfl, hbs, hcell⟩ := hc (by omega)
      have h1 := hcell k hlt
      have hx := hy (l.getD k 0) (by simp [List.getD, hlt])
      have HS : Hid (sumP (l.take (k + 1)) = sumStep (sumP (l.take k)) (l.getD k 0)) := by show _ = _; rw [take_snoc l k hlt, sumP_snoc]
      clear hcell hc hy
      revert h1 hx HS hbd
      generalize l.getD k 0 = xb
      generalize hs1 : (sumP (l.take k)).1 = s1
      generalize hs2 : (sumP (l.take k)).2 = s2
      intro hbd h1 hx HS
      have HT : Hid (sumP (l.take (k + 1)) = ((s1 + xb) % 65521, (s2 + (s1 + xb) % 65521) % 65521)) := by
        show _ = _
        rw [HS.out]
        simp only [sumStep, hs1, hs2]
      clear HS hs1 hs2
      have hw0 : IntKind.i64.wrap xb = xb := IntWalk.i64_in _ (by omega)
      have hw1 : IntKind.i64.wrap (s1 + xb) = s1 + xb := IntWalk.i64_in _ (by omega)
      have hm1 : Int.tmod (s1 + xb) 65521 = (s1 + xb) % 65521 := Int.tmod_eq_emod_of_nonneg (by omega)
      have hw2 : IntKind.i64.wrap (s2 + (s1 + xb) % 65521) = s2 + (s1 + xb) % 65521 := IntWalk.i64_in _ (by omega)
      have hm2 : Int.tmod (s2 + (s1 + xb) % 65521) 65521 = (s2 + (s1 + xb) % 65521) % 65521 := Int.tmod_eq_emod_of_nonneg (by omega)
      go_wp2
      refine ⟨⟨k + 1, by omega, by go_num, by rw [HT.out], by rw [HT.out]; simp, trivial⟩, ?_⟩
      simp [intOf]; omega
    · have hT : l.take k = l := List.take_of_length_le (by omega)
      rw [hT] at hbd ⊢
      have HB : Hid (sumB l = [(sumP l).2 / 256, (sumP l).2 % 256, (sumP l).1 / 256, (sumP l).1 % 256]) := rfl
      clear hc hT hy
      revert hbd HB
      generalize (sumP l).1 = s1
      generalize (sumP l).2 = s2
      intro hbd HB
      have hd1 : Int.tdiv s1 256 = s1 / 256 := Int.tdiv_eq_ediv_of_nonneg (by omega)
      have hd2 : Int.tdiv s2 256 = s2 / 256 := Int.tdiv_eq_ediv_of_nonneg (by omega)
      have hm1 : Int.tmod s1 256 = s1 % 256 := Int.tmod_eq_emod_of_nonneg (by omega)
      have hm2 : Int.tmod s2 256 = s2 % 256 := Int.tmod_eq_emod_of_nonneg (by omega)
      have hw1 : IntKind.u8.wrap (s1 / 256) = s1 / 256 := IntWalk.u8_in _ (by omega)
      have hw2 : IntKind.u8.wrap (s2 / 256) = s2 / 256 := IntWalk.u8_in _ (by omega)
      have hw3 : IntKind.u8.wrap (s1 % 256) = s1 % 256 := IntWalk.u8_in _ (by omega)
      have hw4 : IntKind.u8.wrap (s2 % 256) = s2 % 256 := IntWalk.u8_in _ (by omega)
      go_wp2
      go_ret
      exact ⟨_, rfl, HB.out ▸ OwnB.made4, below_alloc _ _⟩

end Go.Proofs.YtecpblabaelopaaDoor

/- Contracts of evlog.outside, of the closure that it makes, and of what is no word. -/

namespace Go.Proofs.YtecpblabaelopaaDoor
open Go.RowKit
set_option maxRecDepth 100000

/-- A closure that finds what is not from lo to hi. -/
abbrev cloE (p q : Nat) : Value := .func (.func 91) #[] #[.pointer (some ⟨p, 0, none⟩), .pointer (some ⟨q, 0, none⟩)]
/-- What such a closure holds. -/
structure CloAtE (w : World) (p q : Nat) (lo hi : Int) : Prop where
  c1 : w.cell? ⟨p, 0, none⟩ = some (.int .i64 lo)
  c2 : w.cell? ⟨q, 0, none⟩ = some (.int .i64 hi)
  l1 : p < w.heap.size
  l2 : q < w.heap.size
theorem CloAtE.below {w w' : World} {p q : Nat} {lo hi : Int} (h : CloAtE w p q lo hi) (hb : Below w.heap.size w w') : CloAtE w' p q lo hi :=
  ⟨(hb.cell (p := ⟨p, 0, none⟩) h.l1).trans h.c1, (hb.cell (p := ⟨q, 0, none⟩) h.l2).trans h.c2, Nat.lt_of_lt_of_le h.l1 hb.size, Nat.lt_of_lt_of_le h.l2 hb.size⟩
theorem CloAtE.drew {w : World} {p q : Nat} {lo hi : Int} (h : CloAtE w p q lo hi) : CloAtE w.drew p q lo hi := h.below ((Below.refl _ w).drew)

theorem one_cellE {w : World} {b : Nat} {x : Value} {t : TypeId} (h : w.heap[b]? = some (.cells #[x] t (0, 0))) : w.cell? ⟨b, 0, none⟩ = some x := by simp [World.cell?, h]

theorem outsideE_any (lo hi : Int) (w : World) : Calls Tryd.prog 86 #[.int .i64 lo, .int .i64 hi] w fun e w' => ∃ p q, e = .returned (cloE p q) ∧ CloAtE w' p q lo hi ∧ Below w.heap.size w w' := by
  go_enter Tryd.func86, Tryd.ntmps86
  go_wp2
  go_ret
  obtain ⟨b0, b1, b2⟩ := two_boxes (Below.refl ((w.alloc (.cells #[.int .i64 lo] 3)).alloc (.cells #[.int .i64 hi] 3)).heap.size ((w.alloc (.cells #[.int .i64 lo] 3)).alloc (.cells #[.int .i64 hi] 3)))
  exact ⟨_, _, rfl, ⟨one_cellE b0, one_cellE b1, by simp; omega, by simp⟩, b2⟩

theorem cloE_any (x lo hi : Int) (p q : Nat) (w : World) (h : CloAtE w p q lo hi) :
    Calls Tryd.prog 91 #[.int .i64 x, .pointer (some ⟨p, 0, none⟩), .pointer (some ⟨q, 0, none⟩)] w fun e w' => e = .returned (.bool (!inB x lo hi)) ∧ w' = w := by
  obtain ⟨c1, c2, -, -⟩ := h
  by_cases h1 : x < lo
  · have hI : (!inB x lo hi) = true := by simp [inB]; omega
    rw [hI]
    go_enter Tryd.func91, Tryd.ntmps91
    go_wp2
    go_ret
    exact ⟨rfl, rfl⟩
  · by_cases h2 : hi < x
    · have hI : (!inB x lo hi) = true := by simp [inB]; omega
      rw [hI]
      go_enter Tryd.func91, Tryd.ntmps91
      go_wp2
      go_ret
      exact ⟨rfl, rfl⟩
    · have hI : (!inB x lo hi) = false := by simp [inB]; omega
      rw [hI]
      go_enter Tryd.func91, Tryd.ntmps91
      go_wp2
      go_ret
      exact ⟨rfl, rfl⟩

theorem word_cloE (x : Int) (p q : Nat) (w : World) (h : CloAtE w p q (-1099511627776) 1099511627776) :
    Calls Tryd.prog 91 #[.int .i64 x, .pointer (some ⟨p, 0, none⟩), .pointer (some ⟨q, 0, none⟩)] w fun e w' => e = .returned (.bool (!wordB x)) ∧ w' = w := cloE_any x _ _ p q w h

set_option maxHeartbeats 400000 in
theorem IndexFuncE_word (v : Value) (l : List Int) (p q : Nat) (w : World) (h : IntsAt w v l) (hq : CloAtE w p q (-1099511627776) 1099511627776) :
    Calls Tryd.prog 73 #[v, cloE p q] w fun e w' => ∃ r : Int, e = .returned (.int .i64 r) ∧ decide (0 ≤ r) = !allB l ∧ w' = w := by
  obtain ⟨A, c, rfl, hl, hc⟩ := h
  have HQ : Hid (CloAtE w p q (-1099511627776) 1099511627776) := hq
  clear hq
  go_enter Tryd.func73, Tryd.ntmps73
  go_wp2
  go_loopw [8] (fun i wr => ∃ k : Nat, k ≤ l.length ∧ i = .int .i64 k ∧ Hid (∀ i, i < k → wordB (l.getD i 0) = true) ∧ wr = w) (fun i _ => l.length - (intOf i).toNat)
  case atStart => exact ⟨0, Nat.zero_le _, rfl, fun i hi => absurd hi (Nat.not_lt_zero _), rfl⟩
  case round =>
    obtain ⟨k, hk, rfl, ht, hw⟩ := hrel
    subst wr
    by_cases hlt : k < l.length
    · obtain ⟨b, off, rfl, hbs, hcell⟩ := hc (by omega)
      have h1 := hcell k hlt
      cases hw : wordB (l.getD k 0) with
      | false =>
        have HN : Hid (true = !allB l) := by show _ = _; rw [allB_no hlt hw]; rfl
        clear hcell hc
        revert h1 hw
        generalize l.getD k 0 = x
        intro h1 hw
        go_wp2_with (go_at_call 91; refine (word_cloE _ p q _ HQ.out).mono ?_; rintro e w' ⟨rfl, rfl⟩)
        go_ret
        exact ⟨k, rfl, by rw [← HN.out]; simp, rfl⟩
      | true =>
        have HN : Hid (∀ i, i < k + 1 → wordB (l.getD i 0) = true) := allB_step ht.out hw
        clear hcell hc
        revert h1 hw
        generalize l.getD k 0 = x
        intro h1 hw
        go_wp2_with (go_at_call 91; refine (word_cloE _ p q _ HQ.out).mono ?_; rintro e w' ⟨rfl, rfl⟩)
        refine ⟨⟨k + 1, by omega, by go_num, HN, trivial⟩, ?_⟩
        simp [intOf]; omega
    · have HN : Hid (false = !allB l) := by show _ = _; rw [allB_iff.2 fun i hi => ht.out i (by omega)]; rfl
      clear hc
      go_wp2
      go_ret
      exact ⟨-1, rfl, by rw [← HN.out]; rfl, rfl⟩

theorem ContainsFuncE_word (v : Value) (l : List Int) (p q : Nat) (w : World) (h : IntsAt w v l) (hq : CloAtE w p q (-1099511627776) 1099511627776) :
    Calls Tryd.prog 44 #[v, cloE p q] w fun e w' => e = .returned (.bool (!allB l)) ∧ w' = w := by
  go_enter Tryd.func44, Tryd.ntmps44
  go_wp2_with (go_at_call 73; refine (IndexFuncE_word v l p q _ h hq).mono ?_; rintro e w' ⟨r, rfl, hr, rfl⟩)
  go_ret
  exact ⟨rfl, rfl⟩

end Go.Proofs.YtecpblabaelopaaDoor
