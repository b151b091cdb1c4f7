/- Contracts of bytes.Equal, evlog.withoutSum and evlog.Decode, where the sum is another one. -/
import Derived.Test.YtlcdefpdahjjeagDoorBySum
import Derived.Laws.BytesArg
import Derived.Deep.RegionLaw
import Derived.Laws.Strings
namespace Go.Proofs.YtlcdefpdahjjeagDoor
open Go.RowKit
set_option maxRecDepth 100000

theorem strOfNums_inj {l m : List Int} (hl : ∀ x ∈ l, 0 ≤ x ∧ x ≤ 255) (hm : ∀ x ∈ m, 0 ≤ x ∧ x ≤ 255) (h : strOfNums l = strOfNums m) : l = m := by
  have h1 : (l.map fun n => UInt8.ofNat n.toNat) = m.map fun n => UInt8.ofNat n.toNat := by
    rw [← strOfNums_data, ← strOfNums_data, h]
  induction l generalizing m with
  | nil => cases m with
    | nil => rfl
    | cons y m => simp at h1
  | cons x l ih => cases m with
    | nil => simp at h1
    | cons y m =>
      simp only [List.map_cons, List.cons.injEq] at h1
      have hx := hl x (by simp)
      have hy := hm y (by simp)
      have e : x = y := by
        have := congrArg UInt8.toNat h1.1
        simp [UInt8.toNat_ofNat'] at this
        omega
      subst e
      congr 1
      refine ih (fun z hz => hl z (List.mem_cons_of_mem _ hz)) (fun z hz => hm z (List.mem_cons_of_mem _ hz)) ?_ h1.2
      unfold strOfNums
      rw [h1.2]

theorem BytesAt.text {w : World} {v : Value} {l : List Int} (h : BytesAt w v l) (h0 : 0 < l.length) : (convert 26 9 v).run Tryd.prog w = .ok (.string (strOfNums l)) w := by
  obtain ⟨A, c, rfl, hl, hy, hc⟩ := h
  obtain ⟨b, off, rfl, hlt, hj⟩ := hc h0
  exact run_convert_bytes_arg w 26 5 Tryd.underlying26 Tryd.underlying5 b off l.length c l rfl hj 9 Tryd.underlying9

theorem Equal_any (v u : Value) (l m : List Int) (w : World) (h : BytesAt w v l) (k : BytesAt w u m) (hl : 0 < l.length) (hm : 0 < m.length) (eq : Bool) (he : eq = true ↔ l = m) :
    Calls Tryd.prog 108 #[v, u] w fun e w' => e = .returned (.bool eq) ∧ w' = w := by
  have t1 := h.text hl
  have t2 := k.text hm
  have hs : strOfNums l = strOfNums m ↔ l = m := ⟨fun e => by
    obtain ⟨_, _, _, _, hy, _⟩ := h
    obtain ⟨_, _, _, _, hz, _⟩ := k
    exact strOfNums_inj hy hz e, fun e => by rw [e]⟩
  rw [← hs] at he
  clear h k hs
  revert t1 t2 he
  generalize strOfNums l = s1
  generalize strOfNums m = s2
  intro he t1 t2
  have hd : (s1.toList == s2.toList) = eq := by
    rw [ByteArray.toList_eq, ByteArray.toList_eq]
    apply Bool.eq_iff_iff.2
    rw [he, beq_iff_eq]
    obtain ⟨⟨a⟩⟩ := s1
    obtain ⟨⟨b⟩⟩ := s2
    simp
  clear he
  go_enter Tryd.func108, Tryd.ntmps108
  go_wp2
  go_ret
  exact ⟨rfl, rfl⟩

theorem BytesAt.drop {w : World} {b off c : Nat} {l : List Int} (h : BytesAt w (.slice (some ⟨b, off, none⟩) l.length c) l) (k : Nat) (hk : k ≤ l.length) (c' : Nat) : BytesAt w (.slice (some ⟨b, off + k, none⟩) (l.length - k) c') (l.drop k) := by
  obtain ⟨A, c1, e, hl, hy, hc⟩ := h
  simp only [Value.slice.injEq] at e
  obtain ⟨rfl, -, rfl⟩ := e
  refine ⟨some ⟨b, off + k, none⟩, c', by simp, by simp; omega, fun x hx => hy x (List.mem_of_mem_drop hx), fun h0 => ?_⟩
  simp at h0
  obtain ⟨b', off', e, hlt, hj⟩ := hc (by omega)
  simp only [Option.some.injEq, Addr.mk.injEq] at e
  obtain ⟨rfl, rfl, -⟩ := e
  refine ⟨b, off + k, rfl, hlt, fun j hjl => ?_⟩
  simp at hjl
  rw [Nat.add_assoc, hj (k + j) (by omega)]
  simp [List.getD]
theorem BytesAt.take {w : World} {b off c : Nat} {l : List Int} (h : BytesAt w (.slice (some ⟨b, off, none⟩) l.length c) l) (k : Nat) (hk : k ≤ l.length) (c' : Nat) : BytesAt w (.slice (some ⟨b, off, none⟩) k c') (l.take k) := by
  obtain ⟨A, c1, e, hl, hy, hc⟩ := h
  simp only [Value.slice.injEq] at e
  obtain ⟨rfl, -, rfl⟩ := e
  refine ⟨some ⟨b, off, none⟩, c', by simp; omega, by simp; omega, fun x hx => hy x (List.mem_of_mem_take hx), fun h0 => ?_⟩
  simp at h0
  obtain ⟨b', off', e, hlt, hj⟩ := hc (by omega)
  simp only [Option.some.injEq, Addr.mk.injEq] at e
  obtain ⟨rfl, rfl, -⟩ := e
  refine ⟨b, off, rfl, hlt, fun j hjl => ?_⟩
  simp at hjl
  have hjk : j < k := by omega
  rw [hj j (by omega)]
  simp [List.getD, hjk]

theorem withoutSum_size (A : Option Addr) (n c : Nat) (w : World) (h6 : 60000 < n) (h7 : n ≤ 140737488351232) :
    Calls Tryd.prog 74 #[.slice A n c] w fun e w' => e = .returned (.tuple #[.slice none 0 0, .int .i64 1]) ∧ w' = w := by
  have g1 : (60000 : Int) < (n : Int) := by omega
  clear h6
  go_enter Tryd.func74, Tryd.ntmps74
  go_wp2_with fail
  go_ret2
  exact ⟨rfl, rfl⟩
theorem withoutSum_short (A : Option Addr) (n c : Nat) (w : World) (h6 : n ≤ 4) :
    Calls Tryd.prog 74 #[.slice A n c] w fun e w' => e = .returned (.tuple #[.slice none 0 0, .int .i64 5]) ∧ w' = w := by
  have g1 : ¬ (60000 : Int) < (n : Int) := by omega
  have g2 : (n : Int) ≤ 4 := by omega
  clear h6
  go_enter Tryd.func74, Tryd.ntmps74
  go_wp2_with fail
  go_ret2
  exact ⟨rfl, rfl⟩

set_option maxRecDepth 20000 in
set_option maxHeartbeats 2000000 in
theorem withoutSum_sum (b off c : Nat) (l : List Int) (w : World) (h : BytesAt w (.slice (some ⟨b, off, none⟩) l.length c) l) (hcap : l.length ≤ c) (h5 : 4 < l.length) (h6 : l.length ≤ 60000) (eq : Bool) (heq : eq = true ↔ l.drop (l.length - 4) = sumB (l.take (l.length - 4))) :
    Calls Tryd.prog 74 #[.slice (some ⟨b, off, none⟩) l.length c] w fun e w' => e = .returned (if eq then .tuple #[.slice (some ⟨b, off, none⟩) (l.length - 4) c, .int .i64 0] else .tuple #[.slice none 0 0, .int .i64 10]) ∧ Below w.heap.size w w' := by
  have HS : Hid (∀ W, Below w.heap.size w W → Calls Tryd.prog 65 #[.slice (some ⟨b, off, none⟩) (l.length - 4) c] W fun e w' => ∃ g, e = .returned (.slice (some ⟨g, 0, none⟩) 4 4) ∧ OwnB w' W.heap.size (.slice (some ⟨g, 0, none⟩) 4 4) (sumB (l.take (l.length - 4))) ∧ Below W.heap.size W w') := fun W hb => sum_any _ (l.take (l.length - 4)) W ((h.below hb).take (l.length - 4) (by omega) c)
  have HQ : Hid (∀ W g lo, Below w.heap.size w W → OwnB W lo (.slice (some ⟨g, 0, none⟩) 4 4) (sumB (l.take (l.length - 4))) → Calls Tryd.prog 108 #[.slice (some ⟨b, off + (l.length - 4), none⟩) 4 (c - (l.length - 4)), .slice (some ⟨g, 0, none⟩) 4 4] W fun e w' => e = .returned (.bool eq) ∧ w' = W) := fun W g lo hb ho => by
    have h1 := (h.below hb).drop (l.length - 4) (by omega) (c - (l.length - 4))
    rw [show l.length - (l.length - 4) = 4 by omega] at h1
    exact Equal_any _ _ _ _ W h1 (ho.read (by simp [sumB]) (sumB_byte _)) (by simp; omega) (by simp [sumB]) eq heq
  obtain ⟨n, hn⟩ : ∃ n, n = l.length - 4 := ⟨_, rfl⟩
  rw [← hn] at HS HQ ⊢
  obtain ⟨m, hm⟩ : ∃ m, m = l.length := ⟨_, rfl⟩
  rw [← hm] at h5 h6 hcap hn ⊢
  clear h heq hm
  have g1 : ¬ (60000 : Int) < (m : Int) := by omega
  have g2 : ¬ (m : Int) ≤ 4 := by omega
  have g3 : IntKind.i64.wrap ((m : Int) - 4) = (n : Int) := by rw [IntWalk.i64_in _ (by omega)]; omega
  have g4 : (n : Int) ≤ c := by omega
  have g5 : (n : Int) ≤ m := by omega
  have g6 : (m : Int) ≤ c := by omega
  have g7 : m - n = 4 := by omega
  have hc1 : ¬ c = n := by omega
  have hc2 : ¬ c - n = 0 := by omega
  clear hn h5 h6
  go_enter Tryd.func74, Tryd.ntmps74
  go_wp2_with fail
  go_region_law
    (first
      | (go_simp; go_at_call 65; refine (HS.out _ ((Below.refl _ w).drew)).mono ?_; rintro e w2 ⟨g, rfl, ho, hb⟩; have HB2 : Hid (Below w.heap.size w w2) := ((Below.refl _ w).drew).trans hb; have HO2 : Hid (OwnB w2 _ _ _) := ho; clear ho hb)
      | (go_simp; go_at_call 108; refine (HQ.out _ _ _ HB2.out HO2.out).mono ?_; rintro e w3 ⟨rfl, rfl⟩))
  cases eq
  · go_wp2_with fail
    go_ret2
    exact ⟨rfl, HB2.out⟩
  · go_wp2_with fail
    go_ret2
    exact ⟨rfl, HB2.out⟩

/-- Where the bytes' size or sum is wrong. -/
theorem Decode_early (v : Value) (en : Int) (w : World) (hen : en ≠ 0) (H : Calls Tryd.prog 74 #[v] w fun e w' => e = .returned (.tuple #[.slice none 0 0, .int .i64 en]) ∧ Below w.heap.size w w') :
    Calls Tryd.prog 41 #[v] w fun e w' => e = .returned (.tuple #[.slice none 0 0, .int .i64 en]) ∧ Below w.heap.size w w' := by
  have HF : Hid (Calls Tryd.prog 74 #[v] w fun e w' => e = .returned (.tuple #[.slice none 0 0, .int .i64 en]) ∧ Below w.heap.size w w') := H
  have hen' : (en == 0) = false := by simpa using hen
  clear H
  go_enter Tryd.func41, Tryd.ntmps41
  go_wp2_with fail
  refine HF.out.mono ?_
  rintro e w' ⟨rfl, hb⟩
  have HB : Hid (Below w.heap.size w w') := hb
  clear hb
  go_wp2_with fail
  go_ret2
  exact ⟨rfl, HB.out⟩

end Go.Proofs.YtlcdefpdahjjeagDoor
