/- Contract of sameInts: it tells whether two lists of numbers are the same. -/
import Derived.Test.YtlcdefpdahjjeagDoorRepPPart
import Derived.Test.YtlcdefpdahjjeagDoorGuestPart
namespace Go.Proofs.YtlcdefpdahjjeagDoor
open Go.RowKit
set_option maxRecDepth 100000

theorem take_eq_step {la lb : List Int} {k : Nat} (ha : k < la.length) (hb : k < lb.length) (h : la.take k = lb.take k) (e : la.getD k 0 = lb.getD k 0) : la.take (k + 1) = lb.take (k + 1) := by
  rw [List.take_succ_eq_append_getElem ha, List.take_succ_eq_append_getElem hb, h]
  simp [List.getD, ha, hb] at e
  rw [e]

theorem eq_of_take {la lb : List Int} {k : Nat} (hl : la.length = lb.length) (hk : ¬ k < la.length) (h : la.take k = lb.take k) : la = lb := by
  rw [List.take_of_length_le (by omega), List.take_of_length_le (by omega)] at h
  exact h

set_option maxHeartbeats 400000 in
theorem sameInts_any (va vb : Value) (la lb : List Int) (w : World) (ha : IntsAt w va la) (hb : IntsAt w vb lb) :
    Calls Tryd.prog 40 #[va, vb] w fun e w' => e = .returned (.bool (decide (la = lb))) ∧ ∃ n, w' = w.drewN n := by
  obtain ⟨A, ca, rfl, hla, hca⟩ := ha
  obtain ⟨B, cb, rfl, hlb, hcb⟩ := hb
  by_cases hlen : la.length = lb.length
  · have hl1 : (((la.length : Int)) != (lb.length : Int)) = false := by simp [hlen]
    have HL : Hid (la.length = lb.length) := hlen
    have hle1 : la.length ≤ lb.length := by omega
    have hle2 : lb.length ≤ la.length := by omega
    clear hlen
    go_enter Tryd.func40, Tryd.ntmps40
    go_wp2
    go_loopw [5] (fun i wr => ∃ k : Nat, k ≤ la.length ∧ i = .int .i64 k ∧ Hid (la.take k = lb.take k) ∧ ∃ n, wr = w.drewN n) (fun i _ => la.length - (intOf i).toNat)
    case atStart => exact ⟨0, Nat.zero_le _, rfl, by simp [Hid], 0, rfl⟩
    case round =>
      obtain ⟨k, hk, rfl, ht, n, rfl⟩ := hrel
      by_cases hlt : k < la.length
      · obtain ⟨b, off, rfl, hbs, hcell⟩ := hca (by omega)
        obtain ⟨b', off', rfl, hbs', hcell'⟩ := hcb (by omega)
        have h1 := hcell k hlt
        have h2 := hcell' k (by omega)
        clear hcell hcell' hca hcb
        have hx : Hid (la.getD k 0 = la.getD k 0) := rfl
        have hy : Hid (lb.getD k 0 = lb.getD k 0) := rfl
        revert h1 h2 hx hy
        generalize hgx : la.getD k 0 = x
        generalize hgy : lb.getD k 0 = y
        intro h1 h2 _ _
        have HX : Hid (la.getD k 0 = x) := hgx
        have HY : Hid (lb.getD k 0 = y) := hgy
        clear hgx hgy
        by_cases he : x = y
        · subst he
          go_wp2
          go_quiet (fail)
          go_wp2
          refine ⟨⟨k + 1, by omega, by go_num, take_eq_step (by omega) (by omega) ht.out (HX.out.trans HY.out.symm), _, rfl⟩, ?_⟩
          simp [intOf]; omega
        · have hne : (x != y) = true := by simp [he]
          have HE : Hid (x ≠ y) := he
          clear he
          go_wp2
          go_quiet (fail)
          go_wp2
          go_ret
          refine ⟨?_, drewN_two _ _ _⟩
          have : la ≠ lb := fun h => HE.out (by rw [← HX.out, ← HY.out, h])
          simp [this]
      · clear hca hcb
        go_wp2
        go_ret
        refine ⟨?_, _, rfl⟩
        simp [eq_of_take HL.out hlt ht.out]
  · have hl1 : (((la.length : Int)) != (lb.length : Int)) = true := by simp; omega
    have HL : Hid (la ≠ lb) := fun h => hlen (by rw [h])
    clear hlen
    go_enter Tryd.func40, Tryd.ntmps40
    go_wp2
    go_ret
    refine ⟨?_, 0, rfl⟩
    have := HL.out
    simp [this]

end Go.Proofs.YtlcdefpdahjjeagDoor

/- Contract of sameMachine: two guests that are the same. -/

namespace Go.Proofs.YtlcdefpdahjjeagDoor
open Go.RowKit

theorem sameInts_same (va vb : Value) (l : List Int) (w : World) (ha : IntsAt w va l) (hb : IntsAt w vb l) :
    Calls Tryd.prog 40 #[va, vb] w fun e w' => e = .returned (.bool true) ∧ ∃ n, w' = w.drewN n := by
  have := sameInts_any va vb l l w ha hb
  simpa using this

set_option maxHeartbeats 4000000 in
theorem sameMachine_same (m : Mach) (rv mv ov rv' mv' ov' : Value) (w : World) (ha : MachAt w rv mv ov m) (hb : MachAt w rv' mv' ov' m) :
    Calls Tryd.prog 12 #[.agg (m.cells rv mv ov), .agg (m.cells rv' mv' ov')] w fun e w' => e = .returned (.bool true) ∧ Below w.heap.size w w' := by
  obtain ⟨r, p, k, i, t, a, n, f, m, o, y, q⟩ := m
  have H1 : Hid (IntsAt w rv r) := ha.regs
  have H2 : Hid (IntsAt w mv m) := ha.mem
  have H3 : Hid (IntsAt w ov o) := ha.out
  have K1 : Hid (IntsAt w rv' r) := hb.regs
  have K2 : Hid (IntsAt w mv' m) := hb.mem
  have K3 : Hid (IntsAt w ov' o) := hb.out
  clear ha hb
  simp only [Mach.cells]
  go_enter Tryd.func12, Tryd.ntmps12
  go_wp2_with fail
  refine (sameInts_same rv rv' r _ (H1.out.below (below_alloc2 _ _ _)) (K1.out.below (below_alloc2 _ _ _))).mono ?_
  rintro e w' ⟨rfl, j1, rfl⟩
  clear H1 K1
  go_wp2_with fail
  refine (sameInts_same mv mv' m _ ((H2.out.below (below_alloc2 _ _ _)).drewN _) ((K2.out.below (below_alloc2 _ _ _)).drewN _)).mono ?_
  rintro e w' ⟨rfl, j2, rfl⟩
  clear H2 K2
  go_wp2_with fail
  refine (sameInts_same ov ov' o _ ((H3.out.below (below_alloc2 _ _ _)).drewN _) ((K3.out.below (below_alloc2 _ _ _)).drewN _)).mono ?_
  rintro e w' ⟨rfl, j3, rfl⟩
  clear H3 K3
  go_wp2_with fail
  go_ret
  exact ⟨rfl, below_drewN (below_alloc2 _ _ _) _⟩

end Go.Proofs.YtlcdefpdahjjeagDoor
