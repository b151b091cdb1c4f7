/- Contract of In: is a number from low to high; and laws on callees met in a region that draws. -/
import Derived.Test.YtecpblabaelopaaGreatDoorBasePart
import Derived.Still
import Derived.OrdersHeld
import Derived.Deep.RegionHeld3
import Derived.Test.YtecpblabaelopaaGreatDoorHoNPart
namespace Go.Proofs.YtecpblabaelopaaGreatDoor
open Go.RowKit
set_option maxRecDepth 100000
set_option linter.unusedVariables false

end Go.Proofs.YtecpblabaelopaaGreatDoor

/- A region that draws its order: two operations that only look, side by side. -/

namespace Go.Proofs.YtecpblabaelopaaGreatDoor
open Go.RowKit

theorem op_at0 {o0 : Oper} {l : List Oper} : (List.toArray (o0 :: l))[0]? = some o0 := rfl
theorem op_at1 {o0 o1 : Oper} {l : List Oper} : (List.toArray (o0 :: o1 :: l))[1]? = some o1 := rfl
theorem op_at2 {o0 o1 o2 : Oper} {l : List Oper} : (List.toArray (o0 :: o1 :: o2 :: l))[2]? = some o2 := rfl
theorem op_at3 {o0 o1 o2 o3 : Oper} {l : List Oper} : (List.toArray (o0 :: o1 :: o2 :: o3 :: l))[3]? = some o3 := rfl
theorem op_at4 {o0 o1 o2 o3 o4 : Oper} {l : List Oper} : (List.toArray (o0 :: o1 :: o2 :: o3 :: o4 :: l))[4]? = some o4 := rfl
theorem op_at5 {o0 o1 o2 o3 o4 o5 : Oper} {l : List Oper} : (List.toArray (o0 :: o1 :: o2 :: o3 :: o4 :: o5 :: l))[5]? = some o5 := rfl
theorem op_at6 {o0 o1 o2 o3 o4 o5 o6 : Oper} {l : List Oper} : (List.toArray (o0 :: o1 :: o2 :: o3 :: o4 :: o5 :: o6 :: l))[6]? = some o6 := rfl
theorem op_at7 {o0 o1 o2 o3 o4 o5 o6 o7 : Oper} {l : List Oper} : (List.toArray (o0 :: o1 :: o2 :: o3 :: o4 :: o5 :: o6 :: o7 :: l))[7]? = some o7 := rfl
theorem op_at8 {o0 o1 o2 o3 o4 o5 o6 o7 o8 : Oper} {l : List Oper} : (List.toArray (o0 :: o1 :: o2 :: o3 :: o4 :: o5 :: o6 :: o7 :: o8 :: l))[8]? = some o8 := rfl
theorem op_at9 {o0 o1 o2 o3 o4 o5 o6 o7 o8 o9 : Oper} {l : List Oper} : (List.toArray (o0 :: o1 :: o2 :: o3 :: o4 :: o5 :: o6 :: o7 :: o8 :: o9 :: l))[9]? = some o9 := rfl
theorem op_at10 {o0 o1 o2 o3 o4 o5 o6 o7 o8 o9 o10 : Oper} {l : List Oper} : (List.toArray (o0 :: o1 :: o2 :: o3 :: o4 :: o5 :: o6 :: o7 :: o8 :: o9 :: o10 :: l))[10]? = some o10 := rfl
theorem op_at11 {o0 o1 o2 o3 o4 o5 o6 o7 o8 o9 o10 o11 : Oper} {l : List Oper} : (List.toArray (o0 :: o1 :: o2 :: o3 :: o4 :: o5 :: o6 :: o7 :: o8 :: o9 :: o10 :: o11 :: l))[11]? = some o11 := rfl
theorem op_at12 {o0 o1 o2 o3 o4 o5 o6 o7 o8 o9 o10 o11 o12 : Oper} {l : List Oper} : (List.toArray (o0 :: o1 :: o2 :: o3 :: o4 :: o5 :: o6 :: o7 :: o8 :: o9 :: o10 :: o11 :: o12 :: l))[12]? = some o12 := rfl
theorem op_at13 {o0 o1 o2 o3 o4 o5 o6 o7 o8 o9 o10 o11 o12 o13 : Oper} {l : List Oper} : (List.toArray (o0 :: o1 :: o2 :: o3 :: o4 :: o5 :: o6 :: o7 :: o8 :: o9 :: o10 :: o11 :: o12 :: o13 :: l))[13]? = some o13 := rfl
theorem op_at14 {o0 o1 o2 o3 o4 o5 o6 o7 o8 o9 o10 o11 o12 o13 o14 : Oper} {l : List Oper} : (List.toArray (o0 :: o1 :: o2 :: o3 :: o4 :: o5 :: o6 :: o7 :: o8 :: o9 :: o10 :: o11 :: o12 :: o13 :: o14 :: l))[14]? = some o14 := rfl
theorem op_at15 {o0 o1 o2 o3 o4 o5 o6 o7 o8 o9 o10 o11 o12 o13 o14 o15 : Oper} {l : List Oper} : (List.toArray (o0 :: o1 :: o2 :: o3 :: o4 :: o5 :: o6 :: o7 :: o8 :: o9 :: o10 :: o11 :: o12 :: o13 :: o14 :: o15 :: l))[15]? = some o15 := rfl
end Go.Proofs.YtecpblabaelopaaGreatDoor

/- Contracts of deck.Check and of the document's SetupFault. -/

namespace Go.Proofs.YtecpblabaelopaaGreatDoor
open Go.RowKit
set_option maxRecDepth 100000

def setupNo (f e k : Int) : Int := if inB f 0 200 && inB e 1 3000 && inB k 1 8 then 0 else 2
theorem box3 {w : World} {b : Nat} {x0 x1 x2 : Value} {t : TypeId} (h : w.heap[b]? = some (.cells #[x0, x1, x2] t (0, 0))) :
    w.cell? ⟨b, 0, none⟩ = some x0 ∧ w.cell? ⟨b, 1, none⟩ = some x1 ∧ w.cell? ⟨b, 2, none⟩ = some x2 ∧ (∀ j, w.frozen? ⟨b, j, none⟩ = false) ∧ b < w.heap.size :=
  ⟨by simp [World.cell?, h], by simp [World.cell?, h], by simp [World.cell?, h], fun j => by simp [World.frozen?, h], lt_of_block h⟩

set_option maxHeartbeats 2000000 in
theorem DeckCheck_any (f e k : Int) (w : World) : Calls Tryz.prog 62 #[.agg #[.int .i64 f, .int .i64 e, .int .i64 k]] w fun r w' => r = .returned (.int .i64 (setupNo f e k)) ∧ Below w.heap.size w w' := by
  obtain ⟨W, hW⟩ : ∃ W, W = w.alloc (.cells #[.int .i64 f, .int .i64 e, .int .i64 k] 23) := ⟨_, rfl⟩
  have HX : Hid (W.heap[w.heap.size]? = some (.cells #[.int .i64 f, .int .i64 e, .int .i64 k] 23 (0, 0)) ∧ Below w.heap.size w W) := by
    rw [hW]; exact ⟨Go.Deep.blk_alloc_new _ _, below_alloc _ _⟩
  have HW : Hid (W = w.alloc (.cells #[.int .i64 f, .int .i64 e, .int .i64 k] 23)) := hW
  clear hW
  obtain ⟨N, hN⟩ : ∃ N, N = setupNo f e k := ⟨_, rfl⟩
  have HN : Hid (N = setupNo f e k) := hN
  rw [← hN]
  clear hN
  obtain ⟨z0, z1, z2, zf, zl⟩ := box3 HX.out.1
  have HB0 : Hid (True ∧ Below w.heap.size w W) := ⟨trivial, HX.out.2⟩
  clear HX zf
  cases a1 : inB f 0 200 with
  | false =>
    have HE : Hid (N = 2) := by show _ = _; rw [HN.out]; simp [setupNo, a1]
    go_enter Tryz.func62, Tryz.ntmps62
    go_wp2_with fail
    rw [← HW.out]
    clear HW HN
    refine wp_region_held_drew (S := fun w' => w'.cell? ⟨w.heap.size, 0, none⟩ = some (.int .i64 f) ∧ w'.cell? ⟨w.heap.size, 1, none⟩ = some (.int .i64 e) ∧ w'.cell? ⟨w.heap.size, 2, none⟩ = some (.int .i64 k)) (by kernel_rfl) ⟨z0, z1, z2⟩ (fun hHeld => ?_)
    refine wpAnyH_take (i := 1) (v := ?va_1) op_at1 (by kernel_rfl) (by kernel_rfl) (by kernel_rfl) (fun _ _ _ h => h) (Or.inl ⟨by rfl, ?ya_1⟩) hHeld ?ra_1
    case ya_1 => (intro w hSw; (try dsimp only at hSw); go_simp; (try with_reducible rfl))
    (try simp only [Act.put, List.setIfInBounds_toArray, List.set_cons_zero, List.set_cons_succ])
    refine wpAnyH_take (i := 2) (v := ?va_2) op_at2 (by kernel_rfl) (by kernel_rfl) (by kernel_rfl) (fun _ _ _ h => h) (Or.inl ⟨by rfl, ?ya_2⟩) hHeld ?ra_2
    case ya_2 => (intro w hSw; (try dsimp only at hSw); go_simp; (try with_reducible rfl))
    (try simp only [Act.put, List.setIfInBounds_toArray, List.set_cons_zero, List.set_cons_succ])
    refine wpAnyH_ready (rs := [0]) (by kernel_rfl) (by simp) (AllReadyH.cons op_at0 (fun K hK => ?ca_0) AllReadyH.nil)
    go_simp
    refine (outsideD_any _ _ _).mono ?_
    rintro e' w1 ⟨p1, q1, rfl, hc, hb⟩
    have hb' : Below W.heap.size W w1 := (by first | exact ((Below.refl _ W).drew).trans hb | exact hb)
    have HC1 : Hid (CloAtD w1 p1 q1 0 200 ∧ Below w.heap.size w w1) := ⟨hc, HB0.out.2.trans (hb'.mono HB0.out.2.size)⟩
    have HB1 : Hid (True ∧ Below w.heap.size w w1) := ⟨trivial, HC1.out.2⟩
    have hl1 := Nat.lt_of_lt_of_le zl hb'.size
    have n0 := (hb'.cell (p := ⟨w.heap.size, 0, none⟩) zl).trans z0
    have n1 := (hb'.cell (p := ⟨w.heap.size, 1, none⟩) zl).trans z1
    have n2 := (hb'.cell (p := ⟨w.heap.size, 2, none⟩) zl).trans z2
    clear z0 z1 z2 zl hc hb hb'
    have z0 := n0
    have z1 := n1
    have z2 := n2
    have zl := hl1
    clear n0 n1 n2 hl1
    dsimp only
    refine hK.out _ _ ⟨z0, z1, z2⟩ (fun hHeld2 => ?_)
    clear hK K hHeld
    have hHeld := hHeld2
    clear hHeld2
    (try simp only [Act.put, List.setIfInBounds_toArray, List.set_cons_zero, List.set_cons_succ])
    refine wpAnyH_ready (rs := [3]) (by kernel_rfl) (by simp) (AllReadyH.cons op_at3 (fun K hK => ?ca_3) AllReadyH.nil)
    go_simp
    refine (cloD_any f 0 200 p1 q1 _ HC1.out.1).mono ?_
    rw [a1]
    rintro e' w' ⟨rfl, hw'⟩
    rw [hw']
    clear hw' w'
    dsimp only
    refine hK.out _ _ ⟨z0, z1, z2⟩ (fun hHeld2 => ?_)
    clear hK K hHeld
    have hHeld := hHeld2
    clear hHeld2
    (try simp only [Act.put, List.setIfInBounds_toArray, List.set_cons_zero, List.set_cons_succ])
    refine wpAnyH_take (i := 4) (v := ?va_4) op_at4 (by kernel_rfl) (by kernel_rfl) (by kernel_rfl) (fun _ _ _ h => h) (Or.inl ⟨by rfl, ?ya_4⟩) hHeld ?ra_4
    case ya_4 => (intro w hSw; (try dsimp only at hSw); go_simp; (try with_reducible rfl))
    (try simp only [Act.put, List.setIfInBounds_toArray, List.set_cons_zero, List.set_cons_succ])
    refine wpAnyH_take (i := 5) (v := undef) op_at5 (by kernel_rfl) (by kernel_rfl) (by kernel_rfl) (fun _ _ _ h => h) (Or.inr ⟨by rfl, rfl⟩) hHeld ?ra_5
    (try simp only [Act.put, List.setIfInBounds_toArray, List.set_cons_zero, List.set_cons_succ])
    refine wpAnyH_take (i := 6) (v := undef) op_at6 (by kernel_rfl) (by kernel_rfl) (by kernel_rfl) (fun _ _ _ h => h) (Or.inr ⟨by rfl, rfl⟩) hHeld ?ra_6
    (try simp only [Act.put, List.setIfInBounds_toArray, List.set_cons_zero, List.set_cons_succ])
    refine wpAnyH_take (i := 7) (v := undef) op_at7 (by kernel_rfl) (by kernel_rfl) (by kernel_rfl) (fun _ _ _ h => h) (Or.inr ⟨by rfl, rfl⟩) hHeld ?ra_7
    (try simp only [Act.put, List.setIfInBounds_toArray, List.set_cons_zero, List.set_cons_succ])
    refine wpAnyH_take (i := 8) (v := undef) op_at8 (by kernel_rfl) (by kernel_rfl) (by kernel_rfl) (fun _ _ _ h => h) (Or.inr ⟨by rfl, rfl⟩) hHeld ?ra_8
    (try simp only [Act.put, List.setIfInBounds_toArray, List.set_cons_zero, List.set_cons_succ])
    refine wpAnyH_take (i := 9) (v := ?va_9) op_at9 (by kernel_rfl) (by kernel_rfl) (by kernel_rfl) (fun _ _ _ h => h) (Or.inl ⟨by rfl, ?ya_9⟩) hHeld ?ra_9
    case ya_9 => (intro w hSw; (try dsimp only at hSw); go_simp; (try with_reducible rfl))
    (try simp only [Act.put, List.setIfInBounds_toArray, List.set_cons_zero, List.set_cons_succ])
    refine wpAnyH_take (i := 10) (v := ?va_10) op_at10 (by kernel_rfl) (by kernel_rfl) (by kernel_rfl) (fun _ _ _ h => h) (Or.inl ⟨by rfl, ?ya_10⟩) hHeld ?ra_10
    case ya_10 => (intro w hSw; (try dsimp only at hSw); go_simp; (try with_reducible rfl))
    (try simp only [Act.put, List.setIfInBounds_toArray, List.set_cons_zero, List.set_cons_succ])
    refine wpAnyH_take (i := 11) (v := undef) op_at11 (by kernel_rfl) (by kernel_rfl) (by kernel_rfl) (fun _ _ _ h => h) (Or.inr ⟨by rfl, rfl⟩) hHeld ?ra_11
    (try simp only [Act.put, List.setIfInBounds_toArray, List.set_cons_zero, List.set_cons_succ])
    refine wpAnyH_take (i := 12) (v := undef) op_at12 (by kernel_rfl) (by kernel_rfl) (by kernel_rfl) (fun _ _ _ h => h) (Or.inr ⟨by rfl, rfl⟩) hHeld ?ra_12
    (try simp only [Act.put, List.setIfInBounds_toArray, List.set_cons_zero, List.set_cons_succ])
    refine wpAnyH_take (i := 13) (v := undef) op_at13 (by kernel_rfl) (by kernel_rfl) (by kernel_rfl) (fun _ _ _ h => h) (Or.inr ⟨by rfl, rfl⟩) hHeld ?ra_13
    (try simp only [Act.put, List.setIfInBounds_toArray, List.set_cons_zero, List.set_cons_succ])
    refine wpAnyH_take (i := 14) (v := undef) op_at14 (by kernel_rfl) (by kernel_rfl) (by kernel_rfl) (fun _ _ _ h => h) (Or.inr ⟨by rfl, rfl⟩) hHeld ?ra_14
    (try simp only [Act.put, List.setIfInBounds_toArray, List.set_cons_zero, List.set_cons_succ])
    refine wpAnyH_take (i := 15) (v := ?va_15) op_at15 (by kernel_rfl) (by kernel_rfl) (by kernel_rfl) (fun _ _ _ h => h) (Or.inl ⟨by rfl, ?ya_15⟩) hHeld ?ra_15
    case ya_15 => (intro w hSw; (try dsimp only at hSw); go_simp; (try with_reducible rfl))
    (try simp only [Act.put, List.setIfInBounds_toArray, List.set_cons_zero, List.set_cons_succ])
    refine wpAnyH_done (by kernel_rfl) ?_ _
    go_wp2_with fail
    go_ret
    exact ⟨ret_int HE.out.symm, HB1.out.2⟩
  | true =>
  cases a2 : inB e 1 3000 with
  | false =>
    have HE : Hid (N = 2) := by show _ = _; rw [HN.out]; simp [setupNo, a2]
    go_enter Tryz.func62, Tryz.ntmps62
    go_wp2_with fail
    rw [← HW.out]
    clear HW HN
    refine wp_region_held_drew (S := fun w' => w'.cell? ⟨w.heap.size, 0, none⟩ = some (.int .i64 f) ∧ w'.cell? ⟨w.heap.size, 1, none⟩ = some (.int .i64 e) ∧ w'.cell? ⟨w.heap.size, 2, none⟩ = some (.int .i64 k)) (by kernel_rfl) ⟨z0, z1, z2⟩ (fun hHeld => ?_)
    refine wpAnyH_take (i := 1) (v := ?vb_1) op_at1 (by kernel_rfl) (by kernel_rfl) (by kernel_rfl) (fun _ _ _ h => h) (Or.inl ⟨by rfl, ?yb_1⟩) hHeld ?rb_1
    case yb_1 => (intro w hSw; (try dsimp only at hSw); go_simp; (try with_reducible rfl))
    (try simp only [Act.put, List.setIfInBounds_toArray, List.set_cons_zero, List.set_cons_succ])
    refine wpAnyH_take (i := 2) (v := ?vb_2) op_at2 (by kernel_rfl) (by kernel_rfl) (by kernel_rfl) (fun _ _ _ h => h) (Or.inl ⟨by rfl, ?yb_2⟩) hHeld ?rb_2
    case yb_2 => (intro w hSw; (try dsimp only at hSw); go_simp; (try with_reducible rfl))
    (try simp only [Act.put, List.setIfInBounds_toArray, List.set_cons_zero, List.set_cons_succ])
    refine wpAnyH_ready (rs := [0]) (by kernel_rfl) (by simp) (AllReadyH.cons op_at0 (fun K hK => ?cb_0) AllReadyH.nil)
    go_simp
    refine (outsideD_any _ _ _).mono ?_
    rintro e' w1 ⟨p1, q1, rfl, hc, hb⟩
    have hb' : Below W.heap.size W w1 := (by first | exact ((Below.refl _ W).drew).trans hb | exact hb)
    have HC1 : Hid (CloAtD w1 p1 q1 0 200 ∧ Below w.heap.size w w1) := ⟨hc, HB0.out.2.trans (hb'.mono HB0.out.2.size)⟩
    have HB1 : Hid (True ∧ Below w.heap.size w w1) := ⟨trivial, HC1.out.2⟩
    have hl1 := Nat.lt_of_lt_of_le zl hb'.size
    have n0 := (hb'.cell (p := ⟨w.heap.size, 0, none⟩) zl).trans z0
    have n1 := (hb'.cell (p := ⟨w.heap.size, 1, none⟩) zl).trans z1
    have n2 := (hb'.cell (p := ⟨w.heap.size, 2, none⟩) zl).trans z2
    clear z0 z1 z2 zl hc hb hb'
    have z0 := n0
    have z1 := n1
    have z2 := n2
    have zl := hl1
    clear n0 n1 n2 hl1
    dsimp only
    refine hK.out _ _ ⟨z0, z1, z2⟩ (fun hHeld2 => ?_)
    clear hK K hHeld
    have hHeld := hHeld2
    clear hHeld2
    (try simp only [Act.put, List.setIfInBounds_toArray, List.set_cons_zero, List.set_cons_succ])
    refine wpAnyH_ready (rs := [3]) (by kernel_rfl) (by simp) (AllReadyH.cons op_at3 (fun K hK => ?cb_3) AllReadyH.nil)
    go_simp
    refine (cloD_any f 0 200 p1 q1 _ HC1.out.1).mono ?_
    rw [a1]
    rintro e' w' ⟨rfl, hw'⟩
    rw [hw']
    clear hw' w'
    dsimp only
    refine hK.out _ _ ⟨z0, z1, z2⟩ (fun hHeld2 => ?_)
    clear hK K hHeld
    have hHeld := hHeld2
    clear hHeld2
    (try simp only [Act.put, List.setIfInBounds_toArray, List.set_cons_zero, List.set_cons_succ])
    refine wpAnyH_take (i := 4) (v := ?vb_4) op_at4 (by kernel_rfl) (by kernel_rfl) (by kernel_rfl) (fun _ _ _ h => h) (Or.inl ⟨by rfl, ?yb_4⟩) hHeld ?rb_4
    case yb_4 => (intro w hSw; (try dsimp only at hSw); go_simp; (try with_reducible rfl))
    (try simp only [Act.put, List.setIfInBounds_toArray, List.set_cons_zero, List.set_cons_succ])
    refine wpAnyH_take (i := 6) (v := ?vb_6) op_at6 (by kernel_rfl) (by kernel_rfl) (by kernel_rfl) (fun _ _ _ h => h) (Or.inl ⟨by rfl, ?yb_6⟩) hHeld ?rb_6
    case yb_6 => (intro w hSw; (try dsimp only at hSw); go_simp; (try with_reducible rfl))
    (try simp only [Act.put, List.setIfInBounds_toArray, List.set_cons_zero, List.set_cons_succ])
    refine wpAnyH_take (i := 7) (v := ?vb_7) op_at7 (by kernel_rfl) (by kernel_rfl) (by kernel_rfl) (fun _ _ _ h => h) (Or.inl ⟨by rfl, ?yb_7⟩) hHeld ?rb_7
    case yb_7 => (intro w hSw; (try dsimp only at hSw); go_simp; (try with_reducible rfl))
    (try simp only [Act.put, List.setIfInBounds_toArray, List.set_cons_zero, List.set_cons_succ])
    refine wpAnyH_ready (rs := [5]) (by kernel_rfl) (by simp) (AllReadyH.cons op_at5 (fun K hK => ?cb_5) AllReadyH.nil)
    go_simp
    refine (outsideD_any _ _ _).mono ?_
    rintro e' w2 ⟨p2, q2, rfl, hc, hb⟩
    have hb' : Below w1.heap.size w1 w2 := (by first | exact ((Below.refl _ w1).drew).trans hb | exact hb)
    have HC2 : Hid (CloAtD w2 p2 q2 1 3000 ∧ Below w.heap.size w w2) := ⟨hc, HB1.out.2.trans (hb'.mono HB1.out.2.size)⟩
    have HB2 : Hid (True ∧ Below w.heap.size w w2) := ⟨trivial, HC2.out.2⟩
    have hl2 := Nat.lt_of_lt_of_le zl hb'.size
    have n0 := (hb'.cell (p := ⟨w.heap.size, 0, none⟩) zl).trans z0
    have n1 := (hb'.cell (p := ⟨w.heap.size, 1, none⟩) zl).trans z1
    have n2 := (hb'.cell (p := ⟨w.heap.size, 2, none⟩) zl).trans z2
    clear z0 z1 z2 zl hc hb hb'
    have z0 := n0
    have z1 := n1
    have z2 := n2
    have zl := hl2
    clear n0 n1 n2 hl2
    dsimp only
    refine hK.out _ _ ⟨z0, z1, z2⟩ (fun hHeld2 => ?_)
    clear hK K hHeld
    have hHeld := hHeld2
    clear hHeld2
    (try simp only [Act.put, List.setIfInBounds_toArray, List.set_cons_zero, List.set_cons_succ])
    refine wpAnyH_ready (rs := [8]) (by kernel_rfl) (by simp) (AllReadyH.cons op_at8 (fun K hK => ?cb_8) AllReadyH.nil)
    go_simp
    refine (cloD_any e 1 3000 p2 q2 _ HC2.out.1).mono ?_
    rw [a2]
    rintro e' w' ⟨rfl, hw'⟩
    rw [hw']
    clear hw' w'
    dsimp only
    refine hK.out _ _ ⟨z0, z1, z2⟩ (fun hHeld2 => ?_)
    clear hK K hHeld
    have hHeld := hHeld2
    clear hHeld2
    (try simp only [Act.put, List.setIfInBounds_toArray, List.set_cons_zero, List.set_cons_succ])
    refine wpAnyH_take (i := 9) (v := ?vb_9) op_at9 (by kernel_rfl) (by kernel_rfl) (by kernel_rfl) (fun _ _ _ h => h) (Or.inl ⟨by rfl, ?yb_9⟩) hHeld ?rb_9
    case yb_9 => (intro w hSw; (try dsimp only at hSw); go_simp; (try with_reducible rfl))
    (try simp only [Act.put, List.setIfInBounds_toArray, List.set_cons_zero, List.set_cons_succ])
    refine wpAnyH_take (i := 10) (v := ?vb_10) op_at10 (by kernel_rfl) (by kernel_rfl) (by kernel_rfl) (fun _ _ _ h => h) (Or.inl ⟨by rfl, ?yb_10⟩) hHeld ?rb_10
    case yb_10 => (intro w hSw; (try dsimp only at hSw); go_simp; (try with_reducible rfl))
    (try simp only [Act.put, List.setIfInBounds_toArray, List.set_cons_zero, List.set_cons_succ])
    refine wpAnyH_take (i := 11) (v := undef) op_at11 (by kernel_rfl) (by kernel_rfl) (by kernel_rfl) (fun _ _ _ h => h) (Or.inr ⟨by rfl, rfl⟩) hHeld ?rb_11
    (try simp only [Act.put, List.setIfInBounds_toArray, List.set_cons_zero, List.set_cons_succ])
    refine wpAnyH_take (i := 12) (v := undef) op_at12 (by kernel_rfl) (by kernel_rfl) (by kernel_rfl) (fun _ _ _ h => h) (Or.inr ⟨by rfl, rfl⟩) hHeld ?rb_12
    (try simp only [Act.put, List.setIfInBounds_toArray, List.set_cons_zero, List.set_cons_succ])
    refine wpAnyH_take (i := 13) (v := undef) op_at13 (by kernel_rfl) (by kernel_rfl) (by kernel_rfl) (fun _ _ _ h => h) (Or.inr ⟨by rfl, rfl⟩) hHeld ?rb_13
    (try simp only [Act.put, List.setIfInBounds_toArray, List.set_cons_zero, List.set_cons_succ])
    refine wpAnyH_take (i := 14) (v := undef) op_at14 (by kernel_rfl) (by kernel_rfl) (by kernel_rfl) (fun _ _ _ h => h) (Or.inr ⟨by rfl, rfl⟩) hHeld ?rb_14
    (try simp only [Act.put, List.setIfInBounds_toArray, List.set_cons_zero, List.set_cons_succ])
    refine wpAnyH_take (i := 15) (v := ?vb_15) op_at15 (by kernel_rfl) (by kernel_rfl) (by kernel_rfl) (fun _ _ _ h => h) (Or.inl ⟨by rfl, ?yb_15⟩) hHeld ?rb_15
    case yb_15 => (intro w hSw; (try dsimp only at hSw); go_simp; (try with_reducible rfl))
    (try simp only [Act.put, List.setIfInBounds_toArray, List.set_cons_zero, List.set_cons_succ])
    refine wpAnyH_done (by kernel_rfl) ?_ _
    go_wp2_with fail
    go_ret
    exact ⟨ret_int HE.out.symm, HB2.out.2⟩
  | true =>
  cases a3 : inB k 1 8 with
  | false =>
    have HE : Hid (N = 2) := by show _ = _; rw [HN.out]; simp [setupNo, a3]
    go_enter Tryz.func62, Tryz.ntmps62
    go_wp2_with fail
    rw [← HW.out]
    clear HW HN
    refine wp_region_held_drew (S := fun w' => w'.cell? ⟨w.heap.size, 0, none⟩ = some (.int .i64 f) ∧ w'.cell? ⟨w.heap.size, 1, none⟩ = some (.int .i64 e) ∧ w'.cell? ⟨w.heap.size, 2, none⟩ = some (.int .i64 k)) (by kernel_rfl) ⟨z0, z1, z2⟩ (fun hHeld => ?_)
    refine wpAnyH_take (i := 1) (v := ?vc_1) op_at1 (by kernel_rfl) (by kernel_rfl) (by kernel_rfl) (fun _ _ _ h => h) (Or.inl ⟨by rfl, ?yc_1⟩) hHeld ?rc_1
    case yc_1 => (intro w hSw; (try dsimp only at hSw); go_simp; (try with_reducible rfl))
    (try simp only [Act.put, List.setIfInBounds_toArray, List.set_cons_zero, List.set_cons_succ])
    refine wpAnyH_take (i := 2) (v := ?vc_2) op_at2 (by kernel_rfl) (by kernel_rfl) (by kernel_rfl) (fun _ _ _ h => h) (Or.inl ⟨by rfl, ?yc_2⟩) hHeld ?rc_2
    case yc_2 => (intro w hSw; (try dsimp only at hSw); go_simp; (try with_reducible rfl))
    (try simp only [Act.put, List.setIfInBounds_toArray, List.set_cons_zero, List.set_cons_succ])
    refine wpAnyH_ready (rs := [0]) (by kernel_rfl) (by simp) (AllReadyH.cons op_at0 (fun K hK => ?cc_0) AllReadyH.nil)
    go_simp
    refine (outsideD_any _ _ _).mono ?_
    rintro e' w1 ⟨p1, q1, rfl, hc, hb⟩
    have hb' : Below W.heap.size W w1 := (by first | exact ((Below.refl _ W).drew).trans hb | exact hb)
    have HC1 : Hid (CloAtD w1 p1 q1 0 200 ∧ Below w.heap.size w w1) := ⟨hc, HB0.out.2.trans (hb'.mono HB0.out.2.size)⟩
    have HB1 : Hid (True ∧ Below w.heap.size w w1) := ⟨trivial, HC1.out.2⟩
    have hl1 := Nat.lt_of_lt_of_le zl hb'.size
    have n0 := (hb'.cell (p := ⟨w.heap.size, 0, none⟩) zl).trans z0
    have n1 := (hb'.cell (p := ⟨w.heap.size, 1, none⟩) zl).trans z1
    have n2 := (hb'.cell (p := ⟨w.heap.size, 2, none⟩) zl).trans z2
    clear z0 z1 z2 zl hc hb hb'
    have z0 := n0
    have z1 := n1
    have z2 := n2
    have zl := hl1
    clear n0 n1 n2 hl1
    dsimp only
    refine hK.out _ _ ⟨z0, z1, z2⟩ (fun hHeld2 => ?_)
    clear hK K hHeld
    have hHeld := hHeld2
    clear hHeld2
    (try simp only [Act.put, List.setIfInBounds_toArray, List.set_cons_zero, List.set_cons_succ])
    refine wpAnyH_ready (rs := [3]) (by kernel_rfl) (by simp) (AllReadyH.cons op_at3 (fun K hK => ?cc_3) AllReadyH.nil)
    go_simp
    refine (cloD_any f 0 200 p1 q1 _ HC1.out.1).mono ?_
    rw [a1]
    rintro e' w' ⟨rfl, hw'⟩
    rw [hw']
    clear hw' w'
    dsimp only
    refine hK.out _ _ ⟨z0, z1, z2⟩ (fun hHeld2 => ?_)
    clear hK K hHeld
    have hHeld := hHeld2
    clear hHeld2
    (try simp only [Act.put, List.setIfInBounds_toArray, List.set_cons_zero, List.set_cons_succ])
    refine wpAnyH_take (i := 4) (v := ?vc_4) op_at4 (by kernel_rfl) (by kernel_rfl) (by kernel_rfl) (fun _ _ _ h => h) (Or.inl ⟨by rfl, ?yc_4⟩) hHeld ?rc_4
    case yc_4 => (intro w hSw; (try dsimp only at hSw); go_simp; (try with_reducible rfl))
    (try simp only [Act.put, List.setIfInBounds_toArray, List.set_cons_zero, List.set_cons_succ])
    refine wpAnyH_take (i := 6) (v := ?vc_6) op_at6 (by kernel_rfl) (by kernel_rfl) (by kernel_rfl) (fun _ _ _ h => h) (Or.inl ⟨by rfl, ?yc_6⟩) hHeld ?rc_6
    case yc_6 => (intro w hSw; (try dsimp only at hSw); go_simp; (try with_reducible rfl))
    (try simp only [Act.put, List.setIfInBounds_toArray, List.set_cons_zero, List.set_cons_succ])
    refine wpAnyH_take (i := 7) (v := ?vc_7) op_at7 (by kernel_rfl) (by kernel_rfl) (by kernel_rfl) (fun _ _ _ h => h) (Or.inl ⟨by rfl, ?yc_7⟩) hHeld ?rc_7
    case yc_7 => (intro w hSw; (try dsimp only at hSw); go_simp; (try with_reducible rfl))
    (try simp only [Act.put, List.setIfInBounds_toArray, List.set_cons_zero, List.set_cons_succ])
    refine wpAnyH_ready (rs := [5]) (by kernel_rfl) (by simp) (AllReadyH.cons op_at5 (fun K hK => ?cc_5) AllReadyH.nil)
    go_simp
    refine (outsideD_any _ _ _).mono ?_
    rintro e' w2 ⟨p2, q2, rfl, hc, hb⟩
    have hb' : Below w1.heap.size w1 w2 := (by first | exact ((Below.refl _ w1).drew).trans hb | exact hb)
    have HC2 : Hid (CloAtD w2 p2 q2 1 3000 ∧ Below w.heap.size w w2) := ⟨hc, HB1.out.2.trans (hb'.mono HB1.out.2.size)⟩
    have HB2 : Hid (True ∧ Below w.heap.size w w2) := ⟨trivial, HC2.out.2⟩
    have hl2 := Nat.lt_of_lt_of_le zl hb'.size
    have n0 := (hb'.cell (p := ⟨w.heap.size, 0, none⟩) zl).trans z0
    have n1 := (hb'.cell (p := ⟨w.heap.size, 1, none⟩) zl).trans z1
    have n2 := (hb'.cell (p := ⟨w.heap.size, 2, none⟩) zl).trans z2
    clear z0 z1 z2 zl hc hb hb'
    have z0 := n0
    have z1 := n1
    have z2 := n2
    have zl := hl2
    clear n0 n1 n2 hl2
    dsimp only
    refine hK.out _ _ ⟨z0, z1, z2⟩ (fun hHeld2 => ?_)
    clear hK K hHeld
    have hHeld := hHeld2
    clear hHeld2
    (try simp only [Act.put, List.setIfInBounds_toArray, List.set_cons_zero, List.set_cons_succ])
    refine wpAnyH_ready (rs := [8]) (by kernel_rfl) (by simp) (AllReadyH.cons op_at8 (fun K hK => ?cc_8) AllReadyH.nil)
    go_simp
    refine (cloD_any e 1 3000 p2 q2 _ HC2.out.1).mono ?_
    rw [a2]
    rintro e' w' ⟨rfl, hw'⟩
    rw [hw']
    clear hw' w'
    dsimp only
    refine hK.out _ _ ⟨z0, z1, z2⟩ (fun hHeld2 => ?_)
    clear hK K hHeld
    have hHeld := hHeld2
    clear hHeld2
    (try simp only [Act.put, List.setIfInBounds_toArray, List.set_cons_zero, List.set_cons_succ])
    refine wpAnyH_take (i := 9) (v := ?vc_9) op_at9 (by kernel_rfl) (by kernel_rfl) (by kernel_rfl) (fun _ _ _ h => h) (Or.inl ⟨by rfl, ?yc_9⟩) hHeld ?rc_9
    case yc_9 => (intro w hSw; (try dsimp only at hSw); go_simp; (try with_reducible rfl))
    (try simp only [Act.put, List.setIfInBounds_toArray, List.set_cons_zero, List.set_cons_succ])
    refine wpAnyH_take (i := 10) (v := ?vc_10) op_at10 (by kernel_rfl) (by kernel_rfl) (by kernel_rfl) (fun _ _ _ h => h) (Or.inl ⟨by rfl, ?yc_10⟩) hHeld ?rc_10
    case yc_10 => (intro w hSw; (try dsimp only at hSw); go_simp; (try with_reducible rfl))
    (try simp only [Act.put, List.setIfInBounds_toArray, List.set_cons_zero, List.set_cons_succ])
    refine wpAnyH_take (i := 12) (v := ?vc_12) op_at12 (by kernel_rfl) (by kernel_rfl) (by kernel_rfl) (fun _ _ _ h => h) (Or.inl ⟨by rfl, ?yc_12⟩) hHeld ?rc_12
    case yc_12 => (intro w hSw; (try dsimp only at hSw); go_simp; (try with_reducible rfl))
    (try simp only [Act.put, List.setIfInBounds_toArray, List.set_cons_zero, List.set_cons_succ])
    refine wpAnyH_take (i := 13) (v := ?vc_13) op_at13 (by kernel_rfl) (by kernel_rfl) (by kernel_rfl) (fun _ _ _ h => h) (Or.inl ⟨by rfl, ?yc_13⟩) hHeld ?rc_13
    case yc_13 => (intro w hSw; (try dsimp only at hSw); go_simp; (try with_reducible rfl))
    (try simp only [Act.put, List.setIfInBounds_toArray, List.set_cons_zero, List.set_cons_succ])
    refine wpAnyH_ready (rs := [11]) (by kernel_rfl) (by simp) (AllReadyH.cons op_at11 (fun K hK => ?cc_11) AllReadyH.nil)
    go_simp
    refine (outsideD_any _ _ _).mono ?_
    rintro e' w3 ⟨p3, q3, rfl, hc, hb⟩
    have hb' : Below w2.heap.size w2 w3 := (by first | exact ((Below.refl _ w2).drew).trans hb | exact hb)
    have HC3 : Hid (CloAtD w3 p3 q3 1 8 ∧ Below w.heap.size w w3) := ⟨hc, HB2.out.2.trans (hb'.mono HB2.out.2.size)⟩
    have HB3 : Hid (True ∧ Below w.heap.size w w3) := ⟨trivial, HC3.out.2⟩
    have hl3 := Nat.lt_of_lt_of_le zl hb'.size
    have n0 := (hb'.cell (p := ⟨w.heap.size, 0, none⟩) zl).trans z0
    have n1 := (hb'.cell (p := ⟨w.heap.size, 1, none⟩) zl).trans z1
    have n2 := (hb'.cell (p := ⟨w.heap.size, 2, none⟩) zl).trans z2
    clear z0 z1 z2 zl hc hb hb'
    have z0 := n0
    have z1 := n1
    have z2 := n2
    have zl := hl3
    clear n0 n1 n2 hl3
    dsimp only
    refine hK.out _ _ ⟨z0, z1, z2⟩ (fun hHeld2 => ?_)
    clear hK K hHeld
    have hHeld := hHeld2
    clear hHeld2
    (try simp only [Act.put, List.setIfInBounds_toArray, List.set_cons_zero, List.set_cons_succ])
    refine wpAnyH_ready (rs := [14]) (by kernel_rfl) (by simp) (AllReadyH.cons op_at14 (fun K hK => ?cc_14) AllReadyH.nil)
    go_simp
    refine (cloD_any k 1 8 p3 q3 _ HC3.out.1).mono ?_
    rw [a3]
    rintro e' w' ⟨rfl, hw'⟩
    rw [hw']
    clear hw' w'
    dsimp only
    refine hK.out _ _ ⟨z0, z1, z2⟩ (fun hHeld2 => ?_)
    clear hK K hHeld
    have hHeld := hHeld2
    clear hHeld2
    (try simp only [Act.put, List.setIfInBounds_toArray, List.set_cons_zero, List.set_cons_succ])
    refine wpAnyH_take (i := 15) (v := ?vc_15) op_at15 (by kernel_rfl) (by kernel_rfl) (by kernel_rfl) (fun _ _ _ h => h) (Or.inl ⟨by rfl, ?yc_15⟩) hHeld ?rc_15
    case yc_15 => (intro w hSw; (try dsimp only at hSw); go_simp; (try with_reducible rfl))
    (try simp only [Act.put, List.setIfInBounds_toArray, List.set_cons_zero, List.set_cons_succ])
    refine wpAnyH_done (by kernel_rfl) ?_ _
    go_wp2_with fail
    go_ret
    exact ⟨ret_int HE.out.symm, HB3.out.2⟩
  | true =>
    have HE : Hid (N = 0) := by show _ = _; rw [HN.out]; simp [setupNo, a1, a2, a3]
    go_enter Tryz.func62, Tryz.ntmps62
    go_wp2_with fail
    rw [← HW.out]
    clear HW HN
    refine wp_region_held_drew (S := fun w' => w'.cell? ⟨w.heap.size, 0, none⟩ = some (.int .i64 f) ∧ w'.cell? ⟨w.heap.size, 1, none⟩ = some (.int .i64 e) ∧ w'.cell? ⟨w.heap.size, 2, none⟩ = some (.int .i64 k)) (by kernel_rfl) ⟨z0, z1, z2⟩ (fun hHeld => ?_)
    refine wpAnyH_take (i := 1) (v := ?vd_1) op_at1 (by kernel_rfl) (by kernel_rfl) (by kernel_rfl) (fun _ _ _ h => h) (Or.inl ⟨by rfl, ?yd_1⟩) hHeld ?rd_1
    case yd_1 => (intro w hSw; (try dsimp only at hSw); go_simp; (try with_reducible rfl))
    (try simp only [Act.put, List.setIfInBounds_toArray, List.set_cons_zero, List.set_cons_succ])
    refine wpAnyH_take (i := 2) (v := ?vd_2) op_at2 (by kernel_rfl) (by kernel_rfl) (by kernel_rfl) (fun _ _ _ h => h) (Or.inl ⟨by rfl, ?yd_2⟩) hHeld ?rd_2
    case yd_2 => (intro w hSw; (try dsimp only at hSw); go_simp; (try with_reducible rfl))
    (try simp only [Act.put, List.setIfInBounds_toArray, List.set_cons_zero, List.set_cons_succ])
    refine wpAnyH_ready (rs := [0]) (by kernel_rfl) (by simp) (AllReadyH.cons op_at0 (fun K hK => ?cd_0) AllReadyH.nil)
    go_simp
    refine (outsideD_any _ _ _).mono ?_
    rintro e' w1 ⟨p1, q1, rfl, hc, hb⟩
    have hb' : Below W.heap.size W w1 := (by first | exact ((Below.refl _ W).drew).trans hb | exact hb)
    have HC1 : Hid (CloAtD w1 p1 q1 0 200 ∧ Below w.heap.size w w1) := ⟨hc, HB0.out.2.trans (hb'.mono HB0.out.2.size)⟩
    have HB1 : Hid (True ∧ Below w.heap.size w w1) := ⟨trivial, HC1.out.2⟩
    have hl1 := Nat.lt_of_lt_of_le zl hb'.size
    have n0 := (hb'.cell (p := ⟨w.heap.size, 0, none⟩) zl).trans z0
    have n1 := (hb'.cell (p := ⟨w.heap.size, 1, none⟩) zl).trans z1
    have n2 := (hb'.cell (p := ⟨w.heap.size, 2, none⟩) zl).trans z2
    clear z0 z1 z2 zl hc hb hb'
    have z0 := n0
    have z1 := n1
    have z2 := n2
    have zl := hl1
    clear n0 n1 n2 hl1
    dsimp only
    refine hK.out _ _ ⟨z0, z1, z2⟩ (fun hHeld2 => ?_)
    clear hK K hHeld
    have hHeld := hHeld2
    clear hHeld2
    (try simp only [Act.put, List.setIfInBounds_toArray, List.set_cons_zero, List.set_cons_succ])
    refine wpAnyH_ready (rs := [3]) (by kernel_rfl) (by simp) (AllReadyH.cons op_at3 (fun K hK => ?cd_3) AllReadyH.nil)
    go_simp
    refine (cloD_any f 0 200 p1 q1 _ HC1.out.1).mono ?_
    rw [a1]
    rintro e' w' ⟨rfl, hw'⟩
    rw [hw']
    clear hw' w'
    dsimp only
    refine hK.out _ _ ⟨z0, z1, z2⟩ (fun hHeld2 => ?_)
    clear hK K hHeld
    have hHeld := hHeld2
    clear hHeld2
    (try simp only [Act.put, List.setIfInBounds_toArray, List.set_cons_zero, List.set_cons_succ])
    refine wpAnyH_take (i := 4) (v := ?vd_4) op_at4 (by kernel_rfl) (by kernel_rfl) (by kernel_rfl) (fun _ _ _ h => h) (Or.inl ⟨by rfl, ?yd_4⟩) hHeld ?rd_4
    case yd_4 => (intro w hSw; (try dsimp only at hSw); go_simp; (try with_reducible rfl))
    (try simp only [Act.put, List.setIfInBounds_toArray, List.set_cons_zero, List.set_cons_succ])
    refine wpAnyH_take (i := 6) (v := ?vd_6) op_at6 (by kernel_rfl) (by kernel_rfl) (by kernel_rfl) (fun _ _ _ h => h) (Or.inl ⟨by rfl, ?yd_6⟩) hHeld ?rd_6
    case yd_6 => (intro w hSw; (try dsimp only at hSw); go_simp; (try with_reducible rfl))
    (try simp only [Act.put, List.setIfInBounds_toArray, List.set_cons_zero, List.set_cons_succ])
    refine wpAnyH_take (i := 7) (v := ?vd_7) op_at7 (by kernel_rfl) (by kernel_rfl) (by kernel_rfl) (fun _ _ _ h => h) (Or.inl ⟨by rfl, ?yd_7⟩) hHeld ?rd_7
    case yd_7 => (intro w hSw; (try dsimp only at hSw); go_simp; (try with_reducible rfl))
    (try simp only [Act.put, List.setIfInBounds_toArray, List.set_cons_zero, List.set_cons_succ])
    refine wpAnyH_ready (rs := [5]) (by kernel_rfl) (by simp) (AllReadyH.cons op_at5 (fun K hK => ?cd_5) AllReadyH.nil)
    go_simp
    refine (outsideD_any _ _ _).mono ?_
    rintro e' w2 ⟨p2, q2, rfl, hc, hb⟩
    have hb' : Below w1.heap.size w1 w2 := (by first | exact ((Below.refl _ w1).drew).trans hb | exact hb)
    have HC2 : Hid (CloAtD w2 p2 q2 1 3000 ∧ Below w.heap.size w w2) := ⟨hc, HB1.out.2.trans (hb'.mono HB1.out.2.size)⟩
    have HB2 : Hid (True ∧ Below w.heap.size w w2) := ⟨trivial, HC2.out.2⟩
    have hl2 := Nat.lt_of_lt_of_le zl hb'.size
    have n0 := (hb'.cell (p := ⟨w.heap.size, 0, none⟩) zl).trans z0
    have n1 := (hb'.cell (p := ⟨w.heap.size, 1, none⟩) zl).trans z1
    have n2 := (hb'.cell (p := ⟨w.heap.size, 2, none⟩) zl).trans z2
    clear z0 z1 z2 zl hc hb hb'
    have z0 := n0
    have z1 := n1
    have z2 := n2
    have zl := hl2
    clear n0 n1 n2 hl2
    dsimp only
    refine hK.out _ _ ⟨z0, z1, z2⟩ (fun hHeld2 => ?_)
    clear hK K hHeld
    have hHeld := hHeld2
    clear hHeld2
    (try simp only [Act.put, List.setIfInBounds_toArray, List.set_cons_zero, List.set_cons_succ])
    refine wpAnyH_ready (rs := [8]) (by kernel_rfl) (by simp) (AllReadyH.cons op_at8 (fun K hK => ?cd_8) AllReadyH.nil)
    go_simp
    refine (cloD_any e 1 3000 p2 q2 _ HC2.out.1).mono ?_
    rw [a2]
    rintro e' w' ⟨rfl, hw'⟩
    rw [hw']
    clear hw' w'
    dsimp only
    refine hK.out _ _ ⟨z0, z1, z2⟩ (fun hHeld2 => ?_)
    clear hK K hHeld
    have hHeld := hHeld2
    clear hHeld2
    (try simp only [Act.put, List.setIfInBounds_toArray, List.set_cons_zero, List.set_cons_succ])
    refine wpAnyH_take (i := 9) (v := ?vd_9) op_at9 (by kernel_rfl) (by kernel_rfl) (by kernel_rfl) (fun _ _ _ h => h) (Or.inl ⟨by rfl, ?yd_9⟩) hHeld ?rd_9
    case yd_9 => (intro w hSw; (try dsimp only at hSw); go_simp; (try with_reducible rfl))
    (try simp only [Act.put, List.setIfInBounds_toArray, List.set_cons_zero, List.set_cons_succ])
    refine wpAnyH_take (i := 10) (v := ?vd_10) op_at10 (by kernel_rfl) (by kernel_rfl) (by kernel_rfl) (fun _ _ _ h => h) (Or.inl ⟨by rfl, ?yd_10⟩) hHeld ?rd_10
    case yd_10 => (intro w hSw; (try dsimp only at hSw); go_simp; (try with_reducible rfl))
    (try simp only [Act.put, List.setIfInBounds_toArray, List.set_cons_zero, List.set_cons_succ])
    refine wpAnyH_take (i := 12) (v := ?vd_12) op_at12 (by kernel_rfl) (by kernel_rfl) (by kernel_rfl) (fun _ _ _ h => h) (Or.inl ⟨by rfl, ?yd_12⟩) hHeld ?rd_12
    case yd_12 => (intro w hSw; (try dsimp only at hSw); go_simp; (try with_reducible rfl))
    (try simp only [Act.put, List.setIfInBounds_toArray, List.set_cons_zero, List.set_cons_succ])
    refine wpAnyH_take (i := 13) (v := ?vd_13) op_at13 (by kernel_rfl) (by kernel_rfl) (by kernel_rfl) (fun _ _ _ h => h) (Or.inl ⟨by rfl, ?yd_13⟩) hHeld ?rd_13
    case yd_13 => (intro w hSw; (try dsimp only at hSw); go_simp; (try with_reducible rfl))
    (try simp only [Act.put, List.setIfInBounds_toArray, List.set_cons_zero, List.set_cons_succ])
    refine wpAnyH_ready (rs := [11]) (by kernel_rfl) (by simp) (AllReadyH.cons op_at11 (fun K hK => ?cd_11) AllReadyH.nil)
    go_simp
    refine (outsideD_any _ _ _).mono ?_
    rintro e' w3 ⟨p3, q3, rfl, hc, hb⟩
    have hb' : Below w2.heap.size w2 w3 := (by first | exact ((Below.refl _ w2).drew).trans hb | exact hb)
    have HC3 : Hid (CloAtD w3 p3 q3 1 8 ∧ Below w.heap.size w w3) := ⟨hc, HB2.out.2.trans (hb'.mono HB2.out.2.size)⟩
    have HB3 : Hid (True ∧ Below w.heap.size w w3) := ⟨trivial, HC3.out.2⟩
    have hl3 := Nat.lt_of_lt_of_le zl hb'.size
    have n0 := (hb'.cell (p := ⟨w.heap.size, 0, none⟩) zl).trans z0
    have n1 := (hb'.cell (p := ⟨w.heap.size, 1, none⟩) zl).trans z1
    have n2 := (hb'.cell (p := ⟨w.heap.size, 2, none⟩) zl).trans z2
    clear z0 z1 z2 zl hc hb hb'
    have z0 := n0
    have z1 := n1
    have z2 := n2
    have zl := hl3
    clear n0 n1 n2 hl3
    dsimp only
    refine hK.out _ _ ⟨z0, z1, z2⟩ (fun hHeld2 => ?_)
    clear hK K hHeld
    have hHeld := hHeld2
    clear hHeld2
    (try simp only [Act.put, List.setIfInBounds_toArray, List.set_cons_zero, List.set_cons_succ])
    refine wpAnyH_ready (rs := [14]) (by kernel_rfl) (by simp) (AllReadyH.cons op_at14 (fun K hK => ?cd_14) AllReadyH.nil)
    go_simp
    refine (cloD_any k 1 8 p3 q3 _ HC3.out.1).mono ?_
    rw [a3]
    rintro e' w' ⟨rfl, hw'⟩
    rw [hw']
    clear hw' w'
    dsimp only
    refine hK.out _ _ ⟨z0, z1, z2⟩ (fun hHeld2 => ?_)
    clear hK K hHeld
    have hHeld := hHeld2
    clear hHeld2
    (try simp only [Act.put, List.setIfInBounds_toArray, List.set_cons_zero, List.set_cons_succ])
    refine wpAnyH_take (i := 15) (v := ?vd_15) op_at15 (by kernel_rfl) (by kernel_rfl) (by kernel_rfl) (fun _ _ _ h => h) (Or.inl ⟨by rfl, ?yd_15⟩) hHeld ?rd_15
    case yd_15 => (intro w hSw; (try dsimp only at hSw); go_simp; (try with_reducible rfl))
    (try simp only [Act.put, List.setIfInBounds_toArray, List.set_cons_zero, List.set_cons_succ])
    refine wpAnyH_done (by kernel_rfl) ?_ _
    go_wp2_with fail
    go_ret
    exact ⟨ret_int HE.out.symm, HB3.out.2⟩

end Go.Proofs.YtecpblabaelopaaGreatDoor
