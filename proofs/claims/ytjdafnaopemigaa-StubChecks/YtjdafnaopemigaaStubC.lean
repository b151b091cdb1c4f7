/- Contracts of stub.Check and of the document's SessionMay. -/
import Derived.Test.YtjdafnaopemigaaIn
import Derived.Test.YtjdafnaopemigaaBase
import Derived.Deep.RegionWith
namespace Go.Proofs.Ytjdafnaopemigaa
open Go.RowKit
set_option maxRecDepth 100000
set_option linter.unusedVariables false

/-- Words of memory that rise. -/
def riseB (least : Int) : List Int → Bool
  | [] => true
  | a :: r => decide (least ≤ a) && (decide (a < 256) && riseB (a + 1) r)
/-- Stops of a session. -/
def stopsB (l : List Int) : Bool := decide (l.length ≤ 20) && riseB 0 l

theorem drop_cons (l : List Int) (k : Nat) (h : k < l.length) : l.drop k = l.getD k 0 :: l.drop (k + 1) := by
  rw [List.drop_eq_getElem_cons h]
  simp [List.getD, h]

theorem areStops_any (v : Value) (l : List Int) (w : World) (hv : IntsAt w v l) :
    Calls Try.prog 21 #[v] w fun e w' => e = .returned (.bool (stopsB l)) ∧ w' = w := by
  obtain ⟨A, c, rfl, hl, hc⟩ := hv
  by_cases h20 : 20 < l.length
  · have e : stopsB l = false := by rw [stopsB, decide_eq_false (by omega)]; rfl
    rw [e]
    have hz : (20 : Int) < (l.length : Int) := by omega
    go_enter Try.func21, Try.ntmps21
    go_wp2
    go_ret
    exact ⟨rfl, rfl⟩
  · have e : stopsB l = riseB 0 l := by rw [stopsB, decide_eq_true (by omega)]; rfl
    rw [e]
    have hz : ¬ (20 : Int) < (l.length : Int) := by omega
    have HC : Hid (0 < l.length → ∃ b off, A = some ⟨b, off, none⟩ ∧ b < w.heap.size ∧ ∀ j, j < l.length → w.cell? ⟨b, off + j, none⟩ = some (.int .i64 (l.getD j 0))) := hc
    clear hc
    go_enter Try.func21, Try.ntmps21
    go_wp2
    go_loop [3, 5, 11] (fun t _ i => ∃ (k : Nat) (q : Int), k ≤ l.length ∧ i = .int .i64 k ∧ t = .int .i64 q ∧ 0 ≤ q ∧ q ≤ 256 ∧ Hid (riseB 0 l = riseB q (l.drop k))) (fun _ _ i => l.length - (intOf i).toNat)
    case atStart => exact ⟨0, 0, by omega, rfl, rfl, by omega, by omega, rfl⟩
    case round =>
      obtain ⟨k, q, hk, rfl, rfl, hq0, hq1, HR⟩ := hrel
      by_cases hlt : k < l.length
      · obtain ⟨b, off, rfl, hb, hj⟩ := HC.out (by omega)
        have g := hj k hlt
        clear hj
        have HS : Hid (riseB 0 l = (decide (q ≤ l.getD k 0) && (decide (l.getD k 0 < 256) && riseB (l.getD k 0 + 1) (l.drop (k + 1))))) := by
          rw [HR.out, drop_cons l k hlt]; rfl
        clear HR
        obtain ⟨a, ha⟩ : ∃ a, l.getD k 0 = a := ⟨_, rfl⟩
        rw [ha] at g HS
        by_cases h1 : a < q
        · go_wp2
          go_ret
          exact ⟨ret_bool (by rw [HS.out, decide_eq_false (by omega)]; rfl), rfl⟩
        · by_cases h2 : 256 ≤ a
          · go_wp2
            go_ret
            exact ⟨ret_bool (by rw [HS.out, decide_eq_true (by omega), decide_eq_false (by omega)]; rfl), rfl⟩
          · go_wp2
            go_round
            case rel => exact ⟨k + 1, a + 1, by omega, by go_num, by go_num, by omega, by omega, by rw [Hid, HS.out, decide_eq_true (by omega), decide_eq_true (by omega)]; rfl⟩
            case measure => simp [intOf]; omega
      · obtain rfl : k = l.length := by omega
        go_wp2
        go_ret
        exact ⟨ret_bool (by rw [HR.out, List.drop_length]; rfl), rfl⟩

set_option maxHeartbeats 2000000 in
theorem placesMay_any (v : Value) (l : List Int) (w : World) (hv : IntsAt w v l) :
    Calls Try.prog 23 #[v] w fun e w' => e = .returned (.bool (stopsB l)) ∧ ∃ n, w' = w.drewN n := by
  obtain ⟨A, c, rfl, hl, hc⟩ := hv
  by_cases h20 : 20 < l.length
  · have e : stopsB l = false := by rw [stopsB, decide_eq_false (by omega)]; rfl
    rw [e]
    have hz : (20 : Int) < (l.length : Int) := by omega
    go_enter Try.func23, Try.ntmps23
    go_wp2
    go_ret
    exact ⟨rfl, 0, rfl⟩
  · have e : stopsB l = riseB 0 l := by rw [stopsB, decide_eq_true (by omega)]; rfl
    rw [e]
    have hz : ¬ (20 : Int) < (l.length : Int) := by omega
    have HC : Hid (0 < l.length → ∃ b off, A = some ⟨b, off, none⟩ ∧ b < w.heap.size ∧ ∀ j, j < l.length → w.cell? ⟨b, off + j, none⟩ = some (.int .i64 (l.getD j 0))) := hc
    clear hc
    go_enter Try.func23, Try.ntmps23
    go_wp2
    go_loopw [3] (fun i wr => ∃ (k n : Nat) (q : Int), k ≤ l.length ∧ i = .int .i64 k ∧ wr = w.drewN n ∧ 0 ≤ q ∧ q ≤ 256 ∧ Hid (riseB 0 l = riseB q (l.drop k) ∧ (k = 0 → q = 0) ∧ (0 < k → q = l.getD (k - 1) 0 + 1))) (fun i _ => l.length - (intOf i).toNat)
    case atStart => exact ⟨0, 0, 0, by omega, rfl, rfl, by omega, by omega, rfl, fun _ => rfl, fun h => by omega⟩
    case round =>
      obtain ⟨k, n, q, hk, rfl, rfl, hq0, hq1, HR⟩ := hrel
      by_cases hlt : k < l.length
      · obtain ⟨b, off, rfl, hb, hj⟩ := HC.out (by omega)
        have g := hj k hlt
        have HS : Hid (riseB 0 l = (decide (q ≤ l.getD k 0) && (decide (l.getD k 0 < 256) && riseB (l.getD k 0 + 1) (l.drop (k + 1))))) := by
          rw [HR.out.1, drop_cons l k hlt]; rfl
        have HD : Hid (l.getD (k + 1 - 1) 0 + 1 = l.getD k 0 + 1) := by rw [show k + 1 - 1 = k by omega]; rfl
        by_cases h0 : k = 0
        · have hq := HR.out.2.1 h0
          subst hq h0
          clear HR hj
          obtain ⟨a, ha⟩ : ∃ a, l.getD 0 0 = a := ⟨_, rfl⟩
          rw [ha] at g HS
          rw [Nat.add_zero] at g
          have HA : Hid (l.getD 0 0 = a) := ha
          clear ha HD
          have hk0 : ¬ (0 : Int) < ((0 : Nat) : Int) := by omega
          by_cases h1 : 0 ≤ a ∧ a ≤ 255
          · have HI : Hid (∀ W, Calls Try.prog 22 #[.int .i64 a, .int .i64 0, .int .i64 255] W fun e w'' => e = .returned (.bool true) ∧ w'' = W) := fun W => inB_yes h1.1 h1.2 ▸ In_B a 0 255 W
            go_wp2
            go_quiet ((go_at_call 22; exact quiet_same2 (HI.out _)))
            go_wp2
            go_roundw
            case rel => exact ⟨1, _, a + 1, by omega, by go_num, rfl, by omega, by omega, by rw [HS.out, decide_eq_true (by omega), decide_eq_true (by omega)]; rfl, fun h => by omega, fun _ => by rw [show 1 - 1 = 0 from rfl, HA.out]⟩
            case measure => simp [intOf]; omega
          · have HI : Hid (∀ W, Calls Try.prog 22 #[.int .i64 a, .int .i64 0, .int .i64 255] W fun e w'' => e = .returned (.bool false) ∧ w'' = W) := fun W => inB_no h1 ▸ In_B a 0 255 W
            have e0 : riseB 0 l = false := by
              rw [HS.out]
              by_cases h2 : 0 ≤ a
              · rw [decide_eq_true h2, decide_eq_false (by omega)]; rfl
              · rw [decide_eq_false h2]; rfl
            go_wp2
            go_quiet ((go_at_call 22; exact quiet_same2 (HI.out _)))
            go_wp2
            go_ret
            exact ⟨ret_bool e0.symm, by first | exact drewN_two _ _ _ | exact ⟨_, rfl⟩⟩
        · have hk0 : (0 : Int) < (k : Int) := by omega
          have hk0d : decide (0 < k) = true := decide_eq_true (by omega)
          have g2 := hj (k - 1) (by omega)
          have hoff : off + (k - 1) = off + k - 1 := by omega
          rw [hoff] at g2
          have hkz : (k : Int) - 1 = ((k - 1 : Nat) : Int) := by omega
          have hw1 : IntKind.i64.wrap ((k - 1 : Nat) : Int) = ((k - 1 : Nat) : Int) := IntWalk.i64_in _ (by omega)
          have hk1 : ((k - 1 : Nat) : Int) < (l.length : Int) := by omega
          have hk2 : (0 : Int) ≤ ((k - 1 : Nat) : Int) := by omega
          have HQ : Hid (q = l.getD (k - 1) 0 + 1) := HR.out.2.2 (by omega)
          clear HR hj
          obtain ⟨a, ha⟩ : ∃ a, l.getD k 0 = a := ⟨_, rfl⟩
          obtain ⟨p, hp⟩ : ∃ p, l.getD (k - 1) 0 = p := ⟨_, rfl⟩
          rw [ha] at g HS HD
          rw [hp] at g2 HQ
          clear ha hp
          by_cases h1 : 0 ≤ a ∧ a ≤ 255
          · have HI : Hid (∀ W, Calls Try.prog 22 #[.int .i64 a, .int .i64 0, .int .i64 255] W fun e w'' => e = .returned (.bool true) ∧ w'' = W) := fun W => inB_yes h1.1 h1.2 ▸ In_B a 0 255 W
            by_cases h3 : a ≤ p
            · have e0 : riseB 0 l = false := by
                have := HQ.out
                rw [HS.out, decide_eq_false (by omega)]; rfl
              have h3' : decide (a ≤ p) = true := by simpa using h3
              go_wp2
              go_quiet ((go_at_call 22; exact quiet_same2 (HI.out _)))
              go_wp2
              go_ret
              exact ⟨ret_bool e0.symm, by first | exact drewN_two _ _ _ | exact ⟨_, rfl⟩⟩
            · have h3' : decide (a ≤ p) = false := by simpa using h3
              have h4 : q ≤ a := by have := HQ.out; omega
              go_wp2
              go_quiet ((go_at_call 22; exact quiet_same2 (HI.out _)))
              go_wp2
              go_roundw
              case rel => exact ⟨k + 1, _, a + 1, by omega, by go_num, rfl, by omega, by omega, by rw [HS.out, decide_eq_true h4, decide_eq_true (by omega)]; rfl, fun h => by omega, fun _ => HD.out.symm⟩
              case measure => simp [intOf]; omega
          · have HI : Hid (∀ W, Calls Try.prog 22 #[.int .i64 a, .int .i64 0, .int .i64 255] W fun e w'' => e = .returned (.bool false) ∧ w'' = W) := fun W => inB_no h1 ▸ In_B a 0 255 W
            have e0 : riseB 0 l = false := by
              rw [HS.out]
              by_cases h2 : q ≤ a
              · rw [decide_eq_true h2, decide_eq_false (by omega)]; rfl
              · rw [decide_eq_false h2]; rfl
            go_wp2
            go_quiet ((go_at_call 22; exact quiet_same2 (HI.out _)))
            go_wp2
            go_ret
            exact ⟨ret_bool e0.symm, by first | exact drewN_two _ _ _ | exact ⟨_, rfl⟩⟩
      · obtain rfl : k = l.length := by omega
        go_wp2
        go_ret
        exact ⟨ret_bool (by rw [HR.out.1, List.drop_length]; rfl), n, rfl⟩

/-- A session that may be, of a tape of so many. -/
def sessB (cnt a : Int) (bl wl : List Int) : Bool := decide (0 ≤ a) && (decide (a ≤ cnt) && (stopsB bl && stopsB wl))

theorem drewN_below (w : World) (n : Nat) : Below w.heap.size w (w.drewN n) := ⟨rfl, rfl, rfl, Nat.le_refl _, fun _ _ => rfl⟩

set_option maxHeartbeats 2000000 in
theorem StubCheck_any (x y bv wv : Value) (cnt a : Int) (bl wl : List Int) (w : World) (hb : IntsAt w bv bl) (hw : IntsAt w wv wl) :
    Calls Try.prog 11 #[.agg #[x, y, .int .i64 cnt], .agg #[.int .i64 a, bv, wv]] w fun e w' => e = .returned (.int .i64 (if sessB cnt a bl wl then 0 else 8)) ∧ Below w.heap.size w w' := by
  obtain ⟨N, hN⟩ : ∃ N, (if sessB cnt a bl wl then (0 : Int) else 8) = N := ⟨_, rfl⟩
  rw [hN]
  have HN : Hid ((if sessB cnt a bl wl then (0 : Int) else 8) = N) := hN
  clear hN
  have HB : Hid (∀ W, Below w.heap.size w W → Calls Try.prog 21 #[bv] W fun e w' => e = .returned (.bool (stopsB bl)) ∧ w' = W) := fun W h => areStops_any bv bl W (hb.below h)
  have HW : Hid (∀ W, Below w.heap.size w W → Calls Try.prog 21 #[wv] W fun e w' => e = .returned (.bool (stopsB wl)) ∧ w' = W) := fun W h => areStops_any wv wl W (hw.below h)
  have HE : Hid (Below w.heap.size w ((w.alloc (.cells #[x, y, .int .i64 cnt] 29)).alloc (.cells #[.int .i64 a, bv, wv] 31))) := ((Below.refl _ _).alloc (Nat.le_refl _) _).alloc (by simp) _
  have HS : Hid (N = if (decide (0 ≤ a) && (decide (a ≤ cnt) && (stopsB bl && stopsB wl))) then 0 else 8) := HN.out.symm
  clear HN hb hw
  revert HB HW HS
  generalize stopsB bl = t1
  generalize stopsB wl = t2
  intro HB HW HS
  by_cases h1 : a < 0
  · have e : N = 8 := by rw [HS.out, decide_eq_false (by omega)]; rfl
    rw [e]
    go_enter Try.func11, Try.ntmps11
    go_wp2_with fail
    go_ret
    exact ⟨rfl, HE.out⟩
  · by_cases h2 : cnt < a
    · have e : N = 8 := by rw [HS.out, decide_eq_true (by omega), decide_eq_false (by omega)]; rfl
      rw [e]
      go_enter Try.func11, Try.ntmps11
      go_wp2_with fail
      go_ret
      exact ⟨rfl, HE.out⟩
    · have e : N = if (t1 && t2) then 0 else 8 := by rw [HS.out, decide_eq_true (by omega), decide_eq_true (by omega)]; rfl
      clear HS
      cases t1
      · have e' : N = 8 := e
        rw [e']
        clear e
        go_enter Try.func11, Try.ntmps11
        go_wp2_with fail
        refine (HB.out _ HE.out).mono ?_
        rintro e w1 ⟨rfl, hw1⟩
        rw [hw1]
        clear hw1 w1
        go_wp2_with fail
        go_ret
        exact ⟨rfl, HE.out⟩
      · cases t2
        · have e' : N = 8 := e
          rw [e']
          clear e
          go_enter Try.func11, Try.ntmps11
          go_wp2_with fail
          refine (HB.out _ HE.out).mono ?_
          rintro e w1 ⟨rfl, hw1⟩
          rw [hw1]
          clear hw1 w1
          go_wp2_with fail
          refine (HW.out _ HE.out).mono ?_
          rintro e w1 ⟨rfl, hw1⟩
          rw [hw1]
          clear hw1 w1
          go_wp2_with fail
          go_ret
          exact ⟨rfl, HE.out⟩
        · have e' : N = 0 := e
          rw [e']
          clear e
          go_enter Try.func11, Try.ntmps11
          go_wp2_with fail
          refine (HB.out _ HE.out).mono ?_
          rintro e w1 ⟨rfl, hw1⟩
          rw [hw1]
          clear hw1 w1
          go_wp2_with fail
          refine (HW.out _ HE.out).mono ?_
          rintro e w1 ⟨rfl, hw1⟩
          rw [hw1]
          clear hw1 w1
          go_wp2_with fail
          go_ret
          exact ⟨rfl, HE.out⟩

set_option maxHeartbeats 2000000 in
theorem SessionMay_any (x y bv wv : Value) (cnt a : Int) (bl wl : List Int) (w : World) (hb : IntsAt w bv bl) (hw : IntsAt w wv wl) :
    Calls Try.prog 12 #[.agg #[x, y, .int .i64 cnt], .agg #[.int .i64 a, bv, wv]] w fun e w' => e = .returned (.bool (sessB cnt a bl wl)) ∧ Below w.heap.size w w' := by
  obtain ⟨N, hN⟩ : ∃ N, sessB cnt a bl wl = N := ⟨_, rfl⟩
  rw [hN]
  have HN : Hid (sessB cnt a bl wl = N) := hN
  clear hN
  have HB : Hid (∀ W, Below w.heap.size w W → Calls Try.prog 23 #[bv] W fun e w' => e = .returned (.bool (stopsB bl)) ∧ ∃ n, w' = W.drewN n) := fun W h => placesMay_any bv bl W (hb.below h)
  have HW : Hid (∀ W, Below w.heap.size w W → Calls Try.prog 23 #[wv] W fun e w' => e = .returned (.bool (stopsB wl)) ∧ ∃ n, w' = W.drewN n) := fun W h => placesMay_any wv wl W (hw.below h)
  have HI : Hid (∀ W, Calls Try.prog 22 #[.int .i64 a, .int .i64 0, .int .i64 cnt] W fun e w' => e = .returned (.bool (inB a 0 cnt)) ∧ w' = W) := fun W => In_B _ _ _ W
  have HE : Hid (∀ n, Below w.heap.size w (((w.alloc (.cells #[x, y, .int .i64 cnt] 29)).alloc (.cells #[.int .i64 a, bv, wv] 31)).drewN n)) := fun n => by
    have h : Below w.heap.size w ((w.alloc (.cells #[x, y, .int .i64 cnt] 29)).alloc (.cells #[.int .i64 a, bv, wv] 31)) := ((Below.refl _ _).alloc (Nat.le_refl _) _).alloc (by simp) _
    exact h.trans ((drewN_below _ n).mono h.size)
  have HE0 : Hid (Below w.heap.size w ((w.alloc (.cells #[x, y, .int .i64 cnt] 29)).alloc (.cells #[.int .i64 a, bv, wv] 31))) := HE.out 0
  have HS : Hid (N = (inB a 0 cnt && (stopsB bl && stopsB wl))) := by
    rw [← HN.out, sessB, inB, ← Bool.and_assoc]
    congr 1
    rw [Bool.decide_and]
  clear HN hb hw
  revert HB HW HS HI
  generalize stopsB bl = t1
  generalize stopsB wl = t2
  generalize inB a 0 cnt = t0
  intro HB HW HI HS
  cases t0
  · have e : N = false := HS.out
    rw [e]
    go_enter Try.func12, Try.ntmps12
    go_wp2_with (go_at_call 22; refine (HI.out _).mono ?_; rintro e w1 ⟨rfl, hw1⟩; rw [hw1]; clear hw1 w1)
    go_ret
    exact ⟨rfl, HE0.out⟩
  · cases t1
    · have e : N = false := HS.out
      rw [e]
      go_enter Try.func12, Try.ntmps12
      go_wp2_with (go_at_call 22; refine (HI.out _).mono ?_; rintro e w1 ⟨rfl, hw1⟩; rw [hw1]; clear hw1 w1)
      refine (HB.out _ HE0.out).mono ?_
      rintro e w1 ⟨rfl, n, hw1⟩
      rw [hw1]
      clear hw1 w1
      go_wp2_with fail
      go_ret
      exact ⟨rfl, HE.out _⟩
    · cases t2
      all_goals
        have e := HS.out
        simp only [Bool.and_true, Bool.and_false] at e
        rw [e]
        go_enter Try.func12, Try.ntmps12
        go_wp2_with (go_at_call 22; refine (HI.out _).mono ?_; rintro e w1 ⟨rfl, hw1⟩; rw [hw1]; clear hw1 w1)
        refine (HB.out _ HE0.out).mono ?_
        rintro e w1 ⟨rfl, n, hw1⟩
        rw [hw1]
        clear hw1 w1
        go_wp2_with fail
        refine (HW.out _ (HE.out n)).mono ?_
        rintro e w1 ⟨rfl, m, hw1⟩
        rw [hw1]
        clear hw1 w1
        go_wp2_with fail
        go_ret
        exact ⟨rfl, HE.out _⟩

theorem box3S {w : World} {b : Nat} {x y z : Value} {t : TypeId} (h : w.heap[b]? = some (.cells #[x, y, z] t (0, 0))) :
    w.cell? ⟨b, 0, none⟩ = some x ∧ w.cell? ⟨b, 1, none⟩ = some y ∧ w.cell? ⟨b, 2, none⟩ = some z ∧ (∀ j, w.frozen? ⟨b, j, none⟩ = false) ∧ b < w.heap.size :=
  ⟨by simp [World.cell?, h], by simp [World.cell?, h], by simp [World.cell?, h], fun j => by simp [World.frozen?, h], lt_of_block h⟩

set_option maxHeartbeats 2000000 in
theorem StubChecks_any (x y : Value) (cnt a : Int) (bv wv : Value) (bl wl : List Int) (w : World) (hb : IntsAt w bv bl) (hw : IntsAt w wv wl) :
    Calls Try.prog 5 #[.agg #[x, y, .int .i64 cnt], .agg #[.int .i64 a, bv, wv]] w fun e w' => e = .returned (.bool true) ∧ Below w.heap.size w w' := by
  have HE : Hid (Below w.heap.size w ((w.alloc (.cells #[x, y, .int .i64 cnt] 29)).alloc (.cells #[.int .i64 a, bv, wv] 31))) := ((Below.refl _ _).alloc (Nat.le_refl _) _).alloc (by simp) _
  obtain ⟨W, hW⟩ : ∃ W, (w.alloc (.cells #[x, y, .int .i64 cnt] 29)).alloc (.cells #[.int .i64 a, bv, wv] 31) = W := ⟨_, rfl⟩
  have HT : Hid (W.heap[w.heap.size]? = some (.cells #[x, y, .int .i64 cnt] 29 (0, 0)) ∧ W.heap[w.heap.size + 1]? = some (.cells #[.int .i64 a, bv, wv] 31 (0, 0))) := by
    rw [← hW]
    obtain ⟨b0, b1, -⟩ := two_boxes (Below.refl ((w.alloc (.cells #[x, y, .int .i64 cnt] 29)).alloc (.cells #[.int .i64 a, bv, wv] 31)).heap.size ((w.alloc (.cells #[x, y, .int .i64 cnt] 29)).alloc (.cells #[.int .i64 a, bv, wv] 31)))
    exact ⟨b0, b1⟩
  rw [hW] at HE
  have HB : Hid (IntsAt W bv bl) := hb.below HE.out
  have HV : Hid (IntsAt W wv wl) := hw.below HE.out
  clear hb hw
  obtain ⟨z0, z1, z2, zf, zl⟩ := box3S HT.out.1
  obtain ⟨y0, y1, y2, yf, yl⟩ := box3S HT.out.2
  go_enter Try.func5, Try.ntmps5
  go_wp2_with fail
  refine (StubCheck_any x y bv wv cnt a bl wl W HB.out HV.out).mono ?_
  rintro e w1 ⟨rfl, hb1⟩
  obtain ⟨S, hS⟩ : ∃ S, sessB cnt a bl wl = S := ⟨_, rfl⟩
  rw [hS]
  obtain ⟨N, hN⟩ : ∃ N : Int, (if S = true then 0 else 8) = N := ⟨_, rfl⟩
  rw [hN]
  have HN : Hid ((if S = true then (0 : Int) else 8) = N) := hN
  clear hN
  have H1 : Hid (Below w.heap.size w w1 ∧ Below W.heap.size W w1) := ⟨HE.out.trans (hb1.mono HE.out.size), hb1⟩
  have HB1 : Hid (IntsAt w1 bv bl) := HB.out.below hb1
  have HV1 : Hid (IntsAt w1 wv wl) := HV.out.below hb1
  clear z0 z1 z2 zf y0 y1 y2 yf hb1
  obtain ⟨z0, z1, z2, zf, zl'⟩ := box3S ((H1.out.2.block _ zl).trans HT.out.1)
  obtain ⟨y0, y1, y2, yf, yl'⟩ := box3S ((H1.out.2.block _ yl).trans HT.out.2)
  go_wp2_with fail
  refine (SessionMay_any x y bv wv cnt a bl wl w1 HB1.out HV1.out).mono ?_
  rintro e w2 ⟨rfl, hb2⟩
  rw [hS]
  clear hS
  have H2 : Hid (Below w.heap.size w w2) := H1.out.1.trans (hb2.mono H1.out.1.size)
  cases S
  · obtain rfl : 8 = N := HN.out
    go_wp2_with fail
    go_ret
    exact ⟨rfl, H2.out⟩
  · obtain rfl : 0 = N := HN.out
    go_wp2_with fail
    go_ret
    exact ⟨rfl, H2.out⟩

end Go.Proofs.Ytjdafnaopemigaa
