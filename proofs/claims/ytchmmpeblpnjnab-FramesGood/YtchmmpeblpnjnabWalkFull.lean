/- The walk of the law FramesFull. -/
import Derived.Test.YtchmmpeblpnjnabBox
namespace Go.Proofs.Ytchmmpeblpnjnab
open Go.RowKit

/-- So many frames, of which the first i are taken. -/
def fullD (i k : Nat) : List (List Int) := List.replicate i (List.replicate 16 0) ++ List.replicate (k - i) []
def fullR (i k : Nat) : List Int := List.replicate i 1 ++ List.replicate (k - i) 0
theorem fullD_len {i k : Nat} (h : i ≤ k) : (fullD i k).length = k := by simp [fullD]; omega
theorem fullR_len {i k : Nat} (h : i ≤ k) : (fullR i k).length = k := by simp [fullR]; omega
theorem getD_two {α : Type} (a b d : α) (i n j : Nat) (hj : j < i + n) : (List.replicate i a ++ List.replicate n b).getD j d = if j < i then a else b := by
  by_cases h : j < i
  · rw [if_pos h, List.getD, List.getElem?_append_left (by simpa using h)]; simp [h]
  · rw [if_neg h, List.getD, List.getElem?_append_right (by simpa using h)]
    simp [show j - i < n by omega]
theorem fullR_at {i k j : Nat} (h : i ≤ k) (hj : j < k) : (fullR i k).getD j 0 = if j < i then 1 else 0 := getD_two _ _ _ _ _ _ (by omega)
theorem fullD_at {i k j : Nat} (h : i ≤ k) (hj : j < k) : (fullD i k).getD j [] = if j < i then List.replicate 16 0 else [] := getD_two _ _ _ _ _ _ (by omega)
theorem set_two {α : Type} (a b : α) (i n : Nat) : (List.replicate i a ++ List.replicate (n + 1) b).set i a = List.replicate (i + 1) a ++ List.replicate n b := by
  rw [List.set_append_right _ _ (by simp), List.length_replicate, Nat.sub_self, List.replicate_succ (n := n), List.set_cons_zero, List.replicate_succ' (n := i), List.append_assoc]
  rfl
theorem fullD_step {i k : Nat} (h : i < k) : (fullD i k).set i (List.replicate 16 0) = fullD (i + 1) k := by
  have e : k - i = (k - (i + 1)) + 1 := by omega
  unfold fullD
  rw [e, set_two]
theorem fullR_step {i k : Nat} (h : i < k) : (fullR i k).set i 1 = fullR (i + 1) k := by
  have e : k - i = (k - (i + 1)) + 1 := by omega
  unfold fullR
  rw [e, set_two]
theorem full_may {i k : Nat} (h : i ≤ k) (hk : k ≤ 200) : May (fullD i k) (fullR i k) := by
  refine ⟨by rw [fullD_len h, fullR_len h], by rw [fullR_len h]; exact hk, fun j hj => ?_⟩
  rw [fullR_len h] at hj
  unfold okAt
  rw [fullR_at h hj, fullD_at h hj]
  by_cases e : j < i
  · simp [e, wordsB]
  · simp [e, wordsB]
theorem full_first {i k : Nat} (h : i < k) : FirstAt (fullR i k) i := by
  refine ⟨by rw [fullR_len (by omega)]; exact h, ?_, fun j hj => ?_⟩
  · rw [fullR_at (by omega) h, if_neg (by omega)]
  · rw [fullR_at (by omega) (by omega), if_pos hj]; decide
theorem full_none (k : Nat) : NoneFree (fullR k k) := fun j hj => by
  rw [fullR_len (Nat.le_refl _)] at hj
  rw [fullR_at (Nat.le_refl _) hj, if_pos hj]; decide

theorem full_known {k j : Nat} (hj : j < k) : Known (fullR k k) j := ⟨by omega, by rw [fullR_len (Nat.le_refl _)]; omega, by
  simp only [Int.toNat_natCast]
  rw [fullR_at (Nat.le_refl _) hj, if_pos hj]; decide⟩

/-- Behind the drop of one. -/
theorem drop_may {k j : Nat} (hj : j < k) (hk : k ≤ 200) : May ((fullD k k).set j []) ((fullR k k).set j 0) := by
  have hm := full_may (Nat.le_refl k) hk
  refine ⟨by simpa using hm.1, by simpa using hm.2.1, fun n hn => ?_⟩
  have hn' : n < (fullR k k).length := by simpa using hn
  have hl : (fullR k k).length = k := fullR_len (Nat.le_refl _)
  have hl2 : (fullD k k).length = k := fullD_len (Nat.le_refl _)
  unfold okAt
  rw [getD_set _ _ _ _ _ (by omega), getD_set _ _ _ _ _ (by omega)]
  by_cases e : n = j
  · simp [e, wordsB]
  · rw [if_neg e, if_neg e]; exact hm.2.2 n hn'
theorem drop_first {k j : Nat} (hj : j < k) : FirstAt ((fullR k k).set j 0) j := by
  have hl : (fullR k k).length = k := fullR_len (Nat.le_refl _)
  refine ⟨by rw [List.length_set]; omega, ?_, fun n hn => ?_⟩
  · rw [getD_set _ _ _ _ _ (by omega), if_pos rfl]
  · rw [getD_set _ _ _ _ _ (by omega), if_neg (by omega), fullR_at (Nat.le_refl _) (by omega), if_pos (by omega)]; decide
theorem drop_fault {k j : Nat} (hj : j < k) (hk : k ≤ 200) : faultNo ((fullD k k).set j []) ((fullR k k).set j 0) j = 6 :=
  fault_none (drop_may hj hk) (fun h => h.2.2 (by simpa using (drop_first hj).2.1))

theorem newK (k : Nat) (hk : k ≤ 200) (w : World) : Calls Try.prog 15 #[.int .i64 k] w fun e w' => Res2 w (fullD 0 k) (fullR 0 k) 0 e w' :=
  (New_any k w).mono fun e w' ⟨A, c, B, c', he, hd, hr, hb⟩ => by
    have hr0 : 0 ≤ (k : Int) ∧ (k : Int) ≤ 200 := by omega
    have e1 : newD k = fullD 0 k := by simp [newD, fullD, hr0]
    have e2 : newR k = fullR 0 k := by simp [newR, fullR, hr0]
    have e3 : newE k = 0 := by simp [newE, hr0]
    rw [e1, e2, e3] at he
    rw [e1] at hd
    rw [e2] at hr
    exact ⟨A, c, B, c', he, hd, hr, hb⟩

theorem fl_take (dv rv : Value) (i k : Nat) (h : i < k) (hk : k ≤ 200) (w : World) (hd : RowsAt w dv (fullD i k)) (hr : IntsAt w rv (fullR i k)) :
    Calls Try.prog 17 #[.agg #[dv, rv]] w fun e w' => Res3 w (fullD (i + 1) k) (fullR (i + 1) k) i 0 e w' := by
  have := Take_ok dv rv _ _ i w hd hr (full_may (by omega) hk) (full_first h)
  rwa [fullD_step h, fullR_step h] at this

theorem fl_drop (dv rv : Value) (j k : Nat) (h : j < k) (hk : k ≤ 200) (w : World) (hd : RowsAt w dv (fullD k k)) (hr : IntsAt w rv (fullR k k)) :
    Calls Try.prog 19 #[.agg #[dv, rv], .int .i64 j] w fun e w' => Res2 w ((fullD k k).set j []) ((fullR k k).set j 0) 0 e w' := by
  have e : (fullR k k).getD j 0 = 1 := by rw [fullR_at (Nat.le_refl _) h, if_pos h]
  have := Drop_last dv rv _ _ j w hd hr (full_may (Nat.le_refl _) hk) (full_known h) e
  rwa [e] at this

set_option maxHeartbeats 2000000 in
theorem FramesFull_any (n : Int) (w : World) (hn : (Lit.int .i64 n).wf = true) :
    Calls Try.prog 7 #[.int .i64 n] w fun e w' => e = .returned (.bool true) ∧ Below w.heap.size w w' := by
  obtain ⟨p1, p2⟩ := pickF_bd n (m := 20) (by decide)
  obtain ⟨p, hp⟩ := Int.eq_ofNat_of_zero_le p1
  have HP : Hid (pickF n 20 = (p : Int)) := hp
  have hp20 : p < 20 := by omega
  have HA : Hid (_) := hn
  clear hp p1 p2 hn
  go_enter Try.func7, Try.ntmps7
  go_wp2_with fail
  refine (picked_any n 20 _ HA.out (by decide) (by decide)).mono ?_
  rw [HP.out]
  rintro e w' ⟨rfl, rfl⟩
  go_wp2_with fail
  obtain ⟨k, hk⟩ : ∃ k : Nat, k = p + 1 := ⟨_, rfl⟩
  rw [show (1 : Int) + (p : Int) = (k : Int) by omega]
  have hk1 : 1 ≤ k := by omega
  have hk20 : k ≤ 20 := by omega
  clear hk hp20 HP HA
  refine (newK k (by omega) _).mono ?_
  rintro e w1 ⟨A0, c0, B0, c0', rfl, hd, hr, hb⟩
  have F0 := BoxF.start hb hd.at hr.at
  clear hd hr hb
  have HF0 : Hid (_) := F0
  clear F0
  go_wp2_with fail
  go_loopw [28] (fun i wr => ∃ (m : Nat) (A B : Option Addr) (c c' : Nat), m ≤ k ∧ i = .int .i64 (m : Nat) ∧ BoxF w' w1.heap.size A c B c' (fullD m k) (fullR m k) wr) (fun i _ => k - (intOf i).toNat)
  case atStart => exact ⟨0, _, _, _, _, Nat.zero_le _, rfl, HF0.out⟩
  case round =>
    clear HF0
    obtain ⟨m, A, B, c, c', hm, rfl, F⟩ := hrel
    obtain ⟨hx0, hx1, hxf, hxl⟩ := two_cells F.box
    by_cases hlt : m < k
    · go_wp2_with fail
      refine (fl_take _ _ m k hlt (by omega) _ F.rows F.ints).mono ?_
      rintro e w2 ⟨A2, c2, B2, c2', rfl, hd, hr, hb⟩
      have F2 := F.next hb hd hr
      clear hx0 hx1 hxf hxl
      obtain ⟨hx0, hx1, hxf, hxl⟩ := two_cells (F.keep hb).box
      have HF2 : Hid (_) := F2.keep (below_alloc _ (.cells #[.slice A2 (fullD (m + 1) k).length c2, .slice B2 (fullR (m + 1) k).length c2'] 25))
      clear hd hr hb F F2
      go_wp2
      refine ⟨⟨m + 1, _, _, _, _, by omega, by go_num, HF2.out⟩, ?_⟩
      simp [intOf]; omega
    · have e : m = k := by omega
      subst e
      go_wp2_with fail
      refine (Take_full _ _ _ _ _ F.rows F.ints (full_may (Nat.le_refl _) (by omega)) (full_none _)).mono ?_
      rintro e w2 ⟨A2, c2, B2, c2', rfl, hd, hr, hb⟩
      have F2 := (F.keep hb).keep (below_alloc _ (.cells #[.slice A2 ([] : List (List Int)).length c2, .slice B2 ([] : List Int).length c2'] 25))
      clear hx0 hx1 hxf hxl
      obtain ⟨hx0, hx1, hxf, hxl⟩ := two_cells (F.keep hb).box
      clear hd hr hb F
      obtain ⟨j, hj0⟩ : ∃ j : Nat, j = m / 2 := ⟨_, rfl⟩
      have hj : (m : Int) / 2 = (j : Int) := by omega
      have hjm : j < m := by omega
      have HM : Hid (m ≤ 200) := by show _ ≤ _; omega
      clear hj0 hm hlt
      obtain ⟨D3, hD3⟩ : ∃ D3, D3 = (fullD m m).set j [] := ⟨_, rfl⟩
      obtain ⟨R3, hR3⟩ : ∃ R3, R3 = (fullR m m).set j 0 := ⟨_, rfl⟩
      have C1 : Hid (∀ dv rv w, RowsAt w dv (fullD m m) → IntsAt w rv (fullR m m) → Calls Try.prog 19 #[.agg #[dv, rv], .int .i64 j] w fun e w' => Res2 w D3 R3 0 e w') := fun dv rv w h1 h2 => by
        rw [hD3, hR3]; exact fl_drop dv rv j m hjm HM.out w h1 h2
      have C2 : Hid (∀ dv rv w, RowsAt w dv D3 → IntsAt w rv R3 → Calls Try.prog 8 #[.agg #[dv, rv], .int .i64 j, .int .i64 0] w fun e w' => e = .returned (.tuple #[.int .i64 0, .int .i64 6]) ∧ Below w.heap.size w w') := fun dv rv w h1 h2 => by
        have hf : faultNo D3 R3 j = 6 := by rw [hD3, hR3]; exact drop_fault hjm HM.out
        have := Read_fault dv rv D3 R3 j 0 w h1 h2 (by rw [hf]; decide)
        rwa [hf] at this
      have C3 : Hid (∃ D4 R4, ∀ dv rv w, RowsAt w dv D3 → IntsAt w rv R3 → Calls Try.prog 17 #[.agg #[dv, rv]] w fun e w' => Res3 w D4 R4 j 0 e w') := ⟨_, _, fun dv rv w h1 h2 => Take_ok dv rv D3 R3 j w h1 h2 (by rw [hD3, hR3]; exact drop_may hjm HM.out) (by rw [hR3]; exact drop_first hjm)⟩
      obtain ⟨D4, R4, hC4⟩ := C3.out
      have C4 : Hid (_) := hC4
      clear hD3 hR3 C3 hC4
      go_wp2_with fail
      refine (C1.out _ _ _ F2.rows F2.ints).mono ?_
      rintro e w3 ⟨A3, c3, B3, c3', rfl, hd, hr, hb⟩
      have F3 := F2.next hb hd hr
      clear hx0 hx1 hxf hxl
      obtain ⟨hx0, hx1, hxf, hxl⟩ := two_cells (F2.keep hb).box
      clear hd hr hb F2 C1
      go_wp2_with fail
      refine (C2.out _ _ _ F3.rows F3.ints).mono ?_
      rintro e w4 ⟨rfl, hb⟩
      have F4 := F3.keep hb
      clear hx0 hx1 hxf hxl
      obtain ⟨hx0, hx1, hxf, hxl⟩ := two_cells F4.box
      clear hb F3 C2
      go_wp2_with fail
      refine (C4.out _ _ _ F4.rows F4.ints).mono ?_
      rintro e w5 ⟨A5, c5, B5, c5', rfl, hd, hr, hb⟩
      have F5 := F4.keep hb
      have HB : Hid (_) := F5.old.alloc F5.old.size (.cells #[.slice A5 D4.length c5, .slice B5 R4.length c5'] 25)
      clear hx0 hx1 hxf hxl hd hr hb F4 F5 C4
      go_wp2
      go_ret
      exact ⟨rfl, HB.out⟩

end Go.Proofs.Ytchmmpeblpnjnab
