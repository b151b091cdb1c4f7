/- Contract of cpu.Check. -/
import Derived.Test.YtbjlfhpiebokkaaDoorCloPart
namespace Go.Proofs.YtbjlfhpiebokkaaDoor
open Go.RowKit

set_option maxHeartbeats 2000000 in
theorem CpuCheck_any (op a b n : Int) (w : World) :
    Calls Tryd.prog 110 #[.agg #[.int .i64 op, .int .i64 a, .int .i64 b, .int .i64 n]] w fun e w' => e = .returned (.int .i64 (instrNo op a b n)) ∧ Below w.heap.size w w' := by
  obtain ⟨hx, hb0⟩ : (w.alloc (.cells #[.int .i64 op, .int .i64 a, .int .i64 b, .int .i64 n] 83)).heap[w.heap.size]? = some (.cells #[.int .i64 op, .int .i64 a, .int .i64 b, .int .i64 n] 83 (0, 0)) ∧ Below w.heap.size w (w.alloc (.cells #[.int .i64 op, .int .i64 a, .int .i64 b, .int .i64 n] 83)) := ⟨Go.Deep.blk_alloc_new _ _, below_alloc _ _⟩
  obtain ⟨W, hW⟩ : ∃ W, W = w.alloc (.cells #[.int .i64 op, .int .i64 a, .int .i64 b, .int .i64 n] 83) := ⟨_, rfl⟩
  rw [← hW] at hx hb0
  have HW : Hid (W = _) := hW
  clear hW
  have HB0 : Hid (Below w.heap.size w W) := hb0
  clear hb0
  obtain ⟨x0, x1, x2, x3, xf, xl⟩ := four_cells hx
  clear hx
  go_enter Tryd.func110, Tryd.ntmps110
  go_wp2_with fail
  rw [← HW.out]
  clear HW
  cases c0 : inB op 0 15 with
  | false =>
    have HN : Hid (3 = instrNo op a b n) := by show _ = _; simp [instrNo, c0]
    go_region_held3 (fun w' => w'.cell? ⟨w.heap.size, 0, none⟩ = some (.int .i64 op)) (go_keep)
      (first
        | (go_at_call 44; refine (outside_any _ _ _).mono ?_; rintro e w1 ⟨p, q, rfl, hc, hb⟩; have HC : Hid (CloAt w1 p q 0 15) := hc; have hb' : Below W.heap.size W w1 := ((Below.refl _ W).drew).trans hb; have HB : Hid (Below W.heap.size W w1) := hb'; have s0 := (hb'.cell (p := ⟨w.heap.size, 0, none⟩) xl).trans x0; clear hc hb hb')
        | (go_at_call 78; refine (clo_any _ 0 15 _ _ _ HC.out).mono ?_; rw [c0]; rintro e w2 ⟨rfl, rfl⟩))
    all_goals
      go_wp2_with fail
      go_ret
      exact ⟨ret_int HN.out, HB0.out.trans (HB.out.mono HB0.out.size)⟩
  | true =>
    go_region_held3 (fun w' => w'.cell? ⟨w.heap.size, 0, none⟩ = some (.int .i64 op)) (go_keep)
      (first
        | (go_at_call 44; refine (outside_any _ _ _).mono ?_; rintro e w1 ⟨p, q, rfl, hc, hb⟩; have HC : Hid (CloAt w1 p q 0 15) := hc; have hb' : Below W.heap.size W w1 := ((Below.refl _ W).drew).trans hb; have HB : Hid (Below W.heap.size W w1) := hb'; have s0 := (hb'.cell (p := ⟨w.heap.size, 0, none⟩) xl).trans x0; clear hc hb hb')
        | (go_at_call 78; refine (clo_any _ 0 15 _ _ _ HC.out).mono ?_; rw [c0]; rintro e w2 ⟨rfl, rfl⟩))
    all_goals
      clear HC s0
      go_wp2_with fail
      refine (outside_any _ _ _).mono ?_
      rintro e w3 ⟨p3, q3, rfl, hc3, hb3⟩
      have hb4 : Below W.heap.size W w3 := HB.out.trans (hb3.mono HB.out.size)
      have HC3 : Hid (CloAt w3 p3 q3 0 7) := hc3
      have HB3 : Hid (Below W.heap.size W w3) := hb4
      have y0 := (hb4.cell (p := ⟨w.heap.size, 0, none⟩) xl).trans x0
      have y1 := (hb4.cell (p := ⟨w.heap.size, 1, none⟩) xl).trans x1
      have y2 := (hb4.cell (p := ⟨w.heap.size, 2, none⟩) xl).trans x2
      have y3 := (hb4.cell (p := ⟨w.heap.size, 3, none⟩) xl).trans x3
      have yl : w.heap.size < w3.heap.size := Nat.lt_of_lt_of_le xl hb4.size
      clear hc3 hb3 hb4 x0 x1 x2 x3 xf xl HB
      go_upto_region 4 with fail
      go_cut [24] (fun c wx => c = .bool (!inB a 0 7 || !inB b 0 7 || !inB n (-1048576) 1048575) ∧ Below w3.heap.size w3 wx)
      case first =>
        have HA : Hid (∀ x, Calls Tryd.prog 78 #[.int .i64 a, .pointer (some ⟨p3, 0, none⟩), .pointer (some ⟨q3, 0, none⟩)] (w3.drewN x) fun e w' => e = .returned (.bool (!inB a 0 7)) ∧ w' = w3.drewN x) := fun x => clo_any a 0 7 p3 q3 _ (HC3.out.below (below_drewN (Below.refl _ _) _))
        have HBB : Hid (∀ x, Calls Tryd.prog 78 #[.int .i64 b, .pointer (some ⟨p3, 0, none⟩), .pointer (some ⟨q3, 0, none⟩)] (w3.drewN x) fun e w' => e = .returned (.bool (!inB b 0 7)) ∧ w' = w3.drewN x) := fun x => clo_any b 0 7 p3 q3 _ (HC3.out.below (below_drewN (Below.refl _ _) _))
        cases c1 : inB a 0 7 with
        | false =>
          rw [c1] at HA
          go_quiet (exact Calls.quiet_of_same (HA.out _))
          go_wp2_with fail
          go_meet
          exact ⟨by rw [c1]; rfl, below_drewN (Below.refl _ _) _⟩
        | true =>
        rw [c1] at HA
        cases c2 : inB b 0 7 with
        | false =>
          rw [c2] at HBB
          go_quiet (first | (go_at_call_of 78 (Value.int IntKind.i64 a); exact Calls.quiet_of_same (HA.out _)) | (go_at_call_of 78 (Value.int IntKind.i64 b); exact Calls.quiet_of_same (HBB.out _)))
          go_wp2_with fail
          go_meet
          exact ⟨by rw [c1, c2]; rfl, below_drewN (Below.refl _ _) _⟩
        | true =>
        clear HA HBB
        go_region_law
          (first
            | (go_simp; go_at_call_of 78 (Value.int IntKind.i64 a); refine (clo_any a 0 7 _ _ _ HC3.out.drew).mono ?_; rw [c1]; rintro e w2 ⟨rfl, rfl⟩)
            | (go_simp; go_at_call_of 78 (Value.int IntKind.i64 b); refine (clo_any b 0 7 _ _ _ HC3.out.drew).mono ?_; rw [c2]; rintro e w2 ⟨rfl, rfl⟩)
            | (go_simp; go_at_call_of 78 (Value.int IntKind.i64 n); refine (clo_any n (-1048576) 1048575 _ _ _ HC5.out).mono ?_; rintro e w2 ⟨rfl, rfl⟩)
            | (go_simp; go_at_call 44; refine (outside_any _ _ _).mono ?_; rintro e w5 ⟨p5, q5, rfl, hc, hb⟩; have HC5 : Hid (CloAt w5 p5 q5 (-1048576) 1048575) := hc; have hb' : Below w3.heap.size w3 w5 := ((Below.refl _ w3).drew).trans hb; have HB5 : Hid (Below w3.heap.size w3 w5) := hb'; have s1 := (hb'.cell (p := ⟨w.heap.size, 1, none⟩) yl).trans y1; have s2 := (hb'.cell (p := ⟨w.heap.size, 2, none⟩) yl).trans y2; have s3 := (hb'.cell (p := ⟨w.heap.size, 3, none⟩) yl).trans y3; clear hc hb hb'))
        all_goals
          go_wp2_with fail
          go_meet
          exact ⟨by rw [c1, c2]; rfl, HB5.out⟩
      case rest =>
        obtain ⟨hc5, hb5⟩ := hcut
        cases c3 : (!inB a 0 7 || !inB b 0 7 || !inB n (-1048576) 1048575) with
        | true =>
          have HN : Hid (2 = instrNo op a b n) := by show _ = _; simp only [instrNo, c0, c3]; rfl
          rw [c3] at hc5
          subst hc5
          have HB5 : Hid (Below w3.heap.size w3 wc) := hb5
          clear hb5
          go_wp2_with fail
          go_ret
          exact ⟨ret_int HN.out, (HB0.out.trans (HB3.out.mono HB0.out.size)).trans (HB5.out.mono (HB0.out.trans (HB3.out.mono HB0.out.size)).size)⟩
        | false =>
          rw [c3] at hc5
          subst hc5
          have HC7 : Hid (CloAt wc p3 q3 0 7) := HC3.out.below hb5
          have HB7 : Hid (Below w.heap.size w wc) := (HB0.out.trans (HB3.out.mono HB0.out.size)).trans (hb5.mono (HB0.out.trans (HB3.out.mono HB0.out.size)).size)
          have s0 := (hb5.cell (p := ⟨w.heap.size, 0, none⟩) yl).trans y0
          have s3 := (hb5.cell (p := ⟨w.heap.size, 3, none⟩) yl).trans y3
          have sl : w.heap.size < wc.heap.size := Nat.lt_of_lt_of_le yl hb5.size
          have HI : Hid (instrNo op a b n = if (op == 2 || op == 3) && !inB n 0 7 then 4 else if op == 12 && !inB n 0 1 then 4 else 0) := by show _ = _; simp only [instrNo, c0, c3]; rfl
          clear HC3 HB3 HB0 hb5 y0 y1 y2 y3 yl c3 c0
          cases c4 : op == 2 with
          | true =>
            have c6 : (op == 12) = false := by simp at c4; simp [c4]
            cases c5 : inB n 0 7 with
            | _ =>
              go_wp2_with (go_at_call 78; refine (clo_any _ 0 7 _ _ _ HC7.out).mono ?_; rw [c5]; rintro e w2 ⟨rfl, rfl⟩)
              go_ret
              exact ⟨ret_int (by rw [HI.out, c4, c6, c5]; rfl), HB7.out⟩
          | false =>
          cases c7 : op == 3 with
          | true =>
            have c6 : (op == 12) = false := by simp at c7; simp [c7]
            cases c5 : inB n 0 7 with
            | _ =>
              go_wp2_with (go_at_call 78; refine (clo_any _ 0 7 _ _ _ HC7.out).mono ?_; rw [c5]; rintro e w2 ⟨rfl, rfl⟩)
              go_ret
              exact ⟨ret_int (by rw [HI.out, c4, c7, c6, c5]; rfl), HB7.out⟩
          | false =>
          cases c6 : op == 12 with
          | false =>
            go_wp2_with fail
            go_ret
            exact ⟨ret_int (by rw [HI.out, c4, c7, c6]; rfl), HB7.out⟩
          | true =>
            go_wp2_with fail
            cases c8 : inB n 0 1 with
            | _ =>
              go_region_held3 (fun w' => w'.cell? ⟨w.heap.size, 3, none⟩ = some (.int .i64 n)) (go_keep)
                (first
                  | (go_at_call 44; refine (outside_any _ _ _).mono ?_; rintro e w8 ⟨p8, q8, rfl, hc, hb⟩; have HC8 : Hid (CloAt w8 p8 q8 0 1) := hc; have hb' : Below wc.heap.size wc w8 := ((Below.refl _ wc).drew).trans hb; have HB8 : Hid (Below wc.heap.size wc w8) := hb'; have s7 := (hb'.cell (p := ⟨w.heap.size, 3, none⟩) sl).trans s3; clear hc hb hb')
                  | (go_at_call 78; refine (clo_any _ 0 1 _ _ _ HC8.out).mono ?_; rw [c8]; rintro e w2 ⟨rfl, rfl⟩))
              all_goals
                go_wp2_with fail
                go_ret
                exact ⟨ret_int (by rw [HI.out, c4, c7, c6, c8]; rfl), HB7.out.trans (HB8.out.mono HB7.out.size)⟩

end Go.Proofs.YtbjlfhpiebokkaaDoor

/- Contracts of cpu.Encode, floorDivide, Decode. -/

namespace Go.Proofs.YtbjlfhpiebokkaaDoor
open Go.RowKit

set_option maxHeartbeats 400000 in
theorem CpuEncode_any (op a b n : Int) (w : World) :
    Calls Tryd.prog 80 #[.agg #[.int .i64 op, .int .i64 a, .int .i64 b, .int .i64 n]] w fun e w' => e = .returned (.tuple #[.int .i64 (wordNo op a b n), .int .i64 (instrNo op a b n)]) ∧ Below w.heap.size w w' := by
  have HC : Hid (∀ w1, Below (w.alloc (.cells #[.int .i64 op, .int .i64 a, .int .i64 b, .int .i64 n] 83)).heap.size (w.alloc (.cells #[.int .i64 op, .int .i64 a, .int .i64 b, .int .i64 n] 83)) w1 → w1.heap[w.heap.size]? = some (.cells #[.int .i64 op, .int .i64 a, .int .i64 b, .int .i64 n] 83) ∧ Below w.heap.size w w1) :=
    fun w1 hb => ⟨box_kept hb, (below_alloc _ _).trans (hb.mono (by simp))⟩
  by_cases h : instrNo op a b n = 0
  · have HW : Hid (n * 1024 + b * 128 + a * 16 + op = wordNo op a b n) := by show _ = _; simp [wordNo, h, wordF]; omega
    obtain ⟨⟨o1, o2⟩, ⟨a1, a2⟩, ⟨b1, b2⟩, n1, n2⟩ := instrNo_bd h
    have HN : Hid (instrNo op a b n = 0) := h
    clear h
    go_enter Tryd.func80, Tryd.ntmps80
    go_wp2_with fail
    refine (CpuCheck_any op a b n _).mono ?_
    rw [HN.out]
    rintro e w1 ⟨rfl, hb1⟩
    obtain ⟨hbx, hb⟩ := HC.out w1 hb1
    obtain ⟨hx0, hx1, hx2, hx3, hxf, hxl⟩ := four_cells hbx
    clear hbx hb1
    go_wp2
    go_ret2
    exact ⟨ret_two HW.out HN.out.symm, hb⟩
  · have HW : Hid (wordNo op a b n = 0) := by show _ = _; simp [wordNo, h]
    have hne : (instrNo op a b n != 0) = true := by simpa using h
    revert hne HW
    generalize wordNo op a b n = x
    generalize hg : instrNo op a b n = y
    intro HW hne
    have HG : Hid (instrNo op a b n = y) := hg
    clear hg h
    go_enter Tryd.func80, Tryd.ntmps80
    go_wp2_with fail
    refine (CpuCheck_any op a b n _).mono ?_
    rw [HG.out]
    rintro e w1 ⟨rfl, hb1⟩
    obtain ⟨hbx, hb⟩ := HC.out w1 hb1
    clear hbx hb1
    go_wp2
    go_ret2
    exact ⟨ret_two HW.out.symm rfl, hb⟩

set_option maxHeartbeats 400000 in
theorem floorDivide_any (n : Int) (w : World) (hn : -9223372036854775808 ≤ n ∧ n ≤ 9223372036854775807) :
    Calls Tryd.prog 121 #[.int .i64 n, .int .i64 1024] w fun e w' => e = .returned (.tuple #[.int .i64 (n / 1024), .int .i64 (n % 1024)]) ∧ Below w.heap.size w w' := by
  obtain ⟨n1, n2⟩ := hn
  have HD := tdiv_sign n 1024
  have HM := tmod_sign n 1024
  by_cases h : n.tmod 1024 < 0
  · have HE : Hid (n.tdiv 1024 - 1 = n / 1024) := by show _ = _; omega
    have HF : Hid (n.tmod 1024 + 1024 = n % 1024) := by show _ = _; omega
    have h1 : n.tdiv 1024 ≤ 9007199254740992 := by omega
    have h2 : -9007199254740992 ≤ n.tdiv 1024 := by omega
    have h3 : -1024 ≤ n.tmod 1024 := by omega
    clear HD HM
    go_enter Tryd.func121, Tryd.ntmps121
    go_wp2
    go_quiet (fail)
    go_wp2
    go_ret2
    exact ⟨ret_two HE.out HF.out, below_drewN (Below.refl _ _) _⟩
  · have HE : Hid (n.tdiv 1024 = n / 1024) := by show _ = _; omega
    have HF : Hid (n.tmod 1024 = n % 1024) := by show _ = _; omega
    clear HD HM
    go_enter Tryd.func121, Tryd.ntmps121
    go_wp2
    go_quiet (fail)
    go_wp2
    go_ret2
    exact ⟨ret_two HE.out HF.out, below_drewN (Below.refl _ _) _⟩

theorem decI_four (x : Int) : ∃ p q r s : Int, decI x = .agg #[.int .i64 p, .int .i64 q, .int .i64 r, .int .i64 s] ∧ (decNo x = 0 → p = x % 16 ∧ q = x / 16 % 8 ∧ r = x / 128 % 8 ∧ s = x / 1024) ∧ (decNo x ≠ 0 → p = 0 ∧ q = 0 ∧ r = 0 ∧ s = 0) := by
  unfold decI
  split
  · next h => exact ⟨_, _, _, _, rfl, fun _ => ⟨rfl, rfl, rfl, rfl⟩, fun h' => absurd h h'⟩
  · next h => exact ⟨_, _, _, _, rfl, fun h' => absurd h' h, fun _ => ⟨rfl, rfl, rfl, rfl⟩⟩
theorem rest_parts (x : Int) : (x % 1024) % 16 = x % 16 ∧ (x % 1024) / 16 % 8 = x / 16 % 8 ∧ (x % 1024) / 128 = x / 128 % 8 := by omega

theorem old_box {w w1 w2 : World} {o o1 : Obj} (h1 : Below (w.alloc o).heap.size (w.alloc o) w1) (h2 : Below (w1.alloc o1).heap.size (w1.alloc o1) w2) :
    w2.heap[w.heap.size]? = some o ∧ w2.heap[w1.heap.size]? = some o1 ∧ Below w.heap.size w w2 ∧ w.heap.size < w1.heap.size := by
  have hk := box_kept h1
  have hlt : w.heap.size < w1.heap.size := by have := h1.size; simp at this; omega
  have hb : Below w.heap.size w w1 := (below_alloc _ _).trans (h1.mono (by simp))
  have hb2 : Below w1.heap.size w1 w2 := (below_alloc _ _).trans (h2.mono (by simp))
  exact ⟨by rw [hb2.block _ hlt]; exact hk, box_kept h2, hb.trans (hb2.mono hb.size), hlt⟩

set_option maxHeartbeats 1000000 in
theorem CpuDecode_any (x : Int) (w : World) (h : -9223372036854775808 ≤ x ∧ x ≤ 9223372036854775807) :
    Calls Tryd.prog 112 #[.int .i64 x] w fun e w' => e = .returned (.tuple #[decI x, .int .i64 (decNo x)]) ∧ Below w.heap.size w w' := by
  have HF : Hid (∀ W, Calls Tryd.prog 121 #[.int .i64 x, .int .i64 1024] W fun e w' => e = .returned (.tuple #[.int .i64 (x / 1024), .int .i64 (x % 1024)]) ∧ Below W.heap.size W w') := fun W => floorDivide_any x W h
  obtain ⟨e1, e2, e3⟩ := rest_parts x
  have HE : Hid ((x % 1024) % 16 = x % 16 ∧ (x % 1024) / 16 % 8 = x / 16 % 8 ∧ (x % 1024) / 128 = x / 128 % 8) := ⟨e1, e2, e3⟩
  have r1 : 0 ≤ x % 1024 := by omega
  have r2 : x % 1024 ≤ 1023 := by omega
  have HC : Hid (∀ W, Calls Tryd.prog 110 #[.agg #[.int .i64 (x % 16), .int .i64 (x / 16 % 8), .int .i64 (x / 128 % 8), .int .i64 (x / 1024)]] W fun e w' => e = .returned (.int .i64 (decNo x)) ∧ Below W.heap.size W w') := fun W => CpuCheck_any _ _ _ _ W
  obtain ⟨p, q, r, s, hI, hy, hn⟩ := decI_four x
  rw [hI]
  by_cases hd : decNo x = 0
  · obtain ⟨rfl, rfl, rfl, rfl⟩ := hy hd
    rw [hd] at HC ⊢
    clear hI hy hn hd h e1 e2 e3
    go_enter Tryd.func112, Tryd.ntmps112
    go_wp2_with fail
    refine (HF.out _).mono ?_
    rintro e w1 ⟨rfl, hb1⟩
    have HB1 : Hid (_) := hb1
    clear hb1
    go_wp2_with fail
    rw [HE.out.1, HE.out.2.1, HE.out.2.2]
    refine (HC.out _).mono ?_
    rintro e w2 ⟨rfl, hb2⟩
    obtain ⟨hz, hy, hb, hlt⟩ := old_box HB1.out hb2
    obtain ⟨z0, z1, z2, z3, zf, zl⟩ := four_cells hz
    obtain ⟨y0, y1, y2, y3, yf, yl⟩ := four_cells hy
    clear hz hy hb2 HB1 HC HF HE
    go_wp2_with fail
    refine bodyPost_ret (v := .tuple #[.agg #[.int .i64 (x % 16), .int .i64 (x / 16 % 8), .int .i64 (x / 128 % 8), .int .i64 (x / 1024)], .int .i64 0]) (by simp [results, Tryd.results112, go_sem, z0, z1, z2, z3]) rfl ?_
    exact ⟨rfl, (((hb.setCell (by simp) _).setCell (by simp) _).setCell (by simp) _).setCell (by simp) _⟩
  · obtain ⟨rfl, rfl, rfl, rfl⟩ := hn hd
    have hne : (decNo x != 0) = true := by simpa using hd
    clear hI hy hn hd h e1 e2 e3
    revert hne HC
    generalize decNo x = y
    intro HC hne
    go_enter Tryd.func112, Tryd.ntmps112
    go_wp2_with fail
    refine (HF.out _).mono ?_
    rintro e w1 ⟨rfl, hb1⟩
    have HB1 : Hid (_) := hb1
    clear hb1
    go_wp2_with fail
    rw [HE.out.1, HE.out.2.1, HE.out.2.2]
    refine (HC.out _).mono ?_
    rintro e w2 ⟨rfl, hb2⟩
    obtain ⟨hz, hy, hb, hlt⟩ := old_box HB1.out hb2
    obtain ⟨z0, z1, z2, z3, zf, zl⟩ := four_cells hz
    clear hz hy hb2 HB1 HC HF HE
    go_wp2_with fail
    refine bodyPost_ret (v := .tuple #[.agg #[.int .i64 0, .int .i64 0, .int .i64 0, .int .i64 0], .int .i64 y]) (by simp [results, Tryd.results112, go_sem, z0, z1, z2, z3]) rfl ?_
    first
      | exact ⟨rfl, hb⟩
      | exact ⟨rfl, (((hb.setCell (by simp) _).setCell (by simp) _).setCell (by simp) _).setCell (by simp) _⟩

end Go.Proofs.YtbjlfhpiebokkaaDoor
