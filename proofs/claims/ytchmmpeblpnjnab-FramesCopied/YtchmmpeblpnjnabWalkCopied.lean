/- The walk of the law FramesCopied. -/
import Derived.Test.YtchmmpeblpnjnabBox
namespace Go.Proofs.Ytchmmpeblpnjnab
open Go.RowKit

abbrev z16 : List Int := List.replicate 16 0

theorem cp_take (dv rv : Value) (w : World) (hd : RowsAt w dv [[], [], []]) (hr : IntsAt w rv [0, 0, 0]) :
    Calls Try.prog 17 #[.agg #[dv, rv]] w fun e w' => Res3 w [z16, [], []] [1, 0, 0] 0 0 e w' :=
  Take_ok dv rv [[], [], []] [0, 0, 0] 0 w hd hr (may3 (by decide) (by decide) (by decide)) ⟨by decide, rfl, fun j hj => by omega⟩

theorem cp_write1 (dv rv : Value) (i : Nat) (v : Int) (w : World) (hi : i < 16) (hd : RowsAt w dv [z16, [], []]) (hr : IntsAt w rv [1, 0, 0]) :
    Calls Try.prog 11 #[.agg #[dv, rv], .int .i64 0, .int .i64 i, .int .i64 v] w fun e w' => Res3 w [z16.set i v, [], []] [1, 0, 0] 0 0 e w' :=
  Write_one dv rv [z16, [], []] [1, 0, 0] 0 i v w hd hr (may3 (by decide) (by decide) (by decide)) ⟨by decide, by decide, by decide⟩ hi rfl

theorem cp_share (dv rv : Value) (ra : List Int) (hl : ra.length = 16) (w : World) (hd : RowsAt w dv [ra, [], []]) (hr : IntsAt w rv [1, 0, 0]) :
    Calls Try.prog 18 #[.agg #[dv, rv], .int .i64 0] w fun e w' => Res2 w [ra, [], []] [2, 0, 0] 0 e w' :=
  Share_ok dv rv [ra, [], []] [1, 0, 0] 0 w hd hr (may3 ⟨by decide, by decide, by rw [hl]; decide⟩ (by decide) (by decide)) ⟨by decide, by decide, by decide⟩ (by decide)

theorem cp_write2 (dv rv : Value) (ra : List Int) (hl : ra.length = 16) (i : Nat) (v : Int) (w : World) (hi : i < 16) (hd : RowsAt w dv [ra, [], []]) (hr : IntsAt w rv [2, 0, 0]) :
    Calls Try.prog 11 #[.agg #[dv, rv], .int .i64 0, .int .i64 i, .int .i64 v] w fun e w' => Res3 w [ra, ra.set i v, []] [1, 1, 0] 1 0 e w' :=
  Write_many dv rv [ra, [], []] [2, 0, 0] 0 i 1 v w hd hr (may3 ⟨by decide, by decide, by rw [hl]; decide⟩ (by decide) (by decide)) ⟨by decide, by decide, by decide⟩ hi (by decide) ⟨by decide, rfl, fun j hj => by
    have : j = 0 := by omega
    subst this
    decide⟩

theorem cp_read0 (dv rv : Value) (ra rb : List Int) (hl : ra.length = 16) (hl2 : rb.length = 16) (i : Nat) (w : World) (hi : i < 16) (hd : RowsAt w dv [ra, rb, []]) (hr : IntsAt w rv [1, 1, 0]) :
    Calls Try.prog 8 #[.agg #[dv, rv], .int .i64 0, .int .i64 i] w fun e w' => e = .returned (.tuple #[.int .i64 (ra.getD i 0), .int .i64 0]) ∧ Below w.heap.size w w' :=
  Read_ok dv rv [ra, rb, []] [1, 1, 0] 0 i w hd hr (may3 ⟨by decide, by decide, by rw [hl]; decide⟩ ⟨by decide, by decide, by rw [hl2]; decide⟩ (by decide)) ⟨by decide, by decide, by decide⟩ hi

theorem cp_read1 (dv rv : Value) (ra rb : List Int) (hl : ra.length = 16) (hl2 : rb.length = 16) (i : Nat) (w : World) (hi : i < 16) (hd : RowsAt w dv [ra, rb, []]) (hr : IntsAt w rv [1, 1, 0]) :
    Calls Try.prog 8 #[.agg #[dv, rv], .int .i64 1, .int .i64 i] w fun e w' => e = .returned (.tuple #[.int .i64 (rb.getD i 0), .int .i64 0]) ∧ Below w.heap.size w w' :=
  Read_ok dv rv [ra, rb, []] [1, 1, 0] 1 i w hd hr (may3 ⟨by decide, by decide, by rw [hl]; decide⟩ ⟨by decide, by decide, by rw [hl2]; decide⟩ (by decide)) ⟨by decide, by decide, by decide⟩ hi

theorem cp_write3 (dv rv : Value) (ra rb : List Int) (hl : ra.length = 16) (hl2 : rb.length = 16) (i : Nat) (v : Int) (w : World) (hi : i < 16) (hd : RowsAt w dv [ra, rb, []]) (hr : IntsAt w rv [1, 1, 0]) :
    Calls Try.prog 11 #[.agg #[dv, rv], .int .i64 1, .int .i64 i, .int .i64 v] w fun e w' => Res3 w [ra, rb.set i v, []] [1, 1, 0] 1 0 e w' :=
  Write_one dv rv [ra, rb, []] [1, 1, 0] 1 i v w hd hr (may3 ⟨by decide, by decide, by rw [hl]; decide⟩ ⟨by decide, by decide, by rw [hl2]; decide⟩ (by decide)) ⟨by decide, by decide, by decide⟩ hi rfl

theorem new3 (w : World) : Calls Try.prog 15 #[.int .i64 3] w fun e w' => Res2 w [[], [], []] [0, 0, 0] 0 e w' :=
  (New_any 3 w).mono fun e w' ⟨A, c, B, c', he, hd, hr, hb⟩ => by
    have e1 : newD 3 = [[], [], []] := by decide
    have e2 : newR 3 = [0, 0, 0] := by decide
    have e3 : newE 3 = 0 := by decide
    rw [e1, e2, e3] at he
    rw [e1] at hd
    rw [e2] at hr
    exact ⟨A, c, B, c', he, hd, hr, hb⟩

set_option maxHeartbeats 2000000 in
theorem FramesCopied_any (at0 v x : Int) (w : World) (ha : (Lit.int .i64 at0).wf = true) (_hv : (Lit.int .i64 v).wf = true) (_hx : (Lit.int .i64 x).wf = true) :
    Calls Try.prog 6 #[.int .i64 at0, .int .i64 v, .int .i64 x] w fun e w' => e = .returned (.bool true) ∧ Below w.heap.size w w' := by
  obtain ⟨p1, p2⟩ := pickF_bd at0 (m := 16) (by decide)
  obtain ⟨k, hk⟩ := Int.eq_ofNat_of_zero_le p1
  have HK : Hid (pickF at0 16 = (k : Int)) := hk
  have hk16 : k < 16 := by omega
  have HA : Hid (_) := ha
  clear hk p1 p2 _hv _hx ha
  obtain ⟨ra, hra⟩ : ∃ ra, ra = z16.set k v := ⟨_, rfl⟩
  obtain ⟨rb, hrb⟩ : ∃ rb, rb = ra.set k x := ⟨_, rfl⟩
  have HRA : Hid (ra = z16.set k v) := hra
  have HRB : Hid (rb = ra.set k x) := hrb
  have HL : Hid (ra.length = 16) := by rw [hra]; show _ = _; simp
  have HL2 : Hid (rb.length = 16) := by rw [hrb]; show _ = _; rw [List.length_set]; exact HL.out
  have HV : Hid (ra.getD k 0 = v) := by rw [hra]; show _ = _; simp [List.getD, hk16]
  have HW : Hid (rb.getD k 0 = x) := by
    have := HL.out
    rw [hrb]; show _ = _; simp [List.getD, this, hk16]
  clear hra hrb
  go_enter Try.func6, Try.ntmps6
  go_wp2_with fail
  refine (picked_any at0 16 _ HA.out (by decide) (by decide)).mono ?_
  rw [HK.out]
  rintro e w' ⟨rfl, rfl⟩
  go_wp2_with fail
  refine (new3 _).mono ?_
  rintro e w1 ⟨A0, c0, B0, c0', rfl, hd, hr, hb⟩
  have F0 := BoxF.start hb hd.at hr.at
  clear hd hr hb
  go_wp2_with fail
  refine (cp_take _ _ _ F0.rows F0.ints).mono ?_
  rintro e w2 ⟨A1, c1, B1, c1', rfl, hd, hr, hb⟩
  have F1 := F0.next hb hd hr
  obtain ⟨hx0, hx1, hxf, hxl⟩ := two_cells (F0.keep hb).box
  clear hd hr hb F0
  go_wp2_with fail
  have W1 := cp_write1 (.slice A1 3 c1) (.slice B1 3 c1') k v _ hk16 F1.rows F1.ints
  rw [← HRA.out] at W1
  refine (W1).mono ?_
  rintro e w3 ⟨A3, c3, B3, c3', rfl, hd, hr, hb⟩
  have F2 := F1.next hb hd hr
  clear hx0 hx1 hxf hxl
  obtain ⟨hx0, hx1, hxf, hxl⟩ := two_cells (F1.keep hb).box
  clear hd hr hb F1
  go_wp2_with fail
  clear W1
  refine (cp_share _ _ ra HL.out _ F2.rows F2.ints).mono ?_
  rintro e w4 ⟨A4, c4, B4, c4', rfl, hd, hr, hb⟩
  have F3 := F2.next hb hd hr
  clear hx0 hx1 hxf hxl
  obtain ⟨hx0, hx1, hxf, hxl⟩ := two_cells (F2.keep hb).box
  clear hd hr hb F2
  go_wp2_with fail
  have W2 := cp_write2 (.slice A4 3 c4) (.slice B4 3 c4') ra HL.out k x _ hk16 F3.rows F3.ints
  rw [← HRB.out] at W2
  refine (W2).mono ?_
  rintro e w5 ⟨A5, c5, B5, c5', rfl, hd, hr, hb⟩
  have F4 := F3.next hb hd hr
  clear hx0 hx1 hxf hxl
  obtain ⟨hx0, hx1, hxf, hxl⟩ := two_cells (F3.keep hb).box
  clear hd hr hb F3
  go_wp2_with fail
  clear W2
  refine (cp_read0 _ _ ra rb HL.out HL2.out k _ hk16 F4.rows F4.ints).mono ?_
  rw [HV.out]
  rintro e w6 ⟨rfl, hb⟩
  have F5 := F4.keep hb
  clear hx0 hx1 hxf hxl hb F4
  obtain ⟨hx0, hx1, hxf, hxl⟩ := two_cells F5.box
  go_wp2_with fail
  refine (cp_read1 _ _ ra rb HL.out HL2.out k _ hk16 F5.rows F5.ints).mono ?_
  rw [HW.out]
  rintro e w7 ⟨rfl, hb⟩
  have F6 := F5.keep hb
  clear hx0 hx1 hxf hxl hb F5
  obtain ⟨hx0, hx1, hxf, hxl⟩ := two_cells F6.box
  go_wp2_with fail
  refine (cp_write3 _ _ ra rb HL.out HL2.out k v _ hk16 F6.rows F6.ints).mono ?_
  rintro e w8 ⟨A8, c8, B8, c8', rfl, hd, hr, hb⟩
  have F7 := F6.next hb hd hr
  clear hx0 hx1 hxf hxl
  obtain ⟨hx0, hx1, hxf, hxl⟩ := two_cells (F6.keep hb).box
  have hq7 := lt_of_block F6.box
  obtain ⟨B9, c9, e9, _, hc9⟩ := id hr
  obtain ⟨b9, o9, e10, hlo9, hb9, hj9⟩ := hc9 (by decide)
  simp only [Value.slice.injEq] at e9
  obtain ⟨e9, _, rfl⟩ := e9
  subst e9
  subst e10
  have j0 : w8.cell? ⟨b9, o9, none⟩ = some (.int .i64 1) := hj9 0 (by decide)
  have j1 : w8.cell? ⟨b9, o9 + 1, none⟩ = some (.int .i64 1) := hj9 1 (by decide)
  have nb : b9 ≠ w1.heap.size := by omega
  have HF7 : Hid (_) := F7
  clear hd hr hb F6 hj9 hc9 F7 hlo9 hq7
  go_wp2
  go_ret
  exact ⟨rfl, HF7.out.old⟩

end Go.Proofs.Ytchmmpeblpnjnab
