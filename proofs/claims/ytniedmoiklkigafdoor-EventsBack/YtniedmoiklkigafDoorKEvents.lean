/- Contract of hourglasskeep.Events: events of raw things may be. -/
import Derived.Test.YtniedmoiklkigafDoorKEv
import Derived.Test.YtniedmoiklkigafDoorWalkPick
import Derived.Test.YtniedmoiklkigafDoorOwnG
import Derived.Deep.AppendLies
import Derived.Deep.RegionLaw
namespace Go.Proofs.YtniedmoiklkigafDoor
open Go.RowKit

/-- A slice of so many raw things: four numbers each. -/
def RawsIn (w : World) (v : Value) (n : Nat) : Prop :=
  ∃ (A : Option Addr) (c : Nat), v = .slice A n c ∧ n * 32 ≤ 140737488351232 ∧
    (0 < n → ∃ b off, A = some ⟨b, off, none⟩ ∧ b < w.heap.size ∧ ∀ j, j < n → ∃ x0 x1 x2 x3 : Int, (Lit.int .i64 x0).wf = true ∧ (Lit.int .i64 x1).wf = true ∧ (Lit.int .i64 x2).wf = true ∧ (Lit.int .i64 x3).wf = true ∧
      w.cell? ⟨b, off + j * 4, none⟩ = some (.int .i64 x0) ∧ w.cell? ⟨b, off + j * 4 + 1, none⟩ = some (.int .i64 x1) ∧ w.cell? ⟨b, off + j * 4 + 2, none⟩ = some (.int .i64 x2) ∧ w.cell? ⟨b, off + j * 4 + 3, none⟩ = some (.int .i64 x3))
theorem RawsIn.below {w w' : World} {v : Value} {n : Nat} (h : RawsIn w v n) (hb : Below w.heap.size w w') : RawsIn w' v n := by
  obtain ⟨A, c, rfl, hl, hc⟩ := h
  refine ⟨A, c, rfl, hl, fun h0 => ?_⟩
  obtain ⟨b, off, rfl, hlt, hj⟩ := hc h0
  refine ⟨b, off, rfl, Nat.lt_of_lt_of_le hlt hb.size, fun j hjl => ?_⟩
  obtain ⟨x0, x1, x2, x3, f0, f1, f2, f3, c0, c1, c2, c3⟩ := hj j hjl
  exact ⟨x0, x1, x2, x3, f0, f1, f2, f3, (hb.cell (p := ⟨b, off + j * 4, none⟩) hlt).trans c0, (hb.cell (p := ⟨b, off + j * 4 + 1, none⟩) hlt).trans c1, (hb.cell (p := ⟨b, off + j * 4 + 2, none⟩) hlt).trans c2, (hb.cell (p := ⟨b, off + j * 4 + 3, none⟩) hlt).trans c3⟩

/-- What has been made so far. -/
structure Made (lo : Nat) (w w' : World) (v : Value) (a : Int) (R : List (Ev × Value)) : Prop where
  chk : chkNo (R.map Prod.fst) = 0
  upto : Upto (R.map Prod.fst) a
  len : ∀ p ∈ R, p.1.data.length ≤ 1000
  own : OwnE w' lo v R
  old : Below lo w w'
theorem Made.snoc {lo k : Nat} {w wr W w1 : World} {v v' d : Value} {a : Int} {R : List (Ev × Value)} {x : Ev} (h : Made lo w wr v a R) (hlo : lo ≤ wr.heap.size) (hb : Below wr.heap.size wr W) (hd : OwnI W lo d x.data) (hx : evNo x = 0) (ha : a < x.at_) (hk : R.length ≤ k) (hk30 : k < 30)
    (hg : W.grownBy w1 v.ownBlock) (ho : w1.ownsRow lo 36 3 v' (R.length + 1) (flat R ++ [.int .i64 x.at_, .int .i64 x.kind, d])) : Made lo w w1 v' x.at_ (R ++ [(x, d)]) := by
  have hE := h.own.below hb
  have hl := (evNo_bd hx).2.2.2
  refine ⟨?_, ?_, ?_, hE.snoc hd hg ho, (h.old.trans (hb.mono hlo)).grown hg (Nat.le_trans hlo hb.size) (fun g e => (World.ownsRow.lt hE.row g e).1)⟩
  · rw [List.map_append]
    exact chk_snoc h.chk (by simp; omega) h.upto hx ha
  · intro y hy
    rw [List.map_append] at hy
    rcases List.mem_append.1 hy with hy | hy
    · have := h.upto y hy
      omega
    · simp at hy
      subst hy
      exact Int.le_refl _
  · intro p hp
    rcases List.mem_append.1 hp with hp | hp
    · exact h.len p hp
    · simp at hp
      subst hp
      have h16 : wordsN x.kind ≤ 16 := by
        unfold wordsN
        split
        · omega
        · split <;> omega
      show x.data.length ≤ 1000
      omega

theorem OwnI.made1 {w : World} {lo : Nat} (h : lo ≤ w.heap.size) (x : Int) : OwnI (w.alloc (.cells #[.int .i64 x] 3)) lo (.slice (some ⟨w.heap.size, 0, none⟩) 1 1) [x] :=
  ⟨by simp, Or.inr ⟨w.heap.size, 1, _, rfl, h, Go.Deep.blk_alloc_new _ _, by simp, by unfold maxLen; omega, by simp, by simp⟩⟩

theorem ev_one {a : Int} (h : 0 ≤ a ∧ a ≤ 2999) : evNo ⟨a, 1, []⟩ = 0 := by
  simp [evNo, inB, wordsN, h.1, h.2, allB_iff.2 (show ∀ i, i < ([] : List Int).length → wordB (([] : List Int).getD i 0) = true from fun i hi => by simp at hi)]
theorem ev_three {a x : Int} (h : 0 ≤ a ∧ a ≤ 2999) (hx : -1099511627776 ≤ x ∧ x ≤ 1099511627776) : evNo ⟨a, 3, [x]⟩ = 0 := by
  have hw : allB [x] = true := allB_iff.2 fun i hi => by
    obtain rfl : i = 0 := by simpa using hi
    simp [wordB, inB, hx.1, hx.2]
  simp [evNo, inB, wordsN, h.1, h.2, hw]
theorem ev_two {a : Int} {D : List Int} (h : 0 ≤ a ∧ a ≤ 2999) (hl : D.length = 16) (hx : ∀ x ∈ D, -1099511627776 ≤ x ∧ x ≤ 1099511627776) : evNo ⟨a, 2, D⟩ = 0 := by
  have hw : allB D = true := allB_iff.2 fun i hi => by
    have := hx (D.getD i 0) (by simp [List.getD, hi])
    simp only [wordB, inB, decide_eq_true_eq]
    exact this
  simp [evNo, inB, wordsN, h.1, h.2, hw, hl]

/-- While a block's words are made: where the event and the raw thing lie, and the words so far. -/
structure InB (wr : World) (a' x0 x1 x2 x3 : Int) (W : World) (dv : Value) (D : List Int) : Prop where
  box : W.heap[wr.heap.size + 1]? = some (.cells #[.int .i64 a', .int .i64 2, dv] 36 (0, 0))
  raw : W.heap[wr.heap.size]? = some (.cells #[.int .i64 x0, .int .i64 x1, .int .i64 x2, .int .i64 x3] 43 (0, 0))
  own : OwnI W wr.heap.size dv D
  old : Below wr.heap.size wr W
theorem InB.step {wr W w4 : World} {a' x0 x1 x2 x3 v : Int} {dv dv' : Value} {D : List Int} {o : Obj} (h : InB wr a' x0 x1 x2 x3 W dv D) (hg : (W.alloc o).drew.grownBy w4 dv.ownBlock) (ho : OwnI w4 wr.heap.size dv' (D ++ [v])) :
    w4.heap[wr.heap.size + 1]? = some (.cells #[.int .i64 a', .int .i64 2, dv] 36 (0, 0)) ∧ InB wr a' x0 x1 x2 x3 (w4.setCell ⟨wr.heap.size + 1, 2, none⟩ dv') dv' (D ++ [v]) := by
  have hA : Below W.heap.size W (W.alloc o).drew := (below_alloc W o).drew
  have hO := h.own.below hA
  have hb0 : (W.alloc o).drew.heap[wr.heap.size + 1]? = some (.cells #[.int .i64 a', .int .i64 2, dv] 36 (0, 0)) := by rw [hA.block _ (lt_of_block h.box)]; exact h.box
  have hr0 : (W.alloc o).drew.heap[wr.heap.size]? = some (.cells #[.int .i64 x0, .int .i64 x1, .int .i64 x2, .int .i64 x3] 43 (0, 0)) := by rw [hA.block _ (lt_of_block h.raw)]; exact h.raw
  have hb4 := block_grown hb0 hg (own_ne hO hb0 (by decide))
  have hr4 := block_grown hr0 hg (own_ne hO hr0 (by decide))
  have hlt : wr.heap.size + 1 < W.heap.size := lt_of_block h.box
  refine ⟨hb4, ⟨by simp [World.setCell, Array.getElem?_modify, hb4], ?_, ?_, ?_⟩⟩
  · rw [Go.Deep.blk_setCell_other _ _ _ _ (by simp)]; exact hr4
  · exact ownsRow_setCell_other ho (own_ne (g := wr.heap.size + 1) ho hb4 (by decide)) dv'
  · exact ((h.old.trans (hA.mono h.old.size)).grown hg (by have := hA.size; omega) (fun k hk => (World.ownsRow.lt hO k hk).1)).setCell (by simp) _
theorem tdiv_bd {x d : Int} (hx : -9223372036854775808 ≤ x ∧ x ≤ 9223372036854775807) (hd : 1 ≤ d) : -9223372036854775808 ≤ Int.tdiv x d ∧ Int.tdiv x d ≤ 9223372036854775807 := by
  rcases tdiv_sign x d with ⟨h0, e⟩ | ⟨h0, e⟩
  · have h1 : 0 ≤ x / d := Int.ediv_nonneg h0 (by omega)
    have h2 : x / d ≤ x := Int.ediv_le_self d h0
    omega
  · have h1 : 0 ≤ (-x) / d := Int.ediv_nonneg (by omega) (by omega)
    have h2 : (-x) / d ≤ -x := Int.ediv_le_self d (by omega)
    omega

set_option maxRecDepth 20000 in
set_option maxHeartbeats 4000000 in
theorem Events_any (v : Value) (n : Nat) (w : World) (h : RawsIn w v n) :
    Calls Tryd.prog 7 #[v] w fun e w' => ∃ v' L, e = .returned v' ∧ EvsF w' v' L ∧ chkNo L = 0 ∧ L.length ≤ 30 ∧ Below w.heap.size w w' := by
  obtain ⟨A, c, rfl, hl, hc⟩ := h
  obtain ⟨i0, hi, hz0, hz1, hz2⟩ := info_parts infoInt
  obtain ⟨i3, hi3, hz30, hz31, hz32⟩ := info_parts infoEvent
  go_enter Tryd.func7, Tryd.ntmps7
  go_wp2
  go_loopw [3, 4, 5] (fun o t i wr => ∃ (k : Nat) (R : List (Ev × Value)) (a : Int), k ≤ n ∧ k ≤ 30 ∧ R.length ≤ k ∧ i = .int .i64 k ∧ t = .int .i64 a ∧ (0 ≤ a ∧ a ≤ 60 * k) ∧ Hid (Made w.heap.size w wr o a R)) (fun _ _ i _ => n - (intOf i).toNat)
  case atStart => exact ⟨0, [], 0, Nat.zero_le _, by omega, Nat.le_refl _, rfl, rfl, by omega, ⟨rfl, fun x hx => by simp at hx, fun p hp => by simp at hp, OwnE.nil _ _, Below.refl _ _⟩⟩
  case round =>
    obtain ⟨k, R, a, hk, hk30, hRk, rfl, rfl, ha, hM⟩ := hrel
    have hsz := hM.out.old.size
    by_cases hlt : k < n ∧ k < 30
    · obtain ⟨hkn, hk3⟩ := hlt
      obtain ⟨b, off, rfl, hbs, hcell⟩ := hc (by omega)
      obtain ⟨x0, x1, x2, x3, f0, f1, f2, f3, r0, r1, r2, r3⟩ := hcell k hkn
      have y0 := (hM.out.old.cell (p := ⟨b, off + k * 4, none⟩) hbs).trans r0
      have y1 := (hM.out.old.cell (p := ⟨b, off + k * 4 + 1, none⟩) hbs).trans r1
      have y2 := (hM.out.old.cell (p := ⟨b, off + k * 4 + 2, none⟩) hbs).trans r2
      have y3 := (hM.out.old.cell (p := ⟨b, off + k * 4 + 3, none⟩) hbs).trans r3
      have HP1 : Hid (∀ W : World, Calls Tryd.prog 10 #[.int .i64 x1, .int .i64 60] W fun e w' => e = .returned (.int .i64 (pickF x1 60)) ∧ w' = W) := fun W => picked_any x1 60 W f1 (by decide) (by decide)
      have HP0 : Hid (∀ W : World, Calls Tryd.prog 10 #[.int .i64 x0, .int .i64 3] W fun e w' => e = .returned (.int .i64 (pickF x0 3)) ∧ w' = W) := fun W => picked_any x0 3 W f0 (by decide) (by decide)
      have b1 := pickF_bd x1 (m := 60) (by decide)
      have b0 := pickF_bd x0 (m := 3) (by decide)
      have HF2 : Hid ((Lit.int .i64 x2).wf = true) := f2
      have HF3 : Hid ((Lit.int .i64 x3).wf = true) := f3
      clear r0 r1 r2 r3 f0 f1 f2 f3 hcell hc
      revert HP1 HP0 b1 b0
      generalize pickF x1 60 = p1
      generalize pickF x0 3 = p0
      intro HP1 HP0 b1 b0
      have hw1 : IntKind.i64.wrap (1 + p1) = 1 + p1 := IntWalk.i64_in _ (by omega)
      have hw2 : IntKind.i64.wrap (a + (1 + p1)) = a + (1 + p1) := IntWalk.i64_in _ (by omega)
      have hw3 : IntKind.i64.wrap (1 + p0) = 1 + p0 := IntWalk.i64_in _ (by omega)
      have hkk : (k : Int) < 30 := by omega
      go_wp2_with fail
      refine (HP1.out _).mono ?_
      rintro e w' ⟨rfl, rfl⟩
      go_wp2_with fail
      refine (HP0.out _).mono ?_
      rintro e w' ⟨rfl, rfl⟩
      clear HP1 HP0 y0 y1 y2 y3
      obtain ⟨a', ha'⟩ : ∃ a', a + (1 + p1) = a' := ⟨_, rfl⟩
      have hab : a < a' ∧ a' ≤ 60 * (k + 1) := by omega
      rw [ha']
      have hp0 : p0 = 0 ∨ p0 = 1 ∨ p0 = 2 := by omega
      clear hw1 hw2 ha' b1 b0
      rcases hp0 with rfl | rfl | rfl
      · clear hw3
        go_upto_region 18 with fail
        obtain ⟨W2, hW2⟩ : ∃ W2, W2 = (wr.alloc (.cells #[.int .i64 x0, .int .i64 x1, .int .i64 x2, .int .i64 x3] 43)).alloc (.cells #[.int .i64 a', .int .i64 1, .slice none 0 0] 36) := ⟨_, rfl⟩
        have HB2 : Hid (Below wr.heap.size wr W2) := by rw [hW2]; exact (below_alloc _ _).alloc (by simp) _
        have hbx : W2.heap[wr.heap.size + 1]? = some (.cells #[.int .i64 a', .int .i64 1, .slice none 0 0] 36 (0, 0)) := by
          rw [hW2]
          have := Go.Deep.blk_alloc_new (wr.alloc (.cells #[.int .i64 x0, .int .i64 x1, .int .i64 x2, .int .i64 x3] 43)) (.cells #[.int .i64 a', .int .i64 1, .slice none 0 0] 36)
          rwa [show (wr.alloc (.cells #[.int .i64 x0, .int .i64 x1, .int .i64 x2, .int .i64 x3] 43)).heap.size = wr.heap.size + 1 by simp] at this
        have hdd : OwnI W2 w.heap.size (.slice none 0 0) [] := World.ownsRow_nil _ _ _ _
        rw [← hW2]
        clear hW2
        obtain ⟨e0, e1, e2, ef, el⟩ := three_cells hbx
        have HD : Hid (OwnI W2 w.heap.size (.slice none 0 0) []) := hdd
        clear hbx hdd
        go_wp2_with (first
          | (at_builtin; refine wpList_append_own_at _ rfl _ _ 24 rfl w.heap.size 36 i3 (.agg #[.int .i64 0, .int .i64 0, .slice none 0 0]) 3 40 Tryd.underlying24 hi3 hz30 hz31 hz32 rfl (by decide) u3 R.length (flat R) rfl (World.ownsRow.alloc (ownsRow_below hM.out.own.row HB2.out) _) ⟨W2.heap.size, 0, none⟩ 1 1 [.int .i64 a', .int .i64 1, .slice none 0 0] rfl rfl (cell_three_new _ _ _ _ _) (by intro u hu; simp at hu; rcases hu with rfl | rfl | rfl <;> rfl) ?c3 ?c4 ?c5 ?_))
        case c3 => unfold maxLen; omega
        case c4 => omega
        case c5 => simp; have := HB2.out.size; omega
        intro v' w3 hown hgrow _ _
        have HR : Hid (Made w.heap.size w w3 v' a' (R ++ [(⟨a', 1, []⟩, .slice none 0 0)])) := hM.out.snoc (k := k) (x := ⟨a', 1, []⟩) hsz (HB2.out.trans ((below_alloc _ _).mono HB2.out.size)) (HD.out.below (below_alloc _ _)) (ev_one (by omega)) hab.1 hRk hk3 hgrow (by simpa using hown)
        clear hown hgrow
        go_wp2_with fail
        refine ⟨⟨k + 1, _, a', by omega, by omega, by simp; omega, by go_num, rfl, by omega, HR⟩, ?_⟩
        simp [intOf]; omega
      · clear hw3
        obtain ⟨bx1, bx2⟩ := wf_bd HF2.out
        go_wp2_with fail
        obtain ⟨W0, hW0⟩ : ∃ W0, W0 = (wr.alloc (.cells #[.int .i64 x0, .int .i64 x1, .int .i64 x2, .int .i64 x3] 43)).alloc (.cells #[.int .i64 a', .int .i64 2, .slice none 0 0] 36) := ⟨_, rfl⟩
        have HI0 : Hid (InB wr a' x0 x1 x2 x3 W0 (.slice none 0 0) []) := by
          refine ⟨?_, ?_, World.ownsRow_nil _ _ _ _, by rw [hW0]; exact (below_alloc _ _).alloc (by simp) _⟩
          · rw [hW0]
            have := Go.Deep.blk_alloc_new (wr.alloc (.cells #[.int .i64 x0, .int .i64 x1, .int .i64 x2, .int .i64 x3] 43)) (.cells #[.int .i64 a', .int .i64 2, .slice none 0 0] 36)
            rwa [show (wr.alloc (.cells #[.int .i64 x0, .int .i64 x1, .int .i64 x2, .int .i64 x3] 43)).heap.size = wr.heap.size + 1 by simp] at this
          · rw [hW0, Go.Deep.blk_alloc_lt _ _ _ (by simp)]
            exact Go.Deep.blk_alloc_new _ _
        rw [← hW0]
        clear hW0
        obtain ⟨wo, rfl⟩ : ∃ wo, wo = wr := ⟨_, rfl⟩
        go_loopw [39] (fun i W => ∃ (q : Nat) (dv : Value) (D : List Int), q ≤ 16 ∧ i = .int .i64 q ∧ Hid (D.length = q) ∧ Hid (∀ x ∈ D, -1099511627776 ≤ x ∧ x ≤ 1099511627776) ∧ Hid (InB wo a' x0 x1 x2 x3 W dv D)) (fun i _ => 16 - (intOf i).toNat)
        case atStart => exact ⟨0, _, [], by omega, rfl, rfl, fun x hx => by simp at hx, HI0⟩
        case round =>
          obtain ⟨q, dv, D, hq, rfl, hDq, hDW, hI⟩ := hrel
          obtain ⟨e0, e1, e2, ef, el⟩ := three_cells hI.out.box
          obtain ⟨g0, g1, g2, g3, gf, gl⟩ := four_cells hI.out.raw
          obtain ⟨Ad, cd, rfl⟩ := hI.out.own.shape
          have hsI := hI.out.old.size
          by_cases hq16 : q < 16
          · have hq3 : Int.tdiv (q : Int) 3 = (q : Int) / 3 := Int.tdiv_eq_ediv_of_nonneg (by omega)
            have hqi : (q : Int) < 16 := by omega
            have hd1 : 1 ≤ (q : Int) / 3 + 1 := by omega
            have hwd : IntKind.i64.wrap ((q : Int) / 3 + 1) = (q : Int) / 3 + 1 := IntWalk.i64_in _ (by omega)
            have hwq : IntKind.i64.wrap ((q : Int) / 3) = (q : Int) / 3 := IntWalk.i64_in _ (by omega)
            have hne : ¬ (q : Int) / 3 + 1 = 0 := by omega
            have hzb := tdiv_bd ⟨bx1, bx2⟩ hd1
            have hwz : IntKind.i64.wrap (Int.tdiv x2 ((q : Int) / 3 + 1)) = Int.tdiv x2 ((q : Int) / 3 + 1) := IntWalk.i64_in _ hzb
            have HPK : Hid (∀ W : World, Calls Tryd.prog 10 #[.int .i64 (Int.tdiv x2 ((q : Int) / 3 + 1)), .int .i64 5] W fun e w' => e = .returned (.int .i64 (pickF (Int.tdiv x2 ((q : Int) / 3 + 1)) 5)) ∧ w' = W) := fun W => picked_any _ 5 W (by simpa [Lit.wf, IntKind.min, IntKind.max, IntKind.signed, IntKind.bits] using hzb) (by decide) (by decide)
            have b5 := pickF_bd (Int.tdiv x2 ((q : Int) / 3 + 1)) (m := 5) (by decide)
            clear hzb
            revert HPK b5
            generalize pickF (Int.tdiv x2 ((q : Int) / 3 + 1)) 5 = p5
            intro HPK b5
            have hw5 : IntKind.i64.wrap (p5 - 2) = p5 - 2 := IntWalk.i64_in _ (by omega)
            have HDW2 : Hid (∀ x ∈ D ++ [p5 - 2], -1099511627776 ≤ x ∧ x ≤ 1099511627776) := fun x hx => by
              rcases List.mem_append.1 hx with hx | hx
              · exact hDW.out x hx
              · simp at hx
                omega
            have HDL2 : Hid ((D ++ [p5 - 2]).length = q + 1) := by show _ = _; simp [hDq.out]
            have hDl : D.length ≤ 16 := by have := hDq.out; omega
            have HO : Hid (OwnI wr wo.heap.size (.slice Ad D.length cd) D) := hI.out.own
            clear hDq hDW
            have hcc : cd ≤ maxLen ∨ True := Or.inr trivial
            clear hcc
            go_wp2_with fail
            go_region_law
              (first
                | (refine step_append_lies _ (by rfl) _ _ _ (by rfl) wo.heap.size 3 i0 (.int .i64 0) 1 8 Tryd.underlying34 hi hz0 hz1 hz2 rfl (by decide) (.slice Ad D.length cd) D.length (D.map (Value.int .i64)) (by rfl) ((HO.out.alloc _).drew) ⟨wr.heap.size, 0, none⟩ 1 1 [.int .i64 (p5 - 2)] (by rfl) (by rfl) (by exact cell_one_new _ _ _) (by intro u hu; simp at hu; subst hu; rfl) (by decide) (by unfold maxLen; omega) (by omega) (by simp; omega) (wr.heap.size + 1) (by simp) ?_; intro g4 cap4 w4 hown4 hgrow4 hat4 hlt4; obtain ⟨hb4, hI4⟩ := hI.out.step hgrow4 (OwnI.snoc hown4 rfl); have HI4 : Hid (InB wo a' x0 x1 x2 x3 (w4.setCell ⟨wo.heap.size + 1, 2, none⟩ (.slice (some ⟨g4, 0, none⟩) (D.length + 1) cap4)) (.slice (some ⟨g4, 0, none⟩) (D.length + 1) cap4) (D ++ [p5 - 2])) := hI4; obtain ⟨q0, q1, q2, qf, ql⟩ := three_cells hb4; clear hown4 hgrow4 hat4 hb4 hI4)
                | (go_simp; go_at_call 10; refine (HPK.out _).mono ?_; rintro e w' ⟨rfl, rfl⟩))
            all_goals
              go_wp2_with fail
              refine ⟨⟨q + 1, _, _, by omega, by go_num, HDL2, HDW2, HI4⟩, ?_⟩
              simp [intOf]; omega
          · have hqi : ¬ (q : Int) < 16 := by omega
            have HD16 : Hid (D.length = 16) := by show _ = _; rw [hDq.out]; omega
            have HDW : Hid (∀ x ∈ D, -1099511627776 ≤ x ∧ x ≤ 1099511627776) := hDW.out
            have HB2 : Hid (Below wo.heap.size wo wr) := hI.out.old
            have hbx := hI.out.box
            have hdd : OwnI wr w.heap.size (.slice Ad D.length cd) D := ownsRow_mono hI.out.own hsz
            rw [HD16.out] at hbx hdd
            clear hI hDq hDW e0 e1 e2 ef el g0 g1 g2 g3 gf gl
            obtain ⟨e0, e1, e2, ef, el⟩ := three_cells hbx
            have HD : Hid (OwnI wr w.heap.size (.slice Ad 16 cd) D) := hdd
            clear hbx hdd
            go_wp2_with (first
              | (at_builtin; refine wpList_append_own_at _ rfl _ _ 24 rfl w.heap.size 36 i3 (.agg #[.int .i64 0, .int .i64 0, .slice none 0 0]) 3 40 Tryd.underlying24 hi3 hz30 hz31 hz32 rfl (by decide) u3 R.length (flat R) rfl (World.ownsRow.alloc (ownsRow_below hM.out.own.row HB2.out) _) ⟨wr.heap.size, 0, none⟩ 1 1 [.int .i64 a', .int .i64 2, .slice Ad 16 cd] rfl rfl (cell_three_new _ _ _ _ _) (by intro u hu; simp at hu; rcases hu with rfl | rfl | rfl <;> rfl) ?c3 ?c4 ?c5 ?_))
            case c3 => unfold maxLen; omega
            case c4 => omega
            case c5 => first | (simp; have := HB2.out.size; omega) | (have := HB2.out.size; omega)
            intro v' w3 hown hgrow _ _
            have HR : Hid (Made w.heap.size w w3 v' a' (R ++ [(⟨a', 2, D⟩, .slice Ad 16 cd)])) := hM.out.snoc (k := k) (x := ⟨a', 2, D⟩) hsz (HB2.out.trans ((below_alloc _ _).mono HB2.out.size)) (HD.out.below (below_alloc _ _)) (ev_two (by omega) HD16.out HDW.out) hab.1 hRk hk3 hgrow (by simpa using hown)
            clear hown hgrow
            go_wp2_with fail
            refine ⟨⟨k + 1, _, a', by omega, by omega, by simp; omega, by go_num, rfl, by omega, HR⟩, ?_⟩
            simp [intOf]; omega
      · obtain ⟨b3, b4⟩ := wf_bd HF3.out
        have hx3 : -1099511627776 ≤ Int.tmod x3 1099511627776 ∧ Int.tmod x3 1099511627776 ≤ 1099511627776 := by
          have := tmod_sign x3 1099511627776
          omega
        clear hw3 b3 b4
        go_upto_region 18 with fail
        revert hx3
        generalize Int.tmod x3 1099511627776 = x3m
        intro hx3
        obtain ⟨W2, hW2⟩ : ∃ W2, W2 = ((wr.alloc (.cells #[.int .i64 x0, .int .i64 x1, .int .i64 x2, .int .i64 x3] 43)).alloc (.cells #[.int .i64 a', .int .i64 3, .slice (some ⟨wr.heap.size + 1 + 1, 0, none⟩) 1 1] 36)).alloc (.cells #[.int .i64 x3m] 3) := ⟨_, rfl⟩
        have HB2 : Hid (Below wr.heap.size wr W2) := by rw [hW2]; exact ((below_alloc _ _).alloc (by simp) _).alloc (by simp; omega) _
        have hbx : W2.heap[wr.heap.size + 1]? = some (.cells #[.int .i64 a', .int .i64 3, .slice (some ⟨wr.heap.size + 1 + 1, 0, none⟩) 1 1] 36 (0, 0)) := by
          rw [hW2, Go.Deep.blk_alloc_lt _ _ _ (by simp)]
          have := Go.Deep.blk_alloc_new (wr.alloc (.cells #[.int .i64 x0, .int .i64 x1, .int .i64 x2, .int .i64 x3] 43)) (.cells #[.int .i64 a', .int .i64 3, .slice (some ⟨wr.heap.size + 1 + 1, 0, none⟩) 1 1] 36)
          rwa [show (wr.alloc (.cells #[.int .i64 x0, .int .i64 x1, .int .i64 x2, .int .i64 x3] 43)).heap.size = wr.heap.size + 1 by simp] at this
        have hdd : OwnI W2 w.heap.size (.slice (some ⟨wr.heap.size + 1 + 1, 0, none⟩) 1 1) [x3m] := by
          have := OwnI.made1 (w := (wr.alloc (.cells #[.int .i64 x0, .int .i64 x1, .int .i64 x2, .int .i64 x3] 43)).alloc (.cells #[.int .i64 a', .int .i64 3, .slice (some ⟨wr.heap.size + 1 + 1, 0, none⟩) 1 1] 36)) (lo := w.heap.size) (by simp; omega) x3m
          rw [hW2]
          rwa [show ((wr.alloc (.cells #[.int .i64 x0, .int .i64 x1, .int .i64 x2, .int .i64 x3] 43)).alloc (.cells #[.int .i64 a', .int .i64 3, .slice (some ⟨wr.heap.size + 1 + 1, 0, none⟩) 1 1] 36)).heap.size = wr.heap.size + 1 + 1 by simp] at this
        rw [← hW2]
        clear hW2
        obtain ⟨e0, e1, e2, ef, el⟩ := three_cells hbx
        have HD : Hid (OwnI W2 w.heap.size (.slice (some ⟨wr.heap.size + 1 + 1, 0, none⟩) 1 1) [x3m]) := hdd
        clear hbx hdd
        go_wp2_with (first
          | (at_builtin; refine wpList_append_own_at _ rfl _ _ 24 rfl w.heap.size 36 i3 (.agg #[.int .i64 0, .int .i64 0, .slice none 0 0]) 3 40 Tryd.underlying24 hi3 hz30 hz31 hz32 rfl (by decide) u3 R.length (flat R) rfl (World.ownsRow.alloc (ownsRow_below hM.out.own.row HB2.out) _) ⟨W2.heap.size, 0, none⟩ 1 1 [.int .i64 a', .int .i64 3, .slice (some ⟨wr.heap.size + 1 + 1, 0, none⟩) 1 1] rfl rfl (cell_three_new _ _ _ _ _) (by intro u hu; simp at hu; rcases hu with rfl | rfl | rfl <;> rfl) ?c3 ?c4 ?c5 ?_))
        case c3 => unfold maxLen; omega
        case c4 => omega
        case c5 => simp; have := HB2.out.size; omega
        intro v' w3 hown hgrow _ _
        have HR : Hid (Made w.heap.size w w3 v' a' (R ++ [(⟨a', 3, [x3m]⟩, .slice (some ⟨wr.heap.size + 1 + 1, 0, none⟩) 1 1)])) := hM.out.snoc (k := k) (x := ⟨a', 3, [x3m]⟩) hsz (HB2.out.trans ((below_alloc _ _).mono HB2.out.size)) (HD.out.below (below_alloc _ _)) (ev_three (by omega) hx3) hab.1 hRk hk3 hgrow (by simpa using hown)
        clear hown hgrow
        go_wp2_with fail
        refine ⟨⟨k + 1, _, a', by omega, by omega, by simp; omega, by go_num, rfl, by omega, HR⟩, ?_⟩
        simp [intOf]; omega
    · have hcond : ¬ (k < n ∧ k < 30) := hlt
      have HR : Hid (EvsF wr u3 (R.map Prod.fst) ∧ chkNo (R.map Prod.fst) = 0 ∧ (R.map Prod.fst).length ≤ 30 ∧ Below w.heap.size w wr) := ⟨hM.out.own.evs (by omega) hM.out.len, hM.out.chk, by simp; omega, hM.out.old⟩
      clear hc hM
      by_cases h1 : k < n
      · have h2 : ¬ (k : Int) < 30 := by omega
        go_wp2_with fail
        go_ret
        first | exact ⟨_, _, rfl, HR.out⟩ | exact ⟨_, rfl, _, HR.out⟩
      · have h2 : ¬ (k : Int) < (n : Int) := by omega
        go_wp2_with fail
        go_ret
        first | exact ⟨_, _, rfl, HR.out⟩ | exact ⟨_, rfl, _, HR.out⟩

end Go.Proofs.YtniedmoiklkigafDoor
