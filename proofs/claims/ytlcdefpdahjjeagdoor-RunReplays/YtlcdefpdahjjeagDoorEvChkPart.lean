/- Contracts of evlog.isBehind and evlog.Check. -/
import Derived.Test.YtlcdefpdahjjeagDoorECloPart
import Derived.Shelf.SlSortCmp.QuietGrown
import Derived.Test.YtlcdefpdahjjeagDoorDoorPart
namespace Go.Proofs.YtlcdefpdahjjeagDoor
open Go.RowKit Go.Sort
set_option maxRecDepth 100000

theorem behind_lt {x y : Ev} (hx : 1 ≤ x.kind ∧ x.kind ≤ 3) (hy : 1 ≤ y.kind ∧ y.kind ≤ 3) : behind x y = decide (y.at_ < x.at_ ∨ (x.at_ = y.at_ ∧ y.kind < x.kind)) := by
  unfold behind
  apply decide_eq_decide.2
  omega

theorem two_grown (w : World) (o o' : Obj) : ∃ (q : Nat) (os : Array Obj), (w.alloc o).alloc o' = grow (w.drewN q) os := ⟨0, #[o, o'], by
  rw [alloc_eq_grow, alloc_eq_grow, grow_grow]; rfl⟩

set_option maxHeartbeats 1000000 in
theorem isBehind_any (xa xk ya yk : Int) (xd yd : List Int) (A A' : Option Addr) (n n' c c' : Nat) (w : World) (hx : 1 ≤ xk ∧ xk ≤ 3) (hy : 1 ≤ yk ∧ yk ≤ 3) :
    Calls Tryd.prog 102 #[.agg #[.int .i64 xa, .int .i64 xk, .slice A n c], .agg #[.int .i64 ya, .int .i64 yk, .slice A' n' c']] w fun e w' => e = .returned (.bool (behind ⟨xa, xk, xd⟩ ⟨ya, yk, yd⟩)) ∧ ∃ (q : Nat) (os : Array Obj), w' = grow (w.drewN q) os := by
  have HB := behind_lt (x := ⟨xa, xk, xd⟩) (y := ⟨ya, yk, yd⟩) hx hy
  by_cases h1 : ya < xa
  · have HR : Hid (true = behind ⟨xa, xk, xd⟩ ⟨ya, yk, yd⟩) := by show _ = _; rw [HB]; simp; omega
    clear HB hx hy
    go_enter Tryd.func102, Tryd.ntmps102
    go_wp2
    go_ret
    exact ⟨ret_bool HR.out, two_grown _ _ _⟩
  · by_cases h2 : xa = ya
    · subst h2
      by_cases h3 : yk < xk
      · have HR : Hid (true = behind ⟨xa, xk, xd⟩ ⟨xa, yk, yd⟩) := by show _ = _; rw [HB]; simp; omega
        clear HB hx hy
        go_enter Tryd.func102, Tryd.ntmps102
        go_wp2
        go_ret
        exact ⟨ret_bool HR.out, two_grown _ _ _⟩
      · have HR : Hid (false = behind ⟨xa, xk, xd⟩ ⟨xa, yk, yd⟩) := by show _ = _; rw [HB]; simp; omega
        clear HB hx hy
        go_enter Tryd.func102, Tryd.ntmps102
        go_wp2
        go_ret
        exact ⟨ret_bool HR.out, two_grown _ _ _⟩
    · have HR : Hid (false = behind ⟨xa, xk, xd⟩ ⟨ya, yk, yd⟩) := by show _ = _; rw [HB]; simp; omega
      clear HB hx hy
      go_enter Tryd.func102, Tryd.ntmps102
      go_wp2
      go_ret
      exact ⟨ret_bool HR.out, two_grown _ _ _⟩

theorem below_grow (w : World) (os : Array Obj) (q : Nat) : Below w.heap.size w (grow (w.drewN q) os) := by
  obtain ⟨l⟩ := os
  induction l generalizing w with
  | nil => rw [grow_empty]; exact below_drewN (Below.refl _ _) _
  | cons o l ih =>
    have e : grow (w.drewN q) ⟨o :: l⟩ = grow ((w.alloc o).drewN q) ⟨l⟩ := by
      show _ = grow (World.alloc (w.drewN q) o) ⟨l⟩
      rw [alloc_eq_grow, grow_grow]
      congr 1
      apply Array.ext'
      simp
    rw [e]
    exact (below_alloc w o).trans ((ih (w.alloc o)).mono (by simp))

theorem verdict_first {L : List Ev} {x : Ev} (hx : L.getD 0 noEv = x) (h : evNo x = 0) : verdict L 0 = 0 := by unfold verdict; rw [hx, if_pos h, if_pos rfl]
theorem verdict_yes {L : List Ev} {x y : Ev} {j : Nat} (hx : L.getD (j + 1) noEv = x) (hy : L.getD j noEv = y) (h : evNo x = 0) (hb : behind x y = true) : verdict L (j + 1) = 0 := by unfold verdict; rw [hx, if_pos h, if_neg (by omega), Nat.add_sub_cancel, hy, if_pos hb]
theorem verdict_not {L : List Ev} {x y : Ev} {j : Nat} (hx : L.getD (j + 1) noEv = x) (hy : L.getD j noEv = y) (h : evNo x = 0) (hb : behind x y = false) : verdict L (j + 1) = 9 := by unfold verdict; rw [hx, if_pos h, if_neg (by omega), Nat.add_sub_cancel, hy, if_neg (by rw [hb]; decide)]
theorem verdict_no {L : List Ev} {x : Ev} {k : Nat} (hx : L.getD k noEv = x) (h : evNo x ≠ 0) : verdict L k = evNo x := by unfold verdict; rw [hx, if_neg h]

set_option maxRecDepth 20000 in
set_option maxHeartbeats 4000000 in
theorem Check_any (v : Value) (L : List Ev) (w : World) (h : EvsAt w v L) (hL : Laid w) :
    Calls Tryd.prog 62 #[v] w fun e w' => e = .returned (.int .i64 (chkNo L)) ∧ Below w.heap.size w w' := by
  obtain ⟨A, c, rfl, hl, hc⟩ := h
  by_cases h1 : 1000 < L.length
  · have HR : Hid (chkNo L = 1) := by show _ = _; simp [chkNo, h1]
    have d0 : decide (1000 < (L.length : Int)) = true := by simp; omega
    clear hc hL
    go_enter Tryd.func62, Tryd.ntmps62
    go_wp2
    go_ret
    exact ⟨ret_int HR.out.symm, Below.refl _ _⟩
  · have d0 : decide (1000 < (L.length : Int)) = false := by simp; omega
    have H0 : Hid (chkNo L = chk L 0) := by show _ = _; simp [chkNo, h1]
    have HL : Hid (Laid w) := hL
    have HLn : Hid (L.length ≤ 1000) := by show _ ≤ _; omega
    clear hL h1
    go_enter Tryd.func62, Tryd.ntmps62
    go_wp2
    clear d0
    go_loopw [11] (fun i wr => ∃ k : Nat, k ≤ L.length ∧ i = .int .i64 k ∧ Hid (chkNo L = chk L k ∧ ∀ j, k = j + 1 → verdict L j = 0) ∧ Hid (Below w.heap.size w wr)) (fun i _ => L.length - (intOf i).toNat)
    case atStart => exact ⟨0, Nat.zero_le _, rfl, ⟨H0.out, fun j e => by omega⟩, Below.refl _ _⟩
    case round =>
      obtain ⟨k, hk, rfl, hR, hB⟩ := hrel
      by_cases hlt : k < L.length
      · obtain ⟨b, off, rfl, hbs, hcell⟩ := hc (by omega)
        obtain ⟨x, hx⟩ : ∃ x, L.getD k noEv = x := ⟨_, rfl⟩
        obtain ⟨x0, x1, vx, x2, xi⟩ := hcell k hlt
        rw [hx] at x0 x1 xi
        have HXI : Hid (IntsAt w vx x.data) := xi
        have HX : Hid (L.getD k noEv = x) := hx
        obtain ⟨A1, c1, rfl, hl1, -⟩ := xi
        have y0 := (hB.out.cell (p := ⟨b, off + k * 3, none⟩) hbs).trans x0
        have y1 := (hB.out.cell (p := ⟨b, off + k * 3 + 1, none⟩) hbs).trans x1
        have y2 := (hB.out.cell (p := ⟨b, off + k * 3 + 2, none⟩) hbs).trans x2
        have HC : Hid (∀ j, j < L.length → EvAt w b (off + j * 3) (L.getD j noEv)) := hcell
        clear hc hx x0 x1 x2 hcell
        obtain ⟨xa, xk, xd⟩ := x
        simp only at y0 y1 y2 hl1 HXI
        have hsz := hB.out.size
        go_wp2_with fail
        refine (checkEvent_any xa xk _ xd _ (HXI.out.below (hB.out.alloc hB.out.size _)) (HL.out.below (hB.out.alloc hB.out.size _))).mono ?_
        rintro e w2 ⟨rfl, hb2⟩
        have HB2 : Hid (Below w.heap.size w w2) := (hB.out.alloc hB.out.size _).trans (hb2.mono (by simp; omega))
        obtain ⟨z0, z1, z2, zf, zl⟩ := three_cells (box_kept hb2)
        have hbs2 : b < w2.heap.size := by have := HB2.out.size; omega
        clear hb2 HXI y0 y1 y2 hB HL
        by_cases he : evNo ⟨xa, xk, xd⟩ = 0
        · rw [he]
          rcases k with _ | j
          · have HV : Hid (chkNo L = chk L (0 + 1) ∧ ∀ j, 0 + 1 = j + 1 → verdict L j = 0) := ⟨hR.out.1.trans (chk_ok hlt (verdict_first HX.out he)), fun j e => by rw [show j = 0 by omega]; exact verdict_first HX.out he⟩
            clear hR HX HC he
            go_wp2_with fail
            go_quiet (fail)
            go_wp2_with fail
            refine ⟨⟨0 + 1, by omega, by go_num, HV, below_drewN HB2.out _⟩, ?_⟩
            simp [intOf]; omega
          · obtain ⟨y, hy⟩ : ∃ y, L.getD j noEv = y := ⟨_, rfl⟩
            obtain ⟨t0, t1, vy, t2, yi⟩ := HC.out j (by omega)
            rw [hy] at t0 t1 yi
            have HY : Hid (L.getD j noEv = y) := hy
            have hy0 : evNo y = 0 := by rw [← hy]; exact verdict_ev (hR.out.2 j rfl)
            obtain ⟨A2, c2, rfl, -, -⟩ := yi
            obtain ⟨ya, yk, yd⟩ := y
            have hyk := (evNo_bd hy0).1
            have hxk := (evNo_bd he).1
            have s0 := fun n os => cell_grown (a := ⟨b, off + j * 3, none⟩) hbs2 ((HB2.out.cell (p := ⟨b, off + j * 3, none⟩) hbs).trans t0) n os
            have s1 := fun n os => cell_grown (a := ⟨b, off + j * 3 + 1, none⟩) hbs2 ((HB2.out.cell (p := ⟨b, off + j * 3 + 1, none⟩) hbs).trans t1) n os
            have s2 := fun n os => cell_grown (a := ⟨b, off + j * 3 + 2, none⟩) hbs2 ((HB2.out.cell (p := ⟨b, off + j * 3 + 2, none⟩) hbs).trans t2) n os
            have q0 := fun n os => cell_grown (a := ⟨wr.heap.size, 0, none⟩) zl z0 n os
            have q1 := fun n os => cell_grown (a := ⟨wr.heap.size, 1, none⟩) zl z1 n os
            have q2 := fun n os => cell_grown (a := ⟨wr.heap.size, 2, none⟩) zl z2 n os
            simp only at s0 s1 s2
            cases hbv : behind ⟨xa, xk, xd⟩ ⟨ya, yk, yd⟩ with
            | true =>
              have HV : Hid (chkNo L = chk L (j + 1 + 1) ∧ ∀ i, j + 1 + 1 = i + 1 → verdict L i = 0) := ⟨hR.out.1.trans (chk_ok hlt (verdict_yes HX.out HY.out he hbv)), fun i e => by rw [show i = j + 1 by omega]; exact verdict_yes HX.out HY.out he hbv⟩
              have HIB : Hid (∀ W, Calls Tryd.prog 102 #[.agg #[.int .i64 xa, .int .i64 xk, .slice A1 xd.length c1], .agg #[.int .i64 ya, .int .i64 yk, .slice A2 yd.length c2]] W fun e w' => e = .returned (.bool true) ∧ ∃ (q : Nat) (os : Array Obj), w' = grow (W.drewN q) os) := fun W => by
                have := isBehind_any xa xk ya yk xd yd A1 A2 xd.length yd.length c1 c2 W hxk hyk
                rwa [hbv] at this
              clear hR HX HC he hy hy0 hyk hxk hbv t0 t1 t2 z0 z1 z2 HY
              go_wp2_with fail
              have hwr : IntKind.i64.wrap (j : Int) = j := IntWalk.i64_in _ (by omega)
              have hj : j < L.length := by omega
              have hji : (j : Int) < (L.length : Int) := by omega
              have hj0 : (0 : Int) ≤ (j : Int) := by omega
              have hmo : Tryd.prog.follows .mixedOrders = true := by kernel_rfl
              go_quiet_grown ((go_at_call 102; refine Calls.grown_of (HIB.out _)))
              have HB3 : Hid (Below w.heap.size w (grow (w2.drewN nq) osq)) := HB2.out.trans ((below_grow w2 osq nq).mono HB2.out.size)
              go_wp2_with fail
              refine ⟨⟨j + 1 + 1, by omega, by go_num, HV, HB3⟩, ?_⟩
              simp [intOf]; omega
            | false =>
              have HV : Hid (chkNo L = 9) := hR.out.1.trans ((chk_no hlt (by rw [verdict_not HX.out HY.out he hbv]; decide)).trans (verdict_not HX.out HY.out he hbv))
              have HIB : Hid (∀ W, Calls Tryd.prog 102 #[.agg #[.int .i64 xa, .int .i64 xk, .slice A1 xd.length c1], .agg #[.int .i64 ya, .int .i64 yk, .slice A2 yd.length c2]] W fun e w' => e = .returned (.bool false) ∧ ∃ (q : Nat) (os : Array Obj), w' = grow (W.drewN q) os) := fun W => by
                have := isBehind_any xa xk ya yk xd yd A1 A2 xd.length yd.length c1 c2 W hxk hyk
                rwa [hbv] at this
              clear hR HX HC he hy hy0 hyk hxk hbv t0 t1 t2 z0 z1 z2 HY
              go_wp2_with fail
              have hwr : IntKind.i64.wrap (j : Int) = j := IntWalk.i64_in _ (by omega)
              have hj : j < L.length := by omega
              have hji : (j : Int) < (L.length : Int) := by omega
              have hj0 : (0 : Int) ≤ (j : Int) := by omega
              have hmo : Tryd.prog.follows .mixedOrders = true := by kernel_rfl
              go_quiet_grown ((go_at_call 102; refine Calls.grown_of (HIB.out _)))
              have HB3 : Hid (Below w.heap.size w (grow (w2.drewN nq) osq)) := HB2.out.trans ((below_grow w2 osq nq).mono HB2.out.size)
              go_wp2_with fail
              go_ret
              exact ⟨ret_int HV.out.symm, HB3.out⟩
        · have HV : Hid (chkNo L = evNo ⟨xa, xk, xd⟩) := hR.out.1.trans ((chk_no hlt (by rw [verdict_no HX.out he]; exact he)).trans (verdict_no HX.out he))
          clear hR HX HC
          revert HV he
          generalize evNo ⟨xa, xk, xd⟩ = en
          intro he HV
          go_wp2_with fail
          go_ret
          exact ⟨ret_int HV.out.symm, HB2.out⟩
      · have HV : Hid (chkNo L = 0) := hR.out.1.trans (chk_end hlt)
        clear hc hR
        go_wp2_with fail
        go_ret
        exact ⟨ret_int HV.out.symm, hB.out⟩

end Go.Proofs.YtlcdefpdahjjeagDoor

/- Frames that a call has made itself, and what stores into them do. Plain laws, without the program. -/

namespace Go.Proofs.YtlcdefpdahjjeagDoor
open Go.RowKit
set_option maxRecDepth 100000

abbrev nilv : Value := .slice none 0 0

theorem own_ne {w : World} {lo n g : Nat} {e e' : TypeId} {v : Value} {xs : List Value} {cur : Array Value} (h : w.ownsRow lo e 1 v n xs) (hg : w.heap[g]? = some (.cells cur e' (0, 0))) (hne : e ≠ e') : v.ownBlock ≠ some g := by
  intro hv
  rcases h.2 with ⟨rfl, _⟩ | ⟨g', cap, cur', rfl, _, hg', _⟩
  · simp [Value.ownBlock] at hv
  · simp [Value.ownBlock] at hv
    subst hv
    rw [hg] at hg'
    simp at hg'
    exact hne hg'.2.symm

theorem own_block {w : World} {lo n m g cap : Nat} {e : TypeId} {xs : List Value} (h : w.ownsRow lo e 1 (.slice (some ⟨g, 0, none⟩) n cap) m xs) : (∃ cur, w.heap[g]? = some (.cells cur e (0, 0))) ∧ n = m := by
  rcases h.2 with ⟨h0, _⟩ | ⟨g', c, cur, h0, _, hg, _⟩
  · simp at h0
  · simp only [Value.slice.injEq, Option.some.injEq, Addr.mk.injEq, and_true] at h0
    obtain ⟨rfl, rfl, rfl⟩ := h0
    exact ⟨⟨cur, hg⟩, rfl⟩

/-- Slices of the call's own: the outer one, the inner ones' values, what they hold. -/
structure OwnD (w : World) (lo : Nat) (dv : Value) (rows : List Value) (D : List (List Int)) : Prop where
  top : w.ownsRow lo 22 1 dv D.length rows
  each : ∀ i, i < D.length → OwnI w lo (rows.getD i nilv) (D.getD i [])
  apart : ∀ i j, i < D.length → j < D.length → i ≠ j → ∀ g, (rows.getD i nilv).ownBlock = some g → (rows.getD j nilv).ownBlock ≠ some g

theorem OwnD.len {w : World} {lo : Nat} {dv : Value} {rows : List Value} {D : List (List Int)} (h : OwnD w lo dv rows D) : rows.length = D.length := by
  have := h.top.1; omega

theorem OwnD.below {w w' : World} {lo : Nat} {dv : Value} {rows : List Value} {D : List (List Int)} (h : OwnD w lo dv rows D) (hb : Below w.heap.size w w') : OwnD w' lo dv rows D :=
  ⟨ownsRow_below h.top hb, fun i hi => (h.each i hi).below hb, h.apart⟩

theorem getD_set {α : Type} (l : List α) (i j : Nat) (x d : α) (hi : i < l.length) : (l.set i x).getD j d = if j = i then x else l.getD j d := by
  by_cases e : j = i
  · subst e; simp [List.getD, hi]
  · simp [List.getD, e, Ne.symm e]

/-- A row is put into its place. -/
theorem OwnD.putRow {w : World} {lo n cap gd i : Nat} {u : Value} {rows : List Value} {D : List (List Int)} {l : List Int} (h : OwnD w lo (.slice (some ⟨gd, 0, none⟩) n cap) rows D) (hi : i < D.length)
    (hu : OwnI w lo u l) (hap : ∀ j, j < D.length → j ≠ i → ∀ g, u.ownBlock = some g → (rows.getD j nilv).ownBlock ≠ some g) :
    OwnD (w.setCell ⟨gd, i, none⟩ u) lo (.slice (some ⟨gd, 0, none⟩) n cap) (rows.set i u) (D.set i l) := by
  have hlen := h.len
  obtain ⟨⟨cur, hgd⟩, hn⟩ := own_block h.top
  subst hn
  refine ⟨?_, fun j hj => ?_, fun a b ha hb hab g hg => ?_⟩
  · have := (h.top.stored i u).1
    simpa using this
  · simp at hj
    rw [getD_set _ _ _ _ _ (by omega), getD_set _ _ _ _ _ hi]
    by_cases e : j = i
    · rw [if_pos e, if_pos e]
      exact ownsRow_setCell_other hu (own_ne hu hgd (by decide)) u
    · rw [if_neg e, if_neg e]
      exact ownsRow_setCell_other (h.each j hj) (own_ne (h.each j hj) hgd (by decide)) u
  · simp at ha hb
    rw [getD_set _ _ _ _ _ (by omega)] at hg ⊢
    by_cases e1 : a = i
    · rw [if_pos e1] at hg
      rw [if_neg (by omega)]
      exact hap b hb (by omega) g hg
    · rw [if_neg e1] at hg
      by_cases e2 : b = i
      · rw [if_pos e2]
        intro hu'
        exact hap a ha e1 g hu' hg
      · rw [if_neg e2]
        exact h.apart a b ha hb hab g hg

theorem OwnD.set_same {w : World} {lo i : Nat} {dv : Value} {rows : List Value} {D : List (List Int)} (h : OwnD w lo dv rows D) {l : List Int} (hi : i < D.length) (hu : OwnI w lo (rows.getD i nilv) l) : OwnD w lo dv rows (D.set i l) := by
  refine ⟨by simpa using h.top, fun j hj => ?_, fun a b ha hb => h.apart a b (by simpa using ha) (by simpa using hb)⟩
  simp at hj
  rw [getD_set _ _ _ _ _ hi]
  by_cases e : j = i
  · rw [if_pos e, e]; exact hu
  · rw [if_neg e]; exact h.each j hj

/-- A store into a block that is none of theirs. -/
theorem OwnD.other {w : World} {lo : Nat} {dv : Value} {rows : List Value} {D : List (List Int)} (h : OwnD w lo dv rows D) {a : Addr} (h1 : dv.ownBlock ≠ some a.block) (h2 : ∀ i, i < D.length → (rows.getD i nilv).ownBlock ≠ some a.block) (u : Value) : OwnD (w.setCell a u) lo dv rows D :=
  ⟨ownsRow_setCell_other h.top h1 u, fun i hi => ownsRow_setCell_other (h.each i hi) (h2 i hi) u, h.apart⟩

/-- A store into a block of another type. -/
theorem OwnD.otherType {w : World} {lo : Nat} {dv : Value} {rows : List Value} {D : List (List Int)} (h : OwnD w lo dv rows D) {a : Addr} {cur : Array Value} {t : TypeId} (ha : w.heap[a.block]? = some (.cells cur t (0, 0))) (h1 : 22 ≠ t) (h2 : 3 ≠ t) (u : Value) : OwnD (w.setCell a u) lo dv rows D :=
  h.other (own_ne h.top ha h1) (fun i hi => own_ne (h.each i hi) ha h2) u

theorem OwnI.stored {w : World} {lo g cap n i : Nat} {l : List Int} (h : OwnI w lo (.slice (some ⟨g, 0, none⟩) n cap) l) (x : Int) : OwnI (w.setCell ⟨g, i, none⟩ (.int .i64 x)) lo (.slice (some ⟨g, 0, none⟩) n cap) (l.set i x) := by
  obtain ⟨_, hn⟩ := own_block h
  subst hn
  have := (World.ownsRow.stored h i (.int .i64 x)).1
  simpa [OwnI, List.map_set] using this

/-- A word of a row is written. -/
theorem OwnD.putWord {w : World} {lo i k g cap n : Nat} {dv : Value} {rows : List Value} {D : List (List Int)} (h : OwnD w lo dv rows D) (hi : i < D.length) (hr : rows.getD i nilv = .slice (some ⟨g, 0, none⟩) n cap) (x : Int) :
    OwnD (w.setCell ⟨g, k, none⟩ (.int .i64 x)) lo dv rows (D.set i ((D.getD i []).set k x)) := by
  have hei := h.each i hi
  rw [hr] at hei
  obtain ⟨⟨cur, hg⟩, _⟩ := own_block hei
  refine ⟨by simpa using ownsRow_setCell_other (a := ⟨g, k, none⟩) h.top (own_ne h.top hg (by decide)) _, fun j hj => ?_, fun a b ha hb => h.apart a b (by simpa using ha) (by simpa using hb)⟩
  simp at hj
  rw [getD_set _ _ _ _ _ hi]
  by_cases e : j = i
  · rw [if_pos e, e, hr]
    exact OwnI.stored hei x
  · rw [if_neg e]
    exact ownsRow_setCell_other (a := ⟨g, k, none⟩) (h.each j hj) (h.apart i j hi hj (Ne.symm e) g (by rw [hr]; rfl)) _

theorem OwnD.rows_lo {w : World} {lo : Nat} {dv : Value} {rows : List Value} {D : List (List Int)} (h : OwnD w lo dv rows D) (h1 : D.length * 24 ≤ 140737488351232) (h2 : ∀ i, i < D.length → (D.getD i []).length * 8 ≤ 140737488351232) : RowsLo lo w dv D := by
  by_cases h0 : 0 < D.length
  · obtain ⟨g, cap, rfl, hlo, hlt, _, hc, _⟩ := ownsRow_at h.top h0
    refine ⟨_, cap, rfl, h1, fun _ => ⟨g, 0, rfl, hlo, hlt, fun j hj => ⟨rows.getD j nilv, ?_, (h.each j hj).low (h2 j hj)⟩⟩⟩
    have := h.len
    rw [Nat.zero_add, hc j hj]
    simp [List.getD, show j < rows.length by omega]
  · have hv : ∃ A c, dv = .slice A D.length c := by
      rcases h.top.2 with ⟨rfl, hn⟩ | ⟨g, cap, cur, rfl, _⟩
      · exact ⟨none, 0, by rw [hn]⟩
      · exact ⟨_, _, rfl⟩
    obtain ⟨A, c, rfl⟩ := hv
    exact ⟨A, c, rfl, h1, fun h => absurd h h0⟩
theorem OwnD.rows_at {w : World} {lo : Nat} {dv : Value} {rows : List Value} {D : List (List Int)} (h : OwnD w lo dv rows D) (h1 : D.length * 24 ≤ 140737488351232) (h2 : ∀ i, i < D.length → (D.getD i []).length * 8 ≤ 140737488351232) : RowsAt w dv D := (h.rows_lo h1 h2).at

/-- Frames of the call's own. -/
structure OwnF (w : World) (lo : Nat) (dv rv : Value) (rows : List Value) (D : List (List Int)) (R : List Int) : Prop where
  dat : OwnD w lo dv rows D
  ref : OwnI w lo rv R
  off : ∀ i, i < D.length → ∀ g, rv.ownBlock = some g → (rows.getD i nilv).ownBlock ≠ some g

theorem OwnF.below {w w' : World} {lo : Nat} {dv rv : Value} {rows : List Value} {D : List (List Int)} {R : List Int} (h : OwnF w lo dv rv rows D R) (hb : Below w.heap.size w w') : OwnF w' lo dv rv rows D R :=
  ⟨h.dat.below hb, h.ref.below hb, h.off⟩

theorem OwnF.otherType {w : World} {lo : Nat} {dv rv : Value} {rows : List Value} {D : List (List Int)} {R : List Int} (h : OwnF w lo dv rv rows D R) {a : Addr} {cur : Array Value} {t : TypeId} (ha : w.heap[a.block]? = some (.cells cur t (0, 0))) (h1 : 22 ≠ t) (h2 : 3 ≠ t) (u : Value) : OwnF (w.setCell a u) lo dv rv rows D R :=
  ⟨h.dat.otherType ha h1 h2 u, ownsRow_setCell_other h.ref (own_ne h.ref ha h2) u, h.off⟩

theorem OwnF.shape {w : World} {lo : Nat} {dv rv : Value} {rows : List Value} {D : List (List Int)} {R : List Int} (h : OwnF w lo dv rv rows D R) : ∃ A c B c', dv = .slice A D.length c ∧ rv = .slice B R.length c' := by
  obtain ⟨B, c', hr⟩ := h.ref.shape
  rcases h.dat.top.2 with ⟨hd, hn⟩ | ⟨g, cap, cur, hd, _⟩
  · exact ⟨none, 0, B, c', by rw [hd, hn], hr⟩
  · exact ⟨_, _, B, c', hd, hr⟩

/-- Where there are frames: the blocks, their cells. -/
theorem OwnF.opened {w : World} {lo : Nat} {dv rv : Value} {rows : List Value} {D : List (List Int)} {R : List Int} (h : OwnF w lo dv rv rows D R) (hD : 0 < D.length) (hR : 0 < R.length) :
    ∃ gd cd gr cr, dv = .slice (some ⟨gd, 0, none⟩) D.length cd ∧ rv = .slice (some ⟨gr, 0, none⟩) R.length cr ∧ lo ≤ gd ∧ gd < w.heap.size ∧ lo ≤ gr ∧ gr < w.heap.size ∧ gd ≠ gr ∧
      (∀ j, j < D.length → w.cell? ⟨gd, j, none⟩ = some (rows.getD j nilv)) ∧ (∀ j, w.frozen? ⟨gd, j, none⟩ = false) ∧ (∀ j, j < R.length → w.cell? ⟨gr, j, none⟩ = some (.int .i64 (R.getD j 0))) ∧ (∀ j, w.frozen? ⟨gr, j, none⟩ = false) := by
  obtain ⟨gd, cd, hd, l1, l2, ⟨cur, hb⟩, hc, hf⟩ := ownsRow_at h.dat.top hD
  obtain ⟨gr, cr, hr, l3, l4, _, hc', hf'⟩ := ownsRow_at h.ref hR
  have hlen := h.dat.len
  refine ⟨gd, cd, gr, cr, hd, hr, l1, l2, l3, l4, fun e => ?_, fun j hj => ?_, hf, fun j hj => ?_, hf'⟩
  · subst e
    exact own_ne h.ref hb (by decide) (by rw [hr]; rfl)
  · rw [hc j hj]
    simp [List.getD, show j < rows.length by omega]
  · rw [hc' j hj]
    simp [List.getD, hj]

theorem OwnF.mono {w : World} {lo lo' : Nat} {dv rv : Value} {rows : List Value} {D : List (List Int)} {R : List Int} (h : OwnF w lo dv rv rows D R) (hlo : lo' ≤ lo) : OwnF w lo' dv rv rows D R :=
  ⟨⟨ownsRow_mono h.dat.top hlo, fun i hi => ownsRow_mono (h.dat.each i hi) hlo, h.dat.apart⟩, ownsRow_mono h.ref hlo, h.off⟩

theorem OwnF.rowsAt {w w0 : World} {lo : Nat} {dv rv v0 : Value} {rows : List Value} {D : List (List Int)} {R : List Int} (h : OwnF w lo dv rv rows D R) (h0 : RowsAt w0 v0 D) : RowsAt w dv D := h.dat.rows_at h0.bounds.1 h0.bounds.2
theorem OwnF.intsAt {w w0 : World} {lo : Nat} {dv rv v0 : Value} {rows : List Value} {D : List (List Int)} {R : List Int} (h : OwnF w lo dv rv rows D R) (h0 : IntsAt w0 v0 R) : IntsAt w rv R := h.ref.at h0.bound

/-- Both fields of a struct of the call's own are stored. -/
theorem OwnF.store2 {w : World} {lo b : Nat} {dv rv x y : Value} {rows : List Value} {D : List (List Int)} {R : List Int} {t : TypeId} (h : OwnF w lo dv rv rows D R) (hb : w.heap[b]? = some (.cells #[x, y] t (0, 0))) (h1 : 22 ≠ t) (h2 : 3 ≠ t) (u u' : Value) :
    OwnF ((w.setCell ⟨b, 0, none⟩ u).setCell ⟨b, 1, none⟩ u') lo dv rv rows D R := by
  have hb' : (w.setCell ⟨b, 0, none⟩ u).heap[b]? = some (.cells #[u, y] t (0, 0)) := by
    simp [World.setCell, Array.getElem?_modify, hb]
  exact (h.otherType (a := ⟨b, 0, none⟩) hb h1 h2 u).otherType (a := ⟨b, 1, none⟩) hb' h1 h2 u'

/-- How many know a frame is written. -/
theorem OwnF.putRef {w : World} {lo i g cap n : Nat} {dv : Value} {rows : List Value} {D : List (List Int)} {R : List Int} (h : OwnF w lo dv (.slice (some ⟨g, 0, none⟩) n cap) rows D R) (x : Int) :
    OwnF (w.setCell ⟨g, i, none⟩ (.int .i64 x)) lo dv (.slice (some ⟨g, 0, none⟩) n cap) rows D (R.set i x) := by
  obtain ⟨⟨cur, hg⟩, _⟩ := own_block h.ref
  exact ⟨h.dat.other (a := ⟨g, i, none⟩) (own_ne h.dat.top hg (by decide)) (fun j hj => h.off j hj g rfl) _, OwnI.stored h.ref x, h.off⟩

/-- The words of a frame are put into their place. -/
theorem OwnF.putRow {w : World} {lo n cap gd i : Nat} {u rv : Value} {rows : List Value} {D : List (List Int)} {R l : List Int} (h : OwnF w lo (.slice (some ⟨gd, 0, none⟩) n cap) rv rows D R) (hi : i < D.length)
    (hu : OwnI w lo u l) (hap : ∀ j, j < D.length → j ≠ i → ∀ g, u.ownBlock = some g → (rows.getD j nilv).ownBlock ≠ some g) (hr : ∀ g, rv.ownBlock = some g → u.ownBlock ≠ some g) :
    OwnF (w.setCell ⟨gd, i, none⟩ u) lo (.slice (some ⟨gd, 0, none⟩) n cap) rv (rows.set i u) (D.set i l) R := by
  obtain ⟨⟨cur, hgd⟩, _⟩ := own_block h.dat.top
  have hlen := h.dat.len
  refine ⟨h.dat.putRow hi hu hap, ownsRow_setCell_other (a := ⟨gd, i, none⟩) h.ref (own_ne h.ref hgd (by decide)) u, fun j hj g hg => ?_⟩
  simp at hj
  rw [getD_set _ _ _ _ _ (by omega)]
  by_cases e : j = i
  · rw [if_pos e]; exact hr g hg
  · rw [if_neg e]; exact h.off j hj g hg

/-- A word of a frame is written. -/
theorem OwnF.putWord {w : World} {lo i k g cap n : Nat} {dv rv : Value} {rows : List Value} {D : List (List Int)} {R : List Int} (h : OwnF w lo dv rv rows D R) (hi : i < D.length) (hr : rows.getD i nilv = .slice (some ⟨g, 0, none⟩) n cap) (x : Int) :
    OwnF (w.setCell ⟨g, k, none⟩ (.int .i64 x)) lo dv rv rows (D.set i ((D.getD i []).set k x)) R :=
  ⟨h.dat.putWord hi hr x, ownsRow_setCell_other (a := ⟨g, k, none⟩) h.ref (fun hv => h.off i hi g hv (by rw [hr]; rfl)) _, fun j hj => h.off j (by simpa using hj)⟩

/-- Blocks that lie behind all of theirs are apart from them. -/
theorem OwnD.fresh {w : World} {lo : Nat} {dv : Value} {rows : List Value} {D : List (List Int)} (h : OwnD w lo dv rows D) {u : Value} (hu : ∀ g, u.ownBlock = some g → w.heap.size ≤ g) (j : Nat) (hj : j < D.length) (g : Nat) (hg : u.ownBlock = some g) : (rows.getD j nilv).ownBlock ≠ some g := fun e => by
  have := ((h.each j hj).lt g e).2
  have := hu g hg
  omega

theorem OwnF.fresh {w : World} {lo : Nat} {dv rv : Value} {rows : List Value} {D : List (List Int)} {R : List Int} (h : OwnF w lo dv rv rows D R) {u : Value} (hu : ∀ g, u.ownBlock = some g → w.heap.size ≤ g) (g : Nat) (hg : rv.ownBlock = some g) : u.ownBlock ≠ some g := fun e => by
  have := (h.ref.lt g hg).2
  have := hu g e
  omega

/-- A row with words: its block. -/
theorem OwnI.opened {w : World} {lo : Nat} {v : Value} {l : List Int} (h : OwnI w lo v l) (hl : 0 < l.length) :
    ∃ g c, v = .slice (some ⟨g, 0, none⟩) l.length c ∧ lo ≤ g ∧ g < w.heap.size ∧ (∀ i, i < l.length → w.cell? ⟨g, i, none⟩ = some (.int .i64 (l.getD i 0))) ∧ ∀ i, w.frozen? ⟨g, i, none⟩ = false := by
  obtain ⟨g, c, rfl, h1, h2, _, h3, h4⟩ := ownsRow_at h hl
  exact ⟨g, c, rfl, h1, h2, fun i hi => by rw [h3 i hi]; simp [List.getD, hi], h4⟩

end Go.Proofs.YtlcdefpdahjjeagDoor
