/- Contracts of Space.Fork and Space.Clear. -/
import Derived.Test.YtecpblabaelopaaGreatDoorHoAPart
import Derived.Test.YtecpblabaelopaaGreatDoorHoBPart
import Derived.Test.YtecpblabaelopaaGreatDoorBasePart
import Derived.Test.YtecpblabaelopaaGreatDoorOwnPart
import Derived.Deep.DeepCutAuto
import Derived.Deep.LoopGhost
namespace Go.Proofs.YtecpblabaelopaaGreatDoor
open Go.RowKit
set_option maxRecDepth 100000

def forkK (s : List Int) (k : Nat) : List Int := s.take k ++ List.replicate (16 - k) (-1)
theorem forkK_len {s : List Int} (h : s.length = 16) {k : Nat} (hk : k ≤ 16) : (forkK s k).length = 16 := by simp [forkK, h]; omega
theorem forkK_0 (s : List Int) : forkK s 0 = blankS := by simp [forkK, blankS]
theorem forkK_16 {s : List Int} (h : s.length = 16) : forkK s 16 = s := by simp [forkK, List.take_of_length_le (show s.length ≤ 16 by omega)]
theorem forkK_at {s : List Int} (h : s.length = 16) {k : Nat} (hk : k < 16) : (forkK s k).getD k 0 = -1 := by
  have e1 : (s.take k).length = k := by simp; omega
  unfold forkK
  rw [List.getD, List.getElem?_append_right (by omega), e1, Nat.sub_self, List.getElem?_replicate, if_pos (by omega)]
  rfl
theorem forkK_set {s : List Int} (h : s.length = 16) {k : Nat} (hk : k < 16) : (forkK s k).set k (s.getD k 0) = forkK s (k + 1) := by
  have e1 : (s.take k).length = k := by simp; omega
  have e2 : s.getD k 0 = s[k] := by simp [List.getD, show k < s.length by omega]
  unfold forkK
  rw [List.set_append_right _ _ (by omega), e1, Nat.sub_self, show 16 - k = (16 - (k + 1)) + 1 by omega, List.replicate_succ, List.set_cons_zero, List.take_succ_eq_append_getElem (by omega), List.append_assoc, e2]
  rfl
def clearK (s : List Int) (k : Nat) : List Int := List.replicate k (-1) ++ s.drop k
theorem clearK_0 (s : List Int) : clearK s 0 = s := by simp [clearK]
theorem clearK_16 {s : List Int} (h : s.length = 16) : clearK s 16 = blankS := by simp [clearK, blankS, List.drop_of_length_le (show s.length ≤ 16 by omega)]
theorem clearK_at {s : List Int} (k : Nat) : (clearK s k).getD k 0 = s.getD k 0 := by
  unfold clearK
  rw [List.getD, List.getElem?_append_right (by simp)]
  simp [List.getD]
theorem clearK_set {s : List Int} (h : s.length = 16) {k : Nat} (hk : k < 16) : (clearK s k).set k (-1) = clearK s (k + 1) := by
  unfold clearK
  rw [List.set_append_right _ _ (by simp), List.length_replicate, Nat.sub_self, List.drop_eq_getElem_cons (by omega), List.set_cons_zero, List.replicate_succ', List.append_assoc]
  rfl

def ForkPost (w : World) (lo hp : Nat) (v : HV) (D : List (List Int)) (R s : List Int) (Ss : List (List Int)) (e : Ending) (w' : World) : Prop :=
  ∃ fp R', e = .returned (.tuple #[hptr fp, .int .i64 0]) ∧ w.heap.size ≤ fp ∧ SpAt w' hp fp s ∧ Sys D R' (s :: s :: Ss) ∧ R'.length = R.length ∧ HostTo w lo hp v D R' w'

set_option maxHeartbeats 1000000 in
theorem Fork_any (lo hp sp : Nat) (v : HV) (D : List (List Int)) (R s : List Int) (Ss : List (List Int)) (w : World) (h : HostAt w lo hp v D R) (hs : SpAt w hp sp s) (hS : Sys D R (s :: Ss)) (hn : Ss.length ≤ 10) :
    Calls Tryz.prog 155 #[hptr sp] w fun e w' => ForkPost w lo hp v D R s Ss e w' := by
  obtain ⟨q0, qf, ql⟩ := hs.host
  have hsl := hs.len
  have HQ : Hid (w.cell? ⟨sp, 0, none⟩ = some (hptr hp)) := q0
  have HRG : Hid (∀ w1, Below w.heap.size w w1 → w1.rangeAt sp 1 (s.map (Value.int .i64))) := fun w1 hb => nums_range fun j hj => (hb.cell (p := ⟨sp, 1 + j, none⟩) ql).trans (hs.cell (by omega))
  have HSZ : Hid ((Tryz.prog.info? 209).map (·.size) = some (s.map (Value.int .i64)).length) := by show _ = _; rw [List.length_map, hsl]; kernel_rfl
  have HH : Hid (HostAt w lo hp v D R ∧ Sys D R (s :: Ss) ∧ SpAt w hp sp s) := ⟨h, hS, hs⟩
  obtain ⟨ar, har⟩ : ∃ ar, ar = (s.map (Value.int .i64)).toArray := ⟨_, rfl⟩
  have HIX : Hid (∀ (k : Nat) W, k < 16 → (Instr.index 209 (.agg ar) (.int .i64 (k : Int))).run Tryz.prog W = .ok (.int .i64 (s.getD k 0)) W) := fun k W hk => by rw [har]; exact index16 s hsl k hk W
  have HAR : Hid (ar = (s.map (Value.int .i64)).toArray) := har
  clear h hS hs har
  go_enter Tryz.func155, Tryz.ntmps155
  go_wp2_with fail
  refine (Blank_any hp _).mono ?_
  rintro e w1 ⟨rfl, hb0, hb1⟩
  have HB : Hid (SpAt w1 hp w.heap.size blankS ∧ Below w.heap.size w w1) := ⟨hb0, hb1⟩
  have hz1 := hb1.size
  clear hb0 hb1
  go_wp2_with (first
    | (refine wpList_load_mid rfl 209 (.tmp 15) rfl sp 1 rfl (s.map (Value.int .i64)) _ (HRG.out _ HB.out.2) Tryz.underlying209 rfl HSZ.out ?_; rw [← HAR.out]))
  go_loopw [5, 6, 7, 17] (fun _ _ _ i wr => ∃ (k : Nat) (vk : HV) (Rk : List Int), k ≤ 16 ∧ i = .int .i64 (k : Int) ∧ Hid (HostAt wr lo hp vk D Rk ∧ SpAt wr hp w.heap.size (forkK s k) ∧ Sys D Rk (forkK s k :: s :: Ss) ∧ Rk.length = R.length ∧ (∀ g, vk.foot g → v.foot g ∨ w.heap.size ≤ g) ∧ Chg v.foot w wr)) (fun _ _ _ i _ => 16 - (intOf i).toNat)
  case atStart => exact ⟨0, v, R, by omega, rfl, HH.out.1.below HB.out.2, by rw [forkK_0]; exact HB.out.1, by rw [forkK_0]; exact HH.out.2.1.blank, rfl, fun _ e => Or.inl e, Chg.of_below HB.out.2⟩
  case round =>
    obtain ⟨k, vk, Rk, hk, rfl, HI⟩ := hrel
    by_cases hlt : k < 16
    · have hl : (k : Int) < 16 := by omega
      have hix := HIX.out k wr hlt
      have hw2 : IntKind.i64.wrap ((k : Int) + 1) = (k : Int) + 1 := IntWalk.i64_in _ (by omega)
      have hoff := HH.out.2.2.off HH.out.1
      have c0 : wr.cell? ⟨sp, 0, none⟩ = some (hptr hp) := (HH.out.2.2.chg HI.out.2.2.2.2.2 hoff.1).host.1
      have hne : sp ≠ w.heap.size := by omega
      obtain ⟨x, hx⟩ : ∃ x, x = s.getD k 0 := ⟨_, rfl⟩
      rw [← hx] at hix
      have HX : Hid (x = s.getD k 0) := hx
      by_cases hx1 : x = -1
      · have d0 : (x == -1) = true := by simp [hx1]
        have HN : Hid (HostAt wr lo hp vk D Rk ∧ SpAt wr hp w.heap.size (forkK s (k + 1)) ∧ Sys D Rk (forkK s (k + 1) :: s :: Ss) ∧ Rk.length = R.length ∧ (∀ g, vk.foot g → v.foot g ∨ w.heap.size ≤ g) ∧ Chg v.foot w wr) := by
          have e : forkK s (k + 1) = forkK s k := by
            rw [← forkK_set hsl hlt, ← hx, hx1]
            have := forkK_at hsl hlt
            rw [← this]
            have hp : k < (forkK s k).length := by rw [forkK_len hsl hk]; exact hlt
            have e2 : (forkK s k).getD k 0 = (forkK s k)[k] := by simp [List.getD, hp]
            rw [e2, List.set_getElem_self]
          rw [e]
          exact HI.out
        clear hx hx1 HI c0
        go_wp2_with fail
        refine ⟨⟨k + 1, vk, Rk, by omega, by go_num, HN⟩, ?_⟩
        simp [intOf]; omega
      · have d0 : (x == -1) = false := by simpa using hx1
        obtain ⟨j, hj, hjR, hj1⟩ : ∃ j : Nat, x = (j : Int) ∧ j < Rk.length ∧ 1 ≤ Rk.getD j 0 := by
          rcases HI.out.2.2.1.page_ok (s := s) (by simp) hlt with e | ⟨j, e⟩
          · rw [← hx] at e; exact absurd e hx1
          · rw [← hx] at e; exact ⟨j, e⟩
        have hfew := HI.out.2.2.1.few hjR
        simp only [List.length_cons] at hfew
        have HJ : Hid (∀ W, W = wr → Calls Tryz.prog 169 #[hptr hp, .int .i64 x] W fun e w' => e = .returned (.int .i64 0) ∧ HostTo wr lo hp vk D (Rk.set j (Rk.getD j 0 + 1)) w') := fun W e => by
          rw [e, hj]
          exact Join_ok lo hp vk D Rk j wr HI.out.1 hjR hj1 (by omega)
        have HN : Hid (∀ w', HostTo wr lo hp vk D (Rk.set j (Rk.getD j 0 + 1)) w' → w'.cell? ⟨w.heap.size, 1 + k, none⟩ = some (.int .i64 (-1)) ∧ w'.frozen? ⟨w.heap.size, 1 + k, none⟩ = false ∧ w.heap.size < w'.heap.size ∧ ∃ v2 R2, HostAt (w'.setCell ⟨w.heap.size, 1 + k, none⟩ (.int .i64 x)) lo hp v2 D R2 ∧ SpAt (w'.setCell ⟨w.heap.size, 1 + k, none⟩ (.int .i64 x)) hp w.heap.size (forkK s (k + 1)) ∧ Sys D R2 (forkK s (k + 1) :: s :: Ss) ∧ R2.length = R.length ∧ (∀ g, v2.foot g → v.foot g ∨ w.heap.size ≤ g) ∧ Chg v.foot w (w'.setCell ⟨w.heap.size, 1 + k, none⟩ (.int .i64 x))) := by
          rintro w' ⟨v2, h2, f2, c2⟩
          obtain ⟨i1, i2, i3, i4, i5, i6⟩ := HI.out
          have hfo := i2.off i1
          have s2 := i2.chg c2 hfo.1
          have hat := s2.cell hlt
          rw [forkK_at hsl hlt] at hat
          refine ⟨hat, s2.host.2.1 _, s2.host.2.2, v2, Rk.set j (Rk.getD j 0 + 1), h2.other s2.box (s2.off h2).2 (by decide) (by decide) _ _, ?_, ?_, by simpa using i4, ?_, (i6.trans c2 i5).set (Or.inr (Nat.le_refl _)) _⟩
          · rw [← forkK_set hsl hlt, ← hx]; exact s2.set k x
          · rw [← forkK_set hsl hlt, ← hx, hj]; exact i3.join hlt (forkK_at hsl hlt) hjR hj1
          · intro g e
            rcases f2 g e with e | e
            · exact i5 g e
            · exact Or.inr (Nat.le_trans i6.size e)
        clear hx hx1 HI hj hfew
        go_wp2_with fail
        refine (HJ.out _ rfl).mono ?_
        rintro e w2 ⟨rfl, hT⟩
        obtain ⟨a1, a2, a3, HN2⟩ := HN.out w2 hT
        have HN3 : Hid (_) := HN2
        clear HN2 hT HN HJ c0
        go_wp2_with fail
        obtain ⟨v2, R2, HN4⟩ := HN3.out
        refine ⟨⟨k + 1, v2, R2, by omega, by go_num, HN4⟩, ?_⟩
        simp [intOf]; omega
    · have e : k = 16 := by omega
      subst e
      go_wp2_with fail
      go_ret2
      obtain ⟨i1, i2, i3, i4, i5, i6⟩ := HI.out
      rw [forkK_16 hsl] at i2 i3
      exact ⟨w.heap.size, Rk, rfl, Nat.le_refl _, i2, i3, i4, vk, i1, i5, i6⟩

def ClearPost (w : World) (lo hp sp : Nat) (v : HV) (D : List (List Int)) (R : List Int) (Ss : List (List Int)) (w' : World) : Prop :=
  ∃ D' R', Sys D' R' Ss ∧ (∀ t ∈ Ss, wordsOf D' t = wordsOf D t) ∧ R'.length = R.length ∧ SpTo w lo hp sp v D' R' blankS w'

set_option maxHeartbeats 1000000 in
theorem Clear_any (lo hp sp : Nat) (v : HV) (D : List (List Int)) (R s : List Int) (Ss : List (List Int)) (w : World) (h : HostAt w lo hp v D R) (hs : SpAt w hp sp s) (hS : Sys D R (s :: Ss)) (hn : Ss.length ≤ 11) :
    Calls Tryz.prog 136 #[hptr sp] w fun e w' => e = .returned (.tuple #[]) ∧ ClearPost w lo hp sp v D R Ss w' := by
  obtain ⟨q0, qf, ql⟩ := hs.host
  have hsl := hs.len
  have HRG : Hid (∀ w1, Below w.heap.size w w1 → w1.rangeAt sp 1 (s.map (Value.int .i64))) := fun w1 hb => nums_range fun j hj => (hb.cell (p := ⟨sp, 1 + j, none⟩) ql).trans (hs.cell (by omega))
  have HSZ : Hid ((Tryz.prog.info? 209).map (·.size) = some (s.map (Value.int .i64)).length) := by show _ = _; rw [List.length_map, hsl]; kernel_rfl
  have HH : Hid (HostAt w lo hp v D R ∧ Sys D R (s :: Ss) ∧ SpAt w hp sp s) := ⟨h, hS, hs⟩
  obtain ⟨ar, har⟩ : ∃ ar, ar = (s.map (Value.int .i64)).toArray := ⟨_, rfl⟩
  have HIX : Hid (∀ (k : Nat) W, k < 16 → (Instr.index 209 (.agg ar) (.int .i64 (k : Int))).run Tryz.prog W = .ok (.int .i64 (s.getD k 0)) W) := fun k W hk => by rw [har]; exact index16 s hsl k hk W
  have HAR : Hid (ar = (s.map (Value.int .i64)).toArray) := har
  clear h hS hs har
  go_enter Tryz.func136, Tryz.ntmps136
  go_wp2_with (first
    | (refine wpList_load_mid rfl 209 (.tmp 6) rfl sp 1 rfl (s.map (Value.int .i64)) _ (HRG.out _ (Below.refl _ _)) Tryz.underlying209 rfl HSZ.out ?_; rw [← HAR.out]))
  go_loopw [2, 3, 8] (fun _ _ i wr => ∃ (k : Nat) (Dk : List (List Int)) (Rk : List Int), k ≤ 16 ∧ i = .int .i64 (k : Int) ∧ Hid (SpTo w lo hp sp v Dk Rk (clearK s k) wr ∧ Sys Dk Rk (clearK s k :: Ss) ∧ Rk.length = R.length ∧ ∀ t ∈ Ss, wordsOf Dk t = wordsOf D t)) (fun _ _ i _ => 16 - (intOf i).toNat)
  case atStart => exact ⟨0, D, R, by omega, rfl, by rw [clearK_0]; exact SpTo.same HH.out.1 HH.out.2.2 (Below.refl _ _), by rw [clearK_0]; exact HH.out.2.1, rfl, fun _ _ => rfl⟩
  case round =>
    obtain ⟨k, Dk, Rk, hk, rfl, HI⟩ := hrel
    by_cases hlt : k < 16
    · have hl : (k : Int) < 16 := by omega
      have hix := HIX.out k wr hlt
      have hw2 : IntKind.i64.wrap ((k : Int) + 1) = (k : Int) + 1 := IntWalk.i64_in _ (by omega)
      have c0 : wr.cell? ⟨sp, 0, none⟩ = some (hptr hp) := by
        obtain ⟨_, _, b, _⟩ := HI.out.1
        exact b.host.1
      obtain ⟨x, hx⟩ : ∃ x, x = s.getD k 0 := ⟨_, rfl⟩
      rw [← hx] at hix
      by_cases hx1 : x = -1
      · have d0 : (x != -1) = false := by simp [hx1]
        have HN : Hid (SpTo w lo hp sp v Dk Rk (clearK s (k + 1)) wr ∧ Sys Dk Rk (clearK s (k + 1) :: Ss) ∧ Rk.length = R.length ∧ ∀ t ∈ Ss, wordsOf Dk t = wordsOf D t) := by
          have e : clearK s (k + 1) = clearK s k := by
            have hp : k < (clearK s k).length := by simp [clearK, hsl]; omega
            rw [← clearK_set hsl hlt, ← hx1, hx, ← clearK_at k]
            have e2 : (clearK s k).getD k 0 = (clearK s k)[k] := by simp [List.getD, hp]
            rw [e2, List.set_getElem_self]
          rw [e]
          exact HI.out
        clear hx hx1 HI c0
        go_wp2_with fail
        refine ⟨⟨k + 1, Dk, Rk, by omega, by go_num, HN⟩, ?_⟩
        simp [intOf]; omega
      · have d0 : (x != -1) = true := by simpa using hx1
        obtain ⟨j, hj, hjR, hj1⟩ : ∃ j : Nat, x = (j : Int) ∧ j < Rk.length ∧ 1 ≤ Rk.getD j 0 := by
          rcases HI.out.2.1.page_ok (s := clearK s k) (by simp) hlt with e | ⟨j, e⟩
          · rw [clearK_at, ← hx] at e; exact absurd e hx1
          · rw [clearK_at, ← hx] at e; exact ⟨j, e⟩
        have hfew := HI.out.2.1.few hjR
        simp only [List.length_cons] at hfew
        have HJ : Hid (∀ W, W = wr → Calls Tryz.prog 157 #[hptr hp, .int .i64 x] W fun e w' => e = .returned (.int .i64 0) ∧ SpTo w lo hp sp v (leftS Dk j (Rk.getD j 0)) (Rk.set j (Rk.getD j 0 - 1)) (clearK s k) w') := fun W e => by
          obtain ⟨v1, a1, a2, a3, a4⟩ := HI.out.1
          rw [e, hj]
          refine (Leave_ok lo hp v1 Dk Rk j wr a1 hjR hj1 (by omega)).mono fun e' w' ⟨he, hT⟩ => ⟨he, ?_⟩
          exact SpTo.trans a3 a4 (SpTo.of_host a1 a2 hT)
        have HN : Hid (∀ w', SpTo w lo hp sp v (leftS Dk j (Rk.getD j 0)) (Rk.set j (Rk.getD j 0 - 1)) (clearK s k) w' → SpTo w lo hp sp v (leftS Dk j (Rk.getD j 0)) (Rk.set j (Rk.getD j 0 - 1)) (clearK s (k + 1)) (w'.setCell ⟨sp, 1 + k, none⟩ (.int .i64 (-1))) ∧ Sys (leftS Dk j (Rk.getD j 0)) (Rk.set j (Rk.getD j 0 - 1)) (clearK s (k + 1) :: Ss) ∧ (Rk.set j (Rk.getD j 0 - 1)).length = R.length ∧ ∀ t ∈ Ss, wordsOf (leftS Dk j (Rk.getD j 0)) t = wordsOf D t) := fun w' hT => by
          obtain ⟨b1, b2⟩ := HI.out.2.1.leave hlt (by rw [clearK_at, ← hx]; exact hj) hjR hj1
          rw [clearK_set hsl hlt] at b1
          refine ⟨by rw [← clearK_set hsl hlt]; exact hT.put k (-1), b1, by simpa using HI.out.2.2.1, fun t ht => (b2 t ht).trans (HI.out.2.2.2 t ht)⟩
        clear hx hx1 HI hj hfew
        go_wp2_with fail
        refine (HJ.out _ rfl).mono ?_
        rintro e w2 ⟨rfl, hT⟩
        have HN3 : Hid (_) := HN.out w2 hT
        have a0 := SpTo.hostp hT
        have a1 := SpTo.page hT hlt rfl
        obtain ⟨a2, a3⟩ : (∀ j, w2.frozen? ⟨sp, j, none⟩ = false) ∧ sp < w2.heap.size := by
          obtain ⟨_, _, b, _⟩ := hT
          exact b.host.2
        clear hT HN HJ c0
        go_wp2_with fail
        refine ⟨⟨k + 1, _, _, by omega, by go_num, HN3⟩, ?_⟩
        simp [intOf]; omega
    · have e : k = 16 := by omega
      subst e
      go_wp2_with fail
      obtain ⟨i1, i2, i3, i4⟩ := HI.out
      rw [clearK_16 hsl] at i1 i2
      first | go_end0 | refine bodyPost_ret (results_none rfl _ _ _) rfl ?_
      exact ⟨rfl, Dk, Rk, i2.drop, i4, i3, i1⟩

end Go.Proofs.YtecpblabaelopaaGreatDoor

/- Contract of Space.SetAll. -/

namespace Go.Proofs.YtecpblabaelopaaGreatDoor
open Go.RowKit
set_option maxRecDepth 100000

def Off (F : Nat → Prop) (u : Value) : Prop := ∀ g, u.ownBlock = some g → ¬ F g
theorem Chg.ints {F : Nat → Prop} {w w' : World} (h : Chg F w w') {v : Value} {l : List Int} (k : IntsAt w v l) (hn : Off F v) : IntsAt w' v l := by
  obtain ⟨A, c, rfl, hl, hc⟩ := k
  refine ⟨A, c, rfl, hl, fun h0 => ?_⟩
  obtain ⟨b, off, rfl, hlt, hj⟩ := hc h0
  have hk := h.kept b hlt (hn b rfl)
  refine ⟨b, off, rfl, Nat.lt_of_lt_of_le hlt h.size, fun j hjl => ?_⟩
  rw [World.cell?_of_block (a := ⟨b, off + j, none⟩) hk]
  exact hj j hjl
theorem mix_same {L M : List Int} (h1 : L.length = 256) (h2 : M.length = 256) {k : Nat} (hk : k < 256) (h : L.getD k 0 = M.getD k 0) : L.take k ++ M.drop k = L.take (k + 1) ++ M.drop (k + 1) := by
  have e1 : L.getD k 0 = L[k] := by simp [List.getD, show k < L.length by omega]
  have e2 : M.getD k 0 = M[k] := by simp [List.getD, show k < M.length by omega]
  rw [List.take_succ_eq_append_getElem (by omega), List.drop_eq_getElem_cons (by omega : k < M.length), List.append_assoc, List.singleton_append, ← e1, ← e2, h]
theorem mix_set {L M : List Int} (h1 : L.length = 256) (h2 : M.length = 256) {k : Nat} (hk : k < 256) : (L.take k ++ M.drop k).set k (L.getD k 0) = L.take (k + 1) ++ M.drop (k + 1) := by
  have e1 : L.getD k 0 = L[k] := by simp [List.getD, show k < L.length by omega]
  have e3 : (L.take k).length = k := by simp; omega
  rw [List.set_append_right _ _ (by omega), e3, Nat.sub_self, List.drop_eq_getElem_cons (by omega : k < M.length), List.set_cons_zero, List.take_succ_eq_append_getElem (by omega), List.append_assoc, List.singleton_append, e1]

def AllPost (w : World) (lo hp sp : Nat) (v : HV) (D : List (List Int)) (R : List Int) (Ss : List (List Int)) (L : List Int) (e : Ending) (w' : World) : Prop :=
  ∃ D' R' s', Sys D' R' (s' :: Ss) ∧ (∀ t ∈ Ss, wordsOf D' t = wordsOf D t) ∧ R'.length = R.length ∧ SpTo w lo hp sp v D' R' s' w' ∧ ((e = .returned (.int .i64 0) ∧ wordsOf D' s' = L) ∨ (e = .returned (.int .i64 7) ∧ R.length < 16 * (Ss.length + 1)))

set_option maxHeartbeats 1000000 in
theorem SetAll_any (lo hp sp : Nat) (v : HV) (D : List (List Int)) (R s : List Int) (Ss : List (List Int)) (mv : Value) (L : List Int) (w : World) (h : HostAt w lo hp v D R) (hs : SpAt w hp sp s) (hS : Sys D R (s :: Ss)) (hn : Ss.length ≤ 11) (hL : IntsAt w mv L) (hl : L.length = 256) (hoff : Off (fun g => v.foot g ∨ g = sp) mv) :
    Calls Tryz.prog 158 #[hptr sp, mv] w fun e w' => AllPost w lo hp sp v D R Ss L e w' := by
  obtain ⟨A, c, rfl, -, -⟩ := id hL
  have HH : Hid (HostAt w lo hp v D R ∧ SpAt w hp sp s ∧ Sys D R (s :: Ss) ∧ IntsAt w (.slice A L.length c) L ∧ Off (fun g => v.foot g ∨ g = sp) (.slice A L.length c)) := ⟨h, hs, hS, hL, hoff⟩
  have HL : Hid (L.length = 256) := hl
  rw [hl] at hL ⊢
  clear h hs hS hL hoff
  go_enter Tryz.func158, Tryz.ntmps158
  go_wp2_with fail
  refine (Words_any lo hp sp v D R s (s :: Ss) _ HH.out.1 HH.out.2.1 HH.out.2.2.1 (by simp)).mono ?_
  rintro e w1 ⟨u, rfl, ho, hb⟩
  obtain ⟨g, cu, hu, hg1, hg2, hgc, -⟩ := ho.opened (by rw [wordsOf_len]; omega)
  rw [wordsOf_len] at hu
  subst hu
  have HW : Hid (OwnI w1 w.heap.size (.slice (some ⟨g, 0, none⟩) 256 cu) (wordsOf D s) ∧ Below w.heap.size w w1 ∧ w.heap.size ≤ g ∧ g < w1.heap.size) := ⟨ho, hb, hg1, hg2⟩
  clear ho hb hg1 hg2 hgc
  have HG : Hid (Off (fun g => v.foot g ∨ g = sp) (.slice (some ⟨g, 0, none⟩) 256 cu)) := fun b hb e => by
    simp [Value.ownBlock] at hb
    subst hb
    have h1 := HW.out.2.2.1
    rcases e with e | e
    · have := (HH.out.1.foot_lt e).2; omega
    · have := HH.out.2.1.host.2.2; omega
  go_wp2_with fail
  go_loopw [6, 7, 8, 16] (fun _ _ _ i wr => ∃ (k : Nat) (Dk : List (List Int)) (Rk sk : List Int), k ≤ 256 ∧ i = .int .i64 (k : Int) ∧ Hid (SpTo w1 lo hp sp v Dk Rk sk wr ∧ Sys Dk Rk (sk :: Ss) ∧ wordsOf Dk sk = L.take k ++ (wordsOf D s).drop k ∧ (∀ t ∈ Ss, wordsOf Dk t = wordsOf D t) ∧ Rk.length = R.length)) (fun _ _ _ i _ => 256 - (intOf i).toNat)
  case atStart => exact ⟨0, D, R, s, by omega, rfl, SpTo.same (HH.out.1.below HW.out.2.1) (HH.out.2.1.below HW.out.2.1) (Below.refl _ _), HH.out.2.2.1, by simp, fun _ _ => rfl, rfl⟩
  case round =>
    obtain ⟨k, Dk, Rk, sk, hk, rfl, HI⟩ := hrel
    by_cases hlt : k < 256
    · have hki : (k : Int) < 256 := by omega
      have hw2 : IntKind.i64.wrap ((k : Int) + 1) = (k : Int) + 1 := IntWalk.i64_in _ (by omega)
      have hLr : IntsAt wr (.slice A 256 c) L := by
        obtain ⟨_, _, _, _, cc⟩ := HI.out.1
        have := cc.ints (HH.out.2.2.2.1.below HW.out.2.1) HH.out.2.2.2.2
        rwa [HL.out] at this
      obtain ⟨A', c', e1, -, hc1⟩ := hLr
      simp only [Value.slice.injEq] at e1
      obtain ⟨rfl, e2, rfl⟩ := e1
      obtain ⟨b, off, rfl, hb, hcell⟩ := hc1 (by omega)
      have y1 := hcell k (by omega)
      have y2 : wr.cell? ⟨g, k, none⟩ = ((wordsOf D s).map (Value.int .i64))[k]? := by
        obtain ⟨_, _, _, _, cc⟩ := HI.out.1
        exact (cc.own HW.out.1 HG.out).cellAt k (by first | omega | (rw [wordsOf_len]; omega))
      have e3 : ((wordsOf D s).map (Value.int .i64))[k]? = some (.int .i64 ((wordsOf D s).getD k 0)) := by
        have : k < (wordsOf D s).length := by rw [wordsOf_len]; exact hlt
        simp [List.getD, this]
      rw [e3] at y2
      obtain ⟨x, hx⟩ : ∃ x, x = L.getD k 0 := ⟨_, rfl⟩
      obtain ⟨y, hy⟩ : ∃ y, y = (wordsOf D s).getD k 0 := ⟨_, rfl⟩
      rw [← hx] at y1
      rw [← hy] at y2
      have HX : Hid (x = L.getD k 0 ∧ y = (wordsOf D s).getD k 0) := ⟨hx, hy⟩
      clear hcell hc1 e3 hx hy e2
      by_cases hxy : x = y
      · have d0 : (x == y) = true := by simp [hxy]
        have HN : Hid (SpTo w1 lo hp sp v Dk Rk sk wr ∧ Sys Dk Rk (sk :: Ss) ∧ wordsOf Dk sk = L.take (k + 1) ++ (wordsOf D s).drop (k + 1) ∧ (∀ t ∈ Ss, wordsOf Dk t = wordsOf D t) ∧ Rk.length = R.length) := by
          obtain ⟨i1, i3, i4, i5, i6⟩ := HI.out
          refine ⟨i1, i3, ?_, i5, i6⟩
          rw [i4, mix_same HL.out (wordsOf_len _ _) hlt (by rw [← HX.out.1, ← HX.out.2, hxy])]
        clear hxy HI
        go_wp2_with fail
        refine ⟨⟨k + 1, Dk, Rk, sk, by omega, by go_num, HN⟩, ?_⟩
        simp [intOf]; omega
      · have d0 : (x == y) = false := by simpa using hxy
        have HC : Hid (∀ W, W = wr → Calls Tryz.prog 171 #[hptr sp, .int .i64 (k : Int), .int .i64 x] W fun e w' => (e = .returned (.int .i64 0) ∧ ∃ D2 R2 s2, SpTo w1 lo hp sp v D2 R2 s2 w' ∧ Sys D2 R2 (s2 :: Ss) ∧ wordsOf D2 s2 = L.take (k + 1) ++ (wordsOf D s).drop (k + 1) ∧ (∀ t ∈ Ss, wordsOf D2 t = wordsOf D t) ∧ R2.length = R.length) ∨ (e = .returned (.int .i64 7) ∧ R.length < 16 * (Ss.length + 1) ∧ SpTo w1 lo hp sp v Dk Rk sk w')) := fun W e => by
          obtain ⟨i1, i3, i4, i5, i6⟩ := HI.out
          obtain ⟨v1, a1, a2, a3, a4⟩ := i1
          have htr : ∀ {D2 R2 s2 w'}, SpTo wr lo hp sp v1 D2 R2 s2 w' → SpTo w1 lo hp sp v D2 R2 s2 w' := fun hT => SpTo.trans a3 a4 hT
          rw [e]
          refine (Set_any lo hp sp v1 Dk Rk sk Ss (k / 16) (k % 16) k x wr a1 a2 i3 hn (by omega) (by omega) (by omega)).mono fun e' w' hp' => ?_
          rcases hp' with ⟨he, D2, R2, s2, hst, hT⟩ | ⟨he, hfl, hT⟩
          · obtain ⟨b1, b2, b3, b4⟩ := hst.sys i3 (by omega) (by omega)
            refine Or.inl ⟨he, D2, R2, s2, htr hT, b1, ?_, fun t ht => (b3 t ht).trans (i5 t ht), b4.trans i6⟩
            rw [b2, i4, show 16 * (k / 16) + k % 16 = k by omega, HX.out.1, mix_set HL.out (wordsOf_len _ _) hlt]
          · exact Or.inr ⟨he, by omega, htr hT⟩
        have HI5 : Hid (_) := HI.out.2.2.2
        have HI3 : Hid (_) := HI.out.2.1
        clear hxy HI
        go_wp2_with fail
        refine (HC.out _ rfl).mono ?_
        rintro e w2 (⟨rfl, D2, R2, s2, hN⟩ | ⟨rfl, hfl, hT⟩)
        · have HN : Hid (_) := hN
          clear hN HC
          go_wp2_with fail
          refine ⟨⟨k + 1, D2, R2, s2, by omega, by go_num, HN⟩, ?_⟩
          simp [intOf]; omega
        · have HT : Hid (_ ∧ _) := ⟨hT, hfl⟩
          clear hT hfl HC
          go_wp2_with fail
          go_ret
          exact ⟨Dk, Rk, sk, HI3.out, HI5.out.1, HI5.out.2, SpTo.trans (fun _ e => Or.inl e) (Chg.of_below HW.out.2.1) HT.out.1, Or.inr ⟨rfl, HT.out.2⟩⟩
    · have e : k = 256 := by omega
      subst e
      obtain ⟨i1, i3, i4, i5, i6⟩ := HI.out
      have HF : Hid (_ ∧ _ ∧ _ ∧ _ ∧ _) := ⟨i1, i3, i4, i5, i6⟩
      clear i1 i3 i4 i5 i6 HI
      go_wp2_with fail
      go_ret
      refine ⟨Dk, Rk, sk, HF.out.2.1, HF.out.2.2.2.1, HF.out.2.2.2.2, SpTo.trans (fun _ e => Or.inl e) (Chg.of_below HW.out.2.1) HF.out.1, Or.inl ⟨rfl, ?_⟩⟩
      have := HF.out.2.2.1
      rw [List.take_of_length_le (by have := HL.out; omega), List.drop_of_length_le (by rw [wordsOf_len]; omega), List.append_nil] at this
      exact this

end Go.Proofs.YtecpblabaelopaaGreatDoor

/- Plain notions: a guest, how it lies in memory, and what it does at a step. -/

namespace Go.Proofs.YtecpblabaelopaaGreatDoor
open Go.RowKit
set_option linter.unusedVariables false

structure Mach where
  regs : List Int
  pc : Int
  back : Int
  ints : Bool
  wait : Bool
  table : Int
  count : Int
  fin : Int
  mem : List Int
  out : List Int
  ready : Int
  want : Int

def Mach.cells (m : Mach) (rv mv ov : Value) : Array Value :=
  #[rv, .int .i64 m.pc, .int .i64 m.back, .bool m.ints, .bool m.wait, .int .i64 m.table, .int .i64 m.count, .int .i64 m.fin, mv, ov, .int .i64 m.ready, .int .i64 m.want]
def Mach.may (m : Mach) : Bool :=
  decide (m.regs.length = 8) && decide (m.mem.length = 256) && decide (m.out.length ≤ 200) && allB m.regs && allB m.mem && allB m.out &&
  wordB m.pc && wordB m.back && inB m.table (-1) 15 && inB m.count 0 1099511627776 && inB m.fin 0 4 && inB m.ready 0 1 && inB m.want (-1) 15

theorem twelve_cells {w : World} {b : Nat} {x0 x1 x2 x3 x4 x5 x6 x7 x8 x9 x10 x11 : Value} {t : TypeId} (h : w.heap[b]? = some (.cells #[x0, x1, x2, x3, x4, x5, x6, x7, x8, x9, x10, x11] t (0, 0))) :
    (w.cell? ⟨b, 0, none⟩ = some x0 ∧ w.cell? ⟨b, 1, none⟩ = some x1 ∧ w.cell? ⟨b, 2, none⟩ = some x2 ∧ w.cell? ⟨b, 3, none⟩ = some x3 ∧ w.cell? ⟨b, 4, none⟩ = some x4 ∧ w.cell? ⟨b, 5, none⟩ = some x5 ∧
      w.cell? ⟨b, 6, none⟩ = some x6 ∧ w.cell? ⟨b, 7, none⟩ = some x7 ∧ w.cell? ⟨b, 8, none⟩ = some x8 ∧ w.cell? ⟨b, 9, none⟩ = some x9 ∧ w.cell? ⟨b, 10, none⟩ = some x10 ∧ w.cell? ⟨b, 11, none⟩ = some x11) ∧ (∀ j, w.frozen? ⟨b, j, none⟩ = false) ∧ b < w.heap.size := by
  refine ⟨⟨?_, ?_, ?_, ?_, ?_, ?_, ?_, ?_, ?_, ?_, ?_, ?_⟩, fun j => by simp [World.frozen?, h], lt_of_block h⟩ <;> simp [World.cell?, h]

theorem below_alloc2 (w : World) (o1 o2 : Obj) : Below w.heap.size w ((w.alloc o1).alloc o2) := (below_alloc w o1).alloc (by simp) o2

def Apart (u v : Value) : Prop := ∀ g, u.ownBlock = some g → v.ownBlock ≠ some g
theorem Apart.symm {u v : Value} (h : Apart u v) : Apart v u := fun g hg e => h g e hg

structure OwnM (w : World) (lo : Nat) (rv mv ov : Value) (m : Mach) : Prop where
  regs : OwnI w lo rv m.regs
  mem : OwnI w lo mv m.mem
  out : OwnI w lo ov m.out
  rm : Apart rv mv
  ro : Apart rv ov
  mo : Apart mv ov

theorem OwnM.below {w w' : World} {lo : Nat} {rv mv ov : Value} {m : Mach} (h : OwnM w lo rv mv ov m) (hb : Below w.heap.size w w') : OwnM w' lo rv mv ov m :=
  ⟨h.regs.below hb, h.mem.below hb, h.out.below hb, h.rm, h.ro, h.mo⟩
theorem OwnM.mono {w : World} {lo lo' : Nat} {rv mv ov : Value} {m : Mach} (h : OwnM w lo rv mv ov m) (hlo : lo' ≤ lo) : OwnM w lo' rv mv ov m :=
  ⟨ownsRow_mono h.regs hlo, ownsRow_mono h.mem hlo, ownsRow_mono h.out hlo, h.rm, h.ro, h.mo⟩
theorem OwnM.otherType {w : World} {lo : Nat} {rv mv ov : Value} {m : Mach} (h : OwnM w lo rv mv ov m) {a : Addr} {cur : Array Value} {t : TypeId} (ha : w.heap[a.block]? = some (.cells cur t (0, 0))) (h2 : 3 ≠ t) (u : Value) : OwnM (w.setCell a u) lo rv mv ov m :=
  ⟨ownsRow_setCell_other h.regs (own_ne h.regs ha h2) u, ownsRow_setCell_other h.mem (own_ne h.mem ha h2) u, ownsRow_setCell_other h.out (own_ne h.out ha h2) u, h.rm, h.ro, h.mo⟩
theorem OwnM.of {w : World} {lo : Nat} {rv mv ov : Value} {m m' : Mach} (h : OwnM w lo rv mv ov m) (h1 : m'.regs = m.regs) (h2 : m'.mem = m.mem) (h3 : m'.out = m.out) : OwnM w lo rv mv ov m' :=
  ⟨by rw [h1]; exact h.regs, by rw [h2]; exact h.mem, by rw [h3]; exact h.out, h.rm, h.ro, h.mo⟩
theorem OwnM.putReg {w : World} {lo g cap n i : Nat} {mv ov : Value} {m : Mach} (h : OwnM w lo (.slice (some ⟨g, 0, none⟩) n cap) mv ov m) (x : Int) :
    OwnM (w.setCell ⟨g, i, none⟩ (.int .i64 x)) lo (.slice (some ⟨g, 0, none⟩) n cap) mv ov { m with regs := m.regs.set i x } :=
  ⟨OwnI.stored h.regs x, ownsRow_setCell_other (a := ⟨g, i, none⟩) h.mem (h.rm g rfl) _, ownsRow_setCell_other (a := ⟨g, i, none⟩) h.out (h.ro g rfl) _, h.rm, h.ro, h.mo⟩
theorem OwnM.putMem {w : World} {lo g cap n i : Nat} {rv ov : Value} {m : Mach} (h : OwnM w lo rv (.slice (some ⟨g, 0, none⟩) n cap) ov m) (x : Int) :
    OwnM (w.setCell ⟨g, i, none⟩ (.int .i64 x)) lo rv (.slice (some ⟨g, 0, none⟩) n cap) ov { m with mem := m.mem.set i x } :=
  ⟨ownsRow_setCell_other (a := ⟨g, i, none⟩) h.regs (h.rm.symm g rfl) _, OwnI.stored h.mem x, ownsRow_setCell_other (a := ⟨g, i, none⟩) h.out (h.mo g rfl) _, h.rm, h.ro, h.mo⟩
theorem OwnM.shape {w : World} {lo : Nat} {rv mv ov : Value} {m : Mach} (h : OwnM w lo rv mv ov m) : ∃ A c B c' C c'', rv = .slice A m.regs.length c ∧ mv = .slice B m.mem.length c' ∧ ov = .slice C m.out.length c'' := by
  obtain ⟨A, c, h1⟩ := h.regs.shape
  obtain ⟨B, c', h2⟩ := h.mem.shape
  obtain ⟨C, c'', h3⟩ := h.out.shape
  exact ⟨A, c, B, c', C, c'', h1, h2, h3⟩
theorem apart_new {w w1 : World} {lo lo1 : Nat} {u v : Value} {l l1 : List Int} (h : OwnI w lo u l) (h1 : OwnI w1 lo1 v l1) (hl : w.heap.size ≤ lo1) : Apart u v := fun g hg e => by
  have := (World.ownsRow.lt h g hg).2
  have := (World.ownsRow.lt h1 g e).1
  omega

structure MachFits (m : Mach) : Prop where
  regs : m.regs.length * 8 ≤ 140737488351232
  mem : m.mem.length * 8 ≤ 140737488351232
  out : m.out.length * 8 ≤ 140737488351232

structure MachAt (w : World) (rv mv ov : Value) (m : Mach) : Prop where
  regs : IntsAt w rv m.regs
  mem : IntsAt w mv m.mem
  out : IntsAt w ov m.out
theorem MachAt.below {w w' : World} {rv mv ov : Value} {m : Mach} (h : MachAt w rv mv ov m) (hb : Below w.heap.size w w') : MachAt w' rv mv ov m := ⟨h.regs.below hb, h.mem.below hb, h.out.below hb⟩
theorem MachAt.fits {w : World} {rv mv ov : Value} {m : Mach} (h : MachAt w rv mv ov m) : MachFits m := ⟨h.regs.bound, h.mem.bound, h.out.bound⟩
theorem OwnM.at {w : World} {lo : Nat} {rv mv ov : Value} {m : Mach} (h : OwnM w lo rv mv ov m) (hf : MachFits m) : MachAt w rv mv ov m := ⟨h.regs.at hf.regs, h.mem.at hf.mem, h.out.at hf.out⟩
theorem MachAt.shape {w : World} {rv mv ov : Value} {m : Mach} (h : MachAt w rv mv ov m) : ∃ A c B c' C c'', rv = .slice A m.regs.length c ∧ mv = .slice B m.mem.length c' ∧ ov = .slice C m.out.length c'' := by
  obtain ⟨A, c, h1, _⟩ := h.regs
  obtain ⟨B, c', h2, _⟩ := h.mem
  obtain ⟨C, c'', h3, _⟩ := h.out
  exact ⟨A, c, B, c', C, c'', h1, h2, h3⟩

def IsBox (w : World) (b : Nat) : Prop := ∃ cur, w.heap[b]? = some (.cells cur 37 (0, 0))
theorem IsBox.set {w : World} {b : Nat} (h : IsBox w b) (i : Nat) (x : Value) : IsBox (w.setCell ⟨b, i, none⟩ x) b := by
  obtain ⟨cur, hc⟩ := h
  exact ⟨cur.setIfInBounds i x, by simp [World.setCell, Array.getElem?_modify, hc]⟩
theorem OwnM.box {w : World} {lo b : Nat} {rv mv ov : Value} {m : Mach} (h : OwnM w lo rv mv ov m) (hb : IsBox w b) (i : Nat) (x : Value) : OwnM (w.setCell ⟨b, i, none⟩ x) lo rv mv ov m := by
  obtain ⟨cur, hc⟩ := hb
  exact h.otherType (a := ⟨b, i, none⟩) hc (by decide) x
theorem OwnM.set12 {w : World} {lo b : Nat} {rv mv ov : Value} {m : Mach} (h : OwnM w lo rv mv ov m) (hb : IsBox w b) (x0 x1 x2 x3 x4 x5 x6 x7 x8 x9 x10 x11 : Value) : OwnM ((((((((((((w.setCell ⟨b, 0, none⟩ x0).setCell ⟨b, 1, none⟩ x1).setCell ⟨b, 2, none⟩ x2).setCell ⟨b, 3, none⟩ x3).setCell ⟨b, 4, none⟩ x4).setCell ⟨b, 5, none⟩ x5).setCell ⟨b, 6, none⟩ x6).setCell ⟨b, 7, none⟩ x7).setCell ⟨b, 8, none⟩ x8).setCell ⟨b, 9, none⟩ x9).setCell ⟨b, 10, none⟩ x10).setCell ⟨b, 11, none⟩ x11) lo rv mv ov m := by
  have h0 := h.box hb 0 x0
  have b0 := hb.set 0 x0
  have h1 := h0.box b0 1 x1
  have b1 := b0.set 1 x1
  have h2 := h1.box b1 2 x2
  have b2 := b1.set 2 x2
  have h3 := h2.box b2 3 x3
  have b3 := b2.set 3 x3
  have h4 := h3.box b3 4 x4
  have b4 := b3.set 4 x4
  have h5 := h4.box b4 5 x5
  have b5 := b4.set 5 x5
  have h6 := h5.box b5 6 x6
  have b6 := b5.set 6 x6
  have h7 := h6.box b6 7 x7
  have b7 := b6.set 7 x7
  have h8 := h7.box b7 8 x8
  have b8 := b7.set 8 x8
  have h9 := h8.box b8 9 x9
  have b9 := b8.set 9 x9
  have h10 := h9.box b9 10 x10
  have b10 := b9.set 10 x10
  have h11 := h10.box b10 11 x11
  exact h11
theorem below_set12 {w0 w : World} {B b : Nat} (h : Below B w0 w) (hb : B ≤ b) (x0 x1 x2 x3 x4 x5 x6 x7 x8 x9 x10 x11 : Value) : Below B w0 ((((((((((((w.setCell ⟨b, 0, none⟩ x0).setCell ⟨b, 1, none⟩ x1).setCell ⟨b, 2, none⟩ x2).setCell ⟨b, 3, none⟩ x3).setCell ⟨b, 4, none⟩ x4).setCell ⟨b, 5, none⟩ x5).setCell ⟨b, 6, none⟩ x6).setCell ⟨b, 7, none⟩ x7).setCell ⟨b, 8, none⟩ x8).setCell ⟨b, 9, none⟩ x9).setCell ⟨b, 10, none⟩ x10).setCell ⟨b, 11, none⟩ x11) :=
  (((((((((((h.setCell (by simpa using hb) _).setCell (by simpa using hb) _).setCell (by simpa using hb) _).setCell (by simpa using hb) _).setCell (by simpa using hb) _).setCell (by simpa using hb) _).setCell (by simpa using hb) _).setCell (by simpa using hb) _).setCell (by simpa using hb) _).setCell (by simpa using hb) _).setCell (by simpa using hb) _).setCell (by simpa using hb) _

theorem box_set {w : World} {b i : Nat} {cur : Array Value} {t : TypeId} (h : w.heap[b]? = some (.cells cur t (0, 0))) (x : Value) : (w.setCell ⟨b, i, none⟩ x).heap[b]? = some (.cells (cur.setIfInBounds i x) t (0, 0)) := by
  simp [World.setCell, Array.getElem?_modify, h]
theorem box_other {w : World} {b i c : Nat} {o : Obj} (h : w.heap[c]? = some o) (hne : c ≠ b) (x : Value) : (w.setCell ⟨b, i, none⟩ x).heap[c]? = some o := by
  rw [Go.Deep.blk_setCell_other _ _ _ _ (by simpa using hne)]; exact h
theorem OwnI.otherType {w : World} {lo : Nat} {v : Value} {l : List Int} (h : OwnI w lo v l) {a : Addr} {cur : Array Value} {t : TypeId} (ha : w.heap[a.block]? = some (.cells cur t (0, 0))) (h2 : 3 ≠ t) (u : Value) : OwnI (w.setCell a u) lo v l := ownsRow_setCell_other h (own_ne h ha h2) u

abbrev zeroM : Array Value := #[.slice none 0 0, .int .i64 0, .int .i64 0, .bool false, .bool false, .int .i64 0, .int .i64 0, .int .i64 0, .slice none 0 0, .slice none 0 0, .int .i64 0, .int .i64 0]

theorem copy_one {w w1 : World} {W0 : World} {cur : Array Value} {v' : Value} {l : List Int} {i : Nat} (hb : Below w.heap.size w W0) (hz : W0.heap[w.heap.size]? = some (.cells cur 37 (0, 0))) (hy : W0.heap[w.heap.size + 1]? = some (.cells zeroM 37 (0, 0)))
    (h1 : Below W0.heap.size W0 w1) (ho : OwnI w1 W0.heap.size v' l) :
    w1.heap[w.heap.size]? = some (.cells cur 37 (0, 0)) ∧
    (w1.setCell ⟨w.heap.size, i, none⟩ v').heap[w.heap.size]? = some (.cells (cur.setIfInBounds i v') 37 (0, 0)) ∧ (w1.setCell ⟨w.heap.size, i, none⟩ v').heap[w.heap.size + 1]? = some (.cells zeroM 37 (0, 0)) ∧
    Below w.heap.size w (w1.setCell ⟨w.heap.size, i, none⟩ v') ∧ OwnI (w1.setCell ⟨w.heap.size, i, none⟩ v') W0.heap.size v' l := by
  have hz1 : w1.heap[w.heap.size]? = some (.cells cur 37 (0, 0)) := by rw [h1.block _ (lt_of_block hz)]; exact hz
  have hy1 : w1.heap[w.heap.size + 1]? = some (.cells zeroM 37 (0, 0)) := by rw [h1.block _ (lt_of_block hy)]; exact hy
  exact ⟨hz1, box_set hz1 _, box_other hy1 (by omega) _, (hb.trans (h1.mono hb.size)).setCell (by simp) _, ho.otherType (a := ⟨w.heap.size, i, none⟩) hz1 (by decide) _⟩

def Mach.page (m : Mach) (at' : Int) : Int := m.mem.getD (16 * m.table + at' / 16).toNat 0
def Mach.meantE (m : Mach) (at' : Int) (write : Bool) : Int :=
  if !inB at' 0 255 then 3 else if m.table == -1 then 0 else
  if !inB (m.page at') 32 63 then 4 else if write && decide (m.page at' < 48) then 4 else 0
def Mach.meantK (m : Mach) (at' : Int) (write : Bool) : Int :=
  if m.meantE at' write = 0 then (if m.table == -1 then at' else 16 * (m.page at' % 16) + at' % 16) else 0

structure MayP (m : Mach) : Prop where
  regs : m.regs.length = 8
  mem : m.mem.length = 256
  out : m.out.length ≤ 200
  aregs : allB m.regs = true
  amem : allB m.mem = true
  aout : allB m.out = true
  pc : wordB m.pc = true
  back : wordB m.back = true
  table : -1 ≤ m.table ∧ m.table ≤ 15
  count : 0 ≤ m.count ∧ m.count ≤ 1099511627776
  fin : 0 ≤ m.fin ∧ m.fin ≤ 4
  ready : 0 ≤ m.ready ∧ m.ready ≤ 1
  want : -1 ≤ m.want ∧ m.want ≤ 15
theorem mayP_iff {m : Mach} : m.may = true ↔ MayP m := by
  simp only [Mach.may, Bool.and_eq_true, decide_eq_true_eq, inB_iff]
  constructor
  · rintro ⟨⟨⟨⟨⟨⟨⟨⟨⟨⟨⟨⟨a, b⟩, c⟩, d⟩, e⟩, f⟩, g⟩, h⟩, i⟩, j⟩, k⟩, l⟩, n⟩
    exact ⟨a, b, c, d, e, f, g, h, i, j, k, l, n⟩
  · rintro ⟨a, b, c, d, e, f, g, h, i, j, k, l, n⟩
    exact ⟨⟨⟨⟨⟨⟨⟨⟨⟨⟨⟨⟨a, b⟩, c⟩, d⟩, e⟩, f⟩, g⟩, h⟩, i⟩, j⟩, k⟩, l⟩, n⟩

theorem meant_bd {m : Mach} {at' : Int} {wr : Bool} (h : m.meantE at' wr = 0) : 0 ≤ m.meantK at' wr ∧ m.meantK at' wr ≤ 255 := by
  have hk : m.meantK at' wr = (if m.table == -1 then at' else 16 * (m.page at' % 16) + at' % 16) := by simp [Mach.meantK, h]
  cases g0 : inB at' 0 255 with
  | false => simp [Mach.meantE, g0] at h
  | true =>
  have := inB_iff.1 g0
  rw [hk]
  split <;> omega

def Mach.nextX (m : Mach) : Int := m.mem.getD (m.meantK m.pc false).toNat 0
theorem nextX_bd {m : Mach} (hm : MayP m) (h : m.meantE m.pc false = 0) : -1099511627776 ≤ m.nextX ∧ m.nextX ≤ 1099511627776 := by
  have := meant_bd h
  have hl := hm.mem
  exact wordB_iff.1 (allB_iff.1 hm.amem _ (by omega))
def Mach.nextE (m : Mach) : Int := if m.meantE m.pc false = 0 then (if decNo m.nextX = 0 then 0 else 2) else m.meantE m.pc false

abbrev zeroI : Array Value := #[.int .i64 0, .int .i64 0, .int .i64 0, .int .i64 0]
abbrev instrA (x : Int) : Array Value := #[.int .i64 (x % 16), .int .i64 (x / 16 % 8), .int .i64 (x / 128 % 8), .int .i64 (x / 1024)]

def Mach.reg (m : Mach) (k : Int) : Int := m.regs.getD k.toNat 0
def Mach.setReg (m : Mach) (k x : Int) : Mach := { m with regs := m.regs.set k.toNat x }
def Mach.go (m : Mach) (p : Int) : Mach := { m with pc := foldF p }
def Mach.ends (m : Mach) (e : Int) : Mach := { m with fin := e }
def putWords (l : List Int) (at' : Nat) (blk : List Int) : Nat → List Int
  | 0 => l
  | k + 1 => (putWords l at' blk k).set (at' + k) (blk.getD k 0)
def Mach.told (m : Mach) (irq : Bool) (blk : List Int) : Mach :=
  if 0 < blk.length ∧ 0 ≤ m.want then { m with wait := true, mem := putWords m.mem (16 * m.want).toNat blk 16, want := -1, ready := 1 } else { m with wait := m.wait || irq }
def Mach.enter (m : Mach) : Mach := if m.wait && m.ints then { m with wait := false, ints := false, back := m.pc, pc := 8 } else m
def Mach.counted (m : Mach) : Mach := { m with count := m.count + 1 }
def Mach.exec (m : Mach) (op a b n value : Int) : Mach × Int :=
  if op = 0 then (m.ends 1, -1) else
  if op = 1 then ((m.setReg a n).go (m.pc + 1), -1) else
  if op = 2 then ((m.setReg a (foldF (m.reg b + m.reg n))).go (m.pc + 1), -1) else
  if op = 3 then ((m.setReg a (foldF (m.reg b - m.reg n))).go (m.pc + 1), -1) else
  if op = 4 then ((m.setReg a (foldF (m.reg b + n))).go (m.pc + 1), -1) else
  if op = 5 then (if m.meantE (m.reg b + n) false = 0 then ((m.setReg a (m.mem.getD (m.meantK (m.reg b + n) false).toNat 0)).go (m.pc + 1), -1) else (m.ends (m.meantE (m.reg b + n) false), -1)) else
  if op = 6 then (if m.meantE (m.reg b + n) true = 0 then (({ m with mem := m.mem.set (m.meantK (m.reg b + n) true).toNat (m.reg a) } : Mach).go (m.pc + 1), m.meantK (m.reg b + n) true) else (m.ends (m.meantE (m.reg b + n) true), -1)) else
  if op = 7 then (m.go (m.pc + if m.reg a = 0 then n else 1), -1) else
  if op = 8 then (m.go (m.pc + if m.reg a < 0 then n else 1), -1) else
  if op = 9 then (m.go (m.pc + n), -1) else
  if op = 10 then (if n = 0 ∨ n = 1 then ((m.setReg a value).go (m.pc + 1), -1) else if n = 2 then ((m.setReg a m.ready).go (m.pc + 1), -1) else (m.ends 3, -1)) else
  if op = 11 then
    (if n = 3 then (if m.out.length < 200 then (({ m with out := m.out ++ [m.reg a] } : Mach).go (m.pc + 1), -1) else (m.go (m.pc + 1), -1))
     else if n = 4 ∧ 0 ≤ m.reg a ∧ m.reg a ≤ 15 then (if m.want = -1 then (({ m with want := m.reg a, ready := 0 } : Mach).go (m.pc + 1), -1) else (m.go (m.pc + 1), -1))
     else (m.ends 3, -1)) else
  if op = 12 then (({ m with ints := n == 1 } : Mach).go (m.pc + 1), -1) else
  if op = 13 then (({ m with ints := true } : Mach).go m.back, -1) else
  if op = 14 then (if -1 ≤ m.reg a ∧ m.reg a ≤ 15 then (({ m with table := m.reg a } : Mach).go (m.pc + 1), -1) else (m.ends 3, -1)) else
  (m.go (m.pc + 1), -1)
def Mach.run1 (m : Mach) (value : Int) : Mach × Int :=
  if m.nextE = 0 then m.exec (m.nextX % 16) (m.nextX / 16 % 8) (m.nextX / 128 % 8) (m.nextX / 1024) value else (m.ends m.nextE, -1)
def Mach.step (m : Mach) (irq : Bool) (blk : List Int) (value : Int) : Mach × Int :=
  if m.fin = 0 then ((m.told irq blk).enter.counted).run1 value else (m, -1)

theorem putWords_len (l : List Int) (p : Nat) (blk : List Int) (k : Nat) : (putWords l p blk k).length = l.length := by
  induction k with
  | zero => rfl
  | succ k ih => simp [putWords, ih]

theorem allB_set {l : List Int} {i : Nat} {x : Int} (h : allB l = true) (hx : wordB x = true) : allB (l.set i x) = true := by
  rw [allB_iff] at *
  intro j hj
  simp at hj
  by_cases hi : i < l.length
  · rw [getD_set _ _ _ _ _ hi]
    split
    · exact hx
    · exact h j hj
  · rw [List.set_eq_of_length_le (by omega)]; exact h j hj
theorem putWords_all {l : List Int} {p : Nat} {blk : List Int} (h : allB l = true) (hb : allB blk = true) (k : Nat) (hk : k ≤ blk.length) : allB (putWords l p blk k) = true := by
  induction k with
  | zero => exact h
  | succ k ih => exact allB_set (ih (by omega)) (allB_iff.1 hb k (by omega))
attribute [irreducible] putWords
theorem foldF_word (n : Int) : wordB (foldF n) = true := wordB_iff.2 (foldF_bd n)

theorem MayP.told {m : Mach} (h : MayP m) (irq : Bool) {blk : List Int} (hb : allB blk = true) (hl : blk.length = 0 ∨ blk.length = 16) : MayP (m.told irq blk) := by
  unfold Mach.told
  split
  · next hc => exact ⟨h.regs, (putWords_len _ _ _ _).trans h.mem, h.out, h.aregs, putWords_all h.amem hb 16 (by omega), h.aout, h.pc, h.back, h.table, h.count, h.fin, ⟨by simp, by simp⟩, ⟨by simp, by simp⟩⟩
  · exact ⟨h.regs, h.mem, h.out, h.aregs, h.amem, h.aout, h.pc, h.back, h.table, h.count, h.fin, h.ready, h.want⟩
theorem word8 : wordB 8 = true := by decide
theorem MayP.enter {m : Mach} (h : MayP m) : MayP m.enter := by
  unfold Mach.enter
  split
  · exact ⟨h.regs, h.mem, h.out, h.aregs, h.amem, h.aout, word8, h.pc, h.table, h.count, h.fin, h.ready, h.want⟩
  · exact h
theorem MayP.counted {m : Mach} (h : MayP m) (hc : m.count < 1099511627776) : MayP m.counted :=
  ⟨h.regs, h.mem, h.out, h.aregs, h.amem, h.aout, h.pc, h.back, h.table, ⟨by have := h.count; show 0 ≤ m.count + 1; omega, by show m.count + 1 ≤ _; omega⟩, h.fin, h.ready, h.want⟩
theorem told_count (m : Mach) (irq : Bool) (blk : List Int) : (m.told irq blk).count = m.count ∧ (m.told irq blk).fin = m.fin := by unfold Mach.told; split <;> exact ⟨rfl, rfl⟩
theorem enter_count (m : Mach) : m.enter.count = m.count ∧ m.enter.fin = m.fin := by unfold Mach.enter; split <;> exact ⟨rfl, rfl⟩

theorem MayP.go {m : Mach} (h : MayP m) (p : Int) : MayP (m.go p) := ⟨h.regs, h.mem, h.out, h.aregs, h.amem, h.aout, foldF_word p, h.back, h.table, h.count, h.fin, h.ready, h.want⟩
theorem MayP.setReg {m : Mach} (h : MayP m) (k : Int) {x : Int} (hx : wordB x = true) : MayP (m.setReg k x) := ⟨by simp [Mach.setReg, h.regs], h.mem, h.out, allB_set h.aregs hx, h.amem, h.aout, h.pc, h.back, h.table, h.count, h.fin, h.ready, h.want⟩
theorem MayP.ends {m : Mach} (h : MayP m) {e : Int} (he : 0 ≤ e ∧ e ≤ 4) : MayP (m.ends e) := ⟨h.regs, h.mem, h.out, h.aregs, h.amem, h.aout, h.pc, h.back, h.table, h.count, he, h.ready, h.want⟩
theorem reg_word {m : Mach} (h : MayP m) {k : Int} (hk : 0 ≤ k ∧ k ≤ 7) : wordB (m.reg k) = true := allB_iff.1 h.aregs _ (by have := h.regs; omega)
theorem meantE_bd (m : Mach) (p : Int) (wr : Bool) : 0 ≤ m.meantE p wr ∧ m.meantE p wr ≤ 4 := by
  unfold Mach.meantE
  repeat' split
  all_goals decide
theorem nextE_bd (m : Mach) : 0 ≤ m.nextE ∧ m.nextE ≤ 4 := by
  unfold Mach.nextE
  split
  · split <;> decide
  · exact meantE_bd _ _ _

def IntsOld (lo : Nat) (w : World) (v : Value) (l : List Int) : Prop :=
  ∃ (A : Option Addr) (c : Nat), v = .slice A l.length c ∧ l.length * 8 ≤ 140737488351232 ∧
    (0 < l.length → ∃ b off, A = some ⟨b, off, none⟩ ∧ b < lo ∧ ∀ j, j < l.length → w.cell? ⟨b, off + j, none⟩ = some (.int .i64 (l.getD j 0)))
theorem IntsOld.below {lo : Nat} {w w' : World} {v : Value} {l : List Int} (h : IntsOld lo w v l) (hb : Below lo w w') : IntsOld lo w' v l := by
  obtain ⟨A, c, rfl, hl, hc⟩ := h
  refine ⟨A, c, rfl, hl, fun h0 => ?_⟩
  obtain ⟨b, off, rfl, hlt, hj⟩ := hc h0
  exact ⟨b, off, rfl, hlt, fun j hjl => (hb.cell (p := ⟨b, off + j, none⟩) hlt).trans (hj j hjl)⟩

structure Boxed (w : World) (lo : Nat) (wc : World) (rv mv ov : Value) (m : Mach) : Prop where
  box : wc.heap[w.heap.size]? = some (.cells (m.cells rv mv ov) 37 (0, 0))
  res : wc.heap[w.heap.size + 1]? = some (.cells zeroM 37 (0, 0))
  own : OwnM wc lo rv mv ov m
  old : Below lo w wc

end Go.Proofs.YtecpblabaelopaaGreatDoor
