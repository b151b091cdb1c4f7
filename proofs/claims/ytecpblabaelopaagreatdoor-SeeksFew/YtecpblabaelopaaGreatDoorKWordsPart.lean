/- Contract of hourglasskeep.words: the words of instructions. -/
import Derived.Test.YtecpblabaelopaaGreatDoorStepSPart
import Derived.Test.YtecpblabaelopaaGreatDoorOwnPart
import Derived.Maps.AppendAt
import Derived.Test.YtecpblabaelopaaGreatDoorRawsPart
import Derived.Deep.RegionHeld3
import Derived.Deep.RegionLaw
import Derived.Deep.DrawnRows
import Derived.Deep.CutBlock
import Derived.Deep.DeepCutAuto
namespace Go.Proofs.YtecpblabaelopaaGreatDoor
open Go.RowKit

abbrev Ins := Int × Int × Int × Int
def insWord (i : Ins) : Int := wordNo i.1 i.2.1 i.2.2.1 i.2.2.2
def InsAt (w : World) (v : Value) (L : List Ins) : Prop :=
  ∃ (A : Option Addr) (c : Nat), v = .slice A L.length c ∧ L.length ≤ 1000 ∧
    (0 < L.length → ∃ b off, A = some ⟨b, off, none⟩ ∧ b < w.heap.size ∧ ∀ j, j < L.length →
      w.cell? ⟨b, off + j * 4, none⟩ = some (.int .i64 (L.getD j (0, 0, 0, 0)).1) ∧ w.cell? ⟨b, off + j * 4 + 1, none⟩ = some (.int .i64 (L.getD j (0, 0, 0, 0)).2.1) ∧ w.cell? ⟨b, off + j * 4 + 2, none⟩ = some (.int .i64 (L.getD j (0, 0, 0, 0)).2.2.1) ∧ w.cell? ⟨b, off + j * 4 + 3, none⟩ = some (.int .i64 (L.getD j (0, 0, 0, 0)).2.2.2))

theorem take_insWord (L : List Ins) (k : Nat) (h : k < L.length) : (L.take (k + 1)).map insWord = (L.take k).map insWord ++ [insWord (L.getD k (0, 0, 0, 0))] := by
  have e : L.getD k (0, 0, 0, 0) = L[k] := by simp [List.getD, h]
  rw [List.take_succ_eq_append_getElem h, List.map_append, List.map_cons, List.map_nil, e]

set_option maxHeartbeats 2000000 in
theorem kwords_any (v : Value) (L : List Ins) (w : World) (h : InsAt w v L) :
    Calls Tryz.prog 54 #[v] w fun e w' => ∃ v', e = .returned v' ∧ OwnI w' w.heap.size v' (L.map insWord) ∧ Below w.heap.size w w' := by
  obtain ⟨A, c, rfl, hl, hc⟩ := h
  obtain ⟨i0, hi, hz0, hz1, hz2⟩ := info_parts infoInt
  have HC : Hid (_) := hc
  clear hc
  go_enter Tryz.func54, Tryz.ntmps54
  go_wp2
  go_loopw [3, 10] (fun o i wr => ∃ k : Nat, k ≤ L.length ∧ i = .int .i64 k ∧ Hid (OwnI wr w.heap.size o ((L.take k).map insWord)) ∧ Below w.heap.size w wr) (fun _ i _ => L.length - (intOf i).toNat)
  case atStart => exact ⟨0, Nat.zero_le _, rfl, World.ownsRow_nil _ _ _ _, Below.refl _ _⟩
  case round =>
    obtain ⟨k, hk, rfl, hown, hnx⟩ := hrel
    by_cases hlt : k < L.length
    · obtain ⟨b, off, rfl, hbs, hcell⟩ := HC.out (by omega)
      obtain ⟨c0, c1, c2, c3⟩ := hcell k hlt
      have t0 := (hnx.cell (p := ⟨b, off + k * 4, none⟩) hbs).trans c0
      have t1 := (hnx.cell (p := ⟨b, off + k * 4 + 1, none⟩) hbs).trans c1
      have t2 := (hnx.cell (p := ⟨b, off + k * 4 + 2, none⟩) hbs).trans c2
      have t3 := (hnx.cell (p := ⟨b, off + k * 4 + 3, none⟩) hbs).trans c3
      have hsz := hnx.size
      have HT : Hid ((L.take (k + 1)).map insWord = (L.take k).map insWord ++ [insWord (L.getD k (0, 0, 0, 0))]) := take_insWord L k hlt
      have hlk : Hid (((L.take k).map insWord).length = k) := by show _ = _; simp; omega
      have HNX : Hid (Below w.heap.size w wr) := hnx
      clear hcell c0 c1 c2 c3 hnx
      obtain ⟨x, hx⟩ : ∃ x, x = L.getD k (0, 0, 0, 0) := ⟨_, rfl⟩
      rw [← hx] at t0 t1 t2 t3 HT
      clear hx
      obtain ⟨y, hy⟩ : ∃ y, y = insWord x := ⟨_, rfl⟩
      rw [← hy] at HT
      obtain ⟨op, a, bb, n⟩ := x
      have HE : Hid (∃ z, ∀ W, Calls Tryz.prog 89 #[.agg #[.int .i64 op, .int .i64 a, .int .i64 bb, .int .i64 n]] W fun e w' => e = .returned (.tuple #[.int .i64 y, .int .i64 z]) ∧ Below W.heap.size W w') := ⟨instrNo op a bb n, fun W => by rw [hy]; exact CpuEncode_any op a bb n W⟩
      clear hy
      revert hown HT hlk
      generalize (L.take k).map insWord = lk
      intro hown hlk HT
      obtain ⟨z, he⟩ := HE.out
      have HE : Hid (_) := he
      clear he
      simp only at t0 t1 t2 t3
      go_wp2_with fail
      refine (HE.out _).mono ?_
      rintro e w2 ⟨rfl, hb2⟩
      have hB2 : Below wr.heap.size wr w2 := (below_alloc _ _).trans (hb2.mono (by simp))
      have how := hown.out.below hB2
      have HOW : Hid (OwnI _ _ _ _) := how
      clear how
      have HB2 : Hid (Below w.heap.size w w2) := HNX.out.trans (hB2.mono HNX.out.size)
      have hsz2 : w.heap.size ≤ w2.heap.size := HB2.out.size
      clear hb2 hB2 hown HE t0 t1 t2 t3
      go_wp2_with (first
        | (at_builtin; refine wpList_append_own _ rfl _ _ 24 rfl w.heap.size 3 i0 (.int .i64 0) 1 8 Tryz.underlying24 hi hz0 hz1 hz2 rfl (by decide) _ _ _ rfl (HOW.out.alloc _) ⟨w2.heap.size, 0, none⟩ 1 1 [.int .i64 y] rfl rfl ?c1 ?c2 ?c3 ?c4 ?c5 ?_))
      case c1 => exact cell_one_new _ _ _
      case c2 => intro u hu; simp at hu; subst hu; rfl
      case c3 => have := hlk.out; unfold maxLen; omega
      case c4 => have := hlk.out; omega
      case c5 => simp; omega
      intro v' w3 hown' hgrow _
      have R1 : Hid (OwnI w3 w.heap.size v' ((L.take (k + 1)).map insWord)) := OwnI.snoc hown' HT.out
      have R2 : Below w.heap.size w w3 := grown_below HB2.out HOW.out (Nat.le_refl _) hsz2 hgrow
      clear hown' hgrow HOW HNX HB2
      go_wp2
      refine ⟨⟨k + 1, by omega, by go_num, R1, R2⟩, ?_⟩
      simp [intOf]; omega
    · clear HC
      go_wp2
      go_ret
      exact ⟨_, rfl, by have := hown.out; rwa [List.take_of_length_le (by omega)] at this, hnx⟩

end Go.Proofs.YtecpblabaelopaaGreatDoor

/- Of hourglasskeep.instr: what it has laid out, and what its answer is made of. -/

namespace Go.Proofs.YtecpblabaelopaaGreatDoor
open Go.RowKit
set_option linter.unusedVariables false

structure InsInv (w wx : World) (b : Nat) (K A B C pa pb : Int) : Prop where
  box : wx.heap[b]? = some (.cells #[.int .i64 0, .int .i64 pa, .int .i64 pb, .int .i64 0] 103 (0, 0))
  raw : wx.heap[w.heap.size]? = some (.cells #[.int .i64 K, .int .i64 A, .int .i64 B, .int .i64 C] 92 (0, 0))
  res : wx.heap[w.heap.size + 1]? = some (.cells #[.int .i64 0, .int .i64 0, .int .i64 0, .int .i64 0] 103 (0, 0))
  lt : w.heap.size + 1 < b
  old : Below w.heap.size w wx

theorem insInv_new {w W : World} {K A B C pa pb : Int} (h : W.heap[w.heap.size]? = some (.cells #[.int .i64 K, .int .i64 A, .int .i64 B, .int .i64 C] 92 (0, 0)) ∧ W.heap[w.heap.size + 1]? = some (.cells #[.int .i64 0, .int .i64 0, .int .i64 0, .int .i64 0] 103 (0, 0)) ∧ Below w.heap.size w W ∧ W.heap.size = w.heap.size + 1 + 1) :
    InsInv w (W.alloc (.cells #[.int .i64 0, .int .i64 pa, .int .i64 pb, .int .i64 0] 103)).drew W.heap.size K A B C pa pb := by
  have hb : Below W.heap.size W (W.alloc (.cells #[.int .i64 0, .int .i64 pa, .int .i64 pb, .int .i64 0] 103)).drew := (below_alloc _ _).drew
  exact ⟨Go.Deep.blk_alloc_new W _, by rw [hb.block _ (lt_of_block h.1)]; exact h.1, by rw [hb.block _ (lt_of_block h.2.1)]; exact h.2.1, by omega, h.2.2.1.trans (hb.mono h.2.2.1.size)⟩
theorem instrNo_ok {op a b n : Int} (h0 : 0 ≤ op ∧ op ≤ 15) (ha : 0 ≤ a ∧ a ≤ 7) (hb : 0 ≤ b ∧ b ≤ 7) (hn : -1048576 ≤ n ∧ n ≤ 1048575) (h2 : op = 2 ∨ op = 3 → 0 ≤ n ∧ n ≤ 7) (h12 : op = 12 → 0 ≤ n ∧ n ≤ 1) : instrNo op a b n = 0 := by
  unfold instrNo
  rw [inB_iff.2 h0, inB_iff.2 ha, inB_iff.2 hb, inB_iff.2 hn]
  by_cases e2 : op = 2 ∨ op = 3
  · rw [inB_iff.2 (h2 e2)]
    have : (op == 12) = false := by simp; omega
    rw [this]
    cases (op == 2 || op == 3) <;> rfl
  · have : (op == 2 || op == 3) = false := by simp; omega
    rw [this]
    by_cases e : op = 12
    · rw [inB_iff.2 (h12 e)]; cases (op == 12) <;> rfl
    · have : (op == 12) = false := by simpa using e
      rw [this]; rfl


structure InsOut (w wx : World) (b : Nat) (op pa pb n : Int) : Prop where
  box : wx.heap[b]? = some (.cells #[.int .i64 op, .int .i64 pa, .int .i64 pb, .int .i64 n] 103 (0, 0))
  res : wx.heap[w.heap.size + 1]? = some (.cells #[.int .i64 0, .int .i64 0, .int .i64 0, .int .i64 0] 103 (0, 0))
  lt : w.heap.size + 1 < b
  old : Below w.heap.size w wx
theorem InsOut.put0 {w wx : World} {b : Nat} {op pa pb n : Int} (h : InsOut w wx b op pa pb n) (x : Int) : InsOut w (wx.setCell ⟨b, 0, none⟩ (.int .i64 x)) b x pa pb n := by
  have hlt := h.lt
  have hbx := h.box
  refine ⟨by simp [World.setCell, Array.getElem?_modify, hbx], ?_, hlt, h.old.setCell (p := ⟨b, 0, none⟩) (by simp; omega) _⟩
  rw [Below.heap_setCell _ _ _ _ (by simp; omega)]
  exact h.res
theorem InsOut.put2 {w wx : World} {b : Nat} {op pa pb n : Int} (h : InsOut w wx b op pa pb n) (x : Int) : InsOut w (wx.setCell ⟨b, 2, none⟩ (.int .i64 x)) b op pa x n := by
  have hlt := h.lt
  have hbx := h.box
  refine ⟨by simp [World.setCell, Array.getElem?_modify, hbx], ?_, hlt, h.old.setCell (p := ⟨b, 2, none⟩) (by simp; omega) _⟩
  rw [Below.heap_setCell _ _ _ _ (by simp; omega)]
  exact h.res
theorem InsOut.put3 {w wx : World} {b : Nat} {op pa pb n : Int} (h : InsOut w wx b op pa pb n) (x : Int) : InsOut w (wx.setCell ⟨b, 3, none⟩ (.int .i64 x)) b op pa pb x := by
  have hlt := h.lt
  have hbx := h.box
  refine ⟨by simp [World.setCell, Array.getElem?_modify, hbx], ?_, hlt, h.old.setCell (p := ⟨b, 3, none⟩) (by simp; omega) _⟩
  rw [Below.heap_setCell _ _ _ _ (by simp; omega)]
  exact h.res
theorem InsOut.grow {w wx wy : World} {b : Nat} {op pa pb n : Int} (h : InsOut w wx b op pa pb n) (hB : Below wx.heap.size wx wy) : InsOut w wy b op pa pb n :=
  ⟨by rw [hB.block _ (lt_of_block h.box)]; exact h.box, by rw [hB.block _ (lt_of_block h.res)]; exact h.res, h.lt, h.old.trans (hB.mono h.old.size)⟩
theorem InsInv.out {w wx : World} {b : Nat} {K A B C pa pb : Int} (h : InsInv w wx b K A B C pa pb) : InsOut w wx b 0 pa pb 0 := ⟨h.box, h.res, h.lt, h.old⟩

def insG (k a b c : Int) : Ins :=
  if k < 3 then (1, a, b, pickF c 60 - 10)
  else if k < 5 then (if pickF (c.tdiv 8) 2 = 0 then 2 else 3, a, b, pickF c 6)
  else if k < 8 then (4, a, b, pickF c 9 - 4)
  else if k < 11 then (6, a, 6, 100 + pickF c 120)
  else if k < 13 then (5, a, 6, 100 + pickF c 120)
  else if k < 16 then (if k = 13 then 7 else if k = 14 then 8 else 9, a, b, pickF c 14 - 6)
  else if k < 18 then (10, a, b, pickF c 3)
  else if k = 18 then (11, a, b, 3)
  else if k = 19 then (11, a, b, if pickF c 2 = 0 then 4 else 3)
  else if k = 20 then (12, a, b, pickF c 3 / 2)
  else if k = 21 then (6, a, b, 0)
  else if k = 22 then (12, a, b, 1)
  else (if pickF c 5 = 0 then 0 else if pickF c 5 = 4 then 13 else 15, a, b, 0)
def insF (r : Int × Int × Int × Int) : Ins := insG (pickF r.1 24) (pickF r.2.1 6) (pickF r.2.2.1 6) r.2.2.2

end Go.Proofs.YtecpblabaelopaaGreatDoor

/- Contract of hourglasskeep.instr: statements without a slice, and the last one. -/

namespace Go.Proofs.YtecpblabaelopaaGreatDoor
open Go.RowKit
set_option linter.unusedVariables false

set_option maxRecDepth 100000 in
set_option maxHeartbeats 8000000 in
theorem instr_plain (K A B C : Int) (w : World) (hK : (Lit.int .i64 K).wf = true) (hA : (Lit.int .i64 A).wf = true) (hB : (Lit.int .i64 B).wf = true) (hC : (Lit.int .i64 C).wf = true) (hr : ¬ pickF K 24 = 3 ∧ ¬ pickF K 24 = 4 ∧ ¬ pickF K 24 = 13 ∧ ¬ pickF K 24 = 14 ∧ ¬ pickF K 24 = 15 ∧ ¬ pickF K 24 = 19) :
    Calls Tryz.prog 55 #[.agg #[.int .i64 K, .int .i64 A, .int .i64 B, .int .i64 C]] w fun e w' => ∃ op a b n, e = .returned (.agg #[.int .i64 op, .int .i64 a, .int .i64 b, .int .i64 n]) ∧ instrNo op a b n = 0 ∧ Below w.heap.size w w' ∧ (op, a, b, n) = insF (K, A, B, C) := by
  obtain ⟨pa, a0, a5, HEA, HPA⟩ : ∃ x : Int, 0 ≤ x ∧ x < 6 ∧ Hid (x = pickF A 6) ∧ Hid (∀ W, Calls Tryz.prog 16 #[.int .i64 A, .int .i64 6] W fun e w' => e = .returned (.int .i64 x) ∧ w' = W) := ⟨_, (pickF_bd A (m := 6) (by decide)).1, (pickF_bd A (m := 6) (by decide)).2, Eq.refl (pickF A 6), fun W => picked_any A 6 W hA (by decide) (by decide)⟩
  obtain ⟨pb, b0, b5, HEB, HPB⟩ : ∃ x : Int, 0 ≤ x ∧ x < 6 ∧ Hid (x = pickF B 6) ∧ Hid (∀ W, Calls Tryz.prog 16 #[.int .i64 B, .int .i64 6] W fun e w' => e = .returned (.int .i64 x) ∧ w' = W) := ⟨_, (pickF_bd B (m := 6) (by decide)).1, (pickF_bd B (m := 6) (by decide)).2, Eq.refl (pickF B 6), fun W => picked_any B 6 W hB (by decide) (by decide)⟩
  obtain ⟨kk, hkk, k0, k23, HPK⟩ : ∃ x : Int, x = pickF K 24 ∧ 0 ≤ x ∧ x < 24 ∧ Hid (∀ W, Calls Tryz.prog 16 #[.int .i64 K, .int .i64 24] W fun e w' => e = .returned (.int .i64 x) ∧ w' = W) := ⟨_, rfl, (pickF_bd K (m := 24) (by decide)).1, (pickF_bd K (m := 24) (by decide)).2, fun W => picked_any K 24 W hK (by decide) (by decide)⟩
  have HPC : Hid (∀ m : Int, 0 < m → m ≤ 1000000 → ∃ x : Int, x = pickF C m ∧ 0 ≤ x ∧ x < m ∧ ∀ W, Calls Tryz.prog 16 #[.int .i64 C, .int .i64 m] W fun e w' => e = .returned (.int .i64 x) ∧ w' = W) := fun m h0 h1 => ⟨_, rfl, (pickF_bd C h0).1, (pickF_bd C h0).2, fun W => picked_any C m W hC h0 h1⟩
  have HPD : Hid (∃ x : Int, x = pickF (C.tdiv 8) 2 ∧ 0 ≤ x ∧ x < 2 ∧ ∀ W, Calls Tryz.prog 16 #[.int .i64 (C.tdiv 8), .int .i64 2] W fun e w' => e = .returned (.int .i64 x) ∧ w' = W) := by
    have hd := tdiv_sign C 8
    have hb := i64_bd hC
    have hwf : (Lit.int .i64 (C.tdiv 8)).wf = true := by
      have : -9223372036854775808 ≤ C.tdiv 8 ∧ C.tdiv 8 ≤ 9223372036854775807 := by omega
      simpa [Lit.wf, IntKind.min, IntKind.max, IntKind.signed, IntKind.bits] using this
    exact ⟨_, rfl, (pickF_bd _ (m := 2) (by decide)).1, (pickF_bd _ (m := 2) (by decide)).2, fun W => picked_any _ 2 W hwf (by decide) (by decide)⟩
  rw [← hkk] at hr
  have HEK : Hid (kk = pickF K 24) := hkk
  clear hkk
  obtain ⟨cb1, cb2⟩ := i64_bd hC
  have hbx := two_boxes (Below.refl (((w.alloc (.cells #[.int .i64 K, .int .i64 A, .int .i64 B, .int .i64 C] 92)).alloc (.cells #[.int .i64 0, .int .i64 0, .int .i64 0, .int .i64 0] 103)).heap.size) ((w.alloc (.cells #[.int .i64 K, .int .i64 A, .int .i64 B, .int .i64 C] 92)).alloc (.cells #[.int .i64 0, .int .i64 0, .int .i64 0, .int .i64 0] 103)))
  obtain ⟨W, hW⟩ : ∃ W, W = (w.alloc (.cells #[.int .i64 K, .int .i64 A, .int .i64 B, .int .i64 C] 92)).alloc (.cells #[.int .i64 0, .int .i64 0, .int .i64 0, .int .i64 0] 103) := ⟨_, rfl⟩
  have hsz : W.heap.size = w.heap.size + 1 + 1 := by rw [hW]; simp
  rw [← hW] at hbx
  have HW : Hid (W = _) := hW
  have HX : Hid (W.heap[w.heap.size]? = some (.cells #[.int .i64 K, .int .i64 A, .int .i64 B, .int .i64 C] 92 (0, 0)) ∧ W.heap[w.heap.size + 1]? = some (.cells #[.int .i64 0, .int .i64 0, .int .i64 0, .int .i64 0] 103 (0, 0)) ∧ Below w.heap.size w W ∧ W.heap.size = w.heap.size + 1 + 1) := ⟨hbx.1, hbx.2.1, hbx.2.2, hsz⟩
  clear hbx hW hK hA hB hC hsz
  go_enter Tryz.func55, Tryz.ntmps55
  go_upto_region 1 with fail
  rw [← HW.out]
  clear HW
  go_cut [3] (fun p wx => ∃ b, p = .pointer (some ⟨b, 0, none⟩) ∧ InsInv w wx b K A B C pa pb)
  case first =>
    obtain ⟨x0, x1, x2, x3, xf, xl⟩ := four_cells HX.out.1
    go_region_held3 (fun w' => w'.cell? ⟨w.heap.size, 1, none⟩ = some (.int .i64 A) ∧ w'.cell? ⟨w.heap.size, 2, none⟩ = some (.int .i64 B)) (go_keep)
      (first
        | (go_at_call_of 16 (Value.int IntKind.i64 A); refine (HPA.out _).mono ?_; rintro e w2 ⟨rfl, rfl⟩)
        | (go_at_call_of 16 (Value.int IntKind.i64 B); refine (HPB.out _).mono ?_; rintro e w2 ⟨rfl, rfl⟩))
    all_goals
      go_wp2_with fail
      go_meet
      exact ⟨_, rfl, insInv_new HX.out⟩
  case rest =>
    obtain ⟨b, rfl, hI⟩ := hcut
    obtain ⟨y0, y1, y2, y3, yf, yl⟩ := four_cells hI.box
    obtain ⟨x0, x1, x2, x3, xf, xl⟩ := four_cells hI.raw
    obtain ⟨r0, r1, r2, r3, rf, rl⟩ := four_cells hI.res
    have n1 : ¬ b = w.heap.size := by have := hI.lt; omega
    have n2 : ¬ b = w.heap.size + 1 := by have := hI.lt; omega
    have n3 : ¬ w.heap.size + 1 = b := by have := hI.lt; omega
    have n4 : ¬ w.heap.size = b := by have := hI.lt; omega
    have hbw : w.heap.size ≤ b := by have := hI.lt; omega
    have HI : Hid (InsInv w wc b K A B C pa pb) := hI
    clear hI HX
    have HIO : Hid (InsOut w wc b 0 pa pb 0) := HI.out.out
    clear HI
    go_upto_block 0 with (first | (go_at_call 16; refine (HPK.out _).mono ?_; rintro e w2 ⟨rfl, hw2⟩; subst w2))
    clear HPK HPA HPB
    go_cut [4, 14] (fun _ _ wx => ∃ op a b' n, InsOut w wx b op a b' n ∧ instrNo op a b' n = 0 ∧ (op, a, b', n) = insF (K, A, B, C))
    case rest =>
      obtain ⟨op, a, b', n, ho, hno, heq⟩ := hcut
      clear y0 y1 y2 y3 yf yl x0 x1 x2 x3 xf xl r0 r1 r2 r3 rf rl
      obtain ⟨y0, y1, y2, y3, yf, yl⟩ := four_cells ho.box
      obtain ⟨r0, r1, r2, r3, rf, rl⟩ := four_cells ho.res
      have HO : Hid (Below w.heap.size w wc ∧ instrNo op a b' n = 0 ∧ (op, a, b', n) = insF (K, A, B, C)) := ⟨ho.old, hno, heq⟩
      clear ho hno heq HIO
      go_wp2_with fail
      refine bodyPost_ret (v := .agg #[.int .i64 op, .int .i64 a, .int .i64 b', .int .i64 n]) (by simp [results, Tryz.results55, go_sem, r0, r1, r2, r3]) rfl ?_
      exact ⟨_, _, _, _, rfl, HO.out.2.1, (((HO.out.1.setCell (by simp) _).setCell (by simp) _).setCell (by simp) _).setCell (by simp) _, HO.out.2.2⟩
    case first =>
      by_cases k3 : kk < 3
      · obtain ⟨cc, hcq, c0, c9, hpc⟩ := HPC.out 60 (by decide) (by decide)
        have HCC : Hid (cc = pickF C 60) := hcq
        clear hcq
        have HPCC : Hid (∀ W, Calls Tryz.prog 16 #[.int .i64 C, .int .i64 60] W fun e w' => e = .returned (.int .i64 cc) ∧ w' = W) := hpc
        clear hpc
        go_wp2_with (first | (go_at_call 16; refine (HPCC.out _).mono ?_; rintro e w2 ⟨rfl, hw2⟩; subst w2))
        go_meet
        exact ⟨_, _, _, _, (HIO.out.put0 _).put3 _, instrNo_ok (by omega) (by omega) (by omega) (by omega) (by omega) (by omega), (by (show _ = insG (pickF K 24) (pickF A 6) (pickF B 6) C); rw [← HEK.out, ← HEA.out, ← HEB.out]; unfold insG; (repeat (first | rw [if_pos (by omega)] | rw [if_neg (by omega)])); all_goals (first | rfl | (rw [← HCC.out]; done) | (rw [← HCC.out]; rfl) | (simp [← HCC.out]; done) | (simp [← HCC.out]; omega)))⟩
      have k5 : ¬ kk < 5 := by omega
      by_cases k8 : kk < 8
      · obtain ⟨cc, hcq, c0, c9, hpc⟩ := HPC.out 9 (by decide) (by decide)
        have HCC : Hid (cc = pickF C 9) := hcq
        clear hcq
        have HPCC : Hid (∀ W, Calls Tryz.prog 16 #[.int .i64 C, .int .i64 9] W fun e w' => e = .returned (.int .i64 cc) ∧ w' = W) := hpc
        clear hpc
        go_wp2_with (first | (go_at_call 16; refine (HPCC.out _).mono ?_; rintro e w2 ⟨rfl, hw2⟩; subst w2))
        go_meet
        exact ⟨_, _, _, _, (HIO.out.put0 _).put3 _, instrNo_ok (by omega) (by omega) (by omega) (by omega) (by omega) (by omega), (by (show _ = insG (pickF K 24) (pickF A 6) (pickF B 6) C); rw [← HEK.out, ← HEA.out, ← HEB.out]; unfold insG; (repeat (first | rw [if_pos (by omega)] | rw [if_neg (by omega)])); all_goals (first | rfl | (rw [← HCC.out]; done) | (rw [← HCC.out]; rfl) | (simp [← HCC.out]; done) | (simp [← HCC.out]; omega)))⟩
      by_cases k11 : kk < 11
      · obtain ⟨cc, hcq, c0, c9, hpc⟩ := HPC.out 120 (by decide) (by decide)
        have HCC : Hid (cc = pickF C 120) := hcq
        clear hcq
        have HPCC : Hid (∀ W, Calls Tryz.prog 16 #[.int .i64 C, .int .i64 120] W fun e w' => e = .returned (.int .i64 cc) ∧ w' = W) := hpc
        clear hpc
        go_wp2_with (first | (go_at_call 16; refine (HPCC.out _).mono ?_; rintro e w2 ⟨rfl, hw2⟩; subst w2))
        go_meet
        exact ⟨_, _, _, _, ((HIO.out.put0 _).put2 _).put3 _, instrNo_ok (by omega) (by omega) (by omega) (by omega) (by omega) (by omega), (by (show _ = insG (pickF K 24) (pickF A 6) (pickF B 6) C); rw [← HEK.out, ← HEA.out, ← HEB.out]; unfold insG; (repeat (first | rw [if_pos (by omega)] | rw [if_neg (by omega)])); all_goals (first | rfl | (rw [← HCC.out]; done) | (rw [← HCC.out]; rfl) | (simp [← HCC.out]; done) | (simp [← HCC.out]; omega)))⟩
      by_cases k13 : kk < 13
      · obtain ⟨cc, hcq, c0, c9, hpc⟩ := HPC.out 120 (by decide) (by decide)
        have HCC : Hid (cc = pickF C 120) := hcq
        clear hcq
        have HPCC : Hid (∀ W, Calls Tryz.prog 16 #[.int .i64 C, .int .i64 120] W fun e w' => e = .returned (.int .i64 cc) ∧ w' = W) := hpc
        clear hpc
        go_wp2_with (first | (go_at_call 16; refine (HPCC.out _).mono ?_; rintro e w2 ⟨rfl, hw2⟩; subst w2))
        go_meet
        exact ⟨_, _, _, _, ((HIO.out.put0 _).put2 _).put3 _, instrNo_ok (by omega) (by omega) (by omega) (by omega) (by omega) (by omega), (by (show _ = insG (pickF K 24) (pickF A 6) (pickF B 6) C); rw [← HEK.out, ← HEA.out, ← HEB.out]; unfold insG; (repeat (first | rw [if_pos (by omega)] | rw [if_neg (by omega)])); all_goals (first | rfl | (rw [← HCC.out]; done) | (rw [← HCC.out]; rfl) | (simp [← HCC.out]; done) | (simp [← HCC.out]; omega)))⟩
      have k16 : ¬ kk < 16 := by omega
      by_cases k18 : kk < 18
      · obtain ⟨cc, hcq, c0, c9, hpc⟩ := HPC.out 3 (by decide) (by decide)
        have HCC : Hid (cc = pickF C 3) := hcq
        clear hcq
        have HPCC : Hid (∀ W, Calls Tryz.prog 16 #[.int .i64 C, .int .i64 3] W fun e w' => e = .returned (.int .i64 cc) ∧ w' = W) := hpc
        clear hpc
        go_wp2_with (first | (go_at_call 16; refine (HPCC.out _).mono ?_; rintro e w2 ⟨rfl, hw2⟩; subst w2))
        go_meet
        exact ⟨_, _, _, _, (HIO.out.put0 _).put3 _, instrNo_ok (by omega) (by omega) (by omega) (by omega) (by omega) (by omega), (by (show _ = insG (pickF K 24) (pickF A 6) (pickF B 6) C); rw [← HEK.out, ← HEA.out, ← HEB.out]; unfold insG; (repeat (first | rw [if_pos (by omega)] | rw [if_neg (by omega)])); all_goals (first | rfl | (rw [← HCC.out]; done) | (rw [← HCC.out]; rfl) | (simp [← HCC.out]; done) | (simp [← HCC.out]; omega)))⟩
      by_cases e18 : kk = 18
      · go_wp2_with fail
        go_meet
        exact ⟨_, _, _, _, (HIO.out.put0 _).put3 _, instrNo_ok (by omega) (by omega) (by omega) (by omega) (by omega) (by omega), (by (show _ = insG (pickF K 24) (pickF A 6) (pickF B 6) C); rw [← HEK.out, ← HEA.out, ← HEB.out]; unfold insG; (repeat (first | rw [if_pos (by omega)] | rw [if_neg (by omega)])); all_goals (first | done | rfl | (simp; done) | (simp; omega)))⟩
      have e19 : ¬ kk = 19 := by omega
      by_cases e20 : kk = 20
      · obtain ⟨cc, hcq, c0, c9, hpc⟩ := HPC.out 3 (by decide) (by decide)
        have HCC : Hid (cc = pickF C 3) := hcq
        clear hcq
        have HPCC : Hid (∀ W, Calls Tryz.prog 16 #[.int .i64 C, .int .i64 3] W fun e w' => e = .returned (.int .i64 cc) ∧ w' = W) := hpc
        clear hpc
        go_wp2_with (first | (go_at_call 16; refine (HPCC.out _).mono ?_; rintro e w2 ⟨rfl, hw2⟩; subst w2))
        go_meet
        exact ⟨_, _, _, _, (HIO.out.put0 _).put3 _, instrNo_ok (by omega) (by omega) (by omega) (by omega) (by omega) (by omega), (by (show _ = insG (pickF K 24) (pickF A 6) (pickF B 6) C); rw [← HEK.out, ← HEA.out, ← HEB.out]; unfold insG; (repeat (first | rw [if_pos (by omega)] | rw [if_neg (by omega)])); all_goals (first | rfl | (rw [← HCC.out]; done) | (rw [← HCC.out]; rfl) | (simp [← HCC.out]; done) | (simp [← HCC.out]; omega)))⟩
      by_cases e21 : kk = 21
      · go_wp2_with fail
        go_meet
        exact ⟨_, _, _, _, HIO.out.put0 _, instrNo_ok (by omega) (by omega) (by omega) (by omega) (by omega) (by omega), (by (show _ = insG (pickF K 24) (pickF A 6) (pickF B 6) C); rw [← HEK.out, ← HEA.out, ← HEB.out]; unfold insG; (repeat (first | rw [if_pos (by omega)] | rw [if_neg (by omega)])); all_goals (first | done | rfl | (simp; done) | (simp; omega)))⟩
      by_cases e22 : kk = 22
      · go_wp2_with fail
        go_meet
        exact ⟨_, _, _, _, (HIO.out.put0 _).put3 _, instrNo_ok (by omega) (by omega) (by omega) (by omega) (by omega) (by omega), (by (show _ = insG (pickF K 24) (pickF A 6) (pickF B 6) C); rw [← HEK.out, ← HEA.out, ← HEB.out]; unfold insG; (repeat (first | rw [if_pos (by omega)] | rw [if_neg (by omega)])); all_goals (first | done | rfl | (simp; done) | (simp; omega)))⟩
      obtain ⟨cc, hcq, c0, c9, hpc⟩ := HPC.out 5 (by decide) (by decide)
      have HCC : Hid (cc = pickF C 5) := hcq
      clear hcq
      have HPCC : Hid (∀ W, Calls Tryz.prog 16 #[.int .i64 C, .int .i64 5] W fun e w' => e = .returned (.int .i64 cc) ∧ w' = W) := hpc
      clear hpc
      rcases (by omega : cc = 0 ∨ cc = 1 ∨ cc = 2 ∨ cc = 3 ∨ cc = 4) with rfl | rfl | rfl | rfl | rfl
      all_goals
        go_wp2_with (first | (go_at_call 16; refine (HPCC.out _).mono ?_; rintro e w2 ⟨rfl, hw2⟩; subst w2))
        go_meet
        exact ⟨_, _, _, _, (HIO.out.put0 _).grow (below_alloc _ _), instrNo_ok (by omega) (by omega) (by omega) (by omega) (by omega) (by omega), (by (show _ = insG (pickF K 24) (pickF A 6) (pickF B 6) C); rw [← HEK.out, ← HEA.out, ← HEB.out]; unfold insG; (repeat (first | rw [if_pos (by omega)] | rw [if_neg (by omega)])); all_goals (first | rfl | (rw [← HCC.out]; done) | (rw [← HCC.out]; rfl) | (simp [← HCC.out]; done) | (simp [← HCC.out]; omega)))⟩

end Go.Proofs.YtecpblabaelopaaGreatDoor

/- Contract of hourglasskeep.instr: jumps, and what is told to a disk or a console. -/

namespace Go.Proofs.YtecpblabaelopaaGreatDoor
open Go.RowKit
set_option linter.unusedVariables false
attribute [local go_sem ↓] Go.wp_at_zero Go.wp_at_succ

set_option maxRecDepth 100000 in
set_option maxHeartbeats 8000000 in
theorem instr_slices (K A B C : Int) (w : World) (hK : (Lit.int .i64 K).wf = true) (hA : (Lit.int .i64 A).wf = true) (hB : (Lit.int .i64 B).wf = true) (hC : (Lit.int .i64 C).wf = true) (hr : pickF K 24 = 13 ∨ pickF K 24 = 14 ∨ pickF K 24 = 15 ∨ pickF K 24 = 19) :
    Calls Tryz.prog 55 #[.agg #[.int .i64 K, .int .i64 A, .int .i64 B, .int .i64 C]] w fun e w' => ∃ op a b n, e = .returned (.agg #[.int .i64 op, .int .i64 a, .int .i64 b, .int .i64 n]) ∧ instrNo op a b n = 0 ∧ Below w.heap.size w w' ∧ (op, a, b, n) = insF (K, A, B, C) := by
  obtain ⟨pa, a0, a5, HEA, HPA⟩ : ∃ x : Int, 0 ≤ x ∧ x < 6 ∧ Hid (x = pickF A 6) ∧ Hid (∀ W, Calls Tryz.prog 16 #[.int .i64 A, .int .i64 6] W fun e w' => e = .returned (.int .i64 x) ∧ w' = W) := ⟨_, (pickF_bd A (m := 6) (by decide)).1, (pickF_bd A (m := 6) (by decide)).2, Eq.refl (pickF A 6), fun W => picked_any A 6 W hA (by decide) (by decide)⟩
  obtain ⟨pb, b0, b5, HEB, HPB⟩ : ∃ x : Int, 0 ≤ x ∧ x < 6 ∧ Hid (x = pickF B 6) ∧ Hid (∀ W, Calls Tryz.prog 16 #[.int .i64 B, .int .i64 6] W fun e w' => e = .returned (.int .i64 x) ∧ w' = W) := ⟨_, (pickF_bd B (m := 6) (by decide)).1, (pickF_bd B (m := 6) (by decide)).2, Eq.refl (pickF B 6), fun W => picked_any B 6 W hB (by decide) (by decide)⟩
  obtain ⟨kk, hkk, k0, k23, HPK⟩ : ∃ x : Int, x = pickF K 24 ∧ 0 ≤ x ∧ x < 24 ∧ Hid (∀ W, Calls Tryz.prog 16 #[.int .i64 K, .int .i64 24] W fun e w' => e = .returned (.int .i64 x) ∧ w' = W) := ⟨_, rfl, (pickF_bd K (m := 24) (by decide)).1, (pickF_bd K (m := 24) (by decide)).2, fun W => picked_any K 24 W hK (by decide) (by decide)⟩
  have HPC : Hid (∀ m : Int, 0 < m → m ≤ 1000000 → ∃ x : Int, x = pickF C m ∧ 0 ≤ x ∧ x < m ∧ ∀ W, Calls Tryz.prog 16 #[.int .i64 C, .int .i64 m] W fun e w' => e = .returned (.int .i64 x) ∧ w' = W) := fun m h0 h1 => ⟨_, rfl, (pickF_bd C h0).1, (pickF_bd C h0).2, fun W => picked_any C m W hC h0 h1⟩
  have HPD : Hid (∃ x : Int, x = pickF (C.tdiv 8) 2 ∧ 0 ≤ x ∧ x < 2 ∧ ∀ W, Calls Tryz.prog 16 #[.int .i64 (C.tdiv 8), .int .i64 2] W fun e w' => e = .returned (.int .i64 x) ∧ w' = W) := by
    have hd := tdiv_sign C 8
    have hb := i64_bd hC
    have hwf : (Lit.int .i64 (C.tdiv 8)).wf = true := by
      have : -9223372036854775808 ≤ C.tdiv 8 ∧ C.tdiv 8 ≤ 9223372036854775807 := by omega
      simpa [Lit.wf, IntKind.min, IntKind.max, IntKind.signed, IntKind.bits] using this
    exact ⟨_, rfl, (pickF_bd _ (m := 2) (by decide)).1, (pickF_bd _ (m := 2) (by decide)).2, fun W => picked_any _ 2 W hwf (by decide) (by decide)⟩
  rw [← hkk] at hr
  have HEK : Hid (kk = pickF K 24) := hkk
  clear hkk
  obtain ⟨cb1, cb2⟩ := i64_bd hC
  have hbx := two_boxes (Below.refl (((w.alloc (.cells #[.int .i64 K, .int .i64 A, .int .i64 B, .int .i64 C] 92)).alloc (.cells #[.int .i64 0, .int .i64 0, .int .i64 0, .int .i64 0] 103)).heap.size) ((w.alloc (.cells #[.int .i64 K, .int .i64 A, .int .i64 B, .int .i64 C] 92)).alloc (.cells #[.int .i64 0, .int .i64 0, .int .i64 0, .int .i64 0] 103)))
  obtain ⟨W, hW⟩ : ∃ W, W = (w.alloc (.cells #[.int .i64 K, .int .i64 A, .int .i64 B, .int .i64 C] 92)).alloc (.cells #[.int .i64 0, .int .i64 0, .int .i64 0, .int .i64 0] 103) := ⟨_, rfl⟩
  have hsz : W.heap.size = w.heap.size + 1 + 1 := by rw [hW]; simp
  rw [← hW] at hbx
  have HW : Hid (W = _) := hW
  have HX : Hid (W.heap[w.heap.size]? = some (.cells #[.int .i64 K, .int .i64 A, .int .i64 B, .int .i64 C] 92 (0, 0)) ∧ W.heap[w.heap.size + 1]? = some (.cells #[.int .i64 0, .int .i64 0, .int .i64 0, .int .i64 0] 103 (0, 0)) ∧ Below w.heap.size w W ∧ W.heap.size = w.heap.size + 1 + 1) := ⟨hbx.1, hbx.2.1, hbx.2.2, hsz⟩
  clear hbx hW hK hA hB hC hsz
  go_enter Tryz.func55, Tryz.ntmps55
  go_upto_region 1 with fail
  rw [← HW.out]
  clear HW
  go_cut [3] (fun p wx => ∃ b, p = .pointer (some ⟨b, 0, none⟩) ∧ InsInv w wx b K A B C pa pb)
  case first =>
    obtain ⟨x0, x1, x2, x3, xf, xl⟩ := four_cells HX.out.1
    go_region_held3 (fun w' => w'.cell? ⟨w.heap.size, 1, none⟩ = some (.int .i64 A) ∧ w'.cell? ⟨w.heap.size, 2, none⟩ = some (.int .i64 B)) (go_keep)
      (first
        | (go_at_call_of 16 (Value.int IntKind.i64 A); refine (HPA.out _).mono ?_; rintro e w2 ⟨rfl, rfl⟩)
        | (go_at_call_of 16 (Value.int IntKind.i64 B); refine (HPB.out _).mono ?_; rintro e w2 ⟨rfl, rfl⟩))
    all_goals
      go_wp2_with fail
      go_meet
      exact ⟨_, rfl, insInv_new HX.out⟩
  case rest =>
    obtain ⟨b, rfl, hI⟩ := hcut
    obtain ⟨y0, y1, y2, y3, yf, yl⟩ := four_cells hI.box
    obtain ⟨x0, x1, x2, x3, xf, xl⟩ := four_cells hI.raw
    obtain ⟨r0, r1, r2, r3, rf, rl⟩ := four_cells hI.res
    have n1 : ¬ b = w.heap.size := by have := hI.lt; omega
    have n2 : ¬ b = w.heap.size + 1 := by have := hI.lt; omega
    have n3 : ¬ w.heap.size + 1 = b := by have := hI.lt; omega
    have n4 : ¬ w.heap.size = b := by have := hI.lt; omega
    have hbw : w.heap.size ≤ b := by have := hI.lt; omega
    have HI : Hid (InsInv w wc b K A B C pa pb) := hI
    clear hI HX
    have HIO : Hid (InsOut w wc b 0 pa pb 0) := HI.out.out
    clear HI
    go_upto_block 0 with (first | (go_at_call 16; refine (HPK.out _).mono ?_; rintro e w2 ⟨rfl, hw2⟩; subst w2))
    clear HPK HPA HPB
    go_cut [4, 14] (fun _ _ wx => ∃ op a b' n, InsOut w wx b op a b' n ∧ instrNo op a b' n = 0 ∧ (op, a, b', n) = insF (K, A, B, C))
    case rest =>
      obtain ⟨op, a, b', n, ho, hno, heq⟩ := hcut
      clear y0 y1 y2 y3 yf yl x0 x1 x2 x3 xf xl r0 r1 r2 r3 rf rl
      obtain ⟨y0, y1, y2, y3, yf, yl⟩ := four_cells ho.box
      obtain ⟨r0, r1, r2, r3, rf, rl⟩ := four_cells ho.res
      have HO : Hid (Below w.heap.size w wc ∧ instrNo op a b' n = 0 ∧ (op, a, b', n) = insF (K, A, B, C)) := ⟨ho.old, hno, heq⟩
      clear ho hno heq HIO
      go_wp2_with fail
      refine bodyPost_ret (v := .agg #[.int .i64 op, .int .i64 a, .int .i64 b', .int .i64 n]) (by simp [results, Tryz.results55, go_sem, r0, r1, r2, r3]) rfl ?_
      exact ⟨_, _, _, _, rfl, HO.out.2.1, (((HO.out.1.setCell (by simp) _).setCell (by simp) _).setCell (by simp) _).setCell (by simp) _, HO.out.2.2⟩
    case first =>
      by_cases hk19 : kk = 19
      · subst hk19
        obtain ⟨cc, hcq, c0, c9, hpc⟩ := HPC.out 2 (by decide) (by decide)
        have HCC : Hid (cc = pickF C 2) := hcq
        clear hcq
        have HPCC : Hid (∀ W, Calls Tryz.prog 16 #[.int .i64 C, .int .i64 2] W fun e w' => e = .returned (.int .i64 cc) ∧ w' = W) := hpc
        clear hpc
        clear HPC HPD
        rcases (by omega : cc = 0 ∨ cc = 1) with rfl | rfl
        all_goals
          go_wp2_with fail
          go_region_law (first | (go_simp; go_at_call 16; refine (HPCC.out _).mono ?_; rintro e w2 ⟨rfl, hw2⟩; subst w2))
          all_goals
            go_wp2_with fail
            go_meet
            exact ⟨_, _, _, _, ((HIO.out.put0 _).put3 _).grow ((below_alloc _ _).drew), instrNo_ok (by omega) (by omega) (by omega) (by omega) (by omega) (by omega), (by (show _ = insG (pickF K 24) (pickF A 6) (pickF B 6) C); rw [← HEK.out, ← HEA.out, ← HEB.out]; unfold insG; (repeat (first | rw [if_pos (by omega)] | rw [if_neg (by omega)])); all_goals (first | rfl | (rw [← HCC.out]; done) | (rw [← HCC.out]; rfl) | (simp [← HCC.out]; done) | (simp [← HCC.out]; omega)))⟩

      obtain ⟨cc, hcq, c0, c9, hpc⟩ := HPC.out 14 (by decide) (by decide)
      have HCC : Hid (cc = pickF C 14) := hcq
      clear hcq
      have HPCC : Hid (∀ W, Calls Tryz.prog 16 #[.int .i64 C, .int .i64 14] W fun e w' => e = .returned (.int .i64 cc) ∧ w' = W) := hpc
      clear hpc
      clear HPC HPD
      have q1 : ¬ kk < 3 := by omega
      have q2 : ¬ kk < 5 := by omega
      have q3 : ¬ kk < 8 := by omega
      have q4 : ¬ kk < 11 := by omega
      have q5 : ¬ kk < 13 := by omega
      have q6 : kk < 16 := by omega
      obtain ⟨i, hi, hi3⟩ : ∃ i : Int, kk - 13 = i ∧ (i = 0 ∨ i = 1 ∨ i = 2) := ⟨_, rfl, by omega⟩
      have hwi : IntKind.i64.wrap (kk - 13) = i := by rw [IntWalk.i64_in _ (by omega)]; exact hi
      have hw0 : IntKind.i64.wrap 0 = 0 := IntWalk.i64_in _ (by omega)
      have hw1 : IntKind.i64.wrap 1 = 1 := IntWalk.i64_in _ (by omega)
      have hw2 : IntKind.i64.wrap 2 = 2 := IntWalk.i64_in _ (by omega)
      have hwc : IntKind.i64.wrap (cc - 6) = cc - 6 := IntWalk.i64_in _ (by omega)
      clear hk19 hr
      rcases hi3 with rfl | rfl | rfl
      all_goals
        go_wp2_with fail
        go_region_law (first | (go_simp; go_at_call 16; refine (HPCC.out _).mono ?_; rintro e w2 ⟨rfl, hw2⟩; subst w2))
        all_goals
          go_wp2_with fail
          go_meet
          exact ⟨_, _, _, _, ((HIO.out.put0 _).put3 _).grow ((below_alloc _ _).drew), instrNo_ok (by omega) (by omega) (by omega) (by omega) (by omega) (by omega), (by (show _ = insG (pickF K 24) (pickF A 6) (pickF B 6) C); rw [← HEK.out, ← HEA.out, ← HEB.out]; unfold insG; (repeat (first | rw [if_pos (by omega)] | rw [if_neg (by omega)])); all_goals (first | rfl | (rw [← HCC.out]; done) | (rw [← HCC.out]; rfl) | (simp [← HCC.out]; done) | (simp [← HCC.out]; omega)))⟩

end Go.Proofs.YtecpblabaelopaaGreatDoor
