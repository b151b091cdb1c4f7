/- Contract of hourglasskeep.instr: differences. -/
import Derived.Test.YtecpblabaelopaaGreatDoorKInsPart
import Derived.Test.YtecpblabaelopaaGreatDoorKWorldPart
import Derived.Test.YtecpblabaelopaaGreatDoorCpuMPart
import Derived.Test.YtecpblabaelopaaGreatDoorStepIPart
import Derived.Test.YtecpblabaelopaaGreatDoorMaySPart
import Derived.Test.YtecpblabaelopaaGreatDoorRecFewPart
import Derived.Test.YtecpblabaelopaaGreatDoorRcAPart
import Derived.WalkSpells
import Derived.Deep.RegionHeld3
namespace Go.Proofs.YtecpblabaelopaaGreatDoor
open Go.RowKit
set_option linter.unusedVariables false
attribute [local go_sem ↓] Go.wp_at_zero Go.wp_at_succ

set_option maxRecDepth 100000 in
set_option maxHeartbeats 8000000 in
theorem instr_sum1 (K A B C : Int) (w : World) (hK : (Lit.int .i64 K).wf = true) (hA : (Lit.int .i64 A).wf = true) (hB : (Lit.int .i64 B).wf = true) (hC : (Lit.int .i64 C).wf = true) (h34 : pickF K 24 = 3 ∨ pickF K 24 = 4) (hd8 : pickF (C.tdiv 8) 2 = 1) :
    Calls Tryz.prog 55 #[.agg #[.int .i64 K, .int .i64 A, .int .i64 B, .int .i64 C]] w fun e w' => ∃ op a b n, e = .returned (.agg #[.int .i64 op, .int .i64 a, .int .i64 b, .int .i64 n]) ∧ instrNo op a b n = 0 ∧ Below w.heap.size w w' ∧ (op, a, b, n) = insF (K, A, B, C) := by
  obtain ⟨pa, a0, a5, HEA, HPA⟩ : ∃ x : Int, 0 ≤ x ∧ x < 6 ∧ Hid (x = pickF A 6) ∧ Hid (∀ W, Calls Tryz.prog 16 #[.int .i64 A, .int .i64 6] W fun e w' => e = .returned (.int .i64 x) ∧ w' = W) := ⟨_, (pickF_bd A (m := 6) (by decide)).1, (pickF_bd A (m := 6) (by decide)).2, Eq.refl (pickF A 6), fun W => picked_any A 6 W hA (by decide) (by decide)⟩
  obtain ⟨pb, b0, b5, HEB, HPB⟩ : ∃ x : Int, 0 ≤ x ∧ x < 6 ∧ Hid (x = pickF B 6) ∧ Hid (∀ W, Calls Tryz.prog 16 #[.int .i64 B, .int .i64 6] W fun e w' => e = .returned (.int .i64 x) ∧ w' = W) := ⟨_, (pickF_bd B (m := 6) (by decide)).1, (pickF_bd B (m := 6) (by decide)).2, Eq.refl (pickF B 6), fun W => picked_any B 6 W hB (by decide) (by decide)⟩
  obtain ⟨kk, hkk, k0, k23, HPK⟩ : ∃ x : Int, x = pickF K 24 ∧ 0 ≤ x ∧ x < 24 ∧ Hid (∀ W, Calls Tryz.prog 16 #[.int .i64 K, .int .i64 24] W fun e w' => e = .returned (.int .i64 x) ∧ w' = W) := ⟨_, rfl, (pickF_bd K (m := 24) (by decide)).1, (pickF_bd K (m := 24) (by decide)).2, fun W => picked_any K 24 W hK (by decide) (by decide)⟩
  have HPC : Hid (∀ m : Int, 0 < m → m ≤ 1000000 → ∃ x : Int, x = pickF C m ∧ 0 ≤ x ∧ x < m ∧ ∀ W, Calls Tryz.prog 16 #[.int .i64 C, .int .i64 m] W fun e w' => e = .returned (.int .i64 x) ∧ w' = W) := fun m h0 h1 => ⟨_, rfl, (pickF_bd C h0).1, (pickF_bd C h0).2, fun W => picked_any C m W hC h0 h1⟩
  have HPD : Hid (∃ x : Int, x = pickF (C.tdiv 8) 2 ∧ 0 ≤ x ∧ x < 2 ∧ ∀ W, Calls Tryz.prog 16 #[.int .i64 (C.tdiv 8), .int .i64 2] W fun e w' => e = .returned (.int .i64 x) ∧ w' = W) := by
    have hd := tdiv_sign C 8
    have hb := i64_bd hC
    have hwf : (Lit.int .i64 (C.tdiv 8)).wf = true := by
      have : -9223372036854775808 ≤ C.tdiv 8 ∧ C.tdiv 8 ≤ 9223372036854775807 := by omega
      simpa [Lit.wf, IntKind.min, IntKind.max, IntKind.signed, IntKind.bits] using this
    exact ⟨_, rfl, (pickF_bd _ (m := 2) (by decide)).1, (pickF_bd _ (m := 2) (by decide)).2, fun W => picked_any _ 2 W hwf (by decide) (by decide)⟩
  have hkr : kk = 3 ∨ kk = 4 := by rw [hkk]; exact h34
  have HEK : Hid (kk = pickF K 24) := hkk
  clear hkk h34
  obtain ⟨cb1, cb2⟩ := i64_bd hC
  have hbx := two_boxes (Below.refl (((w.alloc (.cells #[.int .i64 K, .int .i64 A, .int .i64 B, .int .i64 C] 92)).alloc (.cells #[.int .i64 0, .int .i64 0, .int .i64 0, .int .i64 0] 103)).heap.size) ((w.alloc (.cells #[.int .i64 K, .int .i64 A, .int .i64 B, .int .i64 C] 92)).alloc (.cells #[.int .i64 0, .int .i64 0, .int .i64 0, .int .i64 0] 103)))
  obtain ⟨W, hW⟩ : ∃ W, W = (w.alloc (.cells #[.int .i64 K, .int .i64 A, .int .i64 B, .int .i64 C] 92)).alloc (.cells #[.int .i64 0, .int .i64 0, .int .i64 0, .int .i64 0] 103) := ⟨_, rfl⟩
  have hsz : W.heap.size = w.heap.size + 1 + 1 := by rw [hW]; simp
  rw [← hW] at hbx
  have HW : Hid (W = _) := hW
  have HX : Hid (W.heap[w.heap.size]? = some (.cells #[.int .i64 K, .int .i64 A, .int .i64 B, .int .i64 C] 92 (0, 0)) ∧ W.heap[w.heap.size + 1]? = some (.cells #[.int .i64 0, .int .i64 0, .int .i64 0, .int .i64 0] 103 (0, 0)) ∧ Below w.heap.size w W ∧ W.heap.size = w.heap.size + 1 + 1) := ⟨hbx.1, hbx.2.1, hbx.2.2, hsz⟩
  clear hbx hW hK hA hB hC hsz
  go_enter Tryz.func55, Tryz.ntmps55
  go_upto_region 1 with fail
  rw [← HW.out]
  clear HW
  go_cut [3] (fun p wx => ∃ b, p = .pointer (some ⟨b, 0, none⟩) ∧ InsInv w wx b K A B C pa pb)
  case first =>
    obtain ⟨x0, x1, x2, x3, xf, xl⟩ := four_cells HX.out.1
    go_region_held3 (fun w' => w'.cell? ⟨w.heap.size, 1, none⟩ = some (.int .i64 A) ∧ w'.cell? ⟨w.heap.size, 2, none⟩ = some (.int .i64 B)) (go_keep)
      (first
        | (go_at_call_of 16 (Value.int IntKind.i64 A); refine (HPA.out _).mono ?_; rintro e w2 ⟨rfl, rfl⟩)
        | (go_at_call_of 16 (Value.int IntKind.i64 B); refine (HPB.out _).mono ?_; rintro e w2 ⟨rfl, rfl⟩))
    all_goals
      go_wp2_with fail
      go_meet
      exact ⟨_, rfl, insInv_new HX.out⟩
  case rest =>
    obtain ⟨b, rfl, hI⟩ := hcut
    obtain ⟨y0, y1, y2, y3, yf, yl⟩ := four_cells hI.box
    obtain ⟨x0, x1, x2, x3, xf, xl⟩ := four_cells hI.raw
    obtain ⟨r0, r1, r2, r3, rf, rl⟩ := four_cells hI.res
    have n1 : ¬ b = w.heap.size := by have := hI.lt; omega
    have n2 : ¬ b = w.heap.size + 1 := by have := hI.lt; omega
    have n3 : ¬ w.heap.size + 1 = b := by have := hI.lt; omega
    have n4 : ¬ w.heap.size = b := by have := hI.lt; omega
    have hbw : w.heap.size ≤ b := by have := hI.lt; omega
    have HI : Hid (InsInv w wc b K A B C pa pb) := hI
    clear hI HX
    have HIO : Hid (InsOut w wc b 0 pa pb 0) := HI.out.out
    clear HI
    go_upto_block 0 with (first | (go_at_call 16; refine (HPK.out _).mono ?_; rintro e w2 ⟨rfl, hw2⟩; subst w2))
    clear HPK HPA HPB
    go_cut [4, 14] (fun _ _ wx => ∃ op a b' n, InsOut w wx b op a b' n ∧ instrNo op a b' n = 0 ∧ (op, a, b', n) = insF (K, A, B, C))
    case rest =>
      obtain ⟨op, a, b', n, ho, hno, heq⟩ := hcut
      clear y0 y1 y2 y3 yf yl x0 x1 x2 x3 xf xl r0 r1 r2 r3 rf rl
      obtain ⟨y0, y1, y2, y3, yf, yl⟩ := four_cells ho.box
      obtain ⟨r0, r1, r2, r3, rf, rl⟩ := four_cells ho.res
      have HO : Hid (Below w.heap.size w wc ∧ instrNo op a b' n = 0 ∧ (op, a, b', n) = insF (K, A, B, C)) := ⟨ho.old, hno, heq⟩
      clear ho hno heq HIO
      go_wp2_with fail
      refine bodyPost_ret (v := .agg #[.int .i64 op, .int .i64 a, .int .i64 b', .int .i64 n]) (by simp [results, Tryz.results55, go_sem, r0, r1, r2, r3]) rfl ?_
      exact ⟨_, _, _, _, rfl, HO.out.2.1, (((HO.out.1.setCell (by simp) _).setCell (by simp) _).setCell (by simp) _).setCell (by simp) _, HO.out.2.2⟩
    case first =>
      have kq1 : ¬ kk < 3 := by omega
      have kq2 : kk < 5 := by omega
      obtain ⟨cc, hcq, c0, c9, hpc⟩ := HPC.out 6 (by decide) (by decide)
      have HCC : Hid (cc = pickF C 6) := hcq
      clear hcq
      have HPCC : Hid (∀ W, Calls Tryz.prog 16 #[.int .i64 C, .int .i64 6] W fun e w' => e = .returned (.int .i64 cc) ∧ w' = W) := hpc
      clear hpc
      obtain ⟨d, hdd, d0, d1, hpd⟩ := HPD.out
      obtain rfl : d = 1 := by omega
      have HPDD : Hid (∀ W, Calls Tryz.prog 16 #[.int .i64 (C.tdiv 8), .int .i64 2] W fun e w' => e = .returned (.int .i64 1) ∧ w' = W) := hpd
      clear hpd HPC HPD hdd
      have hw8 : IntKind.i64.wrap (C.tdiv 8) = C.tdiv 8 := IntWalk.i64_in _ (by have := tdiv_sign C 8; omega)
      go_wp2_with fail
      go_region_law (first
        | (go_simp; go_at_call_of 16 (Value.int IntKind.i64 C); refine (HPCC.out _).mono ?_; rintro e w2 ⟨rfl, hw2⟩; subst w2)
        | (go_simp; go_at_call_of 16 (Value.int IntKind.i64 (C.tdiv 8)); refine (HPDD.out _).mono ?_; rintro e w2 ⟨rfl, hw2⟩; subst w2))
      all_goals
        go_wp2_with fail
        go_meet
        exact ⟨_, _, _, _, ((HIO.out.put0 _).put3 _).grow ((below_alloc _ _).drew), instrNo_ok (by omega) (by omega) (by omega) (by omega) (by omega) (by omega), (by (show _ = insG (pickF K 24) (pickF A 6) (pickF B 6) C); rw [← HEK.out, ← HEA.out, ← HEB.out]; unfold insG; (repeat (first | rw [if_pos (by omega)] | rw [if_neg (by omega)])); all_goals (first | rfl | (rw [← HCC.out]; done) | (rw [← HCC.out]; rfl) | (simp [← HCC.out]; done) | (simp [← HCC.out]; omega)))⟩

end Go.Proofs.YtecpblabaelopaaGreatDoor

/- Contract of hourglasskeep.instr: an instruction of a raw thing may be. -/

namespace Go.Proofs.YtecpblabaelopaaGreatDoor
open Go.RowKit

theorem instrF_any (K A B C : Int) (w : World) (hK : (Lit.int .i64 K).wf = true) (hA : (Lit.int .i64 A).wf = true) (hB : (Lit.int .i64 B).wf = true) (hC : (Lit.int .i64 C).wf = true) :
    Calls Tryz.prog 55 #[.agg #[.int .i64 K, .int .i64 A, .int .i64 B, .int .i64 C]] w fun e w' => ∃ op a b n, e = .returned (.agg #[.int .i64 op, .int .i64 a, .int .i64 b, .int .i64 n]) ∧ instrNo op a b n = 0 ∧ Below w.heap.size w w' ∧ (op, a, b, n) = insF (K, A, B, C) := by
  by_cases h1 : pickF K 24 = 3 ∨ pickF K 24 = 4
  · have hb := pickF_bd (C.tdiv 8) (m := 2) (by decide)
    by_cases h2 : pickF (C.tdiv 8) 2 = 0
    · exact instr_sum0 K A B C w hK hA hB hC h1 h2
    · exact instr_sum1 K A B C w hK hA hB hC h1 (by omega)
  · by_cases h2 : pickF K 24 = 13 ∨ pickF K 24 = 14 ∨ pickF K 24 = 15 ∨ pickF K 24 = 19
    · exact instr_slices K A B C w hK hA hB hC h2
    · exact instr_plain K A B C w hK hA hB hC (by omega)
end Go.Proofs.YtecpblabaelopaaGreatDoor

/- Contracts of hourglasskeep.cpuTells and guest: a guest of instructions, with registers. -/

namespace Go.Proofs.YtecpblabaelopaaGreatDoor
open Go.RowKit

end Go.Proofs.YtecpblabaelopaaGreatDoor

/- What the laws over single steps lean on: a step as plain things; instructions in new memory; a guest in a variable. -/

namespace Go.Proofs.YtecpblabaelopaaGreatDoor
open Go.RowKit

def insCells : List Ins → List Value
  | [] => []
  | i :: L => .int .i64 i.1 :: .int .i64 i.2.1 :: .int .i64 i.2.2.1 :: .int .i64 i.2.2.2 :: insCells L
theorem insCells_at (L : List Ins) (j : Nat) (h : j < L.length) : (insCells L)[j * 4]? = some (.int .i64 (L.getD j (0, 0, 0, 0)).1) ∧ (insCells L)[j * 4 + 1]? = some (.int .i64 (L.getD j (0, 0, 0, 0)).2.1) ∧ (insCells L)[j * 4 + 2]? = some (.int .i64 (L.getD j (0, 0, 0, 0)).2.2.1) ∧ (insCells L)[j * 4 + 3]? = some (.int .i64 (L.getD j (0, 0, 0, 0)).2.2.2) := by
  induction L generalizing j with
  | nil => simp at h
  | cons i L ih =>
    cases j with
    | zero => exact ⟨rfl, rfl, rfl, rfl⟩
    | succ j =>
      have := ih j (by simpa using h)
      rw [show (j + 1) * 4 = j * 4 + 1 + 1 + 1 + 1 by omega]
      simpa [insCells, Nat.add_assoc] using this
theorem InsAt.of {w : World} {b c : Nat} {t : TypeId} (L : List Ins) (h : w.heap[b]? = some (.cells (insCells L).toArray t (0, 0))) (hl : L.length ≤ 1000) : InsAt w (.slice (some ⟨b, 0, none⟩) L.length c) L := by
  refine ⟨_, c, rfl, hl, fun _ => ⟨b, 0, rfl, lt_of_block h, fun j hj => ?_⟩⟩
  obtain ⟨c0, c1, c2, c3⟩ := insCells_at L j hj
  simp only [World.cell?, h, Nat.zero_add]
  refine ⟨?_, ?_, ?_, ?_⟩ <;> simpa using ‹_›
theorem IntsAt.of {w : World} {b c : Nat} (l : List Int) (h : w.heap[b]? = some (.cells (l.map (Value.int .i64)).toArray 3 (0, 0))) (hl : l.length ≤ 1000) : IntsAt w (.slice (some ⟨b, 0, none⟩) l.length c) l := by
  refine ⟨_, c, rfl, by omega, fun _ => ⟨b, 0, rfl, lt_of_block h, fun j hj => ?_⟩⟩
  simp only [World.cell?, h, Nat.zero_add]
  simp [hj, List.getD]

end Go.Proofs.YtecpblabaelopaaGreatDoor

/- Contract of hourglasskeep.Image: the words of a program of raw things. -/

namespace Go.Proofs.YtecpblabaelopaaGreatDoor
open Go.RowKit

def imgL : List Ins := [(9, 0, 0, 12), (15, 0, 0, 0), (15, 0, 0, 0), (15, 0, 0, 0), (15, 0, 0, 0), (15, 0, 0, 0), (15, 0, 0, 0), (15, 0, 0, 0), (4, 7, 7, 1), (11, 7, 0, 3), (13, 0, 0, 0), (15, 0, 0, 0), (12, 0, 0, 1)]
theorem insWord_bd (i : Ins) : -1099511627776 ≤ insWord i ∧ insWord i ≤ 1099511627776 := by
  obtain ⟨op, a, b, n⟩ := i
  unfold insWord wordNo
  split
  · rename_i h
    have := instrNo_bd h
    unfold wordF
    simp only at *
    omega
  · omega
theorem OwnI.src {w : World} {lo : Nat} {v : Value} {l : List Int} (h : OwnI w lo v l) (h0 : 0 < l.length) : ∃ g cap, v = .slice (some ⟨g, 0, none⟩) l.length cap ∧ (∀ j u, (l.map (Value.int .i64))[j]? = some u → w.cell? ((⟨g, 0, none⟩ : Addr).add j) = some u) := by
  obtain ⟨g, cap, rfl, hlo, hlt, _, hc, _⟩ := ownsRow_at h h0
  refine ⟨g, cap, rfl, fun j u hu => ?_⟩
  have hjl : j < l.length := by
    by_cases hh : j < l.length
    · exact hh
    · simp [List.getElem?_eq_none (show l.length ≤ j by omega)] at hu
  rw [Go.WideShapes.add_plain, Nat.zero_add, hc j hjl, hu]
theorem ints_one (x : Int) : ∀ u ∈ [x].map (Value.int .i64), u.oneCell' = true := by
  intro u hu
  simp at hu
  subst hu
  rfl

structure ImgI (w wr : World) (o : Value) (k : Nat) (L : List Int) : Prop where
  own : OwnI wr w.heap.size o L
  len : L.length = 13 + k
  word : ∀ x ∈ L, -1099511627776 ≤ x ∧ x ≤ 1099511627776
  old : Below w.heap.size w wr
theorem ImgI.snoc {w wr W w2 : World} {o o' : Value} {k : Nat} {L : List Int} {x : Int} (h : ImgI w wr o k L) (hB : Below wr.heap.size wr W) (hx : -1099511627776 ≤ x ∧ x ≤ 1099511627776) (hg : W.grownBy w2 o.ownBlock) (ho : OwnI w2 w.heap.size o' (L ++ [x])) : ImgI w w2 o' (k + 1) (L ++ [x]) := by
  refine ⟨ho, by simp [h.len]; omega, fun y hy => ?_, ?_⟩
  · rcases List.mem_append.1 hy with hy | hy
    · exact h.word y hy
    · simp at hy
      subst hy
      exact hx
  · exact (h.old.trans (hB.mono h.old.size)).grown hg (Nat.le_trans h.old.size hB.size) (fun g e => (World.ownsRow.lt h.own g e).1)

end Go.Proofs.YtecpblabaelopaaGreatDoor

/- Contract of hourglasskeep.Image, to the word: the words of a program of raw things. -/

namespace Go.Proofs.YtecpblabaelopaaGreatDoor
open Go.RowKit

def imgP (R : List Raw4) (k : Nat) : List Int := imgL.map insWord ++ (R.take k).map fun r => insWord (insF r)
def imageF (R : List Raw4) : List Int := imgP R (min R.length 50) ++ [insWord (9, 0, 0, -((min R.length 50 : Nat) : Int))]
theorem imgP_zero (R : List Raw4) : imgP R 0 = imgL.map insWord := by unfold imgP; simp
theorem imgP_snoc {R : List Raw4} {k : Nat} (h : k < R.length) : imgP R (k + 1) = imgP R k ++ [insWord (insF (R.getD k raw0))] := by
  unfold imgP
  rw [take_snoc4 h, List.map_append, List.append_assoc]
  rfl
theorem imageF_at {R : List Raw4} {k : Nat} (h1 : k ≤ R.length) (h2 : k ≤ 50) (h3 : ¬ (k < R.length ∧ k < 50)) : imageF R = imgP R k ++ [insWord (9, 0, 0, -(k : Int))] := by
  have e : min R.length 50 = k := by omega
  unfold imageF
  rw [e]
theorem imageF_len (R : List Raw4) : (imageF R).length ≤ 64 := by
  unfold imageF imgP
  have h : imgL.length = 13 := rfl
  simp only [List.length_append, List.length_map, List.length_take, List.length_cons, List.length_nil, h]
  omega
theorem imageF_all (R : List Raw4) : allB (imageF R) = true := allB_of fun x hx => by
  unfold imageF imgP at hx
  simp only [List.mem_append, List.mem_map, List.mem_singleton] at hx
  rcases hx with (⟨i, _, rfl⟩ | ⟨i, _, rfl⟩) | rfl
  all_goals exact insWord_bd _
theorem imageF_new (R : List Raw4) : newNo (imageF R) = 0 := by
  have h1 := imageF_len R
  have h2 := imageF_all R
  unfold newNo
  rw [if_neg (by omega), if_neg (by simp [h2])]

set_option maxRecDepth 100000 in
set_option maxHeartbeats 4000000 in
theorem ImageF_any (v : Value) (R : List Raw4) (w : World) (h : RawsL w v R) :
    Calls Tryz.prog 28 #[v] w fun e w' => ∃ v', e = .returned v' ∧ OwnI w' w.heap.size v' (imageF R) ∧ Below w.heap.size w w' := by
  obtain ⟨A, c, rfl, hl, hwf, hc⟩ := h
  have HIF : Hid (∀ k : Nat, k ≤ R.length → k ≤ 50 → ¬ (k < R.length ∧ k < 50) → imageF R = imgP R k ++ [insWord (9, 0, 0, -(k : Int))]) := fun k h1 h2 h3 => imageF_at h1 h2 h3
  have HIM : Hid (∀ k : Nat, k < R.length → imgP R (k + 1) = imgP R k ++ [insWord (insF (R.getD k raw0))]) := fun k hk => imgP_snoc hk
  have HWF : Hid (∀ j, j < R.length → (R.getD j raw0).wf) := hwf
  clear hwf
  obtain ⟨n, hn⟩ : ∃ n, n = R.length := ⟨_, rfl⟩
  rw [← hn] at hl hc HIF HIM HWF ⊢
  clear hn
  obtain ⟨i0, hi, hz0, hz1, hz2⟩ := info_parts infoInt
  go_enter Tryz.func28, Tryz.ntmps28
  go_wp2_with fail
  have hbx := Go.Deep.blk_alloc_new ((w.alloc (.cells #[.int .i64 9, .int .i64 0, .int .i64 0, .int .i64 12] 103)).alloc (.cells #[.int .i64 15, .int .i64 0, .int .i64 0, .int .i64 0] 103)) (.cells (insCells imgL).toArray 103)
  rw [show ((w.alloc (.cells #[.int .i64 9, .int .i64 0, .int .i64 0, .int .i64 12] 103)).alloc (.cells #[.int .i64 15, .int .i64 0, .int .i64 0, .int .i64 0] 103)).heap.size = w.heap.size + 1 + 1 by simp] at hbx
  refine (kwords_any _ imgL _ (InsAt.of imgL hbx (by decide))).mono ?_
  rintro e w1 ⟨v1, rfl, ho1, hb1⟩
  have HI0 : Hid (ImgI w w1 v1 0 (imgL.map insWord)) := by
    refine ⟨ownsRow_mono ho1 (by simp; omega), rfl, fun x hx => ?_, (((below_alloc _ _).alloc (by simp) _).alloc (by simp; omega) _).trans (hb1.mono (by simp; omega))⟩
    obtain ⟨i, _, rfl⟩ := List.mem_map.1 hx
    exact insWord_bd i
  clear ho1 hb1 hbx
  obtain ⟨L0, hL0⟩ : ∃ L, L = imgL.map insWord := ⟨_, rfl⟩
  rw [← hL0] at HI0
  have HL0 : Hid (L0 = imgP R 0) := by rw [hL0]; exact (imgP_zero R).symm
  clear hL0
  go_wp2_with fail
  go_loopw [5, 6] (fun o i wr => ∃ (k : Nat) (L : List Int), k ≤ n ∧ k ≤ 50 ∧ i = .int .i64 k ∧ Hid (L = imgP R k) ∧ Hid (ImgI w wr o k L)) (fun _ i _ => n - (intOf i).toNat)
  case atStart => exact ⟨0, L0, Nat.zero_le _, by omega, rfl, HL0, HI0⟩
  case round =>
    obtain ⟨k, L, hk, hk50, rfl, HL, HI⟩ := hrel
    clear HI0 HL0
    have hLl : L.length ≤ 63 := by have := HI.out.len; omega
    by_cases hlt : k < n ∧ k < 50
    · obtain ⟨hkn, hk5⟩ := hlt
      have hki : (k : Int) < (n : Int) := by omega
      have hki2 : (k : Int) < 50 := by omega
      obtain ⟨b, off, rfl, hbs, hcell⟩ := hc (by omega)
      obtain ⟨r0, r1, r2, r3⟩ := hcell k hkn
      obtain ⟨f0, f1, f2, f3⟩ := HWF.out k hkn
      have HIK : Hid (imgP R (k + 1) = imgP R k ++ [insWord (insF (R.getD k raw0))]) := HIM.out k hkn
      clear HIM HWF
      obtain ⟨r, hr⟩ : ∃ r, r = R.getD k raw0 := ⟨_, rfl⟩
      rw [← hr] at r0 r1 r2 r3 f0 f1 f2 f3 HIK
      clear hr
      obtain ⟨x0, x1, x2, x3⟩ := r
      simp only at r0 r1 r2 r3 f0 f1 f2 f3
      have y0 := (HI.out.old.cell (p := ⟨b, off + k * 4, none⟩) hbs).trans r0
      have y1 := (HI.out.old.cell (p := ⟨b, off + k * 4 + 1, none⟩) hbs).trans r1
      have y2 := (HI.out.old.cell (p := ⟨b, off + k * 4 + 2, none⟩) hbs).trans r2
      have y3 := (HI.out.old.cell (p := ⟨b, off + k * 4 + 3, none⟩) hbs).trans r3
      have HS : Hid (∀ W, Calls Tryz.prog 55 #[.agg #[.int .i64 x0, .int .i64 x1, .int .i64 x2, .int .i64 x3]] W fun e w' => ∃ op a b n, e = .returned (.agg #[.int .i64 op, .int .i64 a, .int .i64 b, .int .i64 n]) ∧ instrNo op a b n = 0 ∧ Below W.heap.size W w' ∧ (op, a, b, n) = insF (x0, x1, x2, x3)) := fun W => instrF_any x0 x1 x2 x3 W f0 f1 f2 f3
      clear r0 r1 r2 r3 f0 f1 f2 f3 hcell hc
      go_wp2_with fail
      refine (HS.out _).mono ?_
      rintro e w1 ⟨op, a, bb, nn, rfl, hno, hb1, heq⟩
      have HQ : Hid (insWord (op, a, bb, nn) = insWord (insF (x0, x1, x2, x3))) := by show _ = _; rw [heq]
      clear heq
      have HB1 : Hid (Below wr.heap.size wr w1) := hb1
      clear hno hb1 HS y0 y1 y2 y3
      go_wp2_with fail
      have hbx := Go.Deep.blk_alloc_new w1 (.cells (insCells [(op, a, bb, nn)]).toArray 103)
      refine (kwords_any _ [(op, a, bb, nn)] _ (InsAt.of [(op, a, bb, nn)] hbx (by simp))).mono ?_
      rintro e w2 ⟨v2, rfl, ho2, hb2⟩
      obtain ⟨g, cap, hv2, hsrc⟩ := ho2.src (by simp)
      subst hv2
      have hB2 : Below wr.heap.size wr w2 := HB1.out.trans (((below_alloc _ _).trans (hb2.mono (by simp))).mono HB1.out.size)
      have HB2 : Hid (Below wr.heap.size wr w2) := hB2
      have HSRC : Hid (∀ j u, ([insWord (op, a, bb, nn)].map (Value.int .i64))[j]? = some u → w2.cell? ((⟨g, 0, none⟩ : Addr).add j) = some u) := hsrc
      have hxb := insWord_bd (op, a, bb, nn)
      have HO2 : Hid (OwnI w2 w.heap.size u5 L) := HI.out.own.below hB2
      have hsz := HI.out.old.size
      have hsz2 := hB2.size
      clear ho2 hb2 hbx hB2 hsrc HB1
      simp only [List.map_cons, List.map_nil] at HSRC ⊢
      obtain ⟨y, hy⟩ : ∃ y, y = insWord (op, a, bb, nn) := ⟨_, rfl⟩
      rw [← hy] at hxb HQ HSRC
      clear hy
      obtain ⟨A5, c5, rfl⟩ := HO2.out.shape
      simp only [List.length_singleton]
      go_wp2_with (first
        | (at_builtin; refine wpList_append_own_at _ rfl _ _ 24 rfl w.heap.size 3 i0 (.int .i64 0) 1 8 Tryz.underlying24 hi hz0 hz1 hz2 rfl (by decide) (.slice A5 L.length c5) L.length (L.map (Value.int .i64)) rfl HO2.out ⟨g, 0, none⟩ 1 cap ([y].map (Value.int .i64)) rfl rfl HSRC.out (ints_one y) ?c3 ?c4 ?c5 ?_))
      case c3 => unfold maxLen; omega
      case c4 => omega
      case c5 => omega
      intro v3 w3 hown hgrow _ _
      have HI3 : Hid (ImgI w w3 v3 (k + 1) (L ++ [y])) := HI.out.snoc HB2.out hxb hgrow (OwnI.snoc (by simpa using hown) rfl)
      clear hown hgrow
      go_wp2_with fail
      have HLN : Hid (L ++ [y] = imgP R (k + 1)) := by show _ = _; rw [HIK.out, HL.out, HQ.out]
      refine ⟨⟨k + 1, _, by omega, by omega, by go_num, HLN, HI3⟩, ?_⟩
      simp [intOf]; omega
    · have HO : Hid (OwnI wr w.heap.size u5 L) := HI.out.own
      have hsz := HI.out.old.size
      obtain ⟨A5, c5, rfl⟩ := HO.out.shape
      have hn0 : (0 : Int) ≤ (n : Int) := by omega
      clear hc
      by_cases h1 : k < n
      · have hki : (k : Int) < (n : Int) := by omega
        have hki2 : ¬ (k : Int) < 50 := by omega
        have hn50 : (50 : Int) ≤ (n : Int) := by omega
        go_wp2_with fail
        have hbx := Go.Deep.blk_alloc_new wr (.cells (insCells [(9, 0, 0, -50)]).toArray 103)
        refine (kwords_any _ [(9, 0, 0, -50)] _ (InsAt.of [(9, 0, 0, -50)] hbx (by simp))).mono ?_
        rintro e w2 ⟨v2, rfl, ho2, hb2⟩
        obtain ⟨g, cap, hv2, hsrc⟩ := ho2.src (by simp)
        subst hv2
        have HB2 : Hid (Below wr.heap.size wr w2) := (below_alloc _ _).trans (hb2.mono (by simp))
        have hxb := insWord_bd (9, 0, 0, -50)
        have HO2 : Hid (OwnI w2 w.heap.size (.slice A5 L.length c5) L) := HO.out.below HB2.out
        have hsz2 := HB2.out.size
        clear ho2 hb2 hbx
        simp only [List.map_cons, List.map_nil, List.length_singleton] at hsrc ⊢
        obtain ⟨y, hy⟩ : ∃ y, y = insWord (9, 0, 0, -50) := ⟨_, rfl⟩
        have HQ : Hid (L ++ [y] = imageF R) := by show _ = _; obtain rfl : k = 50 := (by omega); rw [HIF.out 50 hk hk50 (by omega), HL.out, hy]; rfl
        rw [← hy] at hxb
        simp only [← hy] at hsrc
        have HSRC : Hid (∀ j u, ([y].map (Value.int .i64))[j]? = some u → w2.cell? ((⟨g, 0, none⟩ : Addr).add j) = some u) := hsrc
        clear hsrc hy HO
        go_wp2_with (first
          | (at_builtin; refine wpList_append_own_at _ rfl _ _ 24 rfl w.heap.size 3 i0 (.int .i64 0) 1 8 Tryz.underlying24 hi hz0 hz1 hz2 rfl (by decide) (.slice A5 L.length c5) L.length (L.map (Value.int .i64)) rfl HO2.out ⟨g, 0, none⟩ 1 cap ([y].map (Value.int .i64)) rfl rfl HSRC.out (ints_one y) ?c3 ?c4 ?c5 ?_))
        case c3 => unfold maxLen; omega
        case c4 => omega
        case c5 => omega
        intro v3 w3 hown hgrow _ _
        have HI3 : Hid (ImgI w w3 v3 (k + 1) (L ++ [y])) := HI.out.snoc HB2.out hxb hgrow (OwnI.snoc (by simpa using hown) rfl)
        clear hown hgrow
        go_wp2_with fail
        go_ret
        exact ⟨v3, rfl, by rw [← HQ.out]; exact HI3.out.own, HI3.out.old⟩
      · have hki : ¬ (k : Int) < (n : Int) := by omega
        have hn50 : (n : Int) ≤ 50 := by omega
        go_wp2_with fail
        have hbx := Go.Deep.blk_alloc_new wr (.cells (insCells [(9, 0, 0, -(n : Int))]).toArray 103)
        refine (kwords_any _ [(9, 0, 0, -(n : Int))] _ (InsAt.of [(9, 0, 0, -(n : Int))] hbx (by simp))).mono ?_
        rintro e w2 ⟨v2, rfl, ho2, hb2⟩
        obtain ⟨g, cap, hv2, hsrc⟩ := ho2.src (by simp)
        subst hv2
        have HB2 : Hid (Below wr.heap.size wr w2) := (below_alloc _ _).trans (hb2.mono (by simp))
        have hxb := insWord_bd (9, 0, 0, -(n : Int))
        have HO2 : Hid (OwnI w2 w.heap.size (.slice A5 L.length c5) L) := HO.out.below HB2.out
        have hsz2 := HB2.out.size
        clear ho2 hb2 hbx
        simp only [List.map_cons, List.map_nil, List.length_singleton] at hsrc ⊢
        obtain ⟨y, hy⟩ : ∃ y, y = insWord (9, 0, 0, -(n : Int)) := ⟨_, rfl⟩
        have HQ : Hid (L ++ [y] = imageF R) := by show _ = _; obtain rfl : k = n := (by omega); rw [HIF.out k hk hk50 (by omega), HL.out, hy]
        rw [← hy] at hxb
        simp only [← hy] at hsrc
        have HSRC : Hid (∀ j u, ([y].map (Value.int .i64))[j]? = some u → w2.cell? ((⟨g, 0, none⟩ : Addr).add j) = some u) := hsrc
        clear hsrc hy HO
        go_wp2_with (first
          | (at_builtin; refine wpList_append_own_at _ rfl _ _ 24 rfl w.heap.size 3 i0 (.int .i64 0) 1 8 Tryz.underlying24 hi hz0 hz1 hz2 rfl (by decide) (.slice A5 L.length c5) L.length (L.map (Value.int .i64)) rfl HO2.out ⟨g, 0, none⟩ 1 cap ([y].map (Value.int .i64)) rfl rfl HSRC.out (ints_one y) ?c3 ?c4 ?c5 ?_))
        case c3 => unfold maxLen; omega
        case c4 => omega
        case c5 => omega
        intro v3 w3 hown hgrow _ _
        have HI3 : Hid (ImgI w w3 v3 (k + 1) (L ++ [y])) := HI.out.snoc HB2.out hxb hgrow (OwnI.snoc (by simpa using hown) rfl)
        clear hown hgrow
        go_wp2_with fail
        go_ret
        exact ⟨v3, rfl, by rw [← HQ.out]; exact HI3.out.own, HI3.out.old⟩

end Go.Proofs.YtecpblabaelopaaGreatDoor

/- The recorder's step, walked: the guest asks for a word. -/

namespace Go.Proofs.YtecpblabaelopaaGreatDoor
open Go.RowKit
set_option maxRecDepth 100000

set_option maxHeartbeats 16000000 in
theorem rstep_ask (g : RcB) (lo : Nat) (iv zv : Value) (x : Wd) (s : RecS) (cm : Nat) (due k : Int) (R : List (Ev × Value)) (rv mv ov : Value) (w : World)
    (h : RcAt w lo g iv zv x s.va cm s.bl due R) (hr : RcRel k s cm due R) (hx : WdMay x) (hR : R.length ≤ 8997) (ho : OwnM w lo rv mv ov s.m) (hm : MayP s.m) (hf : s.m.fin = 0) (hc : s.m.count = k) (hk : 0 ≤ k ∧ k < 3000) (hV0 : s.ask x k = true) :
    Calls Tryz.prog 53 #[ptr g.p, .agg (s.m.cells rv mv ov)] w fun e w' => RStepQ w lo g iv zv x s k R e w' := by
  obtain ⟨A1, c1, A2, c2, A3, c3, rfl, rfl, rfl⟩ := ho.shape
  obtain ⟨b0, b1, b2⟩ := two_boxes (Below.refl (((w.alloc (.cells (s.m.cells (.slice A1 s.m.regs.length c1) (.slice A2 s.m.mem.length c2) (.slice A3 s.m.out.length c3)) 37)).alloc (.cells zeroM 37)).heap.size) ((w.alloc (.cells (s.m.cells (.slice A1 s.m.regs.length c1) (.slice A2 s.m.mem.length c2) (.slice A3 s.m.out.length c3)) 37)).alloc (.cells zeroM 37)))
  obtain ⟨W, hW⟩ : ∃ W, W = (w.alloc (.cells (s.m.cells (.slice A1 s.m.regs.length c1) (.slice A2 s.m.mem.length c2) (.slice A3 s.m.out.length c3)) 37)).alloc (.cells zeroM 37) := ⟨_, rfl⟩
  rw [← hW] at b0 b1 b2
  have HW : Hid (W = (w.alloc (.cells (s.m.cells (.slice A1 s.m.regs.length c1) (.slice A2 s.m.mem.length c2) (.slice A3 s.m.out.length c3)) 37)).alloc (.cells zeroM 37)) := hW
  have q22 : ∀ (w : World) (a : Option Addr) (n c n' c' : Nat), (binOp .eql 24 (.slice a n c) (.slice none n' c')).run Tryz.prog w = .ok (.bool a.isNone) w := fun w a n c n' c' => Lib.run_eql_slice_nil w _ _ a n c n' c' Tryz.underlying24
  obtain ⟨M, hM⟩ : ∃ M, M = s.m := ⟨_, rfl⟩
  have HLO : Hid (lo ≤ w.heap.size) := h.lw
  have HRL : Hid (R.length ≤ 8997) := hR
  have HV0 : Hid (s.ask x k = true) := hV0
  have HGP : Hid (g.p < w.heap.size) := h.six.2.2
  have HX : Hid (W.heap[w.heap.size]? = some (.cells (M.cells (.slice A1 M.regs.length c1) (.slice A2 M.mem.length c2) (.slice A3 M.out.length c3)) 37 (0, 0)) ∧ W.heap[w.heap.size + 1]? = some (.cells zeroM 37 (0, 0)) ∧ OwnM W lo (.slice A1 M.regs.length c1) (.slice A2 M.mem.length c2) (.slice A3 M.out.length c3) M ∧ KpI lo w W) := by
    rw [hM]
    exact ⟨b0, b1, ho.below b2, KpI.of_below b2 h.lw⟩
  have HM : Hid (MayP M ∧ M.fin = 0 ∧ M.count = k ∧ M = s.m) := by rw [hM]; exact ⟨hm, hf, hc, rfl⟩
  have hcM : M.count = k := HM.out.2.2.1
  have HREL : Hid (RcRel k s cm due R ∧ WdMay x ∧ (0 ≤ k ∧ k < 3000)) := ⟨hr, hx, hk⟩
  have HA : Hid (Calls Tryz.prog 86 #[ptr g.p, .int .i64 k] W fun e w' => ∃ R' Bk cb cm', e = .returned (.tuple #[.bool (s.irq x k), .slice Bk (s.blk x k).length cb]) ∧ RcAt w' lo g iv zv x s.va cm' s.bl due R' ∧ DataOk w' lo (.slice Bk (s.blk x k).length cb) (s.blk x k) ∧ Bk.isNone = decide (s.due ≠ k) ∧ R'.map Prod.fst = s.evs ++ s.evI x k ++ s.evB x k ∧ R'.length ≤ R.length + 2 ∧ cm' = (if s.due = k then s.bl else cm) ∧ KpI lo W w') := ahead_rel g lo iv zv x s s.va cm s.bl due k R W (h.below b2) hr hx hk.1 hR
  have HBM : Hid (((s.blk x k).length = 0 ∨ (s.blk x k).length = 16) ∧ allB (s.blk x k) = true) := RecS.blk_may hx s k
  rw [← hM] at HW ⊢
  obtain ⟨⟨z0, z1, z2, z3, z4, z5, z6, z7, z8, z9, z10, z11⟩, zf, zl⟩ := twelve_cells HX.out.1
  clear hV0 h hr hx hR ho hm hf hc b0 b1 b2 hW
  obtain ⟨irq, hirq⟩ : ∃ irq, irq = s.irq x k := ⟨_, rfl⟩
  obtain ⟨blk, hblk⟩ : ∃ blk, blk = s.blk x k := ⟨_, rfl⟩
  rw [← hirq, ← hblk] at HA
  rw [← hblk] at HBM
  have HIB : Hid (irq = s.irq x k ∧ blk = s.blk x k) := ⟨hirq, hblk⟩
  clear hirq hblk hM
  simp only [Mach.cells, hcM] at HW z6 ⊢
  go_enter Tryz.func53, Tryz.ntmps53
  go_wp2_with fail
  rw [← HW.out]
  refine HA.out.mono ?_
  rintro e w1 ⟨R1, Bk, cb, cm1, rfl, g1, g2, g3, g4, g5, g6, g7⟩
  have H1 : Hid (RcAt w1 lo g iv zv x s.va cm1 s.bl due R1 ∧ DataOk w1 lo (.slice Bk blk.length cb) blk ∧ Bk.isNone = decide (s.due ≠ k) ∧ R1.map Prod.fst = s.evs ++ s.evI x k ++ s.evB x k ∧ R1.length ≤ R.length + 2 ∧ cm1 = (if s.due = k then s.bl else cm) ∧ KpI lo w w1) := ⟨g1, g2, g3, g4, g5, g6, HX.out.2.2.2.trans g7⟩
  have HB1 : Hid (w1.heap[w.heap.size]? = some (.cells (M.cells (.slice A1 M.regs.length c1) (.slice A2 M.mem.length c2) (.slice A3 M.out.length c3)) 37 (0, 0)) ∧ w1.heap[w.heap.size + 1]? = some (.cells zeroM 37 (0, 0)) ∧ OwnM w1 lo (.slice A1 M.regs.length c1) (.slice A2 M.mem.length c2) (.slice A3 M.out.length c3) M) := ⟨g7.kept _ _ _ mutM HX.out.1, g7.kept _ _ _ mutM HX.out.2.1, HX.out.2.2.1.kp g7⟩
  have HAS : Hid (Calls Tryz.prog 87 #[.agg (M.cells (.slice A1 M.regs.length c1) (.slice A2 M.mem.length c2) (.slice A3 M.out.length c3)), .bool irq, .slice Bk blk.length cb] w1 fun e w' => e = .returned (.bool (M.asks irq blk)) ∧ Below w1.heap.size w1 w') := by
    show Calls _ _ _ _ _
    have hl := HBM.out.1
    exact Asks_go M _ _ _ irq Bk cb blk w1 (HB1.out.2.2.at HM.out.1.fits) (g2.at g1.lw (by omega)) HM.out.1 HBM.out.2 HBM.out.1 (by have := HM.out.2.2.1; have := HREL.out.2.2; omega) HM.out.2.1
  simp only [Mach.cells, hcM] at HAS
  clear HA HX g1 g2 g3 g4 g5 g6 g7 z0 z1 z2 z3 z4 z5 z6 z7 z8 z9 z10 z11 zf zl
  obtain ⟨⟨z0, z1, z2, z3, z4, z5, z6, z7, z8, z9, z10, z11⟩, zf, zl⟩ := twelve_cells HB1.out.1
  rw [hcM] at z6
  obtain ⟨ask, hask⟩ : ∃ ask, ask = M.asks irq blk := ⟨_, rfl⟩
  rw [← hask] at HAS
  have HASK : Hid (ask = s.ask x k) := by
    show _ = _
    rw [hask, HIB.out.1, HIB.out.2, HM.out.2.2.2]
    rfl
  clear hask
  dsimp only
  go_wp2_with fail
  refine HAS.out.mono ?_
  rintro e w2 ⟨rfl, hb2⟩
  have hk2 : KpI lo w1 w2 := KpI.of_below hb2 H1.out.1.lw
  have H2 : Hid (RcAt w2 lo g iv zv x s.va cm1 s.bl due R1 ∧ DataOk w2 lo (.slice Bk blk.length cb) blk ∧ KpI lo w w2 ∧ w2.heap[w.heap.size]? = some (.cells (M.cells (.slice A1 M.regs.length c1) (.slice A2 M.mem.length c2) (.slice A3 M.out.length c3)) 37 (0, 0)) ∧ w2.heap[w.heap.size + 1]? = some (.cells zeroM 37 (0, 0)) ∧ OwnM w2 lo (.slice A1 M.regs.length c1) (.slice A2 M.mem.length c2) (.slice A3 M.out.length c3) M) := ⟨H1.out.1.below hb2, H1.out.2.1.kp hk2, H1.out.2.2.2.2.2.2.trans hk2, hk2.kept _ _ _ mutM HB1.out.1, hk2.kept _ _ _ mutM HB1.out.2.1, HB1.out.2.2.kp hk2⟩
  clear HAS HB1 hb2 hk2 z0 z1 z2 z3 z4 z5 z6 z7 z8 z9 z10 z11 zf zl
  obtain ⟨⟨z0, z1, z2, z3, z4, z5, z6, z7, z8, z9, z10, z11⟩, zf, zl⟩ := twelve_cells H2.out.2.2.2.1
  rw [hcM] at z6
  obtain ⟨⟨p0, p1, p2, p3, p4⟩, pf, pl⟩ := H2.out.1.six
  have hW3 : (M.want != -1) = false ∨ ((M.want != -1) = true ∧ Bk.isNone = true) ∨ ((M.want != -1) = true ∧ Bk.isNone = false) := by
    cases (M.want != -1) <;> cases Bk.isNone <;> simp
  obtain ⟨wt, hwt⟩ : ∃ wt, wt = ((M.want != -1) && Bk.isNone) := ⟨_, rfl⟩
  have HWT : Hid (wt = ((M.want != -1) && Bk.isNone)) := hwt
  obtain ⟨V, hVV⟩ : ∃ V, V = s.val x k := ⟨_, rfl⟩
  have HVV : Hid (V = s.val x k ∧ wordB V = true) := ⟨hVV, hVV ▸ RecS.val_may HREL.out.2.1 s k⟩
  obtain ⟨va1, hva⟩ : ∃ va1, va1 = if s.ask x k = true then s.va + 1 else s.va := ⟨_, rfl⟩
  obtain ⟨N, hN⟩ : ∃ N, N = s.then_ x k := ⟨_, rfl⟩
  have HN : Hid (N = s.then_ x k) := hN
  have HNM : Hid (-1 ≤ N.want ∧ N.count = k + 1) := by
    have hb := HBM.out
    rw [HIB.out.2] at hb
    have hm' : MayP (s.then_ x k) := (HM.out.2.2.2 ▸ HM.out.1).step (s.irq x k) hb.2 hb.1 (RecS.val_may HREL.out.2.1 s k) (by have := HM.out.2.2.1; have := HREL.out.2.2; rw [← HM.out.2.2.2]; omega)
    refine ⟨by rw [hN]; exact hm'.want.1, ?_⟩
    rw [hN]
    show (s.m.step _ _ _).1.count = _
    rw [step_going _ _ _ (by rw [← HM.out.2.2.2]; exact HM.out.2.1), ← HM.out.2.2.2, hcM]
  have HNEW : Hid (∀ b, ((N.want != -1) && !((M.want != -1) && Bk.isNone)) = b → s.new x k = b) := fun b e => by rw [new_is HM.out.2.2.2 hN HNM.out.1 H1.out.2.2.1, e]
  obtain ⟨d, hd⟩ : ∃ d, d = x.delays.getD s.bl 0 := ⟨_, rfl⟩
  have HD : Hid (d = x.delays.getD s.bl 0 ∧ 0 ≤ d ∧ d ≤ 3000) := ⟨hd, by rw [hd]; exact (HREL.out.2.1.delay s.bl).1, by rw [hd]; exact (HREL.out.2.1.delay s.bl).2⟩
  have hwr : IntKind.i64.wrap (N.count + d) = N.count + d := IntWalk.i64_in _ (by have := HNM.out.2; have := HD.out.2; have := HREL.out.2.2; omega)
  have HST : Hid (∀ w', MachAt w' (.slice A1 M.regs.length c1) (.slice A2 M.mem.length c2) (.slice A3 M.out.length c3) M → IntsAt w' (.slice Bk blk.length cb) blk → Calls Tryz.prog 48 #[.agg #[.slice A1 M.regs.length c1, .int .i64 M.pc, .int .i64 M.back, .bool M.ints, .bool M.wait, .int .i64 M.table, .int .i64 k, .int .i64 M.fin, .slice A2 M.mem.length c2, .slice A3 M.out.length c3, .int .i64 M.ready, .int .i64 M.want], .bool irq, .slice Bk blk.length cb, .int .i64 V] w' fun e w'' => ∃ rv' mv' ov', e = .returned (.tuple #[.agg (N.cells rv' mv' ov'), .int .i64 (M.step irq blk V).2, .int .i64 0]) ∧ OwnM w'' w'.heap.size rv' mv' ov' N ∧ Below w'.heap.size w' w'') := fun w' ha hi => by
    have e := Step_ok M _ _ _ irq Bk cb blk V w' ha hi HM.out.1 HBM.out.2 HBM.out.1 (by have := HM.out.2.2.1; have := HREL.out.2.2; omega) (stepNo_of HM.out.1 HBM.out.1 HBM.out.2 HVV.out.2 (by have := HM.out.2.2.1; have := HREL.out.2.2; omega))
    have eS : (M.step irq blk V).1 = N := by rw [hN, HIB.out.1, HIB.out.2, HM.out.2.2.2, HVV.out.1]; rfl
    rw [eS] at e
    simp only [Mach.cells, hcM] at e ⊢
    exact e
  have HVA : Hid (va1 = (s.next x k).va ∧ (s.ask x k = true → va1 = s.va + 1 ∧ V = x.values.getD s.va 0 ∧ s.evV x k = [⟨k, 3, [V]⟩]) ∧ (s.ask x k = false → va1 = s.va ∧ V = 0 ∧ s.evV x k = [])) := by
    refine ⟨hva, fun e => ⟨by rw [hva, if_pos e], by rw [hVV]; unfold RecS.val; rw [if_pos e], by rw [hVV]; unfold RecS.evV; rw [if_pos e]⟩, fun e => ?_⟩
    have e' : ¬ s.ask x k = true := by rw [e]; simp
    exact ⟨by rw [hva, if_neg e'], by rw [hVV]; unfold RecS.val; rw [if_neg e'], by unfold RecS.evV; rw [if_neg e']⟩
  clear hwt hVV hva hN hd
  obtain ⟨Tn, hTn⟩ : ∃ Tn, Tn = (M.step irq blk V).2 := ⟨_, rfl⟩
  rw [← hTn] at HST
  clear hTn
  have hV : ask = true := HASK.out.trans HV0.out
  have HV2 : Hid (s.ask x k = true) := by show _ = _; rw [← HASK.out, hV]
  obtain ⟨hva1, hV1, hev1⟩ := HVA.out.2.1 HV2.out
  rw [hV]
  clear hV
  dsimp only
  go_wp2_with fail
  refine (valueNext g lo iv zv x s.va cm1 s.bl due R1 w2 H2.out.1).mono ?_
  rw [← hV1, ← hva1]
  rintro e w3 ⟨rfl, f1, f2⟩
  have H3 : Hid (RcAt w3 lo g iv zv x va1 cm1 s.bl due R1 ∧ KpI lo w2 w3 ∧ s.evV x k = [⟨k, 3, [V]⟩]) := ⟨f1, f2, hev1⟩
  clear f1 f2 hV1 hva1 hev1 z0 z1 z2 z3 z4 z5 z6 z7 z8 z9 z10 z11 zf zl p0 p1 p2 p3 p4 pf pl
  go_wp2_with fail
  refine (note_any g lo iv zv x va1 cm1 s.bl due R1 k 3 _ 1 1 [V] _ (H3.out.1.below (below_alloc _ _)) (Or.inr (OwnI.madeOne H3.out.1.lw V)) (by have := H1.out.2.2.2.2.1; have := HRL.out; omega)).mono ?_
  rintro e w4 ⟨rfl, f1, f2⟩
  have f3 := H3.out.2.1.trans ((KpI.of_below (below_alloc w3 (.cells #[.int .i64 V] 3)) H3.out.1.lw).trans f2)
  obtain ⟨R4, hR4⟩ : ∃ R4, R4 = R1 ++ [((⟨k, 3, [V]⟩ : Ev), Value.slice (some ⟨w3.heap.size, 0, none⟩) 1 1)] := ⟨_, rfl⟩
  rw [← hR4] at f1
  have H4 : Hid (RcAt w4 lo g iv zv x va1 cm1 s.bl due R4 ∧ KpI lo w2 w4 ∧ R4.map Prod.fst = (s.next x k).evs ∧ R4.length ≤ R.length + 3) := ⟨f1, f3, by rw [hR4, List.map_append, H1.out.2.2.2.1]; show _ = s.evs ++ s.evI x k ++ s.evB x k ++ s.evV x k; rw [H3.out.2.2]; rfl, by rw [hR4]; simp; exact H1.out.2.2.2.2.1⟩
  clear f1 f2 f3 hR4 H3
  all_goals
    have H5 : Hid (w4.heap[w.heap.size]? = some (.cells (M.cells (.slice A1 M.regs.length c1) (.slice A2 M.mem.length c2) (.slice A3 M.out.length c3)) 37 (0, 0)) ∧ w4.heap[w.heap.size + 1]? = some (.cells zeroM 37 (0, 0)) ∧ OwnM w4 lo (.slice A1 M.regs.length c1) (.slice A2 M.mem.length c2) (.slice A3 M.out.length c3) M ∧ KpI lo w w4 ∧ DataOk w4 lo (.slice Bk blk.length cb) blk) := ⟨H4.out.2.1.kept _ _ _ mutM H2.out.2.2.2.1, H4.out.2.1.kept _ _ _ mutM H2.out.2.2.2.2.1, H2.out.2.2.2.2.2.kp H4.out.2.1, H2.out.2.2.1.trans H4.out.2.1, H2.out.2.1.kp H4.out.2.1⟩
    obtain ⟨⟨z0, z1, z2, z3, z4, z5, z6, z7, z8, z9, z10, z11⟩, zf, zl⟩ := twelve_cells H5.out.1
    rw [hcM] at z6
    rcases hW3 with hw3 | ⟨hw3, hb3⟩ | ⟨hw3, hb3⟩
  all_goals
    rcases (by cases (N.want != -1) <;> simp : (N.want != -1) = true ∨ (N.want != -1) = false) with hn5 | hn5
  all_goals
    try dsimp only
    go_wp2_with fail
    refine (HST.out w4 (H5.out.2.2.1.at HM.out.1.fits) (H5.out.2.2.2.2.at H4.out.1.lw (by have := HBM.out.1; omega))).mono ?_
    rintro e w5 ⟨rv', mv', ov', rfl, ho5, hb5⟩
    obtain ⟨D1, f1, D2, f2, D3, f3, rfl, rfl, rfl⟩ := ho5.shape
    have k5 := KpI.of_below hb5 H4.out.1.lw
    have H6 : Hid (RcAt w5 lo g iv zv x va1 cm1 s.bl due R4 ∧ OwnM w5 lo (.slice D1 N.regs.length f1) (.slice D2 N.mem.length f2) (.slice D3 N.out.length f3) N ∧ KpI lo w w5 ∧ w5.heap[w.heap.size]? = some (.cells (M.cells (.slice A1 M.regs.length c1) (.slice A2 M.mem.length c2) (.slice A3 M.out.length c3)) 37 (0, 0)) ∧ w5.heap[w.heap.size + 1]? = some (.cells zeroM 37 (0, 0))) := ⟨H4.out.1.below hb5, ho5.mono H4.out.1.lw, H5.out.2.2.2.1.trans k5, k5.kept _ _ _ mutM H5.out.1, k5.kept _ _ _ mutM H5.out.2.1⟩
    clear ho5 hb5 k5 HST z0 z1 z2 z3 z4 z5 z6 z7 z8 z9 z10 z11 zf zl
    obtain ⟨⟨z0, z1, z2, z3, z4, z5, z6, z7, z8, z9, z10, z11⟩, zf, zl⟩ := twelve_cells H6.out.2.2.2.1
    obtain ⟨⟨y0, y1, y2, y3, y4, y5, y6, y7, y8, y9, y10, y11⟩, yf, yl⟩ := twelve_cells H6.out.2.2.2.2
    obtain ⟨⟨p0, p1, p2, p3, p4⟩, pf, pl⟩ := H6.out.1.six
    rw [hcM] at z6
    simp only [Mach.cells]
    go_wp2_with fail
    have h7 := one12 H6.out.1 H6.out.2.1 H6.out.2.2.1 HLO.out (Nat.le_refl _) ⟨_, H6.out.2.2.2.1⟩ (.slice D1 N.regs.length f1) (.int .i64 N.pc) (.int .i64 N.back) (.bool N.ints) (.bool N.wait) (.int .i64 N.table) (.int .i64 N.count) (.int .i64 N.fin) (.slice D2 N.mem.length f2) (.slice D3 N.out.length f3) (.int .i64 N.ready) (.int .i64 N.want)
    have hx7 := box_set12 H6.out.2.2.2.1 rfl (.slice D1 N.regs.length f1) (.int .i64 N.pc) (.int .i64 N.back) (.bool N.ints) (.bool N.wait) (.int .i64 N.table) (.int .i64 N.count) (.int .i64 N.fin) (.slice D2 N.mem.length f2) (.slice D3 N.out.length f3) (.int .i64 N.ready) (.int .i64 N.want)
    have hy7 := (heap_set12 (w := w5) (b := w.heap.size + 1) (c := w.heap.size) (by omega) (.slice D1 N.regs.length f1) (.int .i64 N.pc) (.int .i64 N.back) (.bool N.ints) (.bool N.wait) (.int .i64 N.table) (.int .i64 N.count) (.int .i64 N.fin) (.slice D2 N.mem.length f2) (.slice D3 N.out.length f3) (.int .i64 N.ready) (.int .i64 N.want)).trans H6.out.2.2.2.2
    obtain ⟨W6, hW6⟩ : ∃ W6, W6 = set12 w5 w.heap.size (.slice D1 N.regs.length f1) (.int .i64 N.pc) (.int .i64 N.back) (.bool N.ints) (.bool N.wait) (.int .i64 N.table) (.int .i64 N.count) (.int .i64 N.fin) (.slice D2 N.mem.length f2) (.slice D3 N.out.length f3) (.int .i64 N.ready) (.int .i64 N.want) := ⟨_, rfl⟩
    have hW6' : W6 = (((((((((((w5.setCell ⟨w.heap.size, 0, none⟩ (.slice D1 N.regs.length f1)).setCell ⟨w.heap.size, 1, none⟩ (.int .i64 N.pc)).setCell ⟨w.heap.size, 2, none⟩ (.int .i64 N.back)).setCell ⟨w.heap.size, 3, none⟩ (.bool N.ints)).setCell ⟨w.heap.size, 4, none⟩ (.bool N.wait)).setCell ⟨w.heap.size, 5, none⟩ (.int .i64 N.table)).setCell ⟨w.heap.size, 6, none⟩ (.int .i64 N.count)).setCell ⟨w.heap.size, 7, none⟩ (.int .i64 N.fin)).setCell ⟨w.heap.size, 8, none⟩ (.slice D2 N.mem.length f2)).setCell ⟨w.heap.size, 9, none⟩ (.slice D3 N.out.length f3)).setCell ⟨w.heap.size, 10, none⟩ (.int .i64 N.ready)).setCell ⟨w.heap.size, 11, none⟩ (.int .i64 N.want) := hW6
    rw [← hW6] at h7 hy7
    rw [← hW6'] at hx7
    have H7 : Hid (RcAt W6 lo g iv zv x va1 cm1 s.bl due R4 ∧ OwnM W6 lo (.slice D1 N.regs.length f1) (.slice D2 N.mem.length f2) (.slice D3 N.out.length f3) N ∧ KpI lo w W6 ∧ W6.heap[w.heap.size]? = some (.cells #[.slice D1 N.regs.length f1, .int .i64 N.pc, .int .i64 N.back, .bool N.ints, .bool N.wait, .int .i64 N.table, .int .i64 N.count, .int .i64 N.fin, .slice D2 N.mem.length f2, .slice D3 N.out.length f3, .int .i64 N.ready, .int .i64 N.want] 37 (0, 0)) ∧ W6.heap[w.heap.size + 1]? = some (.cells zeroM 37 (0, 0))) := ⟨h7.1, h7.2.1, h7.2.2, hx7, hy7⟩
    rw [← hW6']
    clear h7 hx7 hy7 hW6 hW6' H6 z0 z1 z2 z3 z4 z5 z6 z7 z8 z9 z10 z11 zf zl p0 p1 p2 p3 p4 pf pl y0 y1 y2 y3 y4 y5 y6 y7 y8 y9 y10 y11 yf yl
    obtain ⟨⟨z0, z1, z2, z3, z4, z5, z6, z7, z8, z9, z10, z11⟩, zf, zl⟩ := twelve_cells H7.out.2.2.2.1
    obtain ⟨⟨y0, y1, y2, y3, y4, y5, y6, y7, y8, y9, y10, y11⟩, yf, yl⟩ := twelve_cells H7.out.2.2.2.2
    obtain ⟨⟨p0, p1, p2, p3, p4⟩, pf, pl⟩ := H7.out.1.six
    first
      | refine bodyPost_ret (v := .tuple #[.agg #[.slice D1 N.regs.length f1, .int .i64 N.pc, .int .i64 N.back, .bool N.ints, .bool N.wait, .int .i64 N.table, .int .i64 N.count, .int .i64 N.fin, .slice D2 N.mem.length f2, .slice D3 N.out.length f3, .int .i64 N.ready, .int .i64 N.want], .int .i64 0]) (by simp [results, Tryz.results53, go_sem, y0, y1, y2, y3, y4, y5, y6, y7, y8, y9, y10, y11]) rfl ?_
        have hnew := HNEW.out false (by first | (rw [hn5]; rfl) | (rw [hn5, hw3, hb3]; rfl))
        have h8 := one12 H7.out.1 H7.out.2.1 H7.out.2.2.1 HLO.out (Nat.le_succ _) ⟨_, H7.out.2.2.2.2⟩ (.slice D1 N.regs.length f1) (.int .i64 N.pc) (.int .i64 N.back) (.bool N.ints) (.bool N.wait) (.int .i64 N.table) (.int .i64 N.count) (.int .i64 N.fin) (.slice D2 N.mem.length f2) (.slice D3 N.out.length f3) (.int .i64 N.ready) (.int .i64 N.want)
        exact RStepQ.mk HN.out HVA.out.1 (by show s.bl = if s.new x k = true then _ else _; rw [hnew]; rfl) h8.1 h8.2.1 h8.2.2 (HREL.out.1.next HREL.out.2.1 (HM.out.2.2.2 ▸ HM.out.1) (HM.out.2.2.2 ▸ HM.out.2.1) (HM.out.2.2.2 ▸ hcM) HREL.out.2.2 H1.out.2.2.2.2.2.1 rfl (by rw [hnew]; rfl) H4.out.2.2.1) H4.out.2.2.2
      | skip
  all_goals
    clear y0 y1 y2 y3 y4 y5 y6 y7 y8 y9 y10 y11 yf yl
    have hnew := HNEW.out true (by first | (rw [hn5, hw3]; rfl) | (rw [hn5, hw3, hb3]; rfl))
    have HDL : Hid (∀ w', RcAt w' lo g iv zv x va1 cm1 s.bl due R4 → Calls Tryz.prog 122 #[.pointer (some ⟨g.pd, 0, none⟩), .pointer (some ⟨g.qd, 0, none⟩)] w' fun e w'' => e = .returned (.int .i64 d) ∧ RcAt w'' lo g iv zv x va1 cm1 (s.bl + 1) due R4 ∧ KpI lo w' w'') := fun w' h' => by
      have e := delayNext g lo iv zv x va1 cm1 s.bl due R4 w' h'
      rw [← HD.out.1] at e
      exact e
    have HNEW2 : Hid (s.new x k = true) := hnew
    have hne1 : ¬ g.p = w.heap.size := by have := HGP.out; omega
    have hne2 : ¬ w.heap.size = g.p := by have := HGP.out; omega
    clear hnew
    go_region_law (go_simp; go_at_call 122; refine (HDL.out _ (H7.out.1.below ((Below.refl _ W6).drew))).mono ?_; rintro e w7 ⟨rfl, t1, t2⟩; have H8 : Hid (RcAt w7 lo g iv zv x va1 cm1 (s.bl + 1) due R4 ∧ OwnM w7 lo (.slice D1 N.regs.length f1) (.slice D2 N.mem.length f2) (.slice D3 N.out.length f3) N ∧ KpI lo w w7 ∧ w7.heap[w.heap.size]? = some (.cells #[.slice D1 N.regs.length f1, .int .i64 N.pc, .int .i64 N.back, .bool N.ints, .bool N.wait, .int .i64 N.table, .int .i64 N.count, .int .i64 N.fin, .slice D2 N.mem.length f2, .slice D3 N.out.length f3, .int .i64 N.ready, .int .i64 N.want] 37 (0, 0)) ∧ w7.heap[w.heap.size + 1]? = some (.cells zeroM 37 (0, 0))) := ⟨t1, (H7.out.2.1.below ((Below.refl _ W6).drew)).kp t2, H7.out.2.2.1.trans ((KpI.of_below ((Below.refl _ W6).drew) H7.out.1.lw).trans t2), t2.kept _ _ _ mutM H7.out.2.2.2.1, t2.kept _ _ _ mutM H7.out.2.2.2.2⟩; clear t1 t2 z0 z1 z2 z3 z4 z5 z6 z7 z8 z9 z10 z11 zf zl p0 p1 p2 p3 p4 pf pl; obtain ⟨⟨z0, z1, z2, z3, z4, z5, z6, z7, z8, z9, z10, z11⟩, zf, zl⟩ := twelve_cells H8.out.2.2.2.1; obtain ⟨⟨p0, p1, p2, p3, p4⟩, pf, pl⟩ := H8.out.1.six)
  all_goals
    have h9 := H8.out.1.setDue (N.count + d)
    have hB9 := But.set w7 H8.out.1.le.1 4 (.int .i64 (N.count + d))
    obtain ⟨w8, hw8⟩ : ∃ w8, w8 = w7.setCell ⟨g.p, 4, none⟩ (.int .i64 (N.count + d)) := ⟨_, rfl⟩
    rw [← hw8] at h9 hB9 ⊢
    have H9 : Hid (RcAt w8 lo g iv zv x va1 cm1 (s.bl + 1) (N.count + d) R4 ∧ OwnM w8 lo (.slice D1 N.regs.length f1) (.slice D2 N.mem.length f2) (.slice D3 N.out.length f3) N ∧ KpI lo w w8 ∧ w8.heap[w.heap.size]? = some (.cells #[.slice D1 N.regs.length f1, .int .i64 N.pc, .int .i64 N.back, .bool N.ints, .bool N.wait, .int .i64 N.table, .int .i64 N.count, .int .i64 N.fin, .slice D2 N.mem.length f2, .slice D3 N.out.length f3, .int .i64 N.ready, .int .i64 N.want] 37 (0, 0)) ∧ w8.heap[w.heap.size + 1]? = some (.cells zeroM 37 (0, 0))) := ⟨h9.1, H8.out.2.1.kp h9.2, H8.out.2.2.1.trans h9.2, h9.2.kept _ _ _ mutM H8.out.2.2.2.1, h9.2.kept _ _ _ mutM H8.out.2.2.2.2⟩
    clear h9 hB9 hw8 z0 z1 z2 z3 z4 z5 z6 z7 z8 z9 z10 z11 zf zl p0 p1 p2 p3 p4 pf pl
    obtain ⟨⟨z0, z1, z2, z3, z4, z5, z6, z7, z8, z9, z10, z11⟩, zf, zl⟩ := twelve_cells H9.out.2.2.2.1
    obtain ⟨⟨y0, y1, y2, y3, y4, y5, y6, y7, y8, y9, y10, y11⟩, yf, yl⟩ := twelve_cells H9.out.2.2.2.2
    go_wp2_with fail
    refine bodyPost_ret (v := .tuple #[.agg #[.slice D1 N.regs.length f1, .int .i64 N.pc, .int .i64 N.back, .bool N.ints, .bool N.wait, .int .i64 N.table, .int .i64 N.count, .int .i64 N.fin, .slice D2 N.mem.length f2, .slice D3 N.out.length f3, .int .i64 N.ready, .int .i64 N.want], .int .i64 0]) (by simp [results, Tryz.results53, go_sem, y0, y1, y2, y3, y4, y5, y6, y7, y8, y9, y10, y11]) rfl ?_
    have h10 := one12 H9.out.1 H9.out.2.1 H9.out.2.2.1 HLO.out (Nat.le_succ _) ⟨_, H9.out.2.2.2.2⟩ (.slice D1 N.regs.length f1) (.int .i64 N.pc) (.int .i64 N.back) (.bool N.ints) (.bool N.wait) (.int .i64 N.table) (.int .i64 N.count) (.int .i64 N.fin) (.slice D2 N.mem.length f2) (.slice D3 N.out.length f3) (.int .i64 N.ready) (.int .i64 N.want)
    exact RStepQ.mk HN.out HVA.out.1 (by show s.bl + 1 = if s.new x k = true then _ else _; rw [HNEW2.out]; rfl) h10.1 h10.2.1 h10.2.2 (HREL.out.1.next HREL.out.2.1 (HM.out.2.2.2 ▸ HM.out.1) (HM.out.2.2.2 ▸ HM.out.2.1) (HM.out.2.2.2 ▸ hcM) HREL.out.2.2 H1.out.2.2.2.2.2.1 rfl (by rw [HNEW2.out, HNM.out.2, HD.out.1]; rfl) H4.out.2.2.1) H4.out.2.2.2

end Go.Proofs.YtecpblabaelopaaGreatDoor
