/- A region that draws its order: two operations that only look, side by side. -/
import Derived.Test.YtlcdefpdahjjeafBase
import Derived.Still
import Derived.OrdersHeld
import Derived.Deep.RegionHeld3
import Derived.Test.YtlcdefpdahjjeafPlE
import Derived.Deep.MidRow
namespace Go.Proofs.Ytlcdefpdahjjeaf
open Go.RowKit

theorem wpAnyH_two {P : Program} {md : Region.Mode} {ops : Array Oper} {Q : Exit → Act → World → Prop} {S : World → Prop} {i j : Nat} {oi oj : Oper} {vi vj : Value} {fuel : Nat} {listed : Array Bool} {a : Act} {w : World}
    (hi : ops[i]? = some oi) (hj : ops[j]? = some oj) (hs : Region.noSelect ops = true) (hij : i ≠ j) (hap : oi.apart ops oj = true)
    (hr : Region.ready md ops listed = [i, j]) (hri : Region.ready md ops (listed.setIfInBounds i true) = [j]) (hrj : Region.ready md ops (listed.setIfInBounds j true) = [i])
    (hS : S w) (hyi : YieldsAt P ops w oi vi a) (hyj : YieldsAt P ops w oj vj a)
    (H : wpAnyH P md ops Q S fuel ((listed.setIfInBounds i true).setIfInBounds j true) ((a.put oi.dst vi).put oj.dst vj) w) : wpAnyH P md ops Q S (fuel + 2) listed a w := by
  obtain ⟨h1, h2, h3⟩ := Oper.apart_spec hap
  have hsi : ∀ cs b, oi.op ≠ .select cs b := fun cs b => Region.noSelect_spec hs i oi cs b hi
  have hsj : ∀ cs b, oj.op ≠ .select cs b := fun cs b => Region.noSelect_spec hs j oj cs b hj
  have ki : YieldsAt P ops w oi vi (a.put oj.dst vj) := hyi.of_same (execOp_put oi hsi a oj.dst vj h3) (wanted_put oi a oj.dst vj h3)
  have kj : YieldsAt P ops w oj vj (a.put oi.dst vi) := hyj.of_same (execOp_put oj hsj a oi.dst vi h1) (wanted_put oj a oi.dst vi h1)
  refine wpAnyH_all hr (by simp) fun k hk => ?_
  have hk' : k = i ∨ k = j := by simpa using hk
  rcases hk' with rfl | rfl
  · refine wpOp_of_stOp (K := fun a' => a' = a.put oi.dst vi) (fun a' e => ?_) (hyi.stOp hi rfl)
    subst e
    refine ⟨hS, wpAnyH_all hri (by simp) fun m hm => ?_⟩
    have hm' : m = j := by simpa using hm
    subst hm'
    refine wpOp_of_stOp (K := fun a' => a' = (a.put oi.dst vi).put oj.dst vj) (fun a' e => ?_) (kj.stOp hj rfl)
    subst e
    exact ⟨hS, H⟩
  · refine wpOp_of_stOp (K := fun a' => a' = a.put oj.dst vj) (fun a' e => ?_) (hyj.stOp hj rfl)
    subst e
    refine ⟨hS, wpAnyH_all hrj (by simp) fun m hm => ?_⟩
    have hm' : m = i := by simpa using hm
    subst hm'
    refine wpOp_of_stOp (K := fun a' => a' = (a.put oj.dst vj).put oi.dst vi) (fun a' e => ?_) (ki.stOp hi rfl)
    subst e
    refine ⟨hS, ?_⟩
    rw [Array.setIfInBounds_comm _ _ (Ne.symm hij), ← Act.put_comm a vi vj h2]
    exact H

theorem op_at0 {o0 : Oper} {l : List Oper} : (List.toArray (o0 :: l))[0]? = some o0 := rfl
theorem op_at1 {o0 o1 : Oper} {l : List Oper} : (List.toArray (o0 :: o1 :: l))[1]? = some o1 := rfl
theorem op_at2 {o0 o1 o2 : Oper} {l : List Oper} : (List.toArray (o0 :: o1 :: o2 :: l))[2]? = some o2 := rfl
theorem op_at3 {o0 o1 o2 o3 : Oper} {l : List Oper} : (List.toArray (o0 :: o1 :: o2 :: o3 :: l))[3]? = some o3 := rfl
theorem op_at4 {o0 o1 o2 o3 o4 : Oper} {l : List Oper} : (List.toArray (o0 :: o1 :: o2 :: o3 :: o4 :: l))[4]? = some o4 := rfl
theorem op_at5 {o0 o1 o2 o3 o4 o5 : Oper} {l : List Oper} : (List.toArray (o0 :: o1 :: o2 :: o3 :: o4 :: o5 :: l))[5]? = some o5 := rfl
theorem op_at6 {o0 o1 o2 o3 o4 o5 o6 : Oper} {l : List Oper} : (List.toArray (o0 :: o1 :: o2 :: o3 :: o4 :: o5 :: o6 :: l))[6]? = some o6 := rfl
theorem op_at7 {o0 o1 o2 o3 o4 o5 o6 o7 : Oper} {l : List Oper} : (List.toArray (o0 :: o1 :: o2 :: o3 :: o4 :: o5 :: o6 :: o7 :: l))[7]? = some o7 := rfl
theorem op_at8 {o0 o1 o2 o3 o4 o5 o6 o7 o8 : Oper} {l : List Oper} : (List.toArray (o0 :: o1 :: o2 :: o3 :: o4 :: o5 :: o6 :: o7 :: o8 :: l))[8]? = some o8 := rfl
theorem op_at9 {o0 o1 o2 o3 o4 o5 o6 o7 o8 o9 : Oper} {l : List Oper} : (List.toArray (o0 :: o1 :: o2 :: o3 :: o4 :: o5 :: o6 :: o7 :: o8 :: o9 :: l))[9]? = some o9 := rfl
theorem op_at10 {o0 o1 o2 o3 o4 o5 o6 o7 o8 o9 o10 : Oper} {l : List Oper} : (List.toArray (o0 :: o1 :: o2 :: o3 :: o4 :: o5 :: o6 :: o7 :: o8 :: o9 :: o10 :: l))[10]? = some o10 := rfl
theorem op_at11 {o0 o1 o2 o3 o4 o5 o6 o7 o8 o9 o10 o11 : Oper} {l : List Oper} : (List.toArray (o0 :: o1 :: o2 :: o3 :: o4 :: o5 :: o6 :: o7 :: o8 :: o9 :: o10 :: o11 :: l))[11]? = some o11 := rfl
theorem op_at12 {o0 o1 o2 o3 o4 o5 o6 o7 o8 o9 o10 o11 o12 : Oper} {l : List Oper} : (List.toArray (o0 :: o1 :: o2 :: o3 :: o4 :: o5 :: o6 :: o7 :: o8 :: o9 :: o10 :: o11 :: o12 :: l))[12]? = some o12 := rfl
theorem op_at13 {o0 o1 o2 o3 o4 o5 o6 o7 o8 o9 o10 o11 o12 o13 : Oper} {l : List Oper} : (List.toArray (o0 :: o1 :: o2 :: o3 :: o4 :: o5 :: o6 :: o7 :: o8 :: o9 :: o10 :: o11 :: o12 :: o13 :: l))[13]? = some o13 := rfl
theorem op_at14 {o0 o1 o2 o3 o4 o5 o6 o7 o8 o9 o10 o11 o12 o13 o14 : Oper} {l : List Oper} : (List.toArray (o0 :: o1 :: o2 :: o3 :: o4 :: o5 :: o6 :: o7 :: o8 :: o9 :: o10 :: o11 :: o12 :: o13 :: o14 :: l))[14]? = some o14 := rfl
theorem op_at15 {o0 o1 o2 o3 o4 o5 o6 o7 o8 o9 o10 o11 o12 o13 o14 o15 : Oper} {l : List Oper} : (List.toArray (o0 :: o1 :: o2 :: o3 :: o4 :: o5 :: o6 :: o7 :: o8 :: o9 :: o10 :: o11 :: o12 :: o13 :: o14 :: o15 :: l))[15]? = some o15 := rfl
theorem op_at16 {o0 o1 o2 o3 o4 o5 o6 o7 o8 o9 o10 o11 o12 o13 o14 o15 o16 : Oper} {l : List Oper} : (List.toArray (o0 :: o1 :: o2 :: o3 :: o4 :: o5 :: o6 :: o7 :: o8 :: o9 :: o10 :: o11 :: o12 :: o13 :: o14 :: o15 :: o16 :: l))[16]? = some o16 := rfl
theorem op_at17 {o0 o1 o2 o3 o4 o5 o6 o7 o8 o9 o10 o11 o12 o13 o14 o15 o16 o17 : Oper} {l : List Oper} : (List.toArray (o0 :: o1 :: o2 :: o3 :: o4 :: o5 :: o6 :: o7 :: o8 :: o9 :: o10 :: o11 :: o12 :: o13 :: o14 :: o15 :: o16 :: o17 :: l))[17]? = some o17 := rfl
theorem op_at18 {o0 o1 o2 o3 o4 o5 o6 o7 o8 o9 o10 o11 o12 o13 o14 o15 o16 o17 o18 : Oper} {l : List Oper} : (List.toArray (o0 :: o1 :: o2 :: o3 :: o4 :: o5 :: o6 :: o7 :: o8 :: o9 :: o10 :: o11 :: o12 :: o13 :: o14 :: o15 :: o16 :: o17 :: o18 :: l))[18]? = some o18 := rfl
theorem op_at19 {o0 o1 o2 o3 o4 o5 o6 o7 o8 o9 o10 o11 o12 o13 o14 o15 o16 o17 o18 o19 : Oper} {l : List Oper} : (List.toArray (o0 :: o1 :: o2 :: o3 :: o4 :: o5 :: o6 :: o7 :: o8 :: o9 :: o10 :: o11 :: o12 :: o13 :: o14 :: o15 :: o16 :: o17 :: o18 :: o19 :: l))[19]? = some o19 := rfl
theorem op_at20 {o0 o1 o2 o3 o4 o5 o6 o7 o8 o9 o10 o11 o12 o13 o14 o15 o16 o17 o18 o19 o20 : Oper} {l : List Oper} : (List.toArray (o0 :: o1 :: o2 :: o3 :: o4 :: o5 :: o6 :: o7 :: o8 :: o9 :: o10 :: o11 :: o12 :: o13 :: o14 :: o15 :: o16 :: o17 :: o18 :: o19 :: o20 :: l))[20]? = some o20 := rfl
theorem op_at21 {o0 o1 o2 o3 o4 o5 o6 o7 o8 o9 o10 o11 o12 o13 o14 o15 o16 o17 o18 o19 o20 o21 : Oper} {l : List Oper} : (List.toArray (o0 :: o1 :: o2 :: o3 :: o4 :: o5 :: o6 :: o7 :: o8 :: o9 :: o10 :: o11 :: o12 :: o13 :: o14 :: o15 :: o16 :: o17 :: o18 :: o19 :: o20 :: o21 :: l))[21]? = some o21 := rfl
theorem op_at22 {o0 o1 o2 o3 o4 o5 o6 o7 o8 o9 o10 o11 o12 o13 o14 o15 o16 o17 o18 o19 o20 o21 o22 : Oper} {l : List Oper} : (List.toArray (o0 :: o1 :: o2 :: o3 :: o4 :: o5 :: o6 :: o7 :: o8 :: o9 :: o10 :: o11 :: o12 :: o13 :: o14 :: o15 :: o16 :: o17 :: o18 :: o19 :: o20 :: o21 :: o22 :: l))[22]? = some o22 := rfl
theorem op_at23 {o0 o1 o2 o3 o4 o5 o6 o7 o8 o9 o10 o11 o12 o13 o14 o15 o16 o17 o18 o19 o20 o21 o22 o23 : Oper} {l : List Oper} : (List.toArray (o0 :: o1 :: o2 :: o3 :: o4 :: o5 :: o6 :: o7 :: o8 :: o9 :: o10 :: o11 :: o12 :: o13 :: o14 :: o15 :: o16 :: o17 :: o18 :: o19 :: o20 :: o21 :: o22 :: o23 :: l))[23]? = some o23 := rfl

end Go.Proofs.Ytlcdefpdahjjeaf

/- space.Play: what is told in the end. (Written by tools/gen_pl.py.) -/

namespace Go.Proofs.Ytlcdefpdahjjeaf
open Go.RowKit

theorem ranges32 {W : World} {bo : Nat} {s t : List Int} {ty : TypeId} (h : W.heap[bo]? = some (.cells (pgc (s ++ t)) ty (0, 0))) (hs : s.length = 16) : W.rangeAt bo 0 (s.map (Value.int .i64)) ∧ W.rangeAt bo 16 (t.map (Value.int .i64)) := by
  refine ⟨fun j v hv => ?_, fun j v hv => ?_⟩
  · have hj : j < s.length := by
      by_cases hh : j < s.length
      · exact hh
      · simp [List.getElem?_eq_none (show s.length ≤ j by omega)] at hv
    simp [hj] at hv
    simp [World.cell?, h, pgc, List.getElem?_append, hj, hv]
  · have hj : j < t.length := by
      by_cases hh : j < t.length
      · exact hh
      · simp [List.getElem?_eq_none (show t.length ≤ j by omega)] at hv
    simp [hj] at hv
    simp [World.cell?, h, pgc, hs, hj, hv]

set_option maxRecDepth 100000 in
set_option maxHeartbeats 4000000 in
theorem pl9 (c0 c1 c2 c3 c4 c5 c6 c7 c8 c9 c11 c12 c13 c14 c15 c17 c18 c19 c20 c21 c22 c23 c24 c25 c26 c27 c28 c29 c30 c31 c32 c33 c34 c35 c36 c37 c38 c39 c40 c41 c42 c43 c44 c45 c46 c47 c48 c49 c50 c51 c52 c53 c54 c55 c56 c57 c58 c59 c60 c61 c62 c63 c64 c65 c66 c67 c68 c69 c70 c71 c72 c73 c74 c75 c76 c77 c78 c79 c80 c81 c82 c83 c84 c85 c86 c87 c88 c89 c90 c91 c92 c93 c94 c95 c96 c97 c98 c99 c100 : Value) (bf bo n : Nat) (A B : Option Addr) (c c' : Nat) (D : List (List Int)) (R s t : List Int) (S : PS) (PP : List Int × List Int × Int × Int) (w W : World) 
    (h : Pl2 w W bf bo (.slice A D.length c) (.slice B R.length c') s t D R) (hr : Rel n D R s t S) (hP : PP = (S.a, S.b, S.kn, 0)) :
    Code.wp Try.prog (rst 9 (Try.f6.body.getD .skip)) (bodyPost Try.prog Try.f6 (fun e w' => PlayPost w PP e w')) ⟨#[c0, c1, c2, c3, c4, c5, c6, c7, c8, c9, .pointer (some ⟨bf, 0, none⟩), c11, c12, c13, c14, c15, .pointer (some ⟨bo, 0, none⟩), c17, c18, c19, c20, c21, c22, c23, c24, c25, c26, c27, c28, c29, c30, c31, c32, c33, c34, c35, c36, c37, c38, c39, c40, c41, c42, c43, c44, c45, c46, c47, c48, c49, c50, c51, c52, c53, c54, c55, c56, c57, c58, c59, c60, c61, c62, c63, c64, c65, c66, c67, c68, c69, c70, c71, c72, c73, c74, c75, c76, c77, c78, c79, c80, c81, c82, c83, c84, c85, c86, c87, c88, c89, c90, c91, c92, c93, c94, c95, c96, c97, c98, c99, c100], []⟩ W := by
  conv => arg 2; whnf
  obtain ⟨lq, hlq⟩ : ∃ lq, lq = s.map (Value.int .i64) := ⟨_, rfl⟩
  obtain ⟨lt, hlt⟩ : ∃ lt, lt = t.map (Value.int .i64) := ⟨_, rfl⟩
  have hu : Try.prog.underlying 48 = some (.array 16 3) := by kernel_rfl
  have hi1 : (Try.prog.info? 48).map (·.size) = some lq.length := by rw [hlq, List.length_map, hr.ls]; kernel_rfl
  have hi2 : (Try.prog.info? 48).map (·.size) = some lt.length := by rw [hlt, List.length_map, hr.lt]; kernel_rfl
  have HRG : Hid (∀ X, Below W.heap.size W X → X.rangeAt bo 0 lq ∧ X.rangeAt bo 16 lt) := fun X hX => by
    rw [hlq, hlt]
    exact ranges32 (h.below hX).ob hr.ls
  have HW1 : Hid (∀ X, Below W.heap.size W X → Calls Try.prog 19 #[.agg #[.slice A D.length c, .slice B R.length c'], .agg lq.toArray] X fun e w' => ∃ g k, e = .returned (.slice (some ⟨g, 0, none⟩) 256 k) ∧ IntsLo X.heap.size w' (.slice (some ⟨g, 0, none⟩) 256 k) S.a ∧ Below X.heap.size X w') := fun X hX => by
    have := words_pages A B c R.length c' D s S.a X (h.rows.at.below hX) hr.ls hr.la (fun p hp => by
      by_cases h1 : s.getD p 0 = -1
      · exact Or.inl h1
      · obtain ⟨j, h2, _, h3, h4, _⟩ := hr.known hp h1
        exact Or.inr ⟨j, h2, by have := hr.len; have := hr.may.1; omega, h4⟩) hr.wa
    rw [hr.la] at this
    rw [hlq]
    exact this
  have HW2 : Hid (∀ X, Below W.heap.size W X → Calls Try.prog 19 #[.agg #[.slice A D.length c, .slice B R.length c'], .agg lt.toArray] X fun e w' => ∃ g k, e = .returned (.slice (some ⟨g, 0, none⟩) 256 k) ∧ IntsLo X.heap.size w' (.slice (some ⟨g, 0, none⟩) 256 k) S.b ∧ Below X.heap.size X w') := fun X hX => by
    have := words_pages A B c R.length c' D t S.b X (h.rows.at.below hX) hr.lt hr.lb (fun p hp => by
      by_cases h1 : t.getD p 0 = -1
      · exact Or.inl h1
      · obtain ⟨j, h2, _, h3, h4, _⟩ := hr.swap.known hp h1
        exact Or.inr ⟨j, h2, by have := hr.len; have := hr.may.1; omega, h4⟩) hr.wb
    rw [hr.lb] at this
    rw [hlt]
    exact this
  have HKN : Hid (∀ X, Below W.heap.size W X → Calls Try.prog 20 #[.agg #[.slice A D.length c, .slice B R.length c']] X fun e w' => e = .returned (.int .i64 S.kn) ∧ Below X.heap.size X w') := fun X hX => by
    have := known_any (.slice A D.length c) (.slice B R.length c') R X (h.ints.at.below hX) (fun i hi => (hr.may.2.2 i hi).1) ⟨_, _, _, rfl⟩
    rw [← hr.kn] at this
    exact this
  have HI : Hid (Pl2 w W bf bo (.slice A D.length c) (.slice B R.length c') s t D R) := h
  have HPP : Hid (PP = (S.a, S.b, S.kn, 0)) := hP
  obtain ⟨f0, f1, ff, fl⟩ := two_cells h.fb
  obtain ⟨z0, z1⟩ := HRG.out W.drew ((Below.refl _ W).drew)
  clear h hr hP hlq hlt
  go_upto_region 24 with fail
  refine wp_region_held_drew (S := fun w' => w'.cell? ⟨bf, 0, none⟩ = some (.slice A D.length c) ∧ w'.cell? ⟨bf, 1, none⟩ = some (.slice B R.length c') ∧ w'.rangeAt bo 0 lq ∧ w'.rangeAt bo 16 lt) (by kernel_rfl) ⟨f0, f1, z0, z1⟩ (fun hHeld => ?_)
  refine wpAnyH_take (i := 0) (v := ?v0) op_at0 (by kernel_rfl) (by kernel_rfl) (by kernel_rfl) (fun _ _ _ h => h) (Or.inl ⟨by rfl, ?y0⟩) hHeld ?r0
  case y0 => (intro w hSw; (try dsimp only at hSw); go_simp; (try with_reducible rfl))
  (try simp only [Act.put, List.setIfInBounds_toArray, List.set_cons_zero, List.set_cons_succ])
  refine wpAnyH_take (i := 1) (v := ?v1) op_at1 (by kernel_rfl) (by kernel_rfl) (by kernel_rfl) (fun _ _ _ h => h) (Or.inl ⟨by rfl, ?y1⟩) hHeld ?r1
  case y1 => (intro w hSw; (try dsimp only at hSw); go_simp; (try with_reducible rfl))
  (try simp only [Act.put, List.setIfInBounds_toArray, List.set_cons_zero, List.set_cons_succ])
  refine wpAnyH_take (i := 2) (v := .agg lq.toArray) op_at2 (by kernel_rfl) (by kernel_rfl) (by kernel_rfl) (fun _ _ _ h => h) (yieldsIf_load_mid (by rfl) _ _ rfl bo 0 rfl lq _ (fun w hS => hS.2.2.1) hu rfl hi1) hHeld ?r2
  (try simp only [Act.put, List.setIfInBounds_toArray, List.set_cons_zero, List.set_cons_succ])
  refine wpAnyH_take (i := 4) (v := ?v4) op_at4 (by kernel_rfl) (by kernel_rfl) (by kernel_rfl) (fun _ _ _ h => h) (Or.inl ⟨by rfl, ?y4⟩) hHeld ?r4
  case y4 => (intro w hSw; (try dsimp only at hSw); go_simp; (try with_reducible rfl))
  (try simp only [Act.put, List.setIfInBounds_toArray, List.set_cons_zero, List.set_cons_succ])
  refine wpAnyH_take (i := 5) (v := ?v5) op_at5 (by kernel_rfl) (by kernel_rfl) (by kernel_rfl) (fun _ _ _ h => h) (Or.inl ⟨by rfl, ?y5⟩) hHeld ?r5
  case y5 => (intro w hSw; (try dsimp only at hSw); go_simp; (try with_reducible rfl))
  (try simp only [Act.put, List.setIfInBounds_toArray, List.set_cons_zero, List.set_cons_succ])
  refine wpAnyH_take (i := 6) (v := .agg lt.toArray) op_at6 (by kernel_rfl) (by kernel_rfl) (by kernel_rfl) (fun _ _ _ h => h) (yieldsIf_load_mid (by rfl) _ _ rfl bo 16 rfl lt _ (fun w hS => hS.2.2.2) hu rfl hi2) hHeld ?r6
  (try simp only [Act.put, List.setIfInBounds_toArray, List.set_cons_zero, List.set_cons_succ])
  refine wpAnyH_take (i := 8) (v := ?v8) op_at8 (by kernel_rfl) (by kernel_rfl) (by kernel_rfl) (fun _ _ _ h => h) (Or.inl ⟨by rfl, ?y8⟩) hHeld ?r8
  case y8 => (intro w hSw; (try dsimp only at hSw); go_simp; (try with_reducible rfl))
  (try simp only [Act.put, List.setIfInBounds_toArray, List.set_cons_zero, List.set_cons_succ])
  refine wpAnyH_ready (rs := [3]) (by kernel_rfl) (by simp) (AllReadyH.cons op_at3 (fun K hK => ?c3) AllReadyH.nil)
  go_simp
  refine (HW1.out _ (Below.refl _ W).drew).mono ?_
  rintro e w1 ⟨g1, k1, rfl, hi1', hb1⟩
  have hB1 : Below W.heap.size W w1 := ((Below.refl _ W).drew).trans hb1
  have HB1 : Hid (Below W.heap.size W w1 ∧ IntsLo W.heap.size w1 (.slice (some ⟨g1, 0, none⟩) 256 k1) S.a) := ⟨hB1, hi1'⟩
  obtain ⟨m0, m1, mf, ml⟩ := two_cells (HI.out.below hB1).fb
  obtain ⟨n0, n1⟩ := HRG.out _ hB1
  clear hi1' hb1 hB1
  dsimp only
  refine hK.out _ _ ⟨m0, m1, n0, n1⟩ (fun hHeld2 => ?_)
  clear hK K hHeld m0 m1 mf ml n0 n1
  have hHeld := hHeld2
  clear hHeld2
  (try simp only [Act.put, List.setIfInBounds_toArray, List.set_cons_zero, List.set_cons_succ])
  refine wpAnyH_ready (rs := [7]) (by kernel_rfl) (by simp) (AllReadyH.cons op_at7 (fun K hK => ?c7) AllReadyH.nil)
  go_simp
  refine (HW2.out _ HB1.out.1).mono ?_
  rintro e w2 ⟨g2, k2, rfl, hi2', hb2⟩
  have hB2 : Below W.heap.size W w2 := HB1.out.1.trans (hb2.mono HB1.out.1.size)
  have HB2 : Hid (Below W.heap.size W w2 ∧ IntsLo W.heap.size w2 (.slice (some ⟨g1, 0, none⟩) 256 k1) S.a ∧ IntsLo W.heap.size w2 (.slice (some ⟨g2, 0, none⟩) 256 k2) S.b) := ⟨hB2, HB1.out.2.below hb2, hi2'.mono HB1.out.1.size⟩
  obtain ⟨m0, m1, mf, ml⟩ := two_cells (HI.out.below hB2).fb
  obtain ⟨n0, n1⟩ := HRG.out _ hB2
  clear hi2' hb2 hB2
  dsimp only
  refine hK.out _ _ ⟨m0, m1, n0, n1⟩ (fun hHeld2 => ?_)
  clear hK K hHeld m0 m1 mf ml n0 n1
  have hHeld := hHeld2
  clear hHeld2
  (try simp only [Act.put, List.setIfInBounds_toArray, List.set_cons_zero, List.set_cons_succ])
  refine wpAnyH_ready (rs := [9]) (by kernel_rfl) (by simp) (AllReadyH.cons op_at9 (fun K hK => ?c9) AllReadyH.nil)
  go_simp
  refine (HKN.out _ HB2.out.1).mono ?_
  rintro e w3 ⟨rfl, hb3⟩
  have hB3 : Below W.heap.size W w3 := HB2.out.1.trans (hb3.mono HB2.out.1.size)
  have HB3 : Hid (Below W.heap.size W w3 ∧ IntsLo W.heap.size w3 (.slice (some ⟨g1, 0, none⟩) 256 k1) S.a ∧ IntsLo W.heap.size w3 (.slice (some ⟨g2, 0, none⟩) 256 k2) S.b) := ⟨hB3, HB2.out.2.1.below hb3, HB2.out.2.2.below hb3⟩
  obtain ⟨m0, m1, mf, ml⟩ := two_cells (HI.out.below hB3).fb
  obtain ⟨n0, n1⟩ := HRG.out _ hB3
  clear hb3 hB3
  dsimp only
  refine hK.out _ _ ⟨m0, m1, n0, n1⟩ (fun hHeld2 => ?_)
  clear hK K hHeld m0 m1 mf ml n0 n1
  have hHeld := hHeld2
  clear hHeld2
  (try simp only [Act.put, List.setIfInBounds_toArray, List.set_cons_zero, List.set_cons_succ])
  refine wpAnyH_take (i := 10) (v := ?v10) op_at10 (by kernel_rfl) (by kernel_rfl) (by kernel_rfl) (fun _ _ _ h => h) (Or.inl ⟨by rfl, ?y10⟩) hHeld ?r10
  case y10 => (intro w hSw; (try dsimp only at hSw); go_simp; (try with_reducible rfl))
  (try simp only [Act.put, List.setIfInBounds_toArray, List.set_cons_zero, List.set_cons_succ])
  refine wpAnyH_take (i := 11) (v := ?v11) op_at11 (by kernel_rfl) (by kernel_rfl) (by kernel_rfl) (fun _ _ _ h => h) (Or.inl ⟨by rfl, ?y11⟩) hHeld ?r11
  case y11 => (intro w hSw; (try dsimp only at hSw); go_simp; (try with_reducible rfl))
  (try simp only [Act.put, List.setIfInBounds_toArray, List.set_cons_zero, List.set_cons_succ])
  refine wpAnyH_take (i := 12) (v := ?v12) op_at12 (by kernel_rfl) (by kernel_rfl) (by kernel_rfl) (fun _ _ _ h => h) (Or.inl ⟨by rfl, ?y12⟩) hHeld ?r12
  case y12 => (intro w hSw; (try dsimp only at hSw); go_simp; (try with_reducible rfl))
  (try simp only [Act.put, List.setIfInBounds_toArray, List.set_cons_zero, List.set_cons_succ])
  refine wpAnyH_take (i := 13) (v := ?v13) op_at13 (by kernel_rfl) (by kernel_rfl) (by kernel_rfl) (fun _ _ _ h => h) (Or.inl ⟨by rfl, ?y13⟩) hHeld ?r13
  case y13 => (intro w hSw; (try dsimp only at hSw); go_simp; (try with_reducible rfl))
  (try simp only [Act.put, List.setIfInBounds_toArray, List.set_cons_zero, List.set_cons_succ])
  refine wpAnyH_done (by kernel_rfl) ?_ _
  go_wp2_with fail
  change bodyPost Try.prog Try.f6 _ _ _ _
  refine bodyPost_ret (v := .tuple #[.slice (some ⟨g1, 0, none⟩) 256 k1, .slice (some ⟨g2, 0, none⟩) 256 k2, .int .i64 S.kn, .int .i64 0]) (by simp [results, Try.results6, go_sem]) rfl ?_
  rw [HPP.out]
  exact ⟨_, _, rfl, HB3.out.2.1.mono HI.out.old.size, HB3.out.2.2.mono HI.out.old.size, HI.out.old.trans (HB3.out.1.mono HI.out.old.size)⟩


end Go.Proofs.Ytlcdefpdahjjeaf

/- space.Play: the second loop. (Written by tools/gen_pl.py.) -/

namespace Go.Proofs.Ytlcdefpdahjjeaf
open Go.RowKit

set_option maxRecDepth 100000 in
set_option maxHeartbeats 4000000 in
theorem pl8 (c0 c1 c3 c4 c5 c6 c7 c8 c9 c11 c12 c13 c14 c15 c17 c18 c19 c20 c21 c22 c23 c24 c25 c26 c27 c28 c29 c30 c31 c32 c33 c34 c35 c36 c37 c38 c39 c40 c41 c42 c43 c44 c45 c46 c47 c48 c49 c50 c51 c52 c53 c54 c55 c56 c57 c58 c59 c60 c61 c62 c63 c64 c65 c66 c67 c68 c69 c70 c71 c72 c73 c74 c75 c76 c77 c78 c79 c80 c81 c82 c83 c84 c85 c86 c87 c88 c89 c90 c91 c92 c93 c94 c95 c96 c97 c98 c99 c100 : Value) (VA : Option Addr) (vc : Nat) (F : List (Int × Int × Int)) (PP : List Int × List Int × Int × Int) (bf bo n : Nat) (A B : Option Addr) (c c' : Nat) (D : List (List Int)) (R s t : List Int) (S0 : PS) (w W : World) (K : Act → World → Prop) 
    (h : Pl2 w W bf bo (.slice A D.length c) (.slice B R.length c') s t D R) (hrel0 : Rel n D R s t S0) (hp : ThreesAt w (.slice VA F.length vc) F) (herr : (playB n S0 F).2 ≠ 0 → PP = ([], [], 0, (playB n S0 F).2))
    (hK : ∀ (u6 u7 u8 u9 u11 u17 u18 u19 u63 u64 u65 u66 u67 u68 u69 u70 u71 u72 u73 u74 u75 u76 u77 u78 u79 u80 u81 u82 u83 u84 u85 u86 u87 u88 u89 u90 : Value) (D1 : List (List Int)) (R1 s1 tq : List Int) (A1 B1 : Option Addr) (k1 k1' : Nat) (W' : World), Pl2 w W' bf bo (.slice A1 D1.length k1) (.slice B1 R1.length k1') s1 tq D1 R1 → Rel n D1 R1 s1 tq (playB n S0 F).1 → (playB n S0 F).2 = 0 → K ⟨#[c0, c1, .slice VA F.length vc, c3, c4, c5, u6, u7, u8, u9, .pointer (some ⟨bf, 0, none⟩), u11, c12, c13, c14, c15, .pointer (some ⟨bo, 0, none⟩), u17, u18, u19, c20, c21, c22, c23, c24, c25, c26, c27, c28, c29, c30, c31, c32, c33, c34, c35, c36, c37, c38, c39, c40, c41, c42, c43, c44, c45, c46, c47, c48, c49, c50, c51, c52, c53, c54, c55, c56, c57, c58, c59, c60, c61, c62, u63, u64, u65, u66, u67, u68, u69, u70, u71, u72, u73, u74, u75, u76, u77, u78, u79, u80, u81, u82, u83, u84, u85, u86, u87, u88, u89, u90, c91, c92, c93, c94, c95, c96, c97, c98, c99, c100], []⟩ W') :
    Code.wp Try.prog (stm 8 (Try.f6.body.getD .skip)) (Exit.then K (bodyPost Try.prog Try.f6 (fun e w' => PlayPost w PP e w'))) ⟨#[c0, c1, .slice VA F.length vc, c3, c4, c5, c6, c7, c8, c9, .pointer (some ⟨bf, 0, none⟩), c11, c12, c13, c14, c15, .pointer (some ⟨bo, 0, none⟩), c17, c18, c19, c20, c21, c22, c23, c24, c25, c26, c27, c28, c29, c30, c31, c32, c33, c34, c35, c36, c37, c38, c39, c40, c41, c42, c43, c44, c45, c46, c47, c48, c49, c50, c51, c52, c53, c54, c55, c56, c57, c58, c59, c60, c61, c62, c63, c64, c65, c66, c67, c68, c69, c70, c71, c72, c73, c74, c75, c76, c77, c78, c79, c80, c81, c82, c83, c84, c85, c86, c87, c88, c89, c90, c91, c92, c93, c94, c95, c96, c97, c98, c99, c100], []⟩ W := by
  have HK : Hid (∀ (u6 u7 u8 u9 u11 u17 u18 u19 u63 u64 u65 u66 u67 u68 u69 u70 u71 u72 u73 u74 u75 u76 u77 u78 u79 u80 u81 u82 u83 u84 u85 u86 u87 u88 u89 u90 : Value) (D1 : List (List Int)) (R1 s1 tq : List Int) (A1 B1 : Option Addr) (k1 k1' : Nat) (W' : World), Pl2 w W' bf bo (.slice A1 D1.length k1) (.slice B1 R1.length k1') s1 tq D1 R1 → Rel n D1 R1 s1 tq (playB n S0 F).1 → (playB n S0 F).2 = 0 → K ⟨#[c0, c1, .slice VA F.length vc, c3, c4, c5, u6, u7, u8, u9, .pointer (some ⟨bf, 0, none⟩), u11, c12, c13, c14, c15, .pointer (some ⟨bo, 0, none⟩), u17, u18, u19, c20, c21, c22, c23, c24, c25, c26, c27, c28, c29, c30, c31, c32, c33, c34, c35, c36, c37, c38, c39, c40, c41, c42, c43, c44, c45, c46, c47, c48, c49, c50, c51, c52, c53, c54, c55, c56, c57, c58, c59, c60, c61, c62, u63, u64, u65, u66, u67, u68, u69, u70, u71, u72, u73, u74, u75, u76, u77, u78, u79, u80, u81, u82, u83, u84, u85, u86, u87, u88, u89, u90, c91, c92, c93, c94, c95, c96, c97, c98, c99, c100], []⟩ W') := hK
  clear hK
  conv => arg 2; whnf
  obtain ⟨Aq, cq, eq, hFl, hFc⟩ := hp
  simp only [Value.slice.injEq, true_and] at eq
  obtain ⟨rfl, rfl⟩ := eq
  have HFC : Hid (0 < F.length → ∃ b off, VA = some ⟨b, off, none⟩ ∧ b < w.heap.size ∧ ∀ j, j < F.length → w.cell? ⟨b, off + j * 3, none⟩ = some (.int .i64 (F.getD j (0, 0, 0)).1) ∧ w.cell? ⟨b, off + j * 3 + 1, none⟩ = some (.int .i64 (F.getD j (0, 0, 0)).2.1) ∧ w.cell? ⟨b, off + j * 3 + 2, none⟩ = some (.int .i64 (F.getD j (0, 0, 0)).2.2)) := hFc
  have HL : Hid (F.length * 24 ≤ 140737488351232) := hFl
  have H0 : Hid (Pl2 w W bf bo (.slice A D.length c) (.slice B R.length c') s t D R ∧ Rel n D R s t S0) := ⟨h, hrel0⟩
  have HER : Hid ((playB n S0 F).2 ≠ 0 → PP = ([], [], 0, (playB n S0 F).2)) := herr
  clear h hrel0 hFc hFl herr
  go_wp2_with fail
  go_loopw [65] (fun i wr => ∃ (k : Nat) (D1 : List (List Int)) (R1 s1 tq : List Int) (S : PS) (A1 B1 : Option Addr) (k1 k1' : Nat), k ≤ F.length ∧ i = .int .i64 (k : Int) ∧ Pl2 w wr bf bo (.slice A1 D1.length k1) (.slice B1 R1.length k1') s1 tq D1 R1 ∧ Rel n D1 R1 s1 tq S ∧ playB n S0 F = playB n S (F.drop k)) (fun i _ => F.length - (intOf i).toNat)
  case atStart => exact ⟨0, D, R, s, t, S0, A, B, c, c', Nat.zero_le _, rfl, H0.out.1, H0.out.2, rfl⟩
  case round =>
    obtain ⟨k, D1, R1, s1, tq, S, A1, B1, k1, k1', hk, rfl, hI, hR, hP⟩ := hrel
    have hFL := HL.out
    by_cases hlt : k < F.length
    · obtain ⟨bq, oq, rfl, hbq, hcq⟩ := HFC.out (by omega)
      obtain ⟨l0, l1, l2⟩ := hcq k hlt
      obtain ⟨⟨y0, y1, y2⟩, hav⟩ : ∃ x, x = F.getD k (0, 0, 0) := ⟨_, rfl⟩
      rw [← hav] at l0 l1 l2
      have hdr : F.drop k = (y0, y1, y2) :: F.drop (k + 1) := by
        have e := List.drop_eq_getElem_cons hlt
        have e2 : F.getD k (0, 0, 0) = F[k] := by simp [List.getD, hlt]
        rw [hav, e2]
        exact e
      have x0 := (hI.old.cell (p := ⟨bq, oq + k * 3, none⟩) hbq).trans l0
      have x1 := (hI.old.cell (p := ⟨bq, oq + k * 3 + 1, none⟩) hbq).trans l1
      have x2 := (hI.old.cell (p := ⟨bq, oq + k * 3 + 2, none⟩) hbq).trans l2
      have hbs : bq < wr.heap.size := Nat.lt_of_lt_of_le hbq hI.old.size
      have hl : (k : Int) < (F.length : Int) := by omega
      have hw2 : IntKind.i64.wrap ((k : Int) + 1) = (k : Int) + 1 := IntWalk.i64_in _ (by omega)
      have HIR : Hid (Pl2 w wr bf bo (.slice A1 D1.length k1) (.slice B1 R1.length k1') s1 tq D1 R1 ∧ Rel n D1 R1 s1 tq S ∧ playB n S0 F = playB n S ((y0, y1, y2) :: F.drop (k + 1))) := ⟨hI, hR, by rw [← hdr]; exact hP⟩
      clear hI hR hP hcq l0 l1 l2 hav hdr H0
      go_upto_region 19 with fail
      obtain ⟨W1, hW1⟩ : ∃ W1, W1 = wr.alloc (.cells #[.int .i64 y0, .int .i64 y1, .int .i64 y2] 36) := ⟨_, rfl⟩
      have hb1 := below_alloc wr (.cells #[.int .i64 y0, .int .i64 y1, .int .i64 y2] 36)
      have hw1 := Go.Deep.blk_alloc_new wr (.cells #[.int .i64 y0, .int .i64 y1, .int .i64 y2] 36)
      rw [← hW1] at hb1 hw1 ⊢
      have hI1 := HIR.out.1.below hb1
      obtain ⟨bw, hbw⟩ : ∃ bw, bw = wr.heap.size := ⟨_, rfl⟩
      have hfl := lt_of_block HIR.out.1.fb
      have hol := lt_of_block HIR.out.1.ob
      rw [← hbw] at hw1 hfl hol ⊢
      have g0 : W1.cell? ⟨bw, 0, none⟩ = some (.int .i64 y0) := by simp [World.cell?, hw1]
      have g1 : W1.cell? ⟨bw, 1, none⟩ = some (.int .i64 y1) := by simp [World.cell?, hw1]
      have g2 : W1.cell? ⟨bw, 2, none⟩ = some (.int .i64 y2) := by simp [World.cell?, hw1]
      have gl : bw < W1.heap.size := lt_of_block hw1
      have nbf : ¬ bw = bf := by omega
      have nbo : ¬ bw = bo := by omega
      have nfb : ¬ bf = bw := by omega
      have nob : ¬ bo = bw := by omega
      have nfo : ¬ bf = bo := hI1.ne
      have nof : ¬ bo = bf := fun e => nfo e.symm
      obtain ⟨q0, q1, q2, q3, q4, q5, q6, q7, q8, q9, q10, q11, q12, q13, q14, q15, hsl⟩ := list16 HIR.out.2.1.ls
      obtain ⟨t0, t1, t2, t3, t4, t5, t6, t7, t8, t9, t10, t11, t12, t13, t14, t15, htl⟩ := list16 HIR.out.2.1.lt
      have hoe : pgc (s1 ++ tq) = #[.int .i64 q0, .int .i64 q1, .int .i64 q2, .int .i64 q3, .int .i64 q4, .int .i64 q5, .int .i64 q6, .int .i64 q7, .int .i64 q8, .int .i64 q9, .int .i64 q10, .int .i64 q11, .int .i64 q12, .int .i64 q13, .int .i64 q14, .int .i64 q15, .int .i64 t0, .int .i64 t1, .int .i64 t2, .int .i64 t3, .int .i64 t4, .int .i64 t5, .int .i64 t6, .int .i64 t7, .int .i64 t8, .int .i64 t9, .int .i64 t10, .int .i64 t11, .int .i64 t12, .int .i64 t13, .int .i64 t14, .int .i64 t15] := by rw [hsl, htl]; rfl
      have hob := hI1.ob
      rw [hoe] at hob
      obtain ⟨⟨z0, z1, z2, z3, z4, z5, z6, z7, z8, z9, z10, z11, z12, z13, z14, z15, z16, z17, z18, z19, z20, z21, z22, z23, z24, z25, z26, z27, z28, z29, z30, z31⟩, zf, zl⟩ := thirty2_cells hob
      obtain ⟨f0, f1, ff, fl⟩ := two_cells hI1.fb
      have HI1 : Hid (Pl2 w W1 bf bo (.slice A1 D1.length k1) (.slice B1 R1.length k1') s1 tq D1 R1 ∧ s1.length = 16 ∧ tq.length = 16 ∧ pgc (s1 ++ tq) = #[.int .i64 q0, .int .i64 q1, .int .i64 q2, .int .i64 q3, .int .i64 q4, .int .i64 q5, .int .i64 q6, .int .i64 q7, .int .i64 q8, .int .i64 q9, .int .i64 q10, .int .i64 q11, .int .i64 q12, .int .i64 q13, .int .i64 q14, .int .i64 q15, .int .i64 t0, .int .i64 t1, .int .i64 t2, .int .i64 t3, .int .i64 t4, .int .i64 t5, .int .i64 t6, .int .i64 t7, .int .i64 t8, .int .i64 t9, .int .i64 t10, .int .i64 t11, .int .i64 t12, .int .i64 t13, .int .i64 t14, .int .i64 t15] ∧ playB n S0 F = playB n S ((y0, y1, y2) :: F.drop (k + 1))) := ⟨hI1, HIR.out.2.1.ls, HIR.out.2.1.lt, hoe, HIR.out.2.2⟩
      clear hW1 hb1 hw1 hob hoe x0 x1 x2 hbs hbq hbw hfl hol
      by_cases hh : y2 = 0
      · skip
        have hhe : ∀ W : World, Calls Try.prog 18 #[.int .i64 y2] W fun e w' => e = .returned (.int .i64 0) ∧ w' = W := fun W => by
          have := which_any y2 W
          rwa [if_pos hh] at this
        have HWH : Hid (∀ W : World, Calls Try.prog 18 #[.int .i64 y2] W fun e w' => e = .returned (.int .i64 0) ∧ w' = W) := hhe
        have HEX : Hid (S.errW n (y0, y1, y2) = S.err n y0 ∧ ∀ D' R' s2, Rel n D' R' s2 tq (S.put y0.toNat y1) → Rel n D' R' s2 tq (S.putW (y0, y1, y2))) := ⟨by simp only [PS.errW]; rw [if_pos hh], fun D' R' s2 h => by simp only [PS.putW]; rw [if_pos hh]; exact h⟩
        have HC : Hid (Calls Try.prog 16 #[.agg #[.slice A1 D1.length k1, .slice B1 R1.length k1'], .agg #[.int .i64 q0, .int .i64 q1, .int .i64 q2, .int .i64 q3, .int .i64 q4, .int .i64 q5, .int .i64 q6, .int .i64 q7, .int .i64 q8, .int .i64 q9, .int .i64 q10, .int .i64 q11, .int .i64 q12, .int .i64 q13, .int .i64 q14, .int .i64 q15], .int .i64 y0, .int .i64 y1] W1.drew fun e w' => WrAns n tq S y0 y1 W1.drew e w') := by
          have := write_rel A1 B1 k1 k1' n D1 R1 s1 tq S y0 y1 W1.drew HIR.out.2.1 hI1.drew.rows.at hI1.drew.ints.at
          rw [show Value.agg (pgc s1) = .agg #[.int .i64 q0, .int .i64 q1, .int .i64 q2, .int .i64 q3, .int .i64 q4, .int .i64 q5, .int .i64 q6, .int .i64 q7, .int .i64 q8, .int .i64 q9, .int .i64 q10, .int .i64 q11, .int .i64 q12, .int .i64 q13, .int .i64 q14, .int .i64 q15] by rw [hsl]; rfl] at this
          exact this
        clear hhe hh hsl htl hI1 HIR
        go_upto_region 20 with (go_at_call 18; refine (HWH.out _).mono ?_; rintro e w' ⟨rfl, hw'⟩; rw [hw']; clear hw' w'; dsimp only)
        refine wp_region_held_drew (S := fun w' => w'.cell? ⟨bw, 0, none⟩ = some (.int .i64 y0) ∧ w'.cell? ⟨bw, 1, none⟩ = some (.int .i64 y1)) (by kernel_rfl) ⟨g0, g1⟩ (fun hHeld => ?_)
        refine wpAnyH_take (i := 0) (v := ?vq0_0) op_at0 (by kernel_rfl) (by kernel_rfl) (by kernel_rfl) (fun _ _ _ h => h) (Or.inl ⟨by rfl, ?yq0_0⟩) hHeld ?rq0_0
        case yq0_0 => (intro w hSw; (try dsimp only at hSw); go_simp; (try with_reducible rfl))
        (try simp only [Act.put, List.setIfInBounds_toArray, List.set_cons_zero, List.set_cons_succ])
        refine wpAnyH_take (i := 2) (v := ?vq0_2) op_at2 (by kernel_rfl) (by kernel_rfl) (by kernel_rfl) (fun _ _ _ h => h) (Or.inl ⟨by rfl, ?yq0_2⟩) hHeld ?rq0_2
        case yq0_2 => (intro w hSw; (try dsimp only at hSw); go_simp; (try with_reducible rfl))
        (try simp only [Act.put, List.setIfInBounds_toArray, List.set_cons_zero, List.set_cons_succ])
        refine wpAnyH_take (i := 3) (v := ?vq0_3) op_at3 (by kernel_rfl) (by kernel_rfl) (by kernel_rfl) (fun _ _ _ h => h) (Or.inl ⟨by rfl, ?yq0_3⟩) hHeld ?rq0_3
        case yq0_3 => (intro w hSw; (try dsimp only at hSw); go_simp; (try with_reducible rfl))
        (try simp only [Act.put, List.setIfInBounds_toArray, List.set_cons_zero, List.set_cons_succ])
        refine wpAnyH_take (i := 5) (v := ?vq0_5) op_at5 (by kernel_rfl) (by kernel_rfl) (by kernel_rfl) (fun _ _ _ h => h) (Or.inl ⟨by rfl, ?yq0_5⟩) hHeld ?rq0_5
        case yq0_5 => (intro w hSw; (try dsimp only at hSw); go_simp; (try with_reducible rfl))
        (try simp only [Act.put, List.setIfInBounds_toArray, List.set_cons_zero, List.set_cons_succ])
        refine wpAnyH_take (i := 6) (v := ?vq0_6) op_at6 (by kernel_rfl) (by kernel_rfl) (by kernel_rfl) (fun _ _ _ h => h) (Or.inl ⟨by rfl, ?yq0_6⟩) hHeld ?rq0_6
        case yq0_6 => (intro w hSw; (try dsimp only at hSw); go_simp; (try with_reducible rfl))
        (try simp only [Act.put, List.setIfInBounds_toArray, List.set_cons_zero, List.set_cons_succ])
        refine wpAnyH_take (i := 7) (v := ?vq0_7) op_at7 (by kernel_rfl) (by kernel_rfl) (by kernel_rfl) (fun _ _ _ h => h) (Or.inl ⟨by rfl, ?yq0_7⟩) hHeld ?rq0_7
        case yq0_7 => (intro w hSw; (try dsimp only at hSw); go_simp; (try with_reducible rfl))
        (try simp only [Act.put, List.setIfInBounds_toArray, List.set_cons_zero, List.set_cons_succ])
        refine wpAnyH_take (i := 8) (v := ?vq0_8) op_at8 (by kernel_rfl) (by kernel_rfl) (by kernel_rfl) (fun _ _ _ h => h) (Or.inl ⟨by rfl, ?yq0_8⟩) hHeld ?rq0_8
        case yq0_8 => (intro w hSw; (try dsimp only at hSw); go_simp; (try with_reducible rfl))
        (try simp only [Act.put, List.setIfInBounds_toArray, List.set_cons_zero, List.set_cons_succ])
        refine wpAnyH_two (i := 1) (j := 4) (vi := ?viq0) (vj := ?vjq0) op_at1 op_at4 (by kernel_rfl) (by decide) (by kernel_rfl) (by kernel_rfl) (by kernel_rfl) (by kernel_rfl) hHeld (Or.inl ⟨by rfl, Or.inl ?yiq0⟩) (Or.inl ⟨by rfl, Or.inl ?yjq0⟩) ?rtq0
        case yiq0 => (go_simp; (try with_reducible rfl))
        case yjq0 => (go_simp; (try with_reducible rfl))
        (try simp only [Act.put, List.setIfInBounds_toArray, List.set_cons_zero, List.set_cons_succ])
        refine wpAnyH_ready (rs := [9]) (by kernel_rfl) (by simp) (AllReadyH.cons op_at9 (fun K hK => ?c9q0) AllReadyH.nil)
        go_simp
        refine HC.out.mono ?_
        rintro e w2 hA
        obtain ⟨D2, R2, s2, er, hl2, her, hrel2, A2, k2, B2, k2', rfl, hD2, hR2, hb2⟩ := hA.all
        obtain ⟨v0, v1, v2, v3, v4, v5, v6, v7, v8, v9, v10, v11, v12, v13, v14, v15, hvl⟩ := list16 hl2
        rw [show Value.agg (pgc s2) = .agg #[.int .i64 v0, .int .i64 v1, .int .i64 v2, .int .i64 v3, .int .i64 v4, .int .i64 v5, .int .i64 v6, .int .i64 v7, .int .i64 v8, .int .i64 v9, .int .i64 v10, .int .i64 v11, .int .i64 v12, .int .i64 v13, .int .i64 v14, .int .i64 v15] by rw [hvl]; rfl]
        have hb3 : Below W1.heap.size W1 w2 := ((Below.refl _ W1).drew).trans hb2
        have hI2 := HI1.out.1.below hb3
        have HN : Hid (Pl2 w ((((((((((((((((((w2.setCell ⟨bf, 0, none⟩ (.slice A2 D2.length k2)).setCell ⟨bf, 1, none⟩ (.slice B2 R2.length k2')).setCell ⟨bo, 0, none⟩ (.int .i64 v0)).setCell ⟨bo, 1, none⟩ (.int .i64 v1)).setCell ⟨bo, 2, none⟩ (.int .i64 v2)).setCell ⟨bo, 3, none⟩ (.int .i64 v3)).setCell ⟨bo, 4, none⟩ (.int .i64 v4)).setCell ⟨bo, 5, none⟩ (.int .i64 v5)).setCell ⟨bo, 6, none⟩ (.int .i64 v6)).setCell ⟨bo, 7, none⟩ (.int .i64 v7)).setCell ⟨bo, 8, none⟩ (.int .i64 v8)).setCell ⟨bo, 9, none⟩ (.int .i64 v9)).setCell ⟨bo, 10, none⟩ (.int .i64 v10)).setCell ⟨bo, 11, none⟩ (.int .i64 v11)).setCell ⟨bo, 12, none⟩ (.int .i64 v12)).setCell ⟨bo, 13, none⟩ (.int .i64 v13)).setCell ⟨bo, 14, none⟩ (.int .i64 v14)).setCell ⟨bo, 15, none⟩ (.int .i64 v15)) bf bo (.slice A2 D2.length k2) (.slice B2 R2.length k2') [v0, v1, v2, v3, v4, v5, v6, v7, v8, v9, v10, v11, v12, v13, v14, v15] tq D2 R2) := hI2.store0 HI1.out.2.1 HI1.out.2.2.1 (lt_of_block HI1.out.1.fb) (lt_of_block HI1.out.1.ob) hD2 hR2 v0 v1 v2 v3 v4 v5 v6 v7 v8 v9 v10 v11 v12 v13 v14 v15
        have HRR : Hid (er = S.err n y0 ∧ (er = 0 → Rel n D2 R2 s2 tq (S.put y0.toNat y1)) ∧ s2 = [v0, v1, v2, v3, v4, v5, v6, v7, v8, v9, v10, v11, v12, v13, v14, v15]) := ⟨her, hrel2, hvl⟩
        obtain ⟨m0, m1, mf, ml⟩ := two_cells hI2.fb
        have hob2 := hI2.ob
        rw [HI1.out.2.2.2.1] at hob2
        obtain ⟨⟨n0, n1, n2, n3, n4, n5, n6, n7, n8, n9, n10, n11, n12, n13, n14, n15, n16, n17, n18, n19, n20, n21, n22, n23, n24, n25, n26, n27, n28, n29, n30, n31⟩, nf, nl⟩ := thirty2_cells hob2
        have r0 := (hb3.cell (p := ⟨bw, 0, none⟩) gl).trans g0
        have r1 := (hb3.cell (p := ⟨bw, 1, none⟩) gl).trans g1
        clear hA hl2 her hrel2 hD2 hR2 hb2 hb3 hI2 hob2 hvl
        dsimp only
        refine hK.out _ _ ⟨r0, r1⟩ (fun hHeld2 => ?_)
        clear hK K hHeld
        have hHeld := hHeld2
        clear hHeld2
        (try simp only [Act.put, List.setIfInBounds_toArray, List.set_cons_zero, List.set_cons_succ])
        refine wpAnyH_take (i := 10) (v := ?vq0_10) op_at10 (by kernel_rfl) (by kernel_rfl) (by kernel_rfl) (fun _ _ _ h => h) (Or.inl ⟨by rfl, ?yq0_10⟩) hHeld ?rq0_10
        case yq0_10 => (intro w hSw; (try dsimp only at hSw); go_simp; (try with_reducible rfl))
        (try simp only [Act.put, List.setIfInBounds_toArray, List.set_cons_zero, List.set_cons_succ])
        refine wpAnyH_take (i := 11) (v := ?vq0_11) op_at11 (by kernel_rfl) (by kernel_rfl) (by kernel_rfl) (fun _ _ _ h => h) (Or.inl ⟨by rfl, ?yq0_11⟩) hHeld ?rq0_11
        case yq0_11 => (intro w hSw; (try dsimp only at hSw); go_simp; (try with_reducible rfl))
        (try simp only [Act.put, List.setIfInBounds_toArray, List.set_cons_zero, List.set_cons_succ])
        refine wpAnyH_take (i := 12) (v := ?vq0_12) op_at12 (by kernel_rfl) (by kernel_rfl) (by kernel_rfl) (fun _ _ _ h => h) (Or.inl ⟨by rfl, ?yq0_12⟩) hHeld ?rq0_12
        case yq0_12 => (intro w hSw; (try dsimp only at hSw); go_simp; (try with_reducible rfl))
        (try simp only [Act.put, List.setIfInBounds_toArray, List.set_cons_zero, List.set_cons_succ])
        refine wpAnyH_take (i := 13) (v := ?vq0_13) op_at13 (by kernel_rfl) (by kernel_rfl) (by kernel_rfl) (fun _ _ _ h => h) (Or.inl ⟨by rfl, ?yq0_13⟩) hHeld ?rq0_13
        case yq0_13 => (intro w hSw; (try dsimp only at hSw); go_simp; (try with_reducible rfl))
        (try simp only [Act.put, List.setIfInBounds_toArray, List.set_cons_zero, List.set_cons_succ])
        refine wpAnyH_ready (rs := [14]) (by kernel_rfl) (by simp) (AllReadyH.cons op_at14 (fun K hK => ?cq0_14) AllReadyH.nil)
        go_simp
        refine hK.out _ _ (by go_keep) (fun hHeld2 => ?_)
        clear hK K hHeld
        have hHeld := hHeld2
        clear hHeld2
        (try simp only [Act.put, List.setIfInBounds_toArray, List.set_cons_zero, List.set_cons_succ])
        refine wpAnyH_take (i := 15) (v := ?vq0_15) op_at15 (by kernel_rfl) (by kernel_rfl) (by kernel_rfl) (fun _ _ _ h => h) (Or.inl ⟨by rfl, ?yq0_15⟩) hHeld ?rq0_15
        case yq0_15 => (intro w hSw; (try dsimp only at hSw); go_simp; (try with_reducible rfl))
        (try simp only [Act.put, List.setIfInBounds_toArray, List.set_cons_zero, List.set_cons_succ])
        refine wpAnyH_ready (rs := [16]) (by kernel_rfl) (by simp) (AllReadyH.cons op_at16 (fun K hK => ?cq0_16) AllReadyH.nil)
        go_simp
        refine hK.out _ _ (by go_keep) (fun hHeld2 => ?_)
        clear hK K hHeld
        have hHeld := hHeld2
        clear hHeld2
        (try simp only [Act.put, List.setIfInBounds_toArray, List.set_cons_zero, List.set_cons_succ])
        refine wpAnyH_take (i := 17) (v := ?vq0_17) op_at17 (by kernel_rfl) (by kernel_rfl) (by kernel_rfl) (fun _ _ _ h => h) (Or.inl ⟨by rfl, ?yq0_17⟩) hHeld ?rq0_17
        case yq0_17 => (intro w hSw; (try dsimp only at hSw); go_simp; (try with_reducible rfl))
        (try simp only [Act.put, List.setIfInBounds_toArray, List.set_cons_zero, List.set_cons_succ])
        refine wpAnyH_done (by kernel_rfl) ?_ _
        by_cases he : er = 0
        · have d0 : (er != 0) = false := by simp [he]
          have HP2 : Hid (playB n S0 F = playB n (S.putW (y0, y1, y2)) (F.drop (k + 1))) := by
            show _ = _
            rw [HI1.out.2.2.2.2, playB, if_pos (by rw [HEX.out.1, ← HRR.out.1]; exact he)]
          have HRN : Hid (Rel n D2 R2 s2 tq (S.putW (y0, y1, y2))) := HEX.out.2 _ _ _ (HRR.out.2.1 he)
          rw [HRR.out.2.2] at HRN
          clear he
          go_wp2_with fail
          refine ⟨⟨k + 1, D2, R2, _, _, _, A2, B2, k2, k2', by omega, by go_num, HN.out, HRN.out, HP2.out⟩, ?_⟩
          simp [intOf]; omega
        · have d0 : (er != 0) = true := by simpa using he
          have HPP : Hid (PP = ([], [], 0, er)) := by
            have hPF : playB n S0 F = (S, er) := by rw [HI1.out.2.2.2.2, playB, if_neg (by rw [HEX.out.1, ← HRR.out.1]; exact he), HEX.out.1, ← HRR.out.1]
            have := HER.out (by rw [hPF]; exact he)
            rw [hPF] at this
            exact this
          clear he
          go_wp2_with fail
          change bodyPost Try.prog Try.f6 _ _ _ _
          refine bodyPost_ret (v := .tuple #[.slice none 0 0, .slice none 0 0, .int .i64 0, .int .i64 er]) (by simp [results, Try.results6, go_sem]) rfl ?_
          rw [HPP.out]
          exact playPost_no HN.out.old
      · skip
        have hhe : ∀ W : World, Calls Try.prog 18 #[.int .i64 y2] W fun e w' => e = .returned (.int .i64 1) ∧ w' = W := fun W => by
          have := which_any y2 W
          rwa [if_neg hh] at this
        have HWH : Hid (∀ W : World, Calls Try.prog 18 #[.int .i64 y2] W fun e w' => e = .returned (.int .i64 1) ∧ w' = W) := hhe
        have HEX : Hid (S.errW n (y0, y1, y2) = S.swap.err n y0 ∧ ∀ D' R' s2, Rel n D' R' s2 s1 (S.swap.put y0.toNat y1) → Rel n D' R' s1 s2 (S.putW (y0, y1, y2))) := ⟨by simp only [PS.errW]; rw [if_neg hh], fun D' R' s2 h => Rel.putW (x := (y0, y1, y2)) hh h⟩
        have HC : Hid (Calls Try.prog 16 #[.agg #[.slice A1 D1.length k1, .slice B1 R1.length k1'], .agg #[.int .i64 t0, .int .i64 t1, .int .i64 t2, .int .i64 t3, .int .i64 t4, .int .i64 t5, .int .i64 t6, .int .i64 t7, .int .i64 t8, .int .i64 t9, .int .i64 t10, .int .i64 t11, .int .i64 t12, .int .i64 t13, .int .i64 t14, .int .i64 t15], .int .i64 y0, .int .i64 y1] W1.drew fun e w' => WrAns n s1 S.swap y0 y1 W1.drew e w') := by
          have := write_rel A1 B1 k1 k1' n D1 R1 tq s1 S.swap y0 y1 W1.drew HIR.out.2.1.swap hI1.drew.rows.at hI1.drew.ints.at
          rw [show Value.agg (pgc tq) = .agg #[.int .i64 t0, .int .i64 t1, .int .i64 t2, .int .i64 t3, .int .i64 t4, .int .i64 t5, .int .i64 t6, .int .i64 t7, .int .i64 t8, .int .i64 t9, .int .i64 t10, .int .i64 t11, .int .i64 t12, .int .i64 t13, .int .i64 t14, .int .i64 t15] by rw [htl]; rfl] at this
          exact this
        clear hhe hh hsl htl hI1 HIR
        go_upto_region 20 with (go_at_call 18; refine (HWH.out _).mono ?_; rintro e w' ⟨rfl, hw'⟩; rw [hw']; clear hw' w'; dsimp only)
        refine wp_region_held_drew (S := fun w' => w'.cell? ⟨bw, 0, none⟩ = some (.int .i64 y0) ∧ w'.cell? ⟨bw, 1, none⟩ = some (.int .i64 y1)) (by kernel_rfl) ⟨g0, g1⟩ (fun hHeld => ?_)
        refine wpAnyH_take (i := 0) (v := ?vq1_0) op_at0 (by kernel_rfl) (by kernel_rfl) (by kernel_rfl) (fun _ _ _ h => h) (Or.inl ⟨by rfl, ?yq1_0⟩) hHeld ?rq1_0
        case yq1_0 => (intro w hSw; (try dsimp only at hSw); go_simp; (try with_reducible rfl))
        (try simp only [Act.put, List.setIfInBounds_toArray, List.set_cons_zero, List.set_cons_succ])
        refine wpAnyH_take (i := 2) (v := ?vq1_2) op_at2 (by kernel_rfl) (by kernel_rfl) (by kernel_rfl) (fun _ _ _ h => h) (Or.inl ⟨by rfl, ?yq1_2⟩) hHeld ?rq1_2
        case yq1_2 => (intro w hSw; (try dsimp only at hSw); go_simp; (try with_reducible rfl))
        (try simp only [Act.put, List.setIfInBounds_toArray, List.set_cons_zero, List.set_cons_succ])
        refine wpAnyH_take (i := 3) (v := ?vq1_3) op_at3 (by kernel_rfl) (by kernel_rfl) (by kernel_rfl) (fun _ _ _ h => h) (Or.inl ⟨by rfl, ?yq1_3⟩) hHeld ?rq1_3
        case yq1_3 => (intro w hSw; (try dsimp only at hSw); go_simp; (try with_reducible rfl))
        (try simp only [Act.put, List.setIfInBounds_toArray, List.set_cons_zero, List.set_cons_succ])
        refine wpAnyH_take (i := 5) (v := ?vq1_5) op_at5 (by kernel_rfl) (by kernel_rfl) (by kernel_rfl) (fun _ _ _ h => h) (Or.inl ⟨by rfl, ?yq1_5⟩) hHeld ?rq1_5
        case yq1_5 => (intro w hSw; (try dsimp only at hSw); go_simp; (try with_reducible rfl))
        (try simp only [Act.put, List.setIfInBounds_toArray, List.set_cons_zero, List.set_cons_succ])
        refine wpAnyH_take (i := 6) (v := ?vq1_6) op_at6 (by kernel_rfl) (by kernel_rfl) (by kernel_rfl) (fun _ _ _ h => h) (Or.inl ⟨by rfl, ?yq1_6⟩) hHeld ?rq1_6
        case yq1_6 => (intro w hSw; (try dsimp only at hSw); go_simp; (try with_reducible rfl))
        (try simp only [Act.put, List.setIfInBounds_toArray, List.set_cons_zero, List.set_cons_succ])
        refine wpAnyH_take (i := 7) (v := ?vq1_7) op_at7 (by kernel_rfl) (by kernel_rfl) (by kernel_rfl) (fun _ _ _ h => h) (Or.inl ⟨by rfl, ?yq1_7⟩) hHeld ?rq1_7
        case yq1_7 => (intro w hSw; (try dsimp only at hSw); go_simp; (try with_reducible rfl))
        (try simp only [Act.put, List.setIfInBounds_toArray, List.set_cons_zero, List.set_cons_succ])
        refine wpAnyH_take (i := 8) (v := ?vq1_8) op_at8 (by kernel_rfl) (by kernel_rfl) (by kernel_rfl) (fun _ _ _ h => h) (Or.inl ⟨by rfl, ?yq1_8⟩) hHeld ?rq1_8
        case yq1_8 => (intro w hSw; (try dsimp only at hSw); go_simp; (try with_reducible rfl))
        (try simp only [Act.put, List.setIfInBounds_toArray, List.set_cons_zero, List.set_cons_succ])
        refine wpAnyH_two (i := 1) (j := 4) (vi := ?viq1) (vj := ?vjq1) op_at1 op_at4 (by kernel_rfl) (by decide) (by kernel_rfl) (by kernel_rfl) (by kernel_rfl) (by kernel_rfl) hHeld (Or.inl ⟨by rfl, Or.inl ?yiq1⟩) (Or.inl ⟨by rfl, Or.inl ?yjq1⟩) ?rtq1
        case yiq1 => (go_simp; (try with_reducible rfl))
        case yjq1 => (go_simp; (try with_reducible rfl))
        (try simp only [Act.put, List.setIfInBounds_toArray, List.set_cons_zero, List.set_cons_succ])
        refine wpAnyH_ready (rs := [9]) (by kernel_rfl) (by simp) (AllReadyH.cons op_at9 (fun K hK => ?c9q1) AllReadyH.nil)
        go_simp
        refine HC.out.mono ?_
        rintro e w2 hA
        obtain ⟨D2, R2, s2, er, hl2, her, hrel2, A2, k2, B2, k2', rfl, hD2, hR2, hb2⟩ := hA.all
        obtain ⟨v0, v1, v2, v3, v4, v5, v6, v7, v8, v9, v10, v11, v12, v13, v14, v15, hvl⟩ := list16 hl2
        rw [show Value.agg (pgc s2) = .agg #[.int .i64 v0, .int .i64 v1, .int .i64 v2, .int .i64 v3, .int .i64 v4, .int .i64 v5, .int .i64 v6, .int .i64 v7, .int .i64 v8, .int .i64 v9, .int .i64 v10, .int .i64 v11, .int .i64 v12, .int .i64 v13, .int .i64 v14, .int .i64 v15] by rw [hvl]; rfl]
        have hb3 : Below W1.heap.size W1 w2 := ((Below.refl _ W1).drew).trans hb2
        have hI2 := HI1.out.1.below hb3
        have HN : Hid (Pl2 w ((((((((((((((((((w2.setCell ⟨bf, 0, none⟩ (.slice A2 D2.length k2)).setCell ⟨bf, 1, none⟩ (.slice B2 R2.length k2')).setCell ⟨bo, 16, none⟩ (.int .i64 v0)).setCell ⟨bo, 17, none⟩ (.int .i64 v1)).setCell ⟨bo, 18, none⟩ (.int .i64 v2)).setCell ⟨bo, 19, none⟩ (.int .i64 v3)).setCell ⟨bo, 20, none⟩ (.int .i64 v4)).setCell ⟨bo, 21, none⟩ (.int .i64 v5)).setCell ⟨bo, 22, none⟩ (.int .i64 v6)).setCell ⟨bo, 23, none⟩ (.int .i64 v7)).setCell ⟨bo, 24, none⟩ (.int .i64 v8)).setCell ⟨bo, 25, none⟩ (.int .i64 v9)).setCell ⟨bo, 26, none⟩ (.int .i64 v10)).setCell ⟨bo, 27, none⟩ (.int .i64 v11)).setCell ⟨bo, 28, none⟩ (.int .i64 v12)).setCell ⟨bo, 29, none⟩ (.int .i64 v13)).setCell ⟨bo, 30, none⟩ (.int .i64 v14)).setCell ⟨bo, 31, none⟩ (.int .i64 v15)) bf bo (.slice A2 D2.length k2) (.slice B2 R2.length k2') s1 [v0, v1, v2, v3, v4, v5, v6, v7, v8, v9, v10, v11, v12, v13, v14, v15] D2 R2) := hI2.store1 HI1.out.2.1 HI1.out.2.2.1 (lt_of_block HI1.out.1.fb) (lt_of_block HI1.out.1.ob) hD2 hR2 v0 v1 v2 v3 v4 v5 v6 v7 v8 v9 v10 v11 v12 v13 v14 v15
        have HRR : Hid (er = S.swap.err n y0 ∧ (er = 0 → Rel n D2 R2 s2 s1 (S.swap.put y0.toNat y1)) ∧ s2 = [v0, v1, v2, v3, v4, v5, v6, v7, v8, v9, v10, v11, v12, v13, v14, v15]) := ⟨her, hrel2, hvl⟩
        obtain ⟨m0, m1, mf, ml⟩ := two_cells hI2.fb
        have hob2 := hI2.ob
        rw [HI1.out.2.2.2.1] at hob2
        obtain ⟨⟨n0, n1, n2, n3, n4, n5, n6, n7, n8, n9, n10, n11, n12, n13, n14, n15, n16, n17, n18, n19, n20, n21, n22, n23, n24, n25, n26, n27, n28, n29, n30, n31⟩, nf, nl⟩ := thirty2_cells hob2
        have r0 := (hb3.cell (p := ⟨bw, 0, none⟩) gl).trans g0
        have r1 := (hb3.cell (p := ⟨bw, 1, none⟩) gl).trans g1
        clear hA hl2 her hrel2 hD2 hR2 hb2 hb3 hI2 hob2 hvl
        dsimp only
        refine hK.out _ _ ⟨r0, r1⟩ (fun hHeld2 => ?_)
        clear hK K hHeld
        have hHeld := hHeld2
        clear hHeld2
        (try simp only [Act.put, List.setIfInBounds_toArray, List.set_cons_zero, List.set_cons_succ])
        refine wpAnyH_take (i := 10) (v := ?vq1_10) op_at10 (by kernel_rfl) (by kernel_rfl) (by kernel_rfl) (fun _ _ _ h => h) (Or.inl ⟨by rfl, ?yq1_10⟩) hHeld ?rq1_10
        case yq1_10 => (intro w hSw; (try dsimp only at hSw); go_simp; (try with_reducible rfl))
        (try simp only [Act.put, List.setIfInBounds_toArray, List.set_cons_zero, List.set_cons_succ])
        refine wpAnyH_take (i := 11) (v := ?vq1_11) op_at11 (by kernel_rfl) (by kernel_rfl) (by kernel_rfl) (fun _ _ _ h => h) (Or.inl ⟨by rfl, ?yq1_11⟩) hHeld ?rq1_11
        case yq1_11 => (intro w hSw; (try dsimp only at hSw); go_simp; (try with_reducible rfl))
        (try simp only [Act.put, List.setIfInBounds_toArray, List.set_cons_zero, List.set_cons_succ])
        refine wpAnyH_take (i := 12) (v := ?vq1_12) op_at12 (by kernel_rfl) (by kernel_rfl) (by kernel_rfl) (fun _ _ _ h => h) (Or.inl ⟨by rfl, ?yq1_12⟩) hHeld ?rq1_12
        case yq1_12 => (intro w hSw; (try dsimp only at hSw); go_simp; (try with_reducible rfl))
        (try simp only [Act.put, List.setIfInBounds_toArray, List.set_cons_zero, List.set_cons_succ])
        refine wpAnyH_take (i := 13) (v := ?vq1_13) op_at13 (by kernel_rfl) (by kernel_rfl) (by kernel_rfl) (fun _ _ _ h => h) (Or.inl ⟨by rfl, ?yq1_13⟩) hHeld ?rq1_13
        case yq1_13 => (intro w hSw; (try dsimp only at hSw); go_simp; (try with_reducible rfl))
        (try simp only [Act.put, List.setIfInBounds_toArray, List.set_cons_zero, List.set_cons_succ])
        refine wpAnyH_ready (rs := [14]) (by kernel_rfl) (by simp) (AllReadyH.cons op_at14 (fun K hK => ?cq1_14) AllReadyH.nil)
        go_simp
        refine hK.out _ _ (by go_keep) (fun hHeld2 => ?_)
        clear hK K hHeld
        have hHeld := hHeld2
        clear hHeld2
        (try simp only [Act.put, List.setIfInBounds_toArray, List.set_cons_zero, List.set_cons_succ])
        refine wpAnyH_take (i := 15) (v := ?vq1_15) op_at15 (by kernel_rfl) (by kernel_rfl) (by kernel_rfl) (fun _ _ _ h => h) (Or.inl ⟨by rfl, ?yq1_15⟩) hHeld ?rq1_15
        case yq1_15 => (intro w hSw; (try dsimp only at hSw); go_simp; (try with_reducible rfl))
        (try simp only [Act.put, List.setIfInBounds_toArray, List.set_cons_zero, List.set_cons_succ])
        refine wpAnyH_ready (rs := [16]) (by kernel_rfl) (by simp) (AllReadyH.cons op_at16 (fun K hK => ?cq1_16) AllReadyH.nil)
        go_simp
        refine hK.out _ _ (by go_keep) (fun hHeld2 => ?_)
        clear hK K hHeld
        have hHeld := hHeld2
        clear hHeld2
        (try simp only [Act.put, List.setIfInBounds_toArray, List.set_cons_zero, List.set_cons_succ])
        refine wpAnyH_take (i := 17) (v := ?vq1_17) op_at17 (by kernel_rfl) (by kernel_rfl) (by kernel_rfl) (fun _ _ _ h => h) (Or.inl ⟨by rfl, ?yq1_17⟩) hHeld ?rq1_17
        case yq1_17 => (intro w hSw; (try dsimp only at hSw); go_simp; (try with_reducible rfl))
        (try simp only [Act.put, List.setIfInBounds_toArray, List.set_cons_zero, List.set_cons_succ])
        refine wpAnyH_done (by kernel_rfl) ?_ _
        by_cases he : er = 0
        · have d0 : (er != 0) = false := by simp [he]
          have HP2 : Hid (playB n S0 F = playB n (S.putW (y0, y1, y2)) (F.drop (k + 1))) := by
            show _ = _
            rw [HI1.out.2.2.2.2, playB, if_pos (by rw [HEX.out.1, ← HRR.out.1]; exact he)]
          have HRN : Hid (Rel n D2 R2 s1 s2 (S.putW (y0, y1, y2))) := HEX.out.2 _ _ _ (HRR.out.2.1 he)
          rw [HRR.out.2.2] at HRN
          clear he
          go_wp2_with fail
          refine ⟨⟨k + 1, D2, R2, _, _, _, A2, B2, k2, k2', by omega, by go_num, HN.out, HRN.out, HP2.out⟩, ?_⟩
          simp [intOf]; omega
        · have d0 : (er != 0) = true := by simpa using he
          have HPP : Hid (PP = ([], [], 0, er)) := by
            have hPF : playB n S0 F = (S, er) := by rw [HI1.out.2.2.2.2, playB, if_neg (by rw [HEX.out.1, ← HRR.out.1]; exact he), HEX.out.1, ← HRR.out.1]
            have := HER.out (by rw [hPF]; exact he)
            rw [hPF] at this
            exact this
          clear he
          go_wp2_with fail
          change bodyPost Try.prog Try.f6 _ _ _ _
          refine bodyPost_ret (v := .tuple #[.slice none 0 0, .slice none 0 0, .int .i64 0, .int .i64 er]) (by simp [results, Try.results6, go_sem]) rfl ?_
          rw [HPP.out]
          exact playPost_no HN.out.old
    · have e : k = F.length := by omega
      subst e
      have hnl : ¬ (F.length : Int) < (F.length : Int) := by omega
      rw [List.drop_length, playB] at hP
      have HE : Hid (Pl2 w wr bf bo (.slice A1 D1.length k1) (.slice B1 R1.length k1') s1 tq D1 R1 ∧ Rel n D1 R1 s1 tq (playB n S0 F).1 ∧ (playB n S0 F).2 = 0) := ⟨hI, by rw [hP]; exact hR, by rw [hP]⟩
      clear hI hR hP
      go_wp2_with fail
      exact HK.out _ _ _ _ _ _ _ _ _ _ _ _ _ _ _ _ _ _ _ _ _ _ _ _ _ _ _ _ _ _ _ _ _ _ _ _ D1 R1 s1 tq A1 B1 k1 k1' _ HE.out.1 HE.out.2.1 HE.out.2.2


end Go.Proofs.Ytlcdefpdahjjeaf
