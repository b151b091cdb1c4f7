/- Contract of space.write, statement by statement. (Written by tools/gen_wr.py.) -/
import Derived.Test.YtlcdefpdahjjeafPgF
import Derived.Test.YtlcdefpdahjjeafWalkX
import Derived.Deep.RegionHeld3
namespace Go.Proofs.Ytlcdefpdahjjeaf
open Go.RowKit

/-- The frames' box, the pages' box, and the two of the answer behind them. -/
structure WrI (w W : World) (d r : Value) (s : List Int) : Prop where
  fb : W.heap[w.heap.size]? = some (.cells #[d, r] 44 (0, 0))
  sb : W.heap[w.heap.size + 1]? = some (.cells (pgc s) 48 (0, 0))
  rb : W.heap[w.heap.size + 2]? = some (.cells #[nilv, nilv] 44 (0, 0))
  rs : W.heap[w.heap.size + 3]? = some (.cells zero16 48 (0, 0))
  old : Below w.heap.size w W
/-- The frames lie outside those boxes. -/
def FrI (w W : World) (d r : Value) (D : List (List Int)) (R : List Int) : Prop :=
  (RowsAt w d D ∧ IntsAt w r R) ∨ (RowsLo (w.heap.size + 4) W d D ∧ IntsLo (w.heap.size + 4) W r R)
theorem WrI.below {w W W' : World} {d r : Value} {s : List Int} (h : WrI w W d r s) (hb : Below W.heap.size W W') : WrI w W' d r s :=
  ⟨(hb.block _ (lt_of_block h.fb)).trans h.fb, (hb.block _ (lt_of_block h.sb)).trans h.sb, (hb.block _ (lt_of_block h.rb)).trans h.rb, (hb.block _ (lt_of_block h.rs)).trans h.rs, h.old.trans (hb.mono h.old.size)⟩
theorem WrI.size {w W : World} {d r : Value} {s : List Int} (h : WrI w W d r s) : w.heap.size + 4 ≤ W.heap.size := lt_of_block h.rs
theorem FrI.below {w W W' : World} {d r : Value} {D : List (List Int)} {R : List Int} (h : FrI w W d r D R) (hb : Below W.heap.size W W') : FrI w W' d r D R := by
  rcases h with h | h
  · exact Or.inl h
  · exact Or.inr ⟨h.1.below hb, h.2.below hb⟩
theorem FrI.set {w W : World} {d r : Value} {D : List (List Int)} {R : List Int} (h : FrI w W d r D R) {a : Addr} (ha : a.block < w.heap.size + 4) (u : Value) : FrI w (W.setCell a u) d r D R := by
  rcases h with h | h
  · exact Or.inl h
  · exact Or.inr ⟨h.1.setCell ha u, h.2.setCell ha u⟩
theorem FrI.at {w W : World} {d r : Value} {D : List (List Int)} {R : List Int} (h : FrI w W d r D R) (ho : Below w.heap.size w W) : RowsAt W d D ∧ IntsAt W r R := by
  rcases h with h | h
  · exact ⟨h.1.below ho, h.2.below ho⟩
  · exact ⟨h.1.at, h.2.at⟩
theorem WrI.setF {w W : World} {d r : Value} {s : List Int} (h : WrI w W d r s) (d' r' : Value) : WrI w ((W.setCell ⟨w.heap.size, 0, none⟩ d').setCell ⟨w.heap.size, 1, none⟩ r') d' r' s :=
  ⟨set1 (set0 h.fb d') r', other_block (other_block h.sb (by omega) _) (by omega) _, other_block (other_block h.rb (by omega) _) (by omega) _, other_block (other_block h.rs (by omega) _) (by omega) _, (h.old.setCell (by simp) _).setCell (by simp) _⟩
theorem WrI.setP {w W : World} {d r : Value} {s : List Int} (h : WrI w W d r s) (p : Nat) (x : Int) : WrI w (W.setCell ⟨w.heap.size + 1, p, none⟩ (.int .i64 x)) d r (s.set p x) :=
  ⟨other_block h.fb (by omega) _, pg_set h.sb x, other_block h.rb (by omega) _, other_block h.rs (by omega) _, h.old.setCell (by simp) _⟩

/-- Frames, pages and an error are answered, in new memory. -/
def WrPost (w : World) (D : List (List Int)) (R s : List Int) (er : Int) (e : Ending) (w' : World) : Prop :=
  ∃ A c B c', e = .returned (.tuple #[.agg #[.slice A D.length c, .slice B R.length c'], .agg (pgc s), .int .i64 er]) ∧ RowsLo w.heap.size w' (.slice A D.length c) D ∧ IntsLo w.heap.size w' (.slice B R.length c') R ∧ Below w.heap.size w w'
def zeros : List Int := List.replicate 16 0
theorem wrPost_no {w w' : World} {er : Int} (hb : Below w.heap.size w w') : WrPost w [] [] zeros er (.returned (.tuple #[.agg #[nilv, nilv], .agg zero16, .int .i64 er])) w' :=
  ⟨none, 0, none, 0, rfl, RowsLo.nil _ _, IntsLo.nil _ _, hb⟩

theorem heap_drew (w : World) : w.drew.heap = w.heap := rfl

set_option maxRecDepth 100000 in
set_option maxHeartbeats 4000000 in
theorem res_write (c0 c1 c2 c3 c6 c7 c11 c12 c13 c14 c15 c16 c17 c18 c19 c20 c21 c22 c23 c24 c25 c26 c27 c28 c29 c30 c31 c32 c33 c34 c35 c36 c37 c38 c39 c40 c41 c42 c43 c44 c45 c46 c47 c48 c49 c50 c51 c52 c53 c54 c55 c56 : Value) (er : Int) (d r : Value) (t0 t1 t2 t3 t4 t5 t6 t7 t8 t9 t10 t11 t12 t13 t14 t15 : Int) (w W : World) (h : W.heap[w.heap.size + 2]? = some (.cells #[d, r] 44 (0, 0))) (h2 : W.heap[w.heap.size + 3]? = some (.cells #[.int .i64 t0, .int .i64 t1, .int .i64 t2, .int .i64 t3, .int .i64 t4, .int .i64 t5, .int .i64 t6, .int .i64 t7, .int .i64 t8, .int .i64 t9, .int .i64 t10, .int .i64 t11, .int .i64 t12, .int .i64 t13, .int .i64 t14, .int .i64 t15] 48 (0, 0))) :
    (results Try.f16 (Act.tmps (⟨#[c0, c1, c2, c3, .pointer (some ⟨w.heap.size, 0, none⟩), .pointer (some ⟨w.heap.size + 1, 0, none⟩), c6, c7, .pointer (some ⟨w.heap.size + 2, 0, none⟩), .pointer (some ⟨w.heap.size + 3, 0, none⟩), .int .i64 er, c11, c12, c13, c14, c15, c16, c17, c18, c19, c20, c21, c22, c23, c24, c25, c26, c27, c28, c29, c30, c31, c32, c33, c34, c35, c36, c37, c38, c39, c40, c41, c42, c43, c44, c45, c46, c47, c48, c49, c50, c51, c52, c53, c54, c55, c56], []⟩ : Act))).run Try.prog W = .ok (.tuple #[.agg #[d, r], .agg #[.int .i64 t0, .int .i64 t1, .int .i64 t2, .int .i64 t3, .int .i64 t4, .int .i64 t5, .int .i64 t6, .int .i64 t7, .int .i64 t8, .int .i64 t9, .int .i64 t10, .int .i64 t11, .int .i64 t12, .int .i64 t13, .int .i64 t14, .int .i64 t15], .int .i64 er]) W := by
  obtain ⟨x0, x1, xf, xl⟩ := two_cells h
  obtain ⟨⟨y0, y1, y2, y3, y4, y5, y6, y7, y8, y9, y10, y11, y12, y13, y14, y15⟩, yf, yl⟩ := sixteen_cells h2
  clear h h2
  simp [results, Try.results16, go_sem, x0, x1, y0, y1, y2, y3, y4, y5, y6, y7, y8, y9, y10, y11, y12, y13, y14, y15]

theorem four_boxes (w : World) (o1 o2 o3 o4 : Obj) : ((((w.alloc o1).alloc o2).alloc o3).alloc o4).heap[w.heap.size]? = some o1 ∧ ((((w.alloc o1).alloc o2).alloc o3).alloc o4).heap[w.heap.size + 1]? = some o2 ∧ ((((w.alloc o1).alloc o2).alloc o3).alloc o4).heap[w.heap.size + 2]? = some o3 ∧ ((((w.alloc o1).alloc o2).alloc o3).alloc o4).heap[w.heap.size + 3]? = some o4 ∧ Below w.heap.size w ((((w.alloc o1).alloc o2).alloc o3).alloc o4) := by
  obtain ⟨b0, b1, b2⟩ := two_boxes (w := w) (o1 := o1) (o2 := o2) (w1 := (((w.alloc o1).alloc o2).alloc o3).alloc o4) (((Below.refl _ _).alloc (Nat.le_refl _) o3).alloc (by simp) o4)
  obtain ⟨b3, b4, -⟩ := two_boxes (Below.refl ((((w.alloc o1).alloc o2).alloc o3).alloc o4).heap.size ((((w.alloc o1).alloc o2).alloc o3).alloc o4))
  have e : ((w.alloc o1).alloc o2).heap.size = w.heap.size + 2 := by simp
  rw [e] at b3 b4
  exact ⟨b0, b1, b3, b4, b2⟩

set_option maxRecDepth 100000 in
set_option maxHeartbeats 4000000 in
theorem wr0 (c2 c3 c4 c5 c6 c7 c8 c9 c10 c11 c12 c13 c14 c15 c16 c17 c18 c19 c20 c21 c22 c23 c24 c25 c26 c27 c28 c29 c30 c31 c32 c33 c34 c35 c36 c37 c38 c39 c40 c41 c42 c43 c44 c45 c46 c47 c48 c49 c50 c51 c52 c53 c54 c55 c56 : Value) (A B : Option Addr) (a0 c b0 c' : Nat) (s0 s1 s2 s3 s4 s5 s6 s7 s8 s9 s10 s11 s12 s13 s14 s15 : Int) (W : World) (K : Act → World → Prop) (Rr : Ending → World → Prop)
    
    (hK : ∀ (W' : World), WrI W W' (.slice A a0 c) (.slice B b0 c') [s0, s1, s2, s3, s4, s5, s6, s7, s8, s9, s10, s11, s12, s13, s14, s15] → K ⟨#[.agg #[.slice A a0 c, .slice B b0 c'], .agg #[.int .i64 s0, .int .i64 s1, .int .i64 s2, .int .i64 s3, .int .i64 s4, .int .i64 s5, .int .i64 s6, .int .i64 s7, .int .i64 s8, .int .i64 s9, .int .i64 s10, .int .i64 s11, .int .i64 s12, .int .i64 s13, .int .i64 s14, .int .i64 s15], c2, c3, .pointer (some ⟨W.heap.size, 0, none⟩), .pointer (some ⟨W.heap.size + 1, 0, none⟩), c6, c7, .pointer (some ⟨W.heap.size + 2, 0, none⟩), .pointer (some ⟨W.heap.size + 3, 0, none⟩), .int .i64 0, c11, c12, c13, c14, c15, c16, c17, c18, c19, c20, c21, c22, c23, c24, c25, c26, c27, c28, c29, c30, c31, c32, c33, c34, c35, c36, c37, c38, c39, c40, c41, c42, c43, c44, c45, c46, c47, c48, c49, c50, c51, c52, c53, c54, c55, c56], []⟩ W') :
    Code.wp Try.prog (stm 0 (Try.f16.body.getD .skip)) (Exit.then K (bodyPost Try.prog Try.f16 Rr)) ⟨#[.agg #[.slice A a0 c, .slice B b0 c'], .agg #[.int .i64 s0, .int .i64 s1, .int .i64 s2, .int .i64 s3, .int .i64 s4, .int .i64 s5, .int .i64 s6, .int .i64 s7, .int .i64 s8, .int .i64 s9, .int .i64 s10, .int .i64 s11, .int .i64 s12, .int .i64 s13, .int .i64 s14, .int .i64 s15], c2, c3, c4, c5, c6, c7, c8, c9, c10, c11, c12, c13, c14, c15, c16, c17, c18, c19, c20, c21, c22, c23, c24, c25, c26, c27, c28, c29, c30, c31, c32, c33, c34, c35, c36, c37, c38, c39, c40, c41, c42, c43, c44, c45, c46, c47, c48, c49, c50, c51, c52, c53, c54, c55, c56], []⟩ W := by
  have HK : Hid (∀ (W' : World), WrI W W' (.slice A a0 c) (.slice B b0 c') [s0, s1, s2, s3, s4, s5, s6, s7, s8, s9, s10, s11, s12, s13, s14, s15] → K ⟨#[.agg #[.slice A a0 c, .slice B b0 c'], .agg #[.int .i64 s0, .int .i64 s1, .int .i64 s2, .int .i64 s3, .int .i64 s4, .int .i64 s5, .int .i64 s6, .int .i64 s7, .int .i64 s8, .int .i64 s9, .int .i64 s10, .int .i64 s11, .int .i64 s12, .int .i64 s13, .int .i64 s14, .int .i64 s15], c2, c3, .pointer (some ⟨W.heap.size, 0, none⟩), .pointer (some ⟨W.heap.size + 1, 0, none⟩), c6, c7, .pointer (some ⟨W.heap.size + 2, 0, none⟩), .pointer (some ⟨W.heap.size + 3, 0, none⟩), .int .i64 0, c11, c12, c13, c14, c15, c16, c17, c18, c19, c20, c21, c22, c23, c24, c25, c26, c27, c28, c29, c30, c31, c32, c33, c34, c35, c36, c37, c38, c39, c40, c41, c42, c43, c44, c45, c46, c47, c48, c49, c50, c51, c52, c53, c54, c55, c56], []⟩ W') := hK
  clear hK
  conv => arg 2; whnf
  have HI : Hid (WrI W ((((W.alloc (.cells #[.slice A a0 c, .slice B b0 c'] 44)).alloc (.cells (pgc [s0, s1, s2, s3, s4, s5, s6, s7, s8, s9, s10, s11, s12, s13, s14, s15]) 48)).alloc (.cells #[nilv, nilv] 44)).alloc (.cells zero16 48)) (.slice A a0 c) (.slice B b0 c') [s0, s1, s2, s3, s4, s5, s6, s7, s8, s9, s10, s11, s12, s13, s14, s15]) := by
    obtain ⟨b1, b2, b3, b4, b5⟩ := four_boxes W (.cells #[.slice A a0 c, .slice B b0 c'] 44) (.cells (pgc [s0, s1, s2, s3, s4, s5, s6, s7, s8, s9, s10, s11, s12, s13, s14, s15]) 48) (.cells #[nilv, nilv] 44) (.cells zero16 48)
    exact ⟨b1, b2, b3, b4, b5⟩
  go_wp2_with fail
  exact HK.out _ HI.out


set_option maxRecDepth 100000 in
set_option maxHeartbeats 4000000 in
theorem wr1 (c0 c1 c3 c6 c7 c10 c11 c12 c13 c14 c15 c16 c17 c18 c19 c20 c21 c22 c23 c24 c25 c26 c27 c28 c29 c30 c31 c32 c33 c34 c35 c36 c37 c38 c39 c40 c41 c42 c43 c44 c45 c46 c47 c48 c49 c50 c51 c52 c53 c54 c55 c56 : Value) (a : Int) (w W : World) (K : Act → World → Prop) (Rr : Ending → World → Prop)
    (h0 : 0 ≤ a) (h1 : a ≤ 255)
    (hK : ∀ (u13 u14 u15 u16 u17 u18 : Value) (W' : World), W' = W → K ⟨#[c0, c1, .int .i64 a, c3, .pointer (some ⟨w.heap.size, 0, none⟩), .pointer (some ⟨w.heap.size + 1, 0, none⟩), c6, c7, .pointer (some ⟨w.heap.size + 2, 0, none⟩), .pointer (some ⟨w.heap.size + 3, 0, none⟩), c10, c11, c12, u13, u14, u15, u16, u17, u18, c19, c20, c21, c22, c23, c24, c25, c26, c27, c28, c29, c30, c31, c32, c33, c34, c35, c36, c37, c38, c39, c40, c41, c42, c43, c44, c45, c46, c47, c48, c49, c50, c51, c52, c53, c54, c55, c56], []⟩ W') :
    Code.wp Try.prog (stm 1 (Try.f16.body.getD .skip)) (Exit.then K (bodyPost Try.prog Try.f16 Rr)) ⟨#[c0, c1, .int .i64 a, c3, .pointer (some ⟨w.heap.size, 0, none⟩), .pointer (some ⟨w.heap.size + 1, 0, none⟩), c6, c7, .pointer (some ⟨w.heap.size + 2, 0, none⟩), .pointer (some ⟨w.heap.size + 3, 0, none⟩), c10, c11, c12, c13, c14, c15, c16, c17, c18, c19, c20, c21, c22, c23, c24, c25, c26, c27, c28, c29, c30, c31, c32, c33, c34, c35, c36, c37, c38, c39, c40, c41, c42, c43, c44, c45, c46, c47, c48, c49, c50, c51, c52, c53, c54, c55, c56], []⟩ W := by
  have HK : Hid (∀ (u13 u14 u15 u16 u17 u18 : Value) (W' : World), W' = W → K ⟨#[c0, c1, .int .i64 a, c3, .pointer (some ⟨w.heap.size, 0, none⟩), .pointer (some ⟨w.heap.size + 1, 0, none⟩), c6, c7, .pointer (some ⟨w.heap.size + 2, 0, none⟩), .pointer (some ⟨w.heap.size + 3, 0, none⟩), c10, c11, c12, u13, u14, u15, u16, u17, u18, c19, c20, c21, c22, c23, c24, c25, c26, c27, c28, c29, c30, c31, c32, c33, c34, c35, c36, c37, c38, c39, c40, c41, c42, c43, c44, c45, c46, c47, c48, c49, c50, c51, c52, c53, c54, c55, c56], []⟩ W') := hK
  clear hK
  conv => arg 2; whnf
  have d0 : ¬ a < 0 := by omega
  have d1 : ¬ 256 ≤ a := by omega
  clear h0 h1
  go_wp2_with fail
  exact HK.out _ _ _ _ _ _ _ rfl


set_option maxRecDepth 100000 in
set_option maxHeartbeats 4000000 in
theorem wr2 (c0 c1 c3 c6 c7 c10 c11 c12 c13 c14 c15 c16 c17 c18 c19 c20 c21 c22 c23 c24 c25 c26 c27 c28 c29 c30 c31 c32 c33 c34 c35 c36 c37 c38 c39 c40 c41 c42 c43 c44 c45 c46 c47 c48 c49 c50 c51 c52 c53 c54 c55 c56 : Value) (a : Int) (A B : Option Addr) (a0 c b0 c' : Nat) (s : List Int) (p : Nat) (D1 : List (List Int)) (R1 : List Int) (n1 e1 : Int) (w W : World) (K : Act → World → Prop) (Rr : Ending → World → Prop)
    (h : WrI w W (.slice A a0 c) (.slice B b0 c') s) (hp : p < 16) (hs : s.length = 16) (hq : a.tdiv 16 = (p : Int))
    (hc : ∀ X, Below w.heap.size w X → w.heap.size + 4 ≤ X.heap.size → Calls Try.prog 27 #[.agg #[.slice A a0 c, .slice B b0 c'], .int .i64 (s.getD p 0)] X fun e w' => ∃ A1 k1 B1 k1', e = .returned (.tuple #[.agg #[.slice A1 D1.length k1, .slice B1 R1.length k1'], .int .i64 n1, .int .i64 e1]) ∧ FrI w w' (.slice A1 D1.length k1) (.slice B1 R1.length k1') D1 R1 ∧ Below X.heap.size X w')
    (hK : ∀ (u21 u22 u23 u24 u25 u26 u27 u28 u29 u30 : Value) (A1 : Option Addr) (k1 : Nat) (B1 : Option Addr) (k1' : Nat) (W' : World), WrI w W' (.slice A1 D1.length k1) (.slice B1 R1.length k1') s → FrI w W' (.slice A1 D1.length k1) (.slice B1 R1.length k1') D1 R1 → K ⟨#[c0, c1, .int .i64 a, c3, .pointer (some ⟨w.heap.size, 0, none⟩), .pointer (some ⟨w.heap.size + 1, 0, none⟩), c6, c7, .pointer (some ⟨w.heap.size + 2, 0, none⟩), .pointer (some ⟨w.heap.size + 3, 0, none⟩), c10, .int .i64 n1, .int .i64 e1, c13, c14, c15, c16, c17, c18, c19, c20, u21, u22, u23, u24, u25, u26, u27, u28, u29, u30, c31, c32, c33, c34, c35, c36, c37, c38, c39, c40, c41, c42, c43, c44, c45, c46, c47, c48, c49, c50, c51, c52, c53, c54, c55, c56], []⟩ W') :
    Code.wp Try.prog (stm 2 (Try.f16.body.getD .skip)) (Exit.then K (bodyPost Try.prog Try.f16 Rr)) ⟨#[c0, c1, .int .i64 a, c3, .pointer (some ⟨w.heap.size, 0, none⟩), .pointer (some ⟨w.heap.size + 1, 0, none⟩), c6, c7, .pointer (some ⟨w.heap.size + 2, 0, none⟩), .pointer (some ⟨w.heap.size + 3, 0, none⟩), c10, c11, c12, c13, c14, c15, c16, c17, c18, c19, c20, c21, c22, c23, c24, c25, c26, c27, c28, c29, c30, c31, c32, c33, c34, c35, c36, c37, c38, c39, c40, c41, c42, c43, c44, c45, c46, c47, c48, c49, c50, c51, c52, c53, c54, c55, c56], []⟩ W := by
  have HK : Hid (∀ (u21 u22 u23 u24 u25 u26 u27 u28 u29 u30 : Value) (A1 : Option Addr) (k1 : Nat) (B1 : Option Addr) (k1' : Nat) (W' : World), WrI w W' (.slice A1 D1.length k1) (.slice B1 R1.length k1') s → FrI w W' (.slice A1 D1.length k1) (.slice B1 R1.length k1') D1 R1 → K ⟨#[c0, c1, .int .i64 a, c3, .pointer (some ⟨w.heap.size, 0, none⟩), .pointer (some ⟨w.heap.size + 1, 0, none⟩), c6, c7, .pointer (some ⟨w.heap.size + 2, 0, none⟩), .pointer (some ⟨w.heap.size + 3, 0, none⟩), c10, .int .i64 n1, .int .i64 e1, c13, c14, c15, c16, c17, c18, c19, c20, u21, u22, u23, u24, u25, u26, u27, u28, u29, u30, c31, c32, c33, c34, c35, c36, c37, c38, c39, c40, c41, c42, c43, c44, c45, c46, c47, c48, c49, c50, c51, c52, c53, c54, c55, c56], []⟩ W') := hK
  clear hK
  conv => arg 2; whnf
  obtain ⟨f0, f1, ff, fl⟩ := two_cells h.fb
  obtain ⟨q0, qf, ql⟩ := pg_cell h.sb (i := p) (by omega)
  obtain ⟨x, hx⟩ : ∃ x, x = s.getD p 0 := ⟨_, rfl⟩
  rw [← hx] at q0 hc
  have HC : Hid (Calls Try.prog 27 #[.agg #[.slice A a0 c, .slice B b0 c'], .int .i64 x] W.drew fun e w' => ∃ A1 k1 B1 k1', e = .returned (.tuple #[.agg #[.slice A1 D1.length k1, .slice B1 R1.length k1'], .int .i64 n1, .int .i64 e1]) ∧ FrI w w' (.slice A1 D1.length k1) (.slice B1 R1.length k1') D1 R1 ∧ Below W.heap.size W.drew w') := hc W.drew h.old.drew h.size
  have HI : Hid (WrI w W (.slice A a0 c) (.slice B b0 c') s) := h
  have hwp : IntKind.i64.wrap (p : Int) = (p : Int) := IntWalk.i64_in _ (by omega)
  have hpl : (p : Int) < 16 := by omega
  have nb : ¬ w.heap.size + 1 = w.heap.size := by omega
  clear h hc hx hs
  go_region_law
    (first
      | (go_simp; go_at_call 27; refine HC.out.mono ?_; rintro e w1 ⟨A1, k1, B1, k1', rfl, hF1, hb1⟩; have hI1 := HI.out.below (((Below.refl _ W).drew).trans hb1); have HI1 : Hid (WrI w w1 (.slice A a0 c) (.slice B b0 c') s ∧ FrI w w1 (.slice A1 D1.length k1) (.slice B1 R1.length k1') D1 R1) := ⟨hI1, hF1⟩; obtain ⟨g0, g1, gf, gl⟩ := two_cells hI1.fb; have q1 := ((((Below.refl _ W).drew).trans hb1).cell (p := ⟨w.heap.size + 1, p, none⟩) ql).trans q0; clear hI1 hF1 hb1))
  all_goals
    go_wp2_with fail
    refine HK.out _ _ _ _ _ _ _ _ _ _ A1 k1 B1 k1' _ ?_ ?_
    · exact HI1.out.1.setF _ _
    · exact (HI1.out.2.set (by simp <;> omega) _).set (by simp <;> omega) _


set_option maxRecDepth 100000 in
set_option maxHeartbeats 4000000 in
theorem wr3 (c0 c1 c2 c3 c6 c7 c10 c11 c13 c14 c15 c16 c17 c18 c19 c20 c21 c22 c23 c24 c25 c26 c27 c28 c29 c30 c31 c32 c33 c34 c35 c36 c37 c38 c39 c40 c41 c42 c43 c44 c45 c46 c47 c48 c49 c50 c51 c52 c53 c54 c55 c56 : Value)  (w W : World) (K : Act → World → Prop) (Rr : Ending → World → Prop)
    
    (hK : ∀ (u31 u32 : Value) (W' : World), W' = W → K ⟨#[c0, c1, c2, c3, .pointer (some ⟨w.heap.size, 0, none⟩), .pointer (some ⟨w.heap.size + 1, 0, none⟩), c6, c7, .pointer (some ⟨w.heap.size + 2, 0, none⟩), .pointer (some ⟨w.heap.size + 3, 0, none⟩), c10, c11, .int .i64 0, c13, c14, c15, c16, c17, c18, c19, c20, c21, c22, c23, c24, c25, c26, c27, c28, c29, c30, u31, u32, c33, c34, c35, c36, c37, c38, c39, c40, c41, c42, c43, c44, c45, c46, c47, c48, c49, c50, c51, c52, c53, c54, c55, c56], []⟩ W') :
    Code.wp Try.prog (stm 3 (Try.f16.body.getD .skip)) (Exit.then K (bodyPost Try.prog Try.f16 Rr)) ⟨#[c0, c1, c2, c3, .pointer (some ⟨w.heap.size, 0, none⟩), .pointer (some ⟨w.heap.size + 1, 0, none⟩), c6, c7, .pointer (some ⟨w.heap.size + 2, 0, none⟩), .pointer (some ⟨w.heap.size + 3, 0, none⟩), c10, c11, .int .i64 0, c13, c14, c15, c16, c17, c18, c19, c20, c21, c22, c23, c24, c25, c26, c27, c28, c29, c30, c31, c32, c33, c34, c35, c36, c37, c38, c39, c40, c41, c42, c43, c44, c45, c46, c47, c48, c49, c50, c51, c52, c53, c54, c55, c56], []⟩ W := by
  have HK : Hid (∀ (u31 u32 : Value) (W' : World), W' = W → K ⟨#[c0, c1, c2, c3, .pointer (some ⟨w.heap.size, 0, none⟩), .pointer (some ⟨w.heap.size + 1, 0, none⟩), c6, c7, .pointer (some ⟨w.heap.size + 2, 0, none⟩), .pointer (some ⟨w.heap.size + 3, 0, none⟩), c10, c11, .int .i64 0, c13, c14, c15, c16, c17, c18, c19, c20, c21, c22, c23, c24, c25, c26, c27, c28, c29, c30, u31, u32, c33, c34, c35, c36, c37, c38, c39, c40, c41, c42, c43, c44, c45, c46, c47, c48, c49, c50, c51, c52, c53, c54, c55, c56], []⟩ W') := hK
  clear hK
  conv => arg 2; whnf
  go_wp2_with fail
  exact HK.out _ _ _ rfl


set_option maxRecDepth 100000 in
set_option maxHeartbeats 4000000 in
theorem wr5 (c0 c1 c2 c3 c6 c7 c10 c11 c13 c14 c15 c16 c17 c18 c19 c20 c21 c22 c23 c24 c25 c26 c27 c28 c29 c30 c31 c32 c33 c34 c35 c36 c37 c38 c39 c40 c41 c42 c43 c44 c45 c46 c47 c48 c49 c50 c51 c52 c53 c54 c55 c56 : Value)  (w W : World) (K : Act → World → Prop) (Rr : Ending → World → Prop)
    
    (hK : ∀ (u46 u47 : Value) (W' : World), W' = W → K ⟨#[c0, c1, c2, c3, .pointer (some ⟨w.heap.size, 0, none⟩), .pointer (some ⟨w.heap.size + 1, 0, none⟩), c6, c7, .pointer (some ⟨w.heap.size + 2, 0, none⟩), .pointer (some ⟨w.heap.size + 3, 0, none⟩), c10, c11, .int .i64 0, c13, c14, c15, c16, c17, c18, c19, c20, c21, c22, c23, c24, c25, c26, c27, c28, c29, c30, c31, c32, c33, c34, c35, c36, c37, c38, c39, c40, c41, c42, c43, c44, c45, u46, u47, c48, c49, c50, c51, c52, c53, c54, c55, c56], []⟩ W') :
    Code.wp Try.prog (stm 5 (Try.f16.body.getD .skip)) (Exit.then K (bodyPost Try.prog Try.f16 Rr)) ⟨#[c0, c1, c2, c3, .pointer (some ⟨w.heap.size, 0, none⟩), .pointer (some ⟨w.heap.size + 1, 0, none⟩), c6, c7, .pointer (some ⟨w.heap.size + 2, 0, none⟩), .pointer (some ⟨w.heap.size + 3, 0, none⟩), c10, c11, .int .i64 0, c13, c14, c15, c16, c17, c18, c19, c20, c21, c22, c23, c24, c25, c26, c27, c28, c29, c30, c31, c32, c33, c34, c35, c36, c37, c38, c39, c40, c41, c42, c43, c44, c45, c46, c47, c48, c49, c50, c51, c52, c53, c54, c55, c56], []⟩ W := by
  have HK : Hid (∀ (u46 u47 : Value) (W' : World), W' = W → K ⟨#[c0, c1, c2, c3, .pointer (some ⟨w.heap.size, 0, none⟩), .pointer (some ⟨w.heap.size + 1, 0, none⟩), c6, c7, .pointer (some ⟨w.heap.size + 2, 0, none⟩), .pointer (some ⟨w.heap.size + 3, 0, none⟩), c10, c11, .int .i64 0, c13, c14, c15, c16, c17, c18, c19, c20, c21, c22, c23, c24, c25, c26, c27, c28, c29, c30, c31, c32, c33, c34, c35, c36, c37, c38, c39, c40, c41, c42, c43, c44, c45, u46, u47, c48, c49, c50, c51, c52, c53, c54, c55, c56], []⟩ W') := hK
  clear hK
  conv => arg 2; whnf
  go_wp2_with fail
  exact HK.out _ _ _ rfl


set_option maxRecDepth 100000 in
set_option maxHeartbeats 4000000 in
theorem wr4 (c0 c1 c6 c7 c10 c12 c13 c14 c15 c16 c17 c18 c19 c20 c21 c22 c23 c24 c25 c26 c27 c28 c29 c30 c31 c32 c33 c34 c35 c36 c37 c38 c39 c40 c41 c42 c43 c44 c45 c46 c47 c48 c49 c50 c51 c52 c53 c54 c55 c56 : Value) (a v n1 : Int) (A B : Option Addr) (c c' : Nat) (s : List Int) (i : Nat) (D1 D2 : List (List Int)) (R1 R2 : List Int) (n2 e2 : Int) (w W : World) (K : Act → World → Prop) (Rr : Ending → World → Prop)
    (h : WrI w W (.slice A D1.length c) (.slice B R1.length c') s) (hf : FrI w W (.slice A D1.length c) (.slice B R1.length c') D1 R1) (hi : i < 16) (hq : a.tmod 16 = (i : Int))
    (hc : ∀ X, RowsAt X (.slice A D1.length c) D1 → IntsAt X (.slice B R1.length c') R1 → Calls Try.prog 28 #[.agg #[.slice A D1.length c, .slice B R1.length c'], .int .i64 n1, .int .i64 (i : Int), .int .i64 v] X fun e w' => Res3 X D2 R2 n2 e2 e w')
    (hK : ∀ (u36 u37 u38 u39 u40 u41 u42 u43 u44 u45 : Value) (A2 : Option Addr) (k2 : Nat) (B2 : Option Addr) (k2' : Nat) (W' : World), WrI w W' (.slice A2 D2.length k2) (.slice B2 R2.length k2') s → RowsLo (w.heap.size + 4) W' (.slice A2 D2.length k2) D2 ∧ IntsLo (w.heap.size + 4) W' (.slice B2 R2.length k2') R2 → K ⟨#[c0, c1, .int .i64 a, .int .i64 v, .pointer (some ⟨w.heap.size, 0, none⟩), .pointer (some ⟨w.heap.size + 1, 0, none⟩), c6, c7, .pointer (some ⟨w.heap.size + 2, 0, none⟩), .pointer (some ⟨w.heap.size + 3, 0, none⟩), c10, .int .i64 n2, .int .i64 e2, c13, c14, c15, c16, c17, c18, c19, c20, c21, c22, c23, c24, c25, c26, c27, c28, c29, c30, c31, c32, c33, c34, c35, u36, u37, u38, u39, u40, u41, u42, u43, u44, u45, c46, c47, c48, c49, c50, c51, c52, c53, c54, c55, c56], []⟩ W') :
    Code.wp Try.prog (stm 4 (Try.f16.body.getD .skip)) (Exit.then K (bodyPost Try.prog Try.f16 Rr)) ⟨#[c0, c1, .int .i64 a, .int .i64 v, .pointer (some ⟨w.heap.size, 0, none⟩), .pointer (some ⟨w.heap.size + 1, 0, none⟩), c6, c7, .pointer (some ⟨w.heap.size + 2, 0, none⟩), .pointer (some ⟨w.heap.size + 3, 0, none⟩), c10, .int .i64 n1, c12, c13, c14, c15, c16, c17, c18, c19, c20, c21, c22, c23, c24, c25, c26, c27, c28, c29, c30, c31, c32, c33, c34, c35, c36, c37, c38, c39, c40, c41, c42, c43, c44, c45, c46, c47, c48, c49, c50, c51, c52, c53, c54, c55, c56], []⟩ W := by
  have HK : Hid (∀ (u36 u37 u38 u39 u40 u41 u42 u43 u44 u45 : Value) (A2 : Option Addr) (k2 : Nat) (B2 : Option Addr) (k2' : Nat) (W' : World), WrI w W' (.slice A2 D2.length k2) (.slice B2 R2.length k2') s → RowsLo (w.heap.size + 4) W' (.slice A2 D2.length k2) D2 ∧ IntsLo (w.heap.size + 4) W' (.slice B2 R2.length k2') R2 → K ⟨#[c0, c1, .int .i64 a, .int .i64 v, .pointer (some ⟨w.heap.size, 0, none⟩), .pointer (some ⟨w.heap.size + 1, 0, none⟩), c6, c7, .pointer (some ⟨w.heap.size + 2, 0, none⟩), .pointer (some ⟨w.heap.size + 3, 0, none⟩), c10, .int .i64 n2, .int .i64 e2, c13, c14, c15, c16, c17, c18, c19, c20, c21, c22, c23, c24, c25, c26, c27, c28, c29, c30, c31, c32, c33, c34, c35, u36, u37, u38, u39, u40, u41, u42, u43, u44, u45, c46, c47, c48, c49, c50, c51, c52, c53, c54, c55, c56], []⟩ W') := hK
  clear hK
  conv => arg 2; whnf
  obtain ⟨f0, f1, ff, fl⟩ := two_cells h.fb
  have HC : Hid (Calls Try.prog 28 #[.agg #[.slice A D1.length c, .slice B R1.length c'], .int .i64 n1, .int .i64 (i : Int), .int .i64 v] W fun e w' => Res3 W D2 R2 n2 e2 e w') := hc W (hf.at h.old).1 (hf.at h.old).2
  have HI : Hid (WrI w W (.slice A D1.length c) (.slice B R1.length c') s) := h
  have hwp : IntKind.i64.wrap (i : Int) = (i : Int) := IntWalk.i64_in _ (by omega)
  clear h hc hf
  go_wp2_with fail
  refine HC.out.mono ?_
  rintro e w1 ⟨A2, k2, B2, k2', rfl, hD, hR, hb1⟩
  have hI1 := HI.out.below hb1
  have hsz := HI.out.size
  have HI1 : Hid (WrI w w1 (.slice A D1.length c) (.slice B R1.length c') s ∧ RowsLo (w.heap.size + 4) w1 (.slice A2 D2.length k2) D2 ∧ IntsLo (w.heap.size + 4) w1 (.slice B2 R2.length k2') R2) := ⟨hI1, hD.mono hsz, hR.mono hsz⟩
  obtain ⟨g0, g1, gf, gl⟩ := two_cells hI1.fb
  clear hI1 hD hR hb1 HC hsz
  dsimp only
  go_wp2_with fail
  refine HK.out _ _ _ _ _ _ _ _ _ _ A2 k2 B2 k2' _ ?_ ?_
  · exact HI1.out.1.setF _ _
  · exact ⟨(HI1.out.2.1.setCell (by simp <;> omega) _).setCell (by simp <;> omega) _, (HI1.out.2.2.setCell (by simp <;> omega) _).setCell (by simp <;> omega) _⟩


set_option maxRecDepth 100000 in
set_option maxHeartbeats 4000000 in
theorem wr6 (c0 c1 c3 c6 c7 c10 c12 c13 c14 c15 c16 c17 c18 c19 c20 c21 c22 c23 c24 c25 c26 c27 c28 c29 c30 c31 c32 c33 c34 c35 c36 c37 c38 c39 c40 c41 c42 c43 c44 c45 c46 c47 c48 c49 c50 c51 c52 c53 c54 c55 c56 : Value) (a n2 : Int) (d r : Value) (s : List Int) (p : Nat) (w W : World) (K : Act → World → Prop) (Rr : Ending → World → Prop)
    (h : WrI w W d r s) (hp : p < 16) (hs : s.length = 16) (hq : a.tdiv 16 = (p : Int))
    (hK : ∀ (u51 u52 u53 u54 : Value) (W' : World), W' = W.setCell ⟨w.heap.size + 1, p, none⟩ (.int .i64 n2) → K ⟨#[c0, c1, .int .i64 a, c3, .pointer (some ⟨w.heap.size, 0, none⟩), .pointer (some ⟨w.heap.size + 1, 0, none⟩), c6, c7, .pointer (some ⟨w.heap.size + 2, 0, none⟩), .pointer (some ⟨w.heap.size + 3, 0, none⟩), c10, .int .i64 n2, c12, c13, c14, c15, c16, c17, c18, c19, c20, c21, c22, c23, c24, c25, c26, c27, c28, c29, c30, c31, c32, c33, c34, c35, c36, c37, c38, c39, c40, c41, c42, c43, c44, c45, c46, c47, c48, c49, c50, u51, u52, u53, u54, c55, c56], []⟩ W') :
    Code.wp Try.prog (stm 6 (Try.f16.body.getD .skip)) (Exit.then K (bodyPost Try.prog Try.f16 Rr)) ⟨#[c0, c1, .int .i64 a, c3, .pointer (some ⟨w.heap.size, 0, none⟩), .pointer (some ⟨w.heap.size + 1, 0, none⟩), c6, c7, .pointer (some ⟨w.heap.size + 2, 0, none⟩), .pointer (some ⟨w.heap.size + 3, 0, none⟩), c10, .int .i64 n2, c12, c13, c14, c15, c16, c17, c18, c19, c20, c21, c22, c23, c24, c25, c26, c27, c28, c29, c30, c31, c32, c33, c34, c35, c36, c37, c38, c39, c40, c41, c42, c43, c44, c45, c46, c47, c48, c49, c50, c51, c52, c53, c54, c55, c56], []⟩ W := by
  have HK : Hid (∀ (u51 u52 u53 u54 : Value) (W' : World), W' = W.setCell ⟨w.heap.size + 1, p, none⟩ (.int .i64 n2) → K ⟨#[c0, c1, .int .i64 a, c3, .pointer (some ⟨w.heap.size, 0, none⟩), .pointer (some ⟨w.heap.size + 1, 0, none⟩), c6, c7, .pointer (some ⟨w.heap.size + 2, 0, none⟩), .pointer (some ⟨w.heap.size + 3, 0, none⟩), c10, .int .i64 n2, c12, c13, c14, c15, c16, c17, c18, c19, c20, c21, c22, c23, c24, c25, c26, c27, c28, c29, c30, c31, c32, c33, c34, c35, c36, c37, c38, c39, c40, c41, c42, c43, c44, c45, c46, c47, c48, c49, c50, u51, u52, u53, u54, c55, c56], []⟩ W') := hK
  clear hK
  conv => arg 2; whnf
  obtain ⟨q0, qf, ql⟩ := pg_cell h.sb (i := p) (by omega)
  have hwp : IntKind.i64.wrap (p : Int) = (p : Int) := IntWalk.i64_in _ (by omega)
  have hpl : (p : Int) < 16 := by omega
  clear h hs
  go_wp2_with fail
  exact HK.out _ _ _ _ _ rfl


end Go.Proofs.Ytlcdefpdahjjeaf
