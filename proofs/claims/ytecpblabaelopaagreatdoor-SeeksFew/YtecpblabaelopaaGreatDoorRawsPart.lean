/- A slice of raw things. -/
import Derived.Test.YtecpblabaelopaaGreatDoorBasePart
import Derived.Test.YtecpblabaelopaaGreatDoorByEncodePart
import Derived.Test.YtecpblabaelopaaGreatDoorOwnPart
import Derived.Test.YtecpblabaelopaaGreatDoorSpcFPart
import Derived.Test.YtecpblabaelopaaGreatDoorHoBPart
import Derived.Deep.AppendLies
import Derived.Deep.RegionLaw
import Derived.Deep.DeepCutAuto
namespace Go.Proofs.YtecpblabaelopaaGreatDoor
open Go.RowKit

def RawsIn (w : World) (v : Value) (n : Nat) : Prop :=
  ∃ (A : Option Addr) (c : Nat), v = .slice A n c ∧ n * 32 ≤ 140737488351232 ∧
    (0 < n → ∃ b off, A = some ⟨b, off, none⟩ ∧ b < w.heap.size ∧ ∀ j, j < n → ∃ x0 x1 x2 x3 : Int, (Lit.int .i64 x0).wf = true ∧ (Lit.int .i64 x1).wf = true ∧ (Lit.int .i64 x2).wf = true ∧ (Lit.int .i64 x3).wf = true ∧
      w.cell? ⟨b, off + j * 4, none⟩ = some (.int .i64 x0) ∧ w.cell? ⟨b, off + j * 4 + 1, none⟩ = some (.int .i64 x1) ∧ w.cell? ⟨b, off + j * 4 + 2, none⟩ = some (.int .i64 x2) ∧ w.cell? ⟨b, off + j * 4 + 3, none⟩ = some (.int .i64 x3))
theorem RawsIn.below {w w' : World} {v : Value} {n : Nat} (h : RawsIn w v n) (hb : Below w.heap.size w w') : RawsIn w' v n := by
  obtain ⟨A, c, rfl, hl, hc⟩ := h
  refine ⟨A, c, rfl, hl, fun h0 => ?_⟩
  obtain ⟨b, off, rfl, hlt, hj⟩ := hc h0
  refine ⟨b, off, rfl, Nat.lt_of_lt_of_le hlt hb.size, fun j hjl => ?_⟩
  obtain ⟨x0, x1, x2, x3, f0, f1, f2, f3, c0, c1, c2, c3⟩ := hj j hjl
  exact ⟨x0, x1, x2, x3, f0, f1, f2, f3, (hb.cell (p := ⟨b, off + j * 4, none⟩) hlt).trans c0, (hb.cell (p := ⟨b, off + j * 4 + 1, none⟩) hlt).trans c1, (hb.cell (p := ⟨b, off + j * 4 + 2, none⟩) hlt).trans c2, (hb.cell (p := ⟨b, off + j * 4 + 3, none⟩) hlt).trans c3⟩

end Go.Proofs.YtecpblabaelopaaGreatDoor

/- Contract of picked: a number from 0 to many - 1. -/

namespace Go.Proofs.YtecpblabaelopaaGreatDoor
open Go.RowKit

def pickF (n m : Int) : Int := (if n < 0 then -(n + 1) else n) % m
theorem pickF_bd (n : Int) {m : Int} (hm : 0 < m) : 0 ≤ pickF n m ∧ pickF n m < m := ⟨Int.emod_nonneg _ (by omega), Int.emod_lt_of_pos _ hm⟩
theorem wf_bd {n : Int} (h : (Lit.int .i64 n).wf = true) : -9223372036854775808 ≤ n ∧ n ≤ 9223372036854775807 := by
  simpa [Lit.wf, IntKind.min, IntKind.max, IntKind.signed, IntKind.bits] using h

set_option maxHeartbeats 400000 in
theorem picked_any (n m : Int) (w : World) (hn : (Lit.int .i64 n).wf = true) (hm : 0 < m) (hm2 : m ≤ 1000000) :
    Calls Tryz.prog 16 #[.int .i64 n, .int .i64 m] w fun e w' => e = .returned (.int .i64 (pickF n m)) ∧ w' = w := by
  obtain ⟨b1, b2⟩ := wf_bd hn
  clear hn
  have hm0 : (m == 0) = false := by simp; omega
  by_cases h : n < 0
  · have HP : Hid (pickF n m = (-(n + 1)) % m) := by show _ = _; simp [pickF, h]
    go_enter Tryz.func16, Tryz.ntmps16
    go_wp2
    go_ret
    rw [HP.out, ← Int.tmod_eq_emod_of_nonneg (by omega), Int.neg_tmod]
    exact ⟨rfl, rfl⟩
  · have HP : Hid (pickF n m = n % m) := by show _ = _; simp [pickF, h]
    go_enter Tryz.func16, Tryz.ntmps16
    go_wp2
    go_ret
    rw [HP.out]
    exact ⟨rfl, rfl⟩

end Go.Proofs.YtecpblabaelopaaGreatDoor

/- The world of raw things, plainly. -/

namespace Go.Proofs.YtecpblabaelopaaGreatDoor
open Go.RowKit
set_option maxRecDepth 100000

abbrev Raw4 := Int × Int × Int × Int
def raw0 : Raw4 := (0, 0, 0, 0)
def Raw4.wf (r : Raw4) : Prop := (Lit.int .i64 r.1).wf = true ∧ (Lit.int .i64 r.2.1).wf = true ∧ (Lit.int .i64 r.2.2.1).wf = true ∧ (Lit.int .i64 r.2.2.2).wf = true
def RawsL (w : World) (v : Value) (R : List Raw4) : Prop :=
  ∃ (A : Option Addr) (c : Nat), v = .slice A R.length c ∧ R.length * 32 ≤ 140737488351232 ∧ (∀ j, j < R.length → (R.getD j raw0).wf) ∧
    (0 < R.length → ∃ b off, A = some ⟨b, off, none⟩ ∧ b < w.heap.size ∧ ∀ j, j < R.length →
      w.cell? ⟨b, off + j * 4, none⟩ = some (.int .i64 (R.getD j raw0).1) ∧ w.cell? ⟨b, off + j * 4 + 1, none⟩ = some (.int .i64 (R.getD j raw0).2.1) ∧ w.cell? ⟨b, off + j * 4 + 2, none⟩ = some (.int .i64 (R.getD j raw0).2.2.1) ∧ w.cell? ⟨b, off + j * 4 + 3, none⟩ = some (.int .i64 (R.getD j raw0).2.2.2))
theorem RawsL.below {w w' : World} {v : Value} {R : List Raw4} (h : RawsL w v R) (hb : Below w.heap.size w w') : RawsL w' v R := by
  obtain ⟨A, c, rfl, hl, hf, hc⟩ := h
  refine ⟨A, c, rfl, hl, hf, fun h0 => ?_⟩
  obtain ⟨b, off, rfl, hlt, hj⟩ := hc h0
  refine ⟨b, off, rfl, Nat.lt_of_lt_of_le hlt hb.size, fun j hjl => ?_⟩
  obtain ⟨c0, c1, c2, c3⟩ := hj j hjl
  exact ⟨(hb.cell (p := ⟨b, off + j * 4, none⟩) hlt).trans c0, (hb.cell (p := ⟨b, off + j * 4 + 1, none⟩) hlt).trans c1, (hb.cell (p := ⟨b, off + j * 4 + 2, none⟩) hlt).trans c2, (hb.cell (p := ⟨b, off + j * 4 + 3, none⟩) hlt).trans c3⟩
theorem RawsIn.some_ {w : World} {v : Value} {n : Nat} (h : RawsIn w v n) : ∃ R, R.length = n ∧ RawsL w v R := by
  obtain ⟨A, c, rfl, hl, hc⟩ := h
  by_cases h0 : 0 < n
  · obtain ⟨b, off, rfl, hlt, hj⟩ := hc h0
    have key : ∀ j : Fin n, ∃ r : Raw4, r.wf ∧ w.cell? ⟨b, off + j.1 * 4, none⟩ = some (.int .i64 r.1) ∧ w.cell? ⟨b, off + j.1 * 4 + 1, none⟩ = some (.int .i64 r.2.1) ∧ w.cell? ⟨b, off + j.1 * 4 + 2, none⟩ = some (.int .i64 r.2.2.1) ∧ w.cell? ⟨b, off + j.1 * 4 + 3, none⟩ = some (.int .i64 r.2.2.2) := fun j => by
      obtain ⟨x0, x1, x2, x3, f0, f1, f2, f3, c0, c1, c2, c3⟩ := hj j.1 j.2
      exact ⟨(x0, x1, x2, x3), ⟨f0, f1, f2, f3⟩, c0, c1, c2, c3⟩
    have e : ∀ j (hjl : j < n), (List.ofFn fun j : Fin n => Classical.choose (key j)).getD j raw0 = Classical.choose (key ⟨j, hjl⟩) := fun j hjl => by
      simp [List.getD, hjl]
    refine ⟨List.ofFn fun j => Classical.choose (key j), by simp, _, c, by simp, by simpa using hl, fun j hjl => ?_, fun _ => ⟨b, off, rfl, hlt, fun j hjl => ?_⟩⟩
    · have hjn : j < n := by simpa using hjl
      rw [e j hjn]
      exact (Classical.choose_spec (key ⟨j, hjn⟩)).1
    · have hjn : j < n := by simpa using hjl
      rw [e j hjn]
      exact (Classical.choose_spec (key ⟨j, hjn⟩)).2
  · obtain rfl : n = 0 := by omega
    exact ⟨[], rfl, A, c, rfl, by simp, fun j hj => by simp at hj, fun h => by simp at h⟩
def blockF (c : Int) (n : Nat) : List Int := (List.range n).map fun k => pickF (c.tdiv ((k / 4 + 1 : Nat) : Int)) 9
theorem blockF_len (c : Int) (n : Nat) : (blockF c n).length = n := by simp [blockF]
theorem blockF_small (c : Int) (n : Nat) : small8 (blockF c n) := fun x hx => by
  obtain ⟨k, _, rfl⟩ := List.mem_map.1 hx
  have := pickF_bd (c.tdiv ((k / 4 + 1 : Nat) : Int)) (m := 9) (by decide)
  omega
def isB (r : Raw4) : Bool := decide (pickF r.1 3 = 0)
def worldF (R : List Raw4) : Wd :=
  { irqs := R.map fun r => pickF r.2.1 300
    values := R.map fun r => pickF r.2.2.1 100 - 50
    blocks := (R.filter isB).map fun r => blockF r.2.2.2 16
    delays := R.map fun r => pickF r.2.2.2 20 }
theorem allIn_of {lo hi : Int} {l : List Int} (h : ∀ x ∈ l, lo ≤ x ∧ x ≤ hi) : allIn lo hi l = true := by
  unfold allIn
  rw [List.all_eq_true]
  exact fun x hx => inB_iff.2 (h x hx)
theorem allB_of {l : List Int} (h : ∀ x ∈ l, -1099511627776 ≤ x ∧ x ≤ 1099511627776) : allB l = true := allB_iff.2 fun i hi => by
  have := h (l.getD i 0) (by simp [List.getD, hi])
  simpa [wordB, inB] using this
theorem blocksNo_of : ∀ {D : List (List Int)}, (∀ b ∈ D, b.length = 16 ∧ allB b = true) → blocksNo D = 0
  | [], _ => rfl
  | b :: D, h => by
    have ih := blocksNo_of (D := D) fun x hx => h x (List.mem_cons_of_mem _ hx)
    obtain ⟨h1, h2⟩ := h b (by simp)
    unfold blocksNo
    simp [h1, h2, ih]
theorem worldF_no {R : List Raw4} (hR : R.length ≤ 20) : worldNo (worldF R) = 0 := by
  have h1 : (worldF R).fits = true := by
    have := List.length_filter_le isB R
    unfold Wd.fits
    apply decide_eq_true
    simp only [worldF, List.length_map]
    omega
  have h2 : allIn 0 3000 (worldF R).irqs = true := allIn_of fun x hx => by
    obtain ⟨r, _, rfl⟩ := List.mem_map.1 hx
    have := pickF_bd r.2.1 (m := 300) (by decide)
    omega
  have h3 : allIn 0 3000 (worldF R).delays = true := allIn_of fun x hx => by
    obtain ⟨r, _, rfl⟩ := List.mem_map.1 hx
    have := pickF_bd r.2.2.2 (m := 20) (by decide)
    omega
  have h4 : allB (worldF R).values = true := allB_of fun x hx => by
    obtain ⟨r, _, rfl⟩ := List.mem_map.1 hx
    have := pickF_bd r.2.2.1 (m := 100) (by decide)
    omega
  have h5 : blocksNo (worldF R).blocks = 0 := blocksNo_of fun b hb => by
    obtain ⟨r, _, rfl⟩ := List.mem_map.1 hb
    exact ⟨blockF_len _ _, allB_of fun x hx => by have := blockF_small _ _ x hx; omega⟩
  unfold worldNo
  rw [if_pos h1, if_pos ⟨h2, h3, h4⟩, h5]
theorem worldF_small {R : List Raw4} (hR : R.length ≤ 20) : WdSmall (worldF R) :=
  ⟨worldNo_may (worldF_no hR), fun b hb => by
    obtain ⟨r, _, rfl⟩ := List.mem_map.1 hb
    exact blockF_small _ _, by show (R.map _).length ≤ 21; simp; omega⟩
theorem getD_mem4 {R : List Raw4} {j : Nat} (h : j < R.length) : R.getD j raw0 = R[j] := by simp [List.getD, h]
theorem take_snoc4 {R : List Raw4} {k : Nat} (h : k < R.length) : R.take (k + 1) = R.take k ++ [R.getD k raw0] := by
  rw [List.take_succ_eq_append_getElem h, getD_mem4 h]

end Go.Proofs.YtecpblabaelopaaGreatDoor

/- Slices of numbers of the call's own, apart from one another; a world that is being made. Plain laws. -/

namespace Go.Proofs.YtecpblabaelopaaGreatDoor
open Go.RowKit
set_option maxRecDepth 100000

def OwnAll (w : World) (lo : Nat) (L : List (Value × List Int)) : Prop := (∀ p ∈ L, OwnI w lo p.1 p.2) ∧ L.Pairwise fun p q => Apart p.1 q.1
theorem OwnAll.below {w w' : World} {lo : Nat} {L : List (Value × List Int)} (h : OwnAll w lo L) (hb : Below w.heap.size w w') : OwnAll w' lo L := ⟨fun p hp => (h.1 p hp).below hb, h.2⟩
theorem own_lt {w : World} {lo : Nat} {v : Value} {l : List Int} (h : OwnI w lo v l) {g : Nat} (hg : v.ownBlock = some g) : g < w.heap.size := (World.ownsRow.lt h g hg).2
theorem OwnAll.put {w w1 : World} {lo : Nat} {A B : List (Value × List Int)} {v v' : Value} {l l' : List Int} (h : OwnAll w lo (A ++ (v, l) :: B)) (hg : w.grownBy w1 v.ownBlock) (ho : OwnI w1 lo v' l') (ha : ∀ g, v'.ownBlock = some g → v.ownBlock = some g ∨ w.heap.size ≤ g) : OwnAll w1 lo (A ++ (v', l') :: B) := by
  obtain ⟨h1, h2⟩ := h
  obtain ⟨p1, p2, p3⟩ := List.pairwise_append.1 h2
  obtain ⟨q1, q2⟩ := List.pairwise_cons.1 p2
  have keep : ∀ p : Value × List Int, OwnI w lo p.1 p.2 → Apart p.1 v → OwnI w1 lo p.1 p.2 ∧ Apart p.1 v' := fun p hp hap => by
    refine ⟨World.ownsRow.kept hp hg ?_, fun g hg1 hg2 => ?_⟩
    · cases e : p.1.ownBlock with
      | none => exact Or.inl rfl
      | some g => exact Or.inr (fun e2 => hap g e e2.symm)
    · rcases ha g hg2 with e | e
      · exact hap g hg1 e
      · have := own_lt hp hg1; omega
  refine ⟨fun p hp => ?_, List.pairwise_append.2 ⟨p1, List.pairwise_cons.2 ⟨fun b hb => ?_, q2⟩, fun a haA b hb => ?_⟩⟩
  · rw [List.mem_append, List.mem_cons] at hp
    rcases hp with hp | hp | hp
    · exact (keep p (h1 p (by simp [hp])) (p3 p hp (v, l) (by simp))).1
    · rw [hp]; exact ho
    · exact (keep p (h1 p (by simp [hp])) (Apart.symm (q1 p hp))).1
  · exact Apart.symm (keep b (h1 b (by simp [hb])) (Apart.symm (q1 b hb))).2
  · rw [List.mem_cons] at hb
    rcases hb with hb | hb
    · rw [hb]; exact (keep a (h1 a (by simp [haA])) (p3 a haA (v, l) (by simp))).2
    · exact p3 a haA b (by simp [hb])
theorem OwnAll.snoc {w w1 : World} {lo : Nat} {L : List (Value × List Int)} {v : Value} {l : List Int} (h : OwnAll w lo L) (hb : Below w.heap.size w w1) (ho : OwnI w1 lo v l) (hn : ∀ g, v.ownBlock = some g → w.heap.size ≤ g) : OwnAll w1 lo (L ++ [(v, l)]) := by
  refine ⟨fun p hp => ?_, List.pairwise_append.2 ⟨h.2, by simp, fun a ha b hb' => ?_⟩⟩
  · rw [List.mem_append, List.mem_singleton] at hp
    rcases hp with hp | hp
    · exact (h.1 p hp).below hb
    · rw [hp]; exact ho
  · rw [List.mem_singleton] at hb'
    rw [hb']
    intro g hg e
    have := own_lt (h.1 a ha) hg
    have := hn g e
    omega
theorem OwnAll.set {w : World} {lo : Nat} {L : List (Value × List Int)} (h : OwnAll w lo L) {b j : Nat} {cur : Array Value} {t : TypeId} (hb : w.heap[b]? = some (.cells cur t (0, 0))) (ht : 3 ≠ t) (u : Value) : OwnAll (w.setCell ⟨b, j, none⟩ u) lo L :=
  ⟨fun p hp => ownsRow_setCell_other (h.1 p hp) (own_ne (h.1 p hp) hb ht) u, h.2⟩
theorem OwnAll.grown {w w1 : World} {lo : Nat} {L : List (Value × List Int)} {r : Option Nat} (h : OwnAll w lo L) (hg : w.grownBy w1 r) (hr : ∀ g, r = some g → ∃ cur t, w.heap[g]? = some (.cells cur t (0, 0)) ∧ 3 ≠ t) : OwnAll w1 lo L := by
  refine ⟨fun p hp => World.ownsRow.kept (h.1 p hp) hg ?_, h.2⟩
  cases e : p.1.ownBlock with
  | none => exact Or.inl rfl
  | some g =>
    refine Or.inr (fun e2 => ?_)
    obtain ⟨cur, t, h1, h2⟩ := hr g e2.symm
    exact own_ne (h.1 p hp) h1 h2 e

abbrev nil4 : Array Value := #[.slice none 0 0, .slice none 0 0, .slice none 0 0, .slice none 0 0]
structure WI (w wr : World) (rb : Nat) (r : Raw4) (iv vv bv dv : Value) (rows : List Value) (x : Wd) : Prop where
  res : wr.heap[w.heap.size]? = some (.cells nil4 53 (0, 0))
  box : wr.heap[w.heap.size + 1]? = some (.cells #[iv, vv, bv, dv] 53 (0, 0))
  raw : wr.heap[rb]? = some (.cells #[.int .i64 r.1, .int .i64 r.2.1, .int .i64 r.2.2.1, .int .i64 r.2.2.2] 92 (0, 0))
  ints : OwnAll wr w.heap.size ((iv, x.irqs) :: (vv, x.values) :: (dv, x.delays) :: rows.zip x.blocks)
  rl : rows.length = x.blocks.length
  top : wr.ownsRow w.heap.size 24 1 bv x.blocks.length rows
  old : Below w.heap.size w wr
structure WI0 (w wr : World) (iv vv bv dv : Value) (rows : List Value) (x : Wd) : Prop where
  res : wr.heap[w.heap.size]? = some (.cells nil4 53 (0, 0))
  box : wr.heap[w.heap.size + 1]? = some (.cells #[iv, vv, bv, dv] 53 (0, 0))
  ints : OwnAll wr w.heap.size ((iv, x.irqs) :: (vv, x.values) :: (dv, x.delays) :: rows.zip x.blocks)
  rl : rows.length = x.blocks.length
  top : wr.ownsRow w.heap.size 24 1 bv x.blocks.length rows
  old : Below w.heap.size w wr
theorem WI.start {w wr : World} {rb : Nat} {r : Raw4} {iv vv bv dv : Value} {rows : List Value} {x : Wd} (h : WI w wr rb r iv vv bv dv rows x) : WI0 w wr iv vv bv dv rows x := ⟨h.res, h.box, h.ints, h.rl, h.top, h.old⟩
theorem WI0.begin_ {w wr : World} {r : Raw4} {iv vv bv dv : Value} {rows : List Value} {x : Wd} (h : WI0 w wr iv vv bv dv rows x) : WI w (wr.alloc (.cells #[.int .i64 r.1, .int .i64 r.2.1, .int .i64 r.2.2.1, .int .i64 r.2.2.2] 92)) wr.heap.size r iv vv bv dv rows x := by
  have hb := below_alloc wr (.cells #[.int .i64 r.1, .int .i64 r.2.1, .int .i64 r.2.2.1, .int .i64 r.2.2.2] 92)
  exact ⟨by rw [hb.block _ (lt_of_block h.res)]; exact h.res, by rw [hb.block _ (lt_of_block h.box)]; exact h.box, Go.Deep.blk_alloc_new _ _, h.ints.below hb, h.rl, ownsRow_below h.top hb, h.old.trans (hb.mono h.old.size)⟩
theorem WI.below {w wr W : World} {rb : Nat} {r : Raw4} {iv vv bv dv : Value} {rows : List Value} {x : Wd} (h : WI w wr rb r iv vv bv dv rows x) (hb : Below wr.heap.size wr W) : WI w W rb r iv vv bv dv rows x :=
  ⟨by rw [hb.block _ (lt_of_block h.res)]; exact h.res, by rw [hb.block _ (lt_of_block h.box)]; exact h.box, by rw [hb.block _ (lt_of_block h.raw)]; exact h.raw, h.ints.below hb, h.rl, ownsRow_below h.top hb, h.old.trans (hb.mono h.old.size)⟩
theorem WI.apart {w wr : World} {rb : Nat} {r : Raw4} {iv vv bv dv : Value} {rows : List Value} {x : Wd} (h : WI w wr rb r iv vv bv dv rows x) : rb ≠ w.heap.size + 1 ∧ rb ≠ w.heap.size := ⟨fun e => by
    have h1 := h.raw
    rw [e, h.box] at h1
    simp at h1, fun e => by
    have h1 := h.raw
    rw [e, h.res] at h1
    simp at h1⟩
theorem WI.grow {w wr w4 : World} {rb : Nat} {r : Raw4} {iv vv bv dv : Value} {rows : List Value} {x : Wd} (h : WI w wr rb r iv vv bv dv rows x) {o : Obj} {u : Value} {l : List Int} (hu : OwnI wr w.heap.size u l) (hg : (wr.alloc o).drew.grownBy w4 u.ownBlock) :
    w4.heap[w.heap.size]? = some (.cells nil4 53 (0, 0)) ∧ w4.heap[w.heap.size + 1]? = some (.cells #[iv, vv, bv, dv] 53 (0, 0)) ∧ w4.heap[rb]? = some (.cells #[.int .i64 r.1, .int .i64 r.2.1, .int .i64 r.2.2.1, .int .i64 r.2.2.2] 92 (0, 0)) ∧ w4.ownsRow w.heap.size 24 1 bv x.blocks.length rows ∧ Below w.heap.size w w4 := by
  have hA : Below wr.heap.size wr (wr.alloc o).drew := (below_alloc wr o).drew
  have hU := hu.below hA
  have at_ : ∀ {b : Nat} {cur : Array Value} {t : TypeId}, wr.heap[b]? = some (.cells cur t (0, 0)) → 3 ≠ t → w4.heap[b]? = some (.cells cur t (0, 0)) := fun {b cur t} hb ht => by
    have h1 : (wr.alloc o).drew.heap[b]? = some (.cells cur t (0, 0)) := by rw [hA.block _ (lt_of_block hb)]; exact hb
    exact block_grown h1 hg (own_ne hU h1 ht)
  refine ⟨at_ h.res (by decide), at_ h.box (by decide), at_ h.raw (by decide), ?_, ?_⟩
  · refine World.ownsRow.kept (ownsRow_below h.top hA) hg ?_
    rcases h.top.2 with ⟨rfl, _⟩ | ⟨g, cap, cur, rfl, _, hh, _⟩
    · exact Or.inl rfl
    · refine Or.inr (fun e => ?_)
      have h1 : (wr.alloc o).drew.heap[g]? = some (.cells cur 24 (0, 0)) := by rw [hA.block _ (lt_of_block hh)]; exact hh
      exact own_ne hU h1 (by decide) (by rw [← e]; rfl)
  · exact (h.old.trans (hA.mono h.old.size)).grown hg (Nat.le_trans h.old.size hA.size) (fun k hk => (World.ownsRow.lt hU k hk).1)
theorem setCell_at {w : World} {b j : Nat} {cur : Array Value} {t : TypeId} (h : w.heap[b]? = some (.cells cur t (0, 0))) (u : Value) : (w.setCell ⟨b, j, none⟩ u).heap[b]? = some (.cells (cur.setIfInBounds j u) t (0, 0)) := by simp [World.setCell, Array.getElem?_modify, h]
theorem WI.stored {w w4 : World} {rb : Nat} {r : Raw4} {iv vv bv dv iv' vv' dv' : Value} {rows : List Value} {x' : Wd} {j : Nat} {u : Value} (hne : rb ≠ w.heap.size + 1) (h1 : w4.heap[w.heap.size]? = some (.cells nil4 53 (0, 0))) (h2 : w4.heap[w.heap.size + 1]? = some (.cells #[iv, vv, bv, dv] 53 (0, 0))) (h3 : w4.heap[rb]? = some (.cells #[.int .i64 r.1, .int .i64 r.2.1, .int .i64 r.2.2.1, .int .i64 r.2.2.2] 92 (0, 0))) (h4 : w4.ownsRow w.heap.size 24 1 bv x'.blocks.length rows) (h5 : Below w.heap.size w w4)
    (hi : OwnAll w4 w.heap.size ((iv', x'.irqs) :: (vv', x'.values) :: (dv', x'.delays) :: rows.zip x'.blocks)) (hr : rows.length = x'.blocks.length) (he : (#[iv, vv, bv, dv] : Array Value).setIfInBounds j u = #[iv', vv', bv, dv']) : WI w (w4.setCell ⟨w.heap.size + 1, j, none⟩ u) rb r iv' vv' bv dv' rows x' := by
  refine ⟨?_, ?_, ?_, hi.set h2 (by decide) u, hr, ?_, h5.setCell (by simp) _⟩
  · rw [Go.Deep.blk_setCell_other _ _ _ _ (by simp)]; exact h1
  · rw [setCell_at h2, he]
  · rw [Go.Deep.blk_setCell_other _ _ _ _ hne]; exact h3
  · exact ownsRow_setCell_other h4 (own_ne h4 h2 (by decide)) u
theorem WI.irq {w wr w4 : World} {rb : Nat} {r : Raw4} {iv vv bv dv : Value} {rows : List Value} {x : Wd} {a : Int} (h : WI w wr rb r iv vv bv dv rows x) {o : Obj} {g n cap : Nat} (hg : (wr.alloc o).drew.grownBy w4 iv.ownBlock) (ho : OwnI w4 w.heap.size (.slice (some ⟨g, 0, none⟩) n cap) (x.irqs ++ [a])) (ha : iv.ownBlock = some g ∨ g = wr.heap.size + 1) :
    w4.heap[w.heap.size + 1]? = some (.cells #[iv, vv, bv, dv] 53 (0, 0)) ∧ WI w (w4.setCell ⟨w.heap.size + 1, 0, none⟩ (.slice (some ⟨g, 0, none⟩) n cap)) rb r (.slice (some ⟨g, 0, none⟩) n cap) vv bv dv rows { x with irqs := x.irqs ++ [a] } := by
  obtain ⟨h1, h2, h3, h4, h5⟩ := h.grow (h.ints.1 (iv, x.irqs) (by simp)) hg
  have hA : Below wr.heap.size wr (wr.alloc o).drew := (below_alloc wr o).drew
  refine ⟨h2, WI.stored h.apart.1 h1 h2 h3 h4 h5 ?_ h.rl rfl⟩
  exact OwnAll.put (A := []) (h.ints.below hA) hg ho (fun g' hg' => by
    simp [Value.ownBlock] at hg'
    subst hg'
    rcases ha with e | e
    · exact Or.inl e
    · exact Or.inr (by show (wr.alloc o).heap.size ≤ _; simp; omega))
theorem WI.value {w wr w4 : World} {rb : Nat} {r : Raw4} {iv vv bv dv : Value} {rows : List Value} {x : Wd} {a : Int} (h : WI w wr rb r iv vv bv dv rows x) {o : Obj} {g n cap : Nat} (hg : (wr.alloc o).drew.grownBy w4 vv.ownBlock) (ho : OwnI w4 w.heap.size (.slice (some ⟨g, 0, none⟩) n cap) (x.values ++ [a])) (ha : vv.ownBlock = some g ∨ g = wr.heap.size + 1) :
    w4.heap[w.heap.size + 1]? = some (.cells #[iv, vv, bv, dv] 53 (0, 0)) ∧ WI w (w4.setCell ⟨w.heap.size + 1, 1, none⟩ (.slice (some ⟨g, 0, none⟩) n cap)) rb r iv (.slice (some ⟨g, 0, none⟩) n cap) bv dv rows { x with values := x.values ++ [a] } := by
  obtain ⟨h1, h2, h3, h4, h5⟩ := h.grow (h.ints.1 (vv, x.values) (by simp)) hg
  have hA : Below wr.heap.size wr (wr.alloc o).drew := (below_alloc wr o).drew
  refine ⟨h2, WI.stored h.apart.1 h1 h2 h3 h4 h5 ?_ h.rl rfl⟩
  exact OwnAll.put (A := [(iv, x.irqs)]) (h.ints.below hA) hg ho (fun g' hg' => by
    simp [Value.ownBlock] at hg'
    subst hg'
    rcases ha with e | e
    · exact Or.inl e
    · exact Or.inr (by show (wr.alloc o).heap.size ≤ _; simp; omega))
theorem WI.delay {w wr w4 : World} {rb : Nat} {r : Raw4} {iv vv bv dv : Value} {rows : List Value} {x : Wd} {a : Int} (h : WI w wr rb r iv vv bv dv rows x) {o : Obj} {g n cap : Nat} (hg : (wr.alloc o).drew.grownBy w4 dv.ownBlock) (ho : OwnI w4 w.heap.size (.slice (some ⟨g, 0, none⟩) n cap) (x.delays ++ [a])) (ha : dv.ownBlock = some g ∨ g = wr.heap.size + 1) :
    w4.heap[w.heap.size + 1]? = some (.cells #[iv, vv, bv, dv] 53 (0, 0)) ∧ WI w (w4.setCell ⟨w.heap.size + 1, 3, none⟩ (.slice (some ⟨g, 0, none⟩) n cap)) rb r iv vv bv (.slice (some ⟨g, 0, none⟩) n cap) rows { x with delays := x.delays ++ [a] } := by
  obtain ⟨h1, h2, h3, h4, h5⟩ := h.grow (h.ints.1 (dv, x.delays) (by simp)) hg
  have hA : Below wr.heap.size wr (wr.alloc o).drew := (below_alloc wr o).drew
  refine ⟨h2, WI.stored h.apart.1 h1 h2 h3 h4 h5 ?_ h.rl rfl⟩
  exact OwnAll.put (A := [(iv, x.irqs), (vv, x.values)]) (h.ints.below hA) hg ho (fun g' hg' => by
    simp [Value.ownBlock] at hg'
    subst hg'
    rcases ha with e | e
    · exact Or.inl e
    · exact Or.inr (by show (wr.alloc o).heap.size ≤ _; simp; omega))
theorem WI.block {w wr W w4 : World} {rb : Nat} {r : Raw4} {iv vv bv dv bv' d : Value} {rows : List Value} {x : Wd} {b : List Int} (h : WI w wr rb r iv vv bv dv rows x) (hb : Below wr.heap.size wr W) (hd : OwnI W w.heap.size d b) (hn : ∀ g, d.ownBlock = some g → wr.heap.size ≤ g) {o : Obj} (hg : (W.alloc o).grownBy w4 bv.ownBlock) (ho : w4.ownsRow w.heap.size 24 1 bv' (x.blocks.length + 1) (rows ++ [d])) :
    w4.heap[w.heap.size + 1]? = some (.cells #[iv, vv, bv, dv] 53 (0, 0)) ∧ WI0 w (w4.setCell ⟨w.heap.size + 1, 2, none⟩ bv') iv vv bv' dv (rows ++ [d]) { x with blocks := x.blocks ++ [b] } := by
  have hA : Below wr.heap.size wr (W.alloc o) := hb.trans ((below_alloc W o).mono hb.size)
  have hT := ownsRow_below h.top hA
  have hnb : ∀ {g : Nat} {cur : Array Value} {t : TypeId}, wr.heap[g]? = some (.cells cur t (0, 0)) → 24 ≠ t → w4.heap[g]? = some (.cells cur t (0, 0)) := fun {g cur t} hb' ht => by
    have h1 : (W.alloc o).heap[g]? = some (.cells cur t (0, 0)) := by rw [hA.block _ (lt_of_block hb')]; exact hb'
    exact block_grown h1 hg (own_ne hT h1 ht)
  have h2 := hnb h.box (by decide)
  have hI : OwnAll (W.alloc o) w.heap.size ((iv, x.irqs) :: (vv, x.values) :: (dv, x.delays) :: (rows ++ [d]).zip (x.blocks ++ [b])) := by
    have hz : (rows ++ [d]).zip (x.blocks ++ [b]) = rows.zip x.blocks ++ [(d, b)] := by
      rw [List.zip_append h.rl]; rfl
    rw [hz]
    exact OwnAll.snoc (L := (iv, x.irqs) :: (vv, x.values) :: (dv, x.delays) :: rows.zip x.blocks) h.ints hA (hd.below (below_alloc _ _)) hn
  have hI4 : OwnAll w4 w.heap.size ((iv, x.irqs) :: (vv, x.values) :: (dv, x.delays) :: (rows ++ [d]).zip (x.blocks ++ [b])) := hI.grown hg (fun g e => by
    rcases hT.2 with ⟨rfl, _⟩ | ⟨g', cap, cur, rfl, _, hh, _⟩
    · simp [Value.ownBlock] at e
    · simp [Value.ownBlock] at e
      subst e
      exact ⟨cur, _, hh, by decide⟩)
  refine ⟨h2, ?_, ?_, hI4.set h2 (by decide) _, by simp [h.rl], ?_, ?_⟩
  · rw [Go.Deep.blk_setCell_other _ _ _ _ (by simp)]; exact hnb h.res (by decide)
  · rw [setCell_at h2]; rfl
  · have : ({ x with blocks := x.blocks ++ [b] } : Wd).blocks.length = x.blocks.length + 1 := by simp
    rw [this]
    exact ownsRow_setCell_other ho (own_ne ho h2 (by decide)) _
  · exact (((h.old.trans (hA.mono h.old.size)).grown hg (Nat.le_trans h.old.size hA.size) (fun k hk => (World.ownsRow.lt hT k hk).1))).setCell (by simp) _

theorem worldF_snoc (R : List Raw4) (r : Raw4) : worldF (R ++ [r]) = { irqs := (worldF R).irqs ++ [pickF r.2.1 300], values := (worldF R).values ++ [pickF r.2.2.1 100 - 50], blocks := if pickF r.1 3 = 0 then (worldF R).blocks ++ [blockF r.2.2.2 16] else (worldF R).blocks, delays := (worldF R).delays ++ [pickF r.2.2.2 20] } := by
  unfold worldF
  rw [List.filter_append]
  by_cases h : pickF r.1 3 = 0
  · have hb : isB r = true := decide_eq_true h
    simp [h, hb]
  · have hb : isB r = false := decide_eq_false h
    simp [h, hb]

end Go.Proofs.YtecpblabaelopaaGreatDoor

/- Contract of hourglasskeep.World: the world of raw things. -/

namespace Go.Proofs.YtecpblabaelopaaGreatDoor
open Go.RowKit

theorem blockF_snoc (c : Int) (q : Nat) : blockF c (q + 1) = blockF c q ++ [pickF (c.tdiv ((q / 4 + 1 : Nat) : Int)) 9] := by
  unfold blockF
  rw [List.range_succ, List.map_append]
  rfl
theorem blockF_set (c : Int) (q : Nat) (h : q < 16) : ((blockF c q ++ List.replicate (16 - q) 0).map (Value.int .i64)).set q (.int .i64 (pickF (c.tdiv ((q / 4 + 1 : Nat) : Int)) 9)) = (blockF c (q + 1) ++ List.replicate (16 - (q + 1)) 0).map (Value.int .i64) := by
  rw [show 16 - q = (16 - (q + 1)) + 1 by omega, List.replicate_succ, List.map_append, List.map_cons, List.set_append, if_neg (by simp [blockF_len]), blockF_snoc]
  simp [blockF_len]
theorem worldF_lens (R : List Raw4) : (worldF R).irqs.length = R.length ∧ (worldF R).values.length = R.length ∧ (worldF R).delays.length = R.length ∧ (worldF R).blocks.length ≤ R.length := by
  have := List.length_filter_le isB R
  exact ⟨by simp [worldF], by simp [worldF], by simp [worldF], by simp [worldF]; omega⟩
theorem row_step {w : World} {lo g q : Nat} {c p : Int} (h : OwnI w lo (.slice (some ⟨g, 0, none⟩) 16 16) (blockF c q ++ List.replicate (16 - q) 0)) (hq : q < 16) (hp : p = pickF (c.tdiv ((q / 4 + 1 : Nat) : Int)) 9) :
    w.cell? ⟨g, q, none⟩ = some (.int .i64 0) ∧ (∀ j, w.frozen? ⟨g, j, none⟩ = false) ∧ OwnI (w.setCell ⟨g, q, none⟩ (.int .i64 p)) lo (.slice (some ⟨g, 0, none⟩) 16 16) (blockF c (q + 1) ++ List.replicate (16 - (q + 1)) 0) ∧ g < w.heap.size ∧ lo ≤ g := by
  have hl : (blockF c q ++ List.replicate (16 - q) 0).length = 16 := by simp [blockF_len]; omega
  have hl2 : (blockF c (q + 1) ++ List.replicate (16 - (q + 1)) 0).length = 16 := by simp [blockF_len]; omega
  have h' : w.ownsRow lo 3 1 (.slice (some ⟨g, 0, none⟩) 16 16) 16 ((blockF c q ++ List.replicate (16 - q) 0).map (Value.int .i64)) := by unfold OwnI at h; rwa [hl] at h
  have hlt := World.ownsRow.lt h' g rfl
  refine ⟨?_, fun j => h'.frozenAt j, ?_, hlt.2, hlt.1⟩
  · rw [h'.cellAt q (by omega), List.map_append, List.getElem?_append_right (by simp [blockF_len])]
    simp [blockF_len]
    rw [List.getElem?_replicate, if_pos (by omega)]
  · have h2 := (h'.stored q (.int .i64 p)).1
    rw [hp, blockF_set c q hq] at h2
    rw [hp]
    unfold OwnI
    rw [hl2]
    exact h2
theorem row_shape4 {w : World} {lo n size : Nat} {e : TypeId} {v : Value} {xs : List Value} (h : w.ownsRow lo e size v n xs) : ∃ A c, v = .slice A n c := by
  rcases h.2 with ⟨rfl, h0⟩ | ⟨g, cap, cur, rfl, _⟩
  · exact ⟨none, 0, by rw [h0]⟩
  · exact ⟨_, _, rfl⟩
theorem tdiv_bd4 {x d : Int} (hx : -9223372036854775808 ≤ x ∧ x ≤ 9223372036854775807) (hd : 1 ≤ d) : -9223372036854775808 ≤ Int.tdiv x d ∧ Int.tdiv x d ≤ 9223372036854775807 := by
  rcases tdiv_sign x d with ⟨h0, e⟩ | ⟨h0, e⟩
  · have h1 : 0 ≤ x / d := Int.ediv_nonneg h0 (by omega)
    have h2 : x / d ≤ x := Int.ediv_le_self d h0
    omega
  · have h1 : 0 ≤ (-x) / d := Int.ediv_nonneg (by omega) (by omega)
    have h2 : (-x) / d ≤ -x := Int.ediv_le_self d (by omega)
    omega
structure WorldT (w w' : World) (iv vv bv dv : Value) (rows : List Value) (x : Wd) : Prop where
  ints : OwnAll w' w.heap.size ((iv, x.irqs) :: (vv, x.values) :: (dv, x.delays) :: rows.zip x.blocks)
  rl : rows.length = x.blocks.length
  top : w'.ownsRow w.heap.size 24 1 bv x.blocks.length rows
  old : Below w.heap.size w w'
theorem WI0.done {w wr : World} {iv vv bv dv : Value} {rows : List Value} {x : Wd} (h : WI0 w wr iv vv bv dv rows x) (a b c d : Value) : WorldT w ((((wr.setCell ⟨w.heap.size, 0, none⟩ a).setCell ⟨w.heap.size, 1, none⟩ b).setCell ⟨w.heap.size, 2, none⟩ c).setCell ⟨w.heap.size, 3, none⟩ d) iv vv bv dv rows x := by
  have one : ∀ (W : World) (j : Nat) (u : Value), (∃ cur, W.heap[w.heap.size]? = some (.cells cur 53 (0, 0))) → OwnAll W w.heap.size ((iv, x.irqs) :: (vv, x.values) :: (dv, x.delays) :: rows.zip x.blocks) ∧ W.ownsRow w.heap.size 24 1 bv x.blocks.length rows ∧ Below w.heap.size w W → (∃ cur, (W.setCell ⟨w.heap.size, j, none⟩ u).heap[w.heap.size]? = some (.cells cur 53 (0, 0))) ∧ OwnAll (W.setCell ⟨w.heap.size, j, none⟩ u) w.heap.size ((iv, x.irqs) :: (vv, x.values) :: (dv, x.delays) :: rows.zip x.blocks) ∧ (W.setCell ⟨w.heap.size, j, none⟩ u).ownsRow w.heap.size 24 1 bv x.blocks.length rows ∧ Below w.heap.size w (W.setCell ⟨w.heap.size, j, none⟩ u) := fun W j u ⟨cur, hc⟩ ⟨h1, h2, h3⟩ =>
    ⟨⟨_, setCell_at hc u⟩, h1.set hc (by decide) u, ownsRow_setCell_other h2 (own_ne h2 hc (by decide)) u, h3.setCell (by simp) _⟩
  obtain ⟨c1, r1⟩ := one wr 0 a ⟨_, h.res⟩ ⟨h.ints, h.top, h.old⟩
  obtain ⟨c2, r2⟩ := one _ 1 b c1 r1
  obtain ⟨c3, r3⟩ := one _ 2 c c2 r2
  obtain ⟨c4, r4⟩ := one _ 3 d c3 r3
  exact ⟨r4.1, h.rl, r4.2.1, r4.2.2⟩

set_option maxRecDepth 100000 in
set_option maxHeartbeats 8000000 in
theorem World_any (v : Value) (R : List Raw4) (w : World) (h : RawsL w v R) :
    Calls Tryz.prog 26 #[v] w fun e w' => ∃ iv vv bv dv rows, e = .returned (.agg #[iv, vv, bv, dv]) ∧ WorldT w w' iv vv bv dv rows (worldF (R.take 20)) := by
  obtain ⟨A, c, rfl, hl, hwf, hc⟩ := h
  obtain ⟨i0, hi, hz0, hz1, hz2⟩ := info_parts infoInt
  obtain ⟨i1, hi1, hz10, hz11, hz12⟩ := info_parts infoInts
  have hmk : ∀ W : World, (Instr.makeSlice 24 (.int .i64 16) (.int .i64 16)).run Tryz.prog W = .ok (.slice (some ⟨W.heap.size, 0, none⟩) 16 16) (W.alloc (.cells (madeCells #[.int .i64 0] 16) 3)) := fun W => run_make_row' (P := Tryz.prog) 24 3 (.int .i64 0) 8 Tryz.underlying24 infoInt rfl .i64 .i64 16 (by omega) (by omega) W
  have HWF : Hid (∀ j, j < R.length → (R.getD j raw0).wf) := hwf
  have HTK : Hid (∀ k, k < R.length → R.take (k + 1) = R.take k ++ [R.getD k raw0]) := fun k hk => take_snoc4 hk
  have HLN : Hid (∀ k, k ≤ R.length → (worldF (R.take k)).irqs.length = k ∧ (worldF (R.take k)).values.length = k ∧ (worldF (R.take k)).delays.length = k ∧ (worldF (R.take k)).blocks.length ≤ k) := fun k hk => by
    have h1 := worldF_lens (R.take k)
    rw [List.length_take, Nat.min_eq_left hk] at h1
    exact h1
  have HEND : Hid (∀ k, k ≤ R.length → k ≤ 20 → ¬ (k < R.length ∧ k < 20) → R.take k = R.take 20) := fun k h1 h2 h3 => by
    by_cases e : k = 20
    · rw [e]
    · rw [List.take_of_length_le (by omega), List.take_of_length_le (by omega)]
  clear hwf
  obtain ⟨n, hn⟩ : ∃ n, n = R.length := ⟨_, rfl⟩
  rw [← hn] at hl hc HWF HTK HLN HEND ⊢
  clear hn
  go_enter Tryz.func26, Tryz.ntmps26
  go_wp2_with fail
  obtain ⟨W0, hW0⟩ : ∃ W0, W0 = (w.alloc (.cells nil4 53)).alloc (.cells nil4 53) := ⟨_, rfl⟩
  rw [← hW0]
  have HI0 : Hid (WI0 w W0 nilv nilv nilv nilv [] (worldF (R.take 0))) := by
    have h1 := Go.Deep.blk_alloc_new (w.alloc (.cells nil4 53)) (.cells nil4 53)
    rw [show (w.alloc (.cells nil4 53)).heap.size = w.heap.size + 1 by simp] at h1
    rw [hW0]
    refine ⟨?_, h1, ⟨fun p hp => ?_, ?_⟩, rfl, World.ownsRow_nil _ _ _ _, (below_alloc _ _).alloc (by simp) _⟩
    · rw [Go.Deep.blk_alloc_lt _ _ _ (by simp)]
      exact Go.Deep.blk_alloc_new _ _
    · simp [worldF] at hp
      rcases hp with rfl | rfl | rfl <;> exact World.ownsRow_nil _ _ _ _
    · have : Apart nilv nilv := fun g hg => by simp [Value.ownBlock] at hg
      simp [worldF, this]
  clear hW0
  go_loopw [4] (fun i wr => ∃ (k : Nat) (iv vv bv dv : Value) (rows : List Value), k ≤ n ∧ k ≤ 20 ∧ i = .int .i64 k ∧ Hid (WI0 w wr iv vv bv dv rows (worldF (R.take k)))) (fun i _ => n - (intOf i).toNat)
  case atStart => exact ⟨0, _, _, _, _, _, Nat.zero_le _, by omega, rfl, HI0⟩
  case round =>
    obtain ⟨k, iv, vv, bv, dv, rows, hk, hk20, rfl, HI⟩ := hrel
    clear HI0
    by_cases hlt : k < n ∧ k < 20
    · obtain ⟨hkn, hk2⟩ := hlt
      have hki : (k : Int) < (n : Int) := by omega
      have hki2 : (k : Int) < 20 := by omega
      obtain ⟨b, off, rfl, hbs, hcell⟩ := hc (by omega)
      obtain ⟨r0, r1, r2, r3⟩ := hcell k hkn
      obtain ⟨f0, f1, f2, f3⟩ := HWF.out k hkn
      have HTK2 : Hid (R.take (k + 1) = R.take k ++ [R.getD k raw0]) := HTK.out k hkn
      have HLK := HLN.out k hk
      clear HWF HTK HEND HLN
      obtain ⟨r, hr⟩ : ∃ r, r = R.getD k raw0 := ⟨_, rfl⟩
      rw [← hr] at r0 r1 r2 r3 f0 f1 f2 f3 HTK2
      clear hr
      obtain ⟨x0, x1, x2, x3⟩ := r
      simp only at r0 r1 r2 r3 f0 f1 f2 f3
      have y0 := (HI.out.old.cell (p := ⟨b, off + k * 4, none⟩) hbs).trans r0
      have y1 := (HI.out.old.cell (p := ⟨b, off + k * 4 + 1, none⟩) hbs).trans r1
      have y2 := (HI.out.old.cell (p := ⟨b, off + k * 4 + 2, none⟩) hbs).trans r2
      have y3 := (HI.out.old.cell (p := ⟨b, off + k * 4 + 3, none⟩) hbs).trans r3
      obtain ⟨p1, HP1, c1a, c1b, HE1⟩ : ∃ x : Int, Hid (∀ W : World, Calls Tryz.prog 16 #[.int .i64 x1, .int .i64 300] W fun e w' => e = .returned (.int .i64 x) ∧ w' = W) ∧ 0 ≤ x ∧ x < 300 ∧ Hid (x = pickF x1 300) := ⟨_, fun W => picked_any x1 300 W f1 (by decide) (by decide), (pickF_bd x1 (by decide)).1, (pickF_bd x1 (by decide)).2, Eq.refl _⟩
      obtain ⟨p2, HP2, c2a, c2b, HE2⟩ : ∃ x : Int, Hid (∀ W : World, Calls Tryz.prog 16 #[.int .i64 x2, .int .i64 100] W fun e w' => e = .returned (.int .i64 x) ∧ w' = W) ∧ 0 ≤ x ∧ x < 100 ∧ Hid (x = pickF x2 100) := ⟨_, fun W => picked_any x2 100 W f2 (by decide) (by decide), (pickF_bd x2 (by decide)).1, (pickF_bd x2 (by decide)).2, Eq.refl _⟩
      obtain ⟨p3, HP3, c3a, c3b, HE3⟩ : ∃ x : Int, Hid (∀ W : World, Calls Tryz.prog 16 #[.int .i64 x3, .int .i64 20] W fun e w' => e = .returned (.int .i64 x) ∧ w' = W) ∧ 0 ≤ x ∧ x < 20 ∧ Hid (x = pickF x3 20) := ⟨_, fun W => picked_any x3 20 W f3 (by decide) (by decide), (pickF_bd x3 (by decide)).1, (pickF_bd x3 (by decide)).2, Eq.refl _⟩
      obtain ⟨p0, HP0, c0a, c0b, HE0⟩ : ∃ x : Int, Hid (∀ W : World, Calls Tryz.prog 16 #[.int .i64 x0, .int .i64 3] W fun e w' => e = .returned (.int .i64 x) ∧ w' = W) ∧ 0 ≤ x ∧ x < 3 ∧ Hid (x = pickF x0 3) := ⟨_, fun W => picked_any x0 3 W f0 (by decide) (by decide), (pickF_bd x0 (by decide)).1, (pickF_bd x0 (by decide)).2, Eq.refl _⟩
      have HF3 : Hid ((Lit.int .i64 x3).wf = true) := f3
      clear r0 r1 r2 r3 f0 f1 f2 f3 hcell hc
      obtain ⟨X, hX⟩ : ∃ X, X = worldF (R.take k) := ⟨_, rfl⟩
      rw [← hX] at HI HLK
      have HXN : Hid (worldF (R.take (k + 1)) = { irqs := X.irqs ++ [p1], values := X.values ++ [p2 - 50], blocks := if p0 = 0 then X.blocks ++ [blockF x3 16] else X.blocks, delays := X.delays ++ [p3] }) := by
        show _ = _
        rw [HTK2.out, worldF_snoc, ← hX, HE0.out, HE1.out, HE2.out, HE3.out]
      clear hX HTK2 HE0 HE1 HE2 HE3
      obtain ⟨l1, l2, l3, l4⟩ : X.irqs.length ≤ 20 ∧ X.values.length ≤ 20 ∧ X.delays.length ≤ 20 ∧ X.blocks.length ≤ 20 := by omega
      clear HLK
      go_upto_region 6 with fail
      obtain ⟨W5, hW5⟩ : ∃ W5, W5 = wr.alloc (.cells #[.int .i64 x0, .int .i64 x1, .int .i64 x2, .int .i64 x3] 92) := ⟨_, rfl⟩
      rw [← hW5]
      obtain ⟨rb, hrb⟩ : ∃ rb, rb = wr.heap.size := ⟨_, rfl⟩
      have HI5 : Hid (WI w W5 rb (x0, x1, x2, x3) iv vv bv dv rows X) := by rw [hW5, hrb]; exact HI.out.begin_ (r := (x0, x1, x2, x3))
      rw [← hrb]
      clear hW5 hrb HI y0 y1 y2 y3
      obtain ⟨Ai, ci, rfl⟩ := OwnI.shape (v := iv) (l := X.irqs) (HI5.out.ints.1 (iv, X.irqs) (by simp))
      obtain ⟨Av, cv, rfl⟩ := OwnI.shape (v := vv) (l := X.values) (HI5.out.ints.1 (vv, X.values) (by simp))
      obtain ⟨Ad, cd, rfl⟩ := OwnI.shape (v := dv) (l := X.delays) (HI5.out.ints.1 (dv, X.delays) (by simp))
      have HO : Hid (OwnI W5 w.heap.size (.slice Ai X.irqs.length ci) X.irqs) := HI5.out.ints.1 (.slice Ai X.irqs.length ci, X.irqs) (by simp)
      obtain ⟨e0, e1, e2, e3, ef, el⟩ := four_cells HI5.out.box
      obtain ⟨m0, m1, m2, m3, mf, ml⟩ := four_cells HI5.out.raw
      have hsz := HI5.out.old.size
      have hne1 := HI5.out.apart.1
      go_cut [4] (fun i wx => i = .int .i64 (k : Int) ∧ ∃ u, Hid (WI w wx rb (x0, x1, x2, x3) u (.slice Av X.values.length cv) bv (.slice Ad X.delays.length cd) rows { X with irqs := X.irqs ++ [p1] }))
      case first =>
        go_region_law
          (first
            | (refine step_append_lies _ (by rfl) _ _ _ (by rfl) w.heap.size 3 i0 (.int .i64 0) 1 8 Tryz.underlying24 hi hz0 hz1 hz2 rfl (by decide) (.slice Ai X.irqs.length ci) X.irqs.length (X.irqs.map (Value.int .i64)) (by rfl) ((HO.out.alloc _).drew) ⟨W5.heap.size, 0, none⟩ 1 1 [.int .i64 p1] (by rfl) (by rfl) (by exact cell_one_new _ _ _) (by intro u hu; simp at hu; subst hu; rfl) (by decide) (by unfold maxLen; omega) (by omega) (by simp; omega) (W5.heap.size + 1) (by simp) ?_; intro g4 cap4 w4 hown4 hgrow4 hat4 hlt4; obtain ⟨hb4, hI4⟩ := HI5.out.irq hgrow4 (OwnI.snoc hown4 rfl) hat4; have HI4 : Hid (_) := hI4; obtain ⟨q0, q1, q2, q3, qf, ql⟩ := four_cells hb4; clear hown4 hgrow4 hat4 hb4 hI4)
            | (go_simp; go_at_call 16; refine (HP1.out _).mono ?_; rintro e w' ⟨rfl, rfl⟩))
        all_goals
          go_wp2_with fail
          go_meet
          exact ⟨rfl, _, HI4⟩
      case rest =>
      obtain ⟨rfl, u1, HI6⟩ := hcut
      clear HO e0 e1 e2 e3 ef el m0 m1 m2 m3 mf ml hsz hne1
      clear HP1 HI5
      go_upto_region 7 with fail
      have hw2 : IntKind.i64.wrap (p2 - 50) = p2 - 50 := IntWalk.i64_in _ (by omega)
      have HO : Hid (OwnI wc w.heap.size (.slice Av X.values.length cv) X.values) := HI6.out.ints.1 (.slice Av X.values.length cv, X.values) (by simp)
      obtain ⟨e0, e1, e2, e3, ef, el⟩ := four_cells HI6.out.box
      obtain ⟨m0, m1, m2, m3, mf, ml⟩ := four_cells HI6.out.raw
      have hsz := HI6.out.old.size
      have hne1 := HI6.out.apart.1
      go_cut [4] (fun i wx => i = .int .i64 (k : Int) ∧ ∃ u, Hid (WI w wx rb (x0, x1, x2, x3) u1 u bv (.slice Ad X.delays.length cd) rows { irqs := X.irqs ++ [p1], values := X.values ++ [p2 - 50], blocks := X.blocks, delays := X.delays }))
      case first =>
        go_region_law
          (first
            | (refine step_append_lies _ (by rfl) _ _ _ (by rfl) w.heap.size 3 i0 (.int .i64 0) 1 8 Tryz.underlying24 hi hz0 hz1 hz2 rfl (by decide) (.slice Av X.values.length cv) X.values.length (X.values.map (Value.int .i64)) (by rfl) ((HO.out.alloc _).drew) ⟨wc.heap.size, 0, none⟩ 1 1 [.int .i64 (p2 - 50)] (by rfl) (by rfl) (by exact cell_one_new _ _ _) (by intro u hu; simp at hu; subst hu; rfl) (by decide) (by unfold maxLen; omega) (by omega) (by simp; omega) (wc.heap.size + 1) (by simp) ?_; intro g4 cap4 w4 hown4 hgrow4 hat4 hlt4; obtain ⟨hb4, hI4⟩ := HI6.out.value hgrow4 (OwnI.snoc hown4 rfl) hat4; have HI4 : Hid (_) := hI4; obtain ⟨q0, q1, q2, q3, qf, ql⟩ := four_cells hb4; clear hown4 hgrow4 hat4 hb4 hI4)
            | (go_simp; go_at_call 16; refine (HP2.out _).mono ?_; rintro e w' ⟨rfl, rfl⟩))
        all_goals
          go_wp2_with fail
          go_meet
          exact ⟨rfl, _, HI4⟩
      case rest =>
      obtain ⟨rfl, u2, HI7⟩ := hcut
      clear HO e0 e1 e2 e3 ef el m0 m1 m2 m3 mf ml hsz hne1
      clear HP2 HI6 hw2
      go_upto_region 8 with fail
      have HO : Hid (OwnI wc w.heap.size (.slice Ad X.delays.length cd) X.delays) := HI7.out.ints.1 (.slice Ad X.delays.length cd, X.delays) (by simp)
      obtain ⟨e0, e1, e2, e3, ef, el⟩ := four_cells HI7.out.box
      obtain ⟨m0, m1, m2, m3, mf, ml⟩ := four_cells HI7.out.raw
      have hsz := HI7.out.old.size
      have hne1 := HI7.out.apart.1
      go_cut [4] (fun i wx => i = .int .i64 (k : Int) ∧ ∃ u, Hid (WI w wx rb (x0, x1, x2, x3) u1 u2 bv u rows { irqs := X.irqs ++ [p1], values := X.values ++ [p2 - 50], blocks := X.blocks, delays := X.delays ++ [p3] }))
      case first =>
        go_region_law
          (first
            | (refine step_append_lies _ (by rfl) _ _ _ (by rfl) w.heap.size 3 i0 (.int .i64 0) 1 8 Tryz.underlying24 hi hz0 hz1 hz2 rfl (by decide) (.slice Ad X.delays.length cd) X.delays.length (X.delays.map (Value.int .i64)) (by rfl) ((HO.out.alloc _).drew) ⟨wc.heap.size, 0, none⟩ 1 1 [.int .i64 p3] (by rfl) (by rfl) (by exact cell_one_new _ _ _) (by intro u hu; simp at hu; subst hu; rfl) (by decide) (by unfold maxLen; omega) (by omega) (by simp; omega) (wc.heap.size + 1) (by simp) ?_; intro g4 cap4 w4 hown4 hgrow4 hat4 hlt4; obtain ⟨hb4, hI4⟩ := HI7.out.delay hgrow4 (OwnI.snoc hown4 rfl) hat4; have HI4 : Hid (_) := hI4; obtain ⟨q0, q1, q2, q3, qf, ql⟩ := four_cells hb4; clear hown4 hgrow4 hat4 hb4 hI4)
            | (go_simp; go_at_call 16; refine (HP3.out _).mono ?_; rintro e w' ⟨rfl, rfl⟩))
        all_goals
          go_wp2_with fail
          go_meet
          exact ⟨rfl, _, HI4⟩
      case rest =>
      obtain ⟨rfl, u3, HI8⟩ := hcut
      clear HO e0 e1 e2 e3 ef el m0 m1 m2 m3 mf ml hsz hne1
      clear HP3 HI7
      obtain ⟨e0, e1, e2, e3, ef, el⟩ := four_cells HI8.out.box
      obtain ⟨m0, m1, m2, m3, mf, ml⟩ := four_cells HI8.out.raw
      simp only at m0 m1 m2 m3
      have hsz := HI8.out.old.size
      by_cases hB : p0 = 0
      case neg =>
        have d0 : (p0 == 0) = false := by simpa using hB
        have HX : Hid (WI0 w wc u1 u2 bv u3 rows (worldF (R.take (k + 1)))) := by
          show WI0 w wc u1 u2 bv u3 rows (worldF (R.take (k + 1)))
          rw [HXN.out, if_neg hB]
          exact HI8.out.start
        clear HXN HI8
        go_wp2_with fail
        refine (HP0.out _).mono ?_
        rintro e w' ⟨rfl, hw'⟩
        subst hw'
        go_wp2_with fail
        go_roundw
        case rel => exact ⟨k + 1, _, _, _, _, _, by omega, by omega, by go_num, HX⟩
        case measure => simp [intOf]; omega
      case pos =>
        have d0 : (p0 == 0) = true := by simpa using hB
        have HX : Hid (worldF (R.take (k + 1)) = { irqs := X.irqs ++ [p1], values := X.values ++ [p2 - 50], blocks := X.blocks ++ [blockF x3 16], delays := X.delays ++ [p3] }) := by
          show _ = _
          rw [HXN.out, if_pos hB]
        clear HXN
        go_wp2_with fail
        refine (HP0.out _).mono ?_
        rintro e w' ⟨rfl, hw'⟩
        subst hw'
        go_wp2_with fail
        obtain ⟨W9, hW9⟩ : ∃ W9, W9 = w'.alloc (.cells (madeCells #[.int .i64 0] 16) 3) := ⟨_, rfl⟩
        rw [← hW9]
        obtain ⟨g, hg⟩ : ∃ g, g = w'.heap.size := ⟨_, rfl⟩
        have HG0 : Hid (Below w'.heap.size w' W9 ∧ OwnI W9 w'.heap.size (.slice (some ⟨g, 0, none⟩) 16 16) (blockF x3 0 ++ List.replicate (16 - 0) 0)) := by
          rw [hW9, hg]
          exact ⟨below_alloc _ _, OwnI.madeZ (Nat.le_refl _) (by decide) (Go.Deep.blk_alloc_new _ _)⟩
        rw [← hg]
        clear hW9 hg e0 e1 e2 e3 ef el m0 m1 m2 m3 mf ml d0 hB HP0 c0a c0b
        go_loopw [55] (fun i W => ∃ q : Nat, q ≤ 16 ∧ i = .int .i64 q ∧ Hid (Below w'.heap.size w' W ∧ OwnI W w'.heap.size (.slice (some ⟨g, 0, none⟩) 16 16) (blockF x3 q ++ List.replicate (16 - q) 0))) (fun i _ => 16 - (intOf i).toNat)
        case atStart => exact ⟨0, by omega, rfl, HG0⟩
        case round =>
          obtain ⟨q, hq, rfl, HQ⟩ := hrel
          clear HG0
          by_cases hq16 : q < 16
          case pos =>
            have hqi : (q : Int) < 16 := by omega
            obtain ⟨m0, m1, m2, m3, mf, ml⟩ := four_cells (HI8.out.below HQ.out.1).raw
            simp only at m0 m1 m2 m3
            obtain ⟨dd, hdd⟩ : ∃ dd : Int, dd = (q : Int) / 4 := ⟨_, rfl⟩
            have hq4 : Int.tdiv (q : Int) 4 = dd := by rw [hdd]; exact Int.tdiv_eq_ediv_of_nonneg (by omega)
            have HDD : Hid (((q / 4 + 1 : Nat) : Int) = dd + 1) := by show _ = _; omega
            have hd0 : 0 ≤ dd ∧ dd ≤ 3 := by omega
            clear hdd
            have hwq : IntKind.i64.wrap dd = dd := IntWalk.i64_in _ (by omega)
            have hwd : IntKind.i64.wrap (dd + 1) = dd + 1 := IntWalk.i64_in _ (by omega)
            have hne : ¬ dd + 1 = 0 := by omega
            obtain ⟨z, hz⟩ : ∃ z, Int.tdiv x3 (dd + 1) = z := ⟨_, rfl⟩
            have hzb : -9223372036854775808 ≤ z ∧ z ≤ 9223372036854775807 := by rw [← hz]; exact tdiv_bd4 (wf_bd HF3.out) (by omega)
            have hwz : IntKind.i64.wrap z = z := IntWalk.i64_in _ hzb
            obtain ⟨pz, HPZ, HZ⟩ : ∃ x : Int, Hid (∀ W : World, Calls Tryz.prog 16 #[.int .i64 z, .int .i64 9] W fun e w' => e = .returned (.int .i64 x) ∧ w' = W) ∧ Hid (x = pickF (Int.tdiv x3 ((q / 4 + 1 : Nat) : Int)) 9) := ⟨_, fun W => picked_any z 9 W (by simpa [Lit.wf, IntKind.min, IntKind.max, IntKind.signed, IntKind.bits] using hzb) (by decide) (by decide), by rw [HDD.out, hz]; exact Eq.refl _⟩
            obtain ⟨s1, s2, s3, s4, s5⟩ := row_step HQ.out.2 hq16 HZ.out
            have HN : Hid (OwnI (wr.setCell ⟨g, q, none⟩ (.int .i64 pz)) w'.heap.size (.slice (some ⟨g, 0, none⟩) 16 16) (blockF x3 (q + 1) ++ List.replicate (16 - (q + 1)) 0)) := s3
            clear s3 hzb HZ HDD hd0
            go_wp2_with fail
            refine (HPZ.out _).mono ?_
            rintro e w2 ⟨rfl, hw2⟩
            subst hw2
            go_wp2_with fail
            have HB3 : Hid (Below w'.heap.size w' (w2.setCell ⟨g, q, none⟩ (.int .i64 pz))) := HQ.out.1.setCell (by simpa using s5) _
            refine ⟨⟨q + 1, by omega, by go_num, HB3.out, HN.out⟩, ?_⟩
            simp [intOf]; omega
          case neg =>
            have hqi : ¬ (q : Int) < 16 := by omega
            obtain rfl : q = 16 := by omega
            have HROW : Hid (OwnI wr w'.heap.size (.slice (some ⟨g, 0, none⟩) 16 16) (blockF x3 16)) := by
              have := HQ.out.2
              show OwnI _ _ _ _
              simpa using this
            have hsz2 := HQ.out.1.size
            obtain ⟨Ab, cb, rfl⟩ := row_shape4 HI8.out.top
            have HT : Hid (wr.ownsRow w.heap.size 24 1 (.slice Ab X.blocks.length cb) X.blocks.length rows) := (HI8.out.below HQ.out.1).top
            have hx4 : ({ irqs := X.irqs ++ [p1], values := X.values ++ [p2 - 50], blocks := X.blocks, delays := X.delays ++ [p3] } : Wd).blocks.length = X.blocks.length := rfl
            obtain ⟨e0, e1, e2, e3, ef, el⟩ := four_cells (HI8.out.below HQ.out.1).box
            go_wp2_with (first
              | (at_builtin; refine wpList_append_own_at _ rfl _ _ 51 rfl w.heap.size 24 i1 (.slice none 0 0) 1 24 Tryz.underlying51 hi1 hz10 hz11 hz12 rfl (by decide) (.slice Ab X.blocks.length cb) X.blocks.length rows rfl (HT.out.alloc _) ⟨wr.heap.size, 0, none⟩ 1 1 [.slice (some ⟨g, 0, none⟩) 16 16] rfl rfl (cell_one_new _ _ _) (by intro u hu; simp at hu; subst hu; rfl) ?c3 ?c4 ?c5 ?_))
            case c3 => unfold maxLen; omega
            case c4 => omega
            case c5 => first | omega | (simp; omega)
            intro v3 w3 hown hgrow _ _
            obtain ⟨A3, c3, rfl⟩ := row_shape4 hown
            obtain ⟨n3, hn3⟩ : ∃ n3, n3 = X.blocks.length + 1 := ⟨_, rfl⟩
            simp only [← hn3] at hown hgrow ⊢
            obtain ⟨hb3, hW3⟩ := HI8.out.block HQ.out.1 (ownsRow_mono HROW.out hsz) (fun g' hg' => (World.ownsRow.lt HROW.out g' hg').1) hgrow (by have := hown; rw [hn3] at this; simpa using this)
            have HN : Hid (WI0 w (w3.setCell ⟨w.heap.size + 1, 2, none⟩ (.slice A3 n3 c3)) u1 u2 (.slice A3 n3 c3) u3 (rows ++ [.slice (some ⟨g, 0, none⟩) 16 16]) (worldF (R.take (k + 1)))) := by
              show WI0 _ _ _ _ _ _ _ _
              rw [HX.out, hn3]
              exact hW3
            clear hown hgrow hW3 hn3 e0 e1 e2 e3 ef el
            obtain ⟨e0, e1, e2, e3, ef, el⟩ := four_cells hb3
            clear hb3
            go_wp2_with fail
            go_roundw
            case rel => exact ⟨k + 1, _, _, _, _, _, by omega, by omega, by go_num, HN⟩
            case measure => simp [intOf]; omega
    · have HR : Hid (WI0 w wr iv vv bv dv rows (worldF (R.take 20))) := by
        have := HI.out
        rwa [HEND.out k hk hk20 hlt] at this
      clear HI
      obtain ⟨X, hX⟩ : ∃ X, X = worldF (R.take 20) := ⟨_, rfl⟩
      rw [← hX] at HR
      have HXX : Hid (X = worldF (R.take 20)) := hX
      clear hX
      obtain ⟨n1, hn1⟩ : ∃ n, n = X.irqs.length := ⟨_, rfl⟩
      obtain ⟨n2, hn2⟩ : ∃ n, n = X.values.length := ⟨_, rfl⟩
      obtain ⟨n3, hn3⟩ : ∃ n, n = X.blocks.length := ⟨_, rfl⟩
      obtain ⟨n4, hn4⟩ : ∃ n, n = X.delays.length := ⟨_, rfl⟩
      obtain ⟨A1, d1, rfl⟩ := OwnI.shape (v := iv) (l := X.irqs) (HR.out.ints.1 (iv, X.irqs) (by simp))
      obtain ⟨A2, d2, rfl⟩ := OwnI.shape (v := vv) (l := X.values) (HR.out.ints.1 (vv, X.values) (by simp))
      obtain ⟨A3, d3, rfl⟩ := row_shape4 HR.out.top
      obtain ⟨A4, d4, rfl⟩ := OwnI.shape (v := dv) (l := X.delays) (HR.out.ints.1 (dv, X.delays) (by simp))
      rw [← hn1, ← hn2, ← hn3, ← hn4] at HR
      clear hn1 hn2 hn3 hn4
      obtain ⟨e0, e1, e2, e3, ef, el⟩ := four_cells HR.out.box
      obtain ⟨z0, z1, z2, z3, zf, zl⟩ := four_cells HR.out.res
      clear hc HEND HTK HWF HLN
      by_cases h1 : k < n
      · have hki : (k : Int) < (n : Int) := by omega
        have hki2 : ¬ (k : Int) < 20 := by omega
        go_wp2_with fail
        refine bodyPost_ret (v := .agg #[.slice A1 n1 d1, .slice A2 n2 d2, .slice A3 n3 d3, .slice A4 n4 d4]) (by simp [results, Tryz.results26, go_sem, z0, z1, z2, z3]) rfl ?_
        first | exact ⟨_, _, _, _, rfl, rows, by rw [← HXX.out]; exact HR.out.done _ _ _ _⟩ | exact ⟨_, _, _, _, rows, rfl, by rw [← HXX.out]; exact HR.out.done _ _ _ _⟩
      · have hki : ¬ (k : Int) < (n : Int) := by omega
        go_wp2_with fail
        refine bodyPost_ret (v := .agg #[.slice A1 n1 d1, .slice A2 n2 d2, .slice A3 n3 d3, .slice A4 n4 d4]) (by simp [results, Tryz.results26, go_sem, z0, z1, z2, z3]) rfl ?_
        first | exact ⟨_, _, _, _, rfl, rows, by rw [← HXX.out]; exact HR.out.done _ _ _ _⟩ | exact ⟨_, _, _, _, rows, rfl, by rw [← HXX.out]; exact HR.out.done _ _ _ _⟩

end Go.Proofs.YtecpblabaelopaaGreatDoor
