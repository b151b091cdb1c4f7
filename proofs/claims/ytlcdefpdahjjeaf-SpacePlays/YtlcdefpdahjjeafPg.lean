/- Pages of a space, an array by value, in memory. -/
import Derived.Test.YtlcdefpdahjjeafSeg
import Derived.Test.YtlcdefpdahjjeafNum
import Derived.Test.YtlcdefpdahjjeafPsPart
namespace Go.Proofs.Ytlcdefpdahjjeaf
open Go.RowKit

/-- The cells of an array over these numbers. -/
def pgc (s : List Int) : Array Value := (s.map (Value.int .i64)).toArray
theorem list16 {s : List Int} (h : s.length = 16) : ∃ x0 x1 x2 x3 x4 x5 x6 x7 x8 x9 x10 x11 x12 x13 x14 x15, s = [x0, x1, x2, x3, x4, x5, x6, x7, x8, x9, x10, x11, x12, x13, x14, x15] := by
  rcases s with _ | ⟨a0, _ | ⟨a1, _ | ⟨a2, _ | ⟨a3, _ | ⟨a4, _ | ⟨a5, _ | ⟨a6, _ | ⟨a7, _ | ⟨a8, _ | ⟨a9, _ | ⟨a10, _ | ⟨a11, _ | ⟨a12, _ | ⟨a13, _ | ⟨a14, _ | ⟨a15, _ | ⟨a16, l⟩⟩⟩⟩⟩⟩⟩⟩⟩⟩⟩⟩⟩⟩⟩⟩⟩ <;> simp at h
  exact ⟨a0, a1, a2, a3, a4, a5, a6, a7, a8, a9, a10, a11, a12, a13, a14, a15, rfl⟩
theorem sixteen_cells {w : World} {b : Nat} {x0 x1 x2 x3 x4 x5 x6 x7 x8 x9 x10 x11 x12 x13 x14 x15 : Value} {t : TypeId} (h : w.heap[b]? = some (.cells #[x0, x1, x2, x3, x4, x5, x6, x7, x8, x9, x10, x11, x12, x13, x14, x15] t (0, 0))) :
    (w.cell? ⟨b, 0, none⟩ = some x0 ∧ w.cell? ⟨b, 1, none⟩ = some x1 ∧ w.cell? ⟨b, 2, none⟩ = some x2 ∧ w.cell? ⟨b, 3, none⟩ = some x3 ∧ w.cell? ⟨b, 4, none⟩ = some x4 ∧ w.cell? ⟨b, 5, none⟩ = some x5 ∧ w.cell? ⟨b, 6, none⟩ = some x6 ∧ w.cell? ⟨b, 7, none⟩ = some x7 ∧ w.cell? ⟨b, 8, none⟩ = some x8 ∧ w.cell? ⟨b, 9, none⟩ = some x9 ∧ w.cell? ⟨b, 10, none⟩ = some x10 ∧ w.cell? ⟨b, 11, none⟩ = some x11 ∧ w.cell? ⟨b, 12, none⟩ = some x12 ∧ w.cell? ⟨b, 13, none⟩ = some x13 ∧ w.cell? ⟨b, 14, none⟩ = some x14 ∧ w.cell? ⟨b, 15, none⟩ = some x15) ∧ (∀ j, w.frozen? ⟨b, j, none⟩ = false) ∧ b < w.heap.size :=
  ⟨⟨by simp [World.cell?, h], by simp [World.cell?, h], by simp [World.cell?, h], by simp [World.cell?, h], by simp [World.cell?, h], by simp [World.cell?, h], by simp [World.cell?, h], by simp [World.cell?, h], by simp [World.cell?, h], by simp [World.cell?, h], by simp [World.cell?, h], by simp [World.cell?, h], by simp [World.cell?, h], by simp [World.cell?, h], by simp [World.cell?, h], by simp [World.cell?, h]⟩, fun j => by simp [World.frozen?, h], lt_of_block h⟩
theorem pgc_set (s : List Int) (i : Nat) (x : Int) : (pgc s).setIfInBounds i (.int .i64 x) = pgc (s.set i x) := by
  apply Array.ext'
  simp [pgc, List.map_set]
theorem pg_set {w : World} {b i : Nat} {s : List Int} {t : TypeId} (h : w.heap[b]? = some (.cells (pgc s) t (0, 0))) (x : Int) : (w.setCell ⟨b, i, none⟩ (.int .i64 x)).heap[b]? = some (.cells (pgc (s.set i x)) t (0, 0)) := by
  have : (w.setCell ⟨b, i, none⟩ (.int .i64 x)).heap[b]? = some (.cells ((pgc s).setIfInBounds i (.int .i64 x)) t (0, 0)) := by simp [World.setCell, Array.getElem?_modify, h]
  rw [this, pgc_set]
theorem pg_cell {w : World} {b i : Nat} {s : List Int} {t : TypeId} (h : w.heap[b]? = some (.cells (pgc s) t (0, 0))) (hi : i < s.length) : w.cell? ⟨b, i, none⟩ = some (.int .i64 (s.getD i 0)) ∧ (∀ j, w.frozen? ⟨b, j, none⟩ = false) ∧ b < w.heap.size :=
  ⟨by simp [World.cell?, h, pgc, List.getD, hi], fun j => by simp [World.frozen?, h], lt_of_block h⟩
theorem other_block {w : World} {b i c : Nat} {o : Obj} (h : w.heap[c]? = some o) (hne : c ≠ b) (x : Value) : (w.setCell ⟨b, i, none⟩ x).heap[c]? = some o := by
  rw [Below.heap_setCell _ _ _ _ hne]; exact h
theorem set16_box {w : World} {b : Nat} {c : Array Value} {t : TypeId} (h : w.heap[b]? = some (.cells c t (0, 0))) (hc : c.size = 16) (x0 x1 x2 x3 x4 x5 x6 x7 x8 x9 x10 x11 x12 x13 x14 x15 : Value) : (((((((((((((((((w.setCell ⟨b, 0, none⟩ x0).setCell ⟨b, 1, none⟩ x1).setCell ⟨b, 2, none⟩ x2).setCell ⟨b, 3, none⟩ x3).setCell ⟨b, 4, none⟩ x4).setCell ⟨b, 5, none⟩ x5).setCell ⟨b, 6, none⟩ x6).setCell ⟨b, 7, none⟩ x7).setCell ⟨b, 8, none⟩ x8).setCell ⟨b, 9, none⟩ x9).setCell ⟨b, 10, none⟩ x10).setCell ⟨b, 11, none⟩ x11).setCell ⟨b, 12, none⟩ x12).setCell ⟨b, 13, none⟩ x13).setCell ⟨b, 14, none⟩ x14).setCell ⟨b, 15, none⟩ x15)).heap[b]? = some (.cells #[x0, x1, x2, x3, x4, x5, x6, x7, x8, x9, x10, x11, x12, x13, x14, x15] t (0, 0)) := by
  have bs : ∀ {w : World} {i : Nat} {cur : Array Value} (x : Value), w.heap[b]? = some (.cells cur t (0, 0)) → (w.setCell ⟨b, i, none⟩ x).heap[b]? = some (.cells (cur.setIfInBounds i x) t (0, 0)) := fun x h => by simp [World.setCell, Array.getElem?_modify, h]
  rw [(bs x15 (bs x14 (bs x13 (bs x12 (bs x11 (bs x10 (bs x9 (bs x8 (bs x7 (bs x6 (bs x5 (bs x4 (bs x3 (bs x2 (bs x1 (bs x0 h))))))))))))))))]
  obtain ⟨l⟩ := c
  rcases l with _ | ⟨a0, _ | ⟨a1, _ | ⟨a2, _ | ⟨a3, _ | ⟨a4, _ | ⟨a5, _ | ⟨a6, _ | ⟨a7, _ | ⟨a8, _ | ⟨a9, _ | ⟨a10, _ | ⟨a11, _ | ⟨a12, _ | ⟨a13, _ | ⟨a14, _ | ⟨a15, _ | ⟨a16, l⟩⟩⟩⟩⟩⟩⟩⟩⟩⟩⟩⟩⟩⟩⟩⟩⟩ <;> simp at hc ⊢
theorem set16_other {w : World} {b k : Nat} {o : Obj} (h : w.heap[k]? = some o) (hne : k ≠ b) (x0 x1 x2 x3 x4 x5 x6 x7 x8 x9 x10 x11 x12 x13 x14 x15 : Value) : (((((((((((((((((w.setCell ⟨b, 0, none⟩ x0).setCell ⟨b, 1, none⟩ x1).setCell ⟨b, 2, none⟩ x2).setCell ⟨b, 3, none⟩ x3).setCell ⟨b, 4, none⟩ x4).setCell ⟨b, 5, none⟩ x5).setCell ⟨b, 6, none⟩ x6).setCell ⟨b, 7, none⟩ x7).setCell ⟨b, 8, none⟩ x8).setCell ⟨b, 9, none⟩ x9).setCell ⟨b, 10, none⟩ x10).setCell ⟨b, 11, none⟩ x11).setCell ⟨b, 12, none⟩ x12).setCell ⟨b, 13, none⟩ x13).setCell ⟨b, 14, none⟩ x14).setCell ⟨b, 15, none⟩ x15)).heap[k]? = some o :=
  (other_block (other_block (other_block (other_block (other_block (other_block (other_block (other_block (other_block (other_block (other_block (other_block (other_block (other_block (other_block (other_block h hne x0) hne x1) hne x2) hne x3) hne x4) hne x5) hne x6) hne x7) hne x8) hne x9) hne x10) hne x11) hne x12) hne x13) hne x14) hne x15)
theorem set16_below {w0 w : World} {B b : Nat} (h : Below B w0 w) (hb : B ≤ b) (x0 x1 x2 x3 x4 x5 x6 x7 x8 x9 x10 x11 x12 x13 x14 x15 : Value) : Below B w0 (((((((((((((((((w.setCell ⟨b, 0, none⟩ x0).setCell ⟨b, 1, none⟩ x1).setCell ⟨b, 2, none⟩ x2).setCell ⟨b, 3, none⟩ x3).setCell ⟨b, 4, none⟩ x4).setCell ⟨b, 5, none⟩ x5).setCell ⟨b, 6, none⟩ x6).setCell ⟨b, 7, none⟩ x7).setCell ⟨b, 8, none⟩ x8).setCell ⟨b, 9, none⟩ x9).setCell ⟨b, 10, none⟩ x10).setCell ⟨b, 11, none⟩ x11).setCell ⟨b, 12, none⟩ x12).setCell ⟨b, 13, none⟩ x13).setCell ⟨b, 14, none⟩ x14).setCell ⟨b, 15, none⟩ x15)) :=
  ((((((((((((((((h.setCell hb x0).setCell hb x1).setCell hb x2).setCell hb x3).setCell hb x4).setCell hb x5).setCell hb x6).setCell hb x7).setCell hb x8).setCell hb x9).setCell hb x10).setCell hb x11).setCell hb x12).setCell hb x13).setCell hb x14).setCell hb x15)

/-- The first k pages have no frame. -/
def blankK (k : Nat) : List Int := List.replicate k (-1) ++ List.replicate (16 - k) 0
theorem blankK_len {k : Nat} (h : k ≤ 16) : (blankK k).length = 16 := by simp [blankK]; omega
theorem blankK_set {k : Nat} (h : k < 16) : (blankK k).set k (-1) = blankK (k + 1) := by
  have h1 : 16 - k = (16 - (k + 1)) + 1 := by omega
  unfold blankK
  rw [h1, List.replicate_succ, List.set_append_right _ _ (by simp), List.length_replicate, Nat.sub_self, List.set_cons_zero, List.replicate_succ', List.append_assoc]
  rfl
theorem blankK_16 : blankK 16 = blank := rfl
abbrev zero16 : Array Value := #[.int .i64 0, .int .i64 0, .int .i64 0, .int .i64 0, .int .i64 0, .int .i64 0, .int .i64 0, .int .i64 0, .int .i64 0, .int .i64 0, .int .i64 0, .int .i64 0, .int .i64 0, .int .i64 0, .int .i64 0, .int .i64 0]

set_option maxRecDepth 20000 in
set_option maxHeartbeats 1000000 in
theorem blank_any (w : World) : Calls Try.prog 15 #[] w fun e w' => e = .returned (.agg (pgc blank)) ∧ Below w.heap.size w w' := by
  have HB : Hid (Below w.heap.size w ((w.alloc (.cells zero16 48)).alloc (.cells zero16 48)) ∧ ((w.alloc (.cells zero16 48)).alloc (.cells zero16 48)).heap[w.heap.size]? = some (.cells zero16 48 (0, 0)) ∧ ((w.alloc (.cells zero16 48)).alloc (.cells zero16 48)).heap[w.heap.size + 1]? = some (.cells zero16 48 (0, 0))) := by
    obtain ⟨b0, b1, b2⟩ := two_boxes (Below.refl (((w.alloc (.cells zero16 48)).alloc (.cells zero16 48)).heap.size) ((w.alloc (.cells zero16 48)).alloc (.cells zero16 48)))
    exact ⟨b2, b0, b1⟩
  go_enter Try.func15, Try.ntmps15
  go_wp2_with fail
  go_loopw [3] (fun i wr => ∃ k : Nat, k ≤ 16 ∧ i = .int .i64 (k : Int) ∧ Below w.heap.size w wr ∧ wr.heap[w.heap.size]? = some (.cells zero16 48 (0, 0)) ∧ wr.heap[w.heap.size + 1]? = some (.cells (pgc (blankK k)) 48 (0, 0))) (fun i _ => 16 - (intOf i).toNat)
  case atStart => exact ⟨0, Nat.zero_le _, rfl, HB.out.1, HB.out.2.1, HB.out.2.2⟩
  case round =>
    obtain ⟨k, hk, rfl, hB, h0, h1⟩ := hrel
    by_cases hlt : k < 16
    · obtain ⟨c1, c2, c3⟩ := pg_cell h1 (i := k) (by rw [blankK_len hk]; exact hlt)
      have HN : Hid (Below w.heap.size w (wr.setCell ⟨w.heap.size + 1, k, none⟩ (.int .i64 (-1))) ∧ (wr.setCell ⟨w.heap.size + 1, k, none⟩ (.int .i64 (-1))).heap[w.heap.size]? = some (.cells zero16 48 (0, 0)) ∧ (wr.setCell ⟨w.heap.size + 1, k, none⟩ (.int .i64 (-1))).heap[w.heap.size + 1]? = some (.cells (pgc (blankK (k + 1))) 48 (0, 0))) := ⟨hB.setCell (by simp) _, other_block h0 (by omega) _, by rw [← blankK_set hlt]; exact pg_set h1 _⟩
      have hl : (k : Int) < 16 := by omega
      clear hB h0 h1 HB
      go_wp2_with fail
      refine ⟨⟨k + 1, by omega, by go_num, HN.out⟩, ?_⟩
      simp [intOf]; omega
    · have e : k = 16 := by omega
      subst e
      rw [blankK_16] at h1
      have h1' : wr.heap[w.heap.size + 1]? = some (.cells #[.int .i64 (-1), .int .i64 (-1), .int .i64 (-1), .int .i64 (-1), .int .i64 (-1), .int .i64 (-1), .int .i64 (-1), .int .i64 (-1), .int .i64 (-1), .int .i64 (-1), .int .i64 (-1), .int .i64 (-1), .int .i64 (-1), .int .i64 (-1), .int .i64 (-1), .int .i64 (-1)] 48 (0, 0)) := h1
      obtain ⟨⟨y0, y1, y2, y3, y4, y5, y6, y7, y8, y9, y10, y11, y12, y13, y14, y15⟩, yf, yl⟩ := sixteen_cells h0
      obtain ⟨⟨z0, z1, z2, z3, z4, z5, z6, z7, z8, z9, z10, z11, z12, z13, z14, z15⟩, zf, zl⟩ := sixteen_cells h1'
      have HE : Hid (Below w.heap.size w wr) := hB
      clear h0 h1 h1' hB HB
      go_wp2_with fail
      refine bodyPost_ret (v := .agg (pgc blank)) (by simp [results, Try.results15, go_sem, pgc, blank, List.replicate, y0, y1, y2, y3, y4, y5, y6, y7, y8, y9, y10, y11, y12, y13, y14, y15]) rfl ?_
      exact ⟨rfl, set16_below HE.out (Nat.le_refl _) _ _ _ _ _ _ _ _ _ _ _ _ _ _ _ _⟩

theorem which_any (n : Int) (w : World) : Calls Try.prog 18 #[.int .i64 n] w fun e w' => e = .returned (.int .i64 (if n = 0 then 0 else 1)) ∧ w' = w := by
  by_cases h1 : n = 0
  · go_enter Try.func18, Try.ntmps18
    go_wp2
    go_ret
    simp
  · go_enter Try.func18, Try.ntmps18
    go_wp2
    go_ret
    simp

end Go.Proofs.Ytlcdefpdahjjeaf
