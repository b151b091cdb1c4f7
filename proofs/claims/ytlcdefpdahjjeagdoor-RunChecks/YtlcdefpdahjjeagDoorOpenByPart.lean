/- A slice of bytes that is handed in, opened. -/
import Derived.Test.YtlcdefpdahjjeagDoorOpenI
import Derived.Test.YtlcdefpdahjjeagDoorBySum
import Derived.Test.YtlcdefpdahjjeagDoorTapePart
namespace Go.Proofs.YtlcdefpdahjjeagDoor
open Go.ChangeShapes Go.WideShapes Go.ChangeAt Go.RowKit Go.Deep Go.Joins
set_option maxRecDepth 100000

/-- A slice over these bytes, with room. -/
def BytesIn (w : World) (v : Value) (l : List Int) : Prop := BytesAt w v l ∧ ∃ A c, v = .slice A l.length c ∧ l.length ≤ c
theorem BytesIn.below {w w' : World} {v : Value} {l : List Int} (h : BytesIn w v l) (hb : Below w.heap.size w w') : BytesIn w' v l := ⟨h.1.below hb, h.2⟩

theorem cellsByte : Tryd.prog.cellsOf 5 = 1 := by kernel_rfl
theorem bytesByte : Tryd.prog.bytesOf 5 = 1 := by kernel_rfl

theorem bytesIn_of {H : Type} {enc : TypeId × Value → H} {W : World} {fuel : Nat} {v : Value} {x : DataW H × List MemPlace}
    (h : DataW.trod enc Tryd.prog W 0 (fun _ => true) true fuel 26 [v] = some x) (hs : ∀ n ∈ x.1.weights Tryd.prog 26, n ≤ reachBytes) :
    ∃ l, BytesIn W v l := by
  rcases open_ints Tryd.underlying26 Tryd.underlying5 cellsByte h with ⟨hcs, _⟩ | ⟨a, len, cap, zs, hcs, _, hl, hm, hz, hx, hcell, hwz⟩
  · simp at hcs
    exact ⟨[], ⟨none, 0, by simpa using hcs, by simp, by simp, fun h => by simp at h⟩, none, 0, by simpa using hcs, by simp⟩
  · simp at hcs
    subst hcs
    simp only [if_true] at hz
    have hlen : (zs.take len).length = len := by simp; omega
    refine ⟨zs.take len, ⟨some a, cap, by rw [hlen], ?_, fun n hn => ?_, fun h0 => ?_⟩, some a, cap, by rw [hlen], by rw [hlen]; exact hl⟩
    · have := hs ((zs.take len).length * 1 + (zs.drop len).length * 1) (by
        rw [hx]
        simp only [DataW.weights, Tryd.underlying26, bytesByte, List.mem_cons]
        left
        simp [lits])
      rw [reach_is] at this
      omega
    · have := hwz n (List.mem_of_mem_take hn)
      simpa [Lit.wf, IntKind.min, IntKind.max, IntKind.signed, IntKind.bits] using this
    · rw [hlen] at h0 ⊢
      obtain ⟨b, off, rfl, hc⟩ := ints_at hcell (by omega)
      refine ⟨b, off, rfl, World.block_lt_of_cell? _ _ (hc 0 (by omega)), fun j hj => ?_⟩
      rw [hc j (by omega)]
      simp [List.getD, hj]

/-- The slice is nil, or it has an address. -/
theorem bytesNil_of {H : Type} {enc : TypeId × Value → H} {W : World} {fuel : Nat} {v : Value} {x : DataW H × List MemPlace}
    (h : DataW.trod enc Tryd.prog W 0 (fun _ => true) true fuel 26 [v] = some x) : v = .slice none 0 0 ∨ ∃ a n c, v = .slice (some a) n c := by
  rcases open_ints Tryd.underlying26 Tryd.underlying5 cellsByte h with ⟨hcs, _⟩ | ⟨a, len, cap, zs, hcs, _, hl, hm, hz, hx, hcell, hwz⟩
  · simp at hcs
    exact Or.inl hcs
  · simp at hcs
    exact Or.inr ⟨a, len, cap, hcs⟩
theorem bytesInN_of {H : Type} {enc : TypeId × Value → H} {W : World} {fuel : Nat} {v : Value} {x : DataW H × List MemPlace}
    (h : DataW.trod enc Tryd.prog W 0 (fun _ => true) true fuel 26 [v] = some x) (hs : ∀ n ∈ x.1.weights Tryd.prog 26, n ≤ reachBytes) :
    ∃ l, BytesIn W v l ∧ (v = .slice none 0 0 ∨ ∃ a n c, v = .slice (some a) n c) := by
  obtain ⟨l, hl⟩ := bytesIn_of h hs
  exact ⟨l, hl, bytesNil_of h⟩

end Go.Proofs.YtlcdefpdahjjeagDoor

/- A tape that is handed in, opened. -/

namespace Go.Proofs.YtlcdefpdahjjeagDoor
open Go.ChangeShapes Go.WideShapes Go.ChangeAt Go.RowKit Go.Deep Go.Joins
set_option maxRecDepth 100000

theorem cellsTape : Tryd.prog.cellsOf 28 = 3 := by kernel_rfl

theorem tapeAt_of {H : Type} {enc : TypeId × Value → H} {W : World} {base : Nat} {v : Value} {d : DataW H} {p : List MemPlace}
    (hv : Value.okWide Tryd.prog W .any base 28 v) (h : DataW.Trod enc Tryd.prog W 0 (fun _ => true) true 28 v d p) (hs : ∀ n ∈ d.weights Tryd.prog 28, n ≤ reachBytes) :
    ∃ iv ev im bs cnt, v = .agg #[iv, ev, .int .i64 cnt] ∧ TapeAt W iv ev im bs ∧ (Lit.int .i64 cnt).wf = true := by
  obtain ⟨v0, v1, v2, y0, y1, y2, m, rfl, rfl, rfl, hy0, hy1, hy2⟩ := open_agg3 Tryd.underlying28 (by kernel_rfl) cellsTape hv h
  have hw : ∀ (j : Nat) t d, [22, 26, 3][j]? = some t → [y0.1, y1.1, y2.1][j]? = some d → ∀ n ∈ d.weights Tryd.prog t, n ≤ reachBytes := fun j t d ht hd n hn => hs n (by
    simp only [DataW.weights, Tryd.underlying28]
    exact DataW.weights_mem_each (j := j) (by simpa using ht) (by simpa using hd) n hn)
  obtain ⟨l0, h0, -⟩ := intsAt_of hy0 (hw 0 _ _ rfl rfl)
  obtain ⟨l1, h1⟩ := bytesIn_of hy1 (hw 1 _ _ rfl rfl)
  obtain ⟨x, e, _, hx⟩ := DataW.trod_int Tryd.underlying3 hy2
  simp at e
  subst e
  exact ⟨v0, v1, l0, l1, x, rfl, ⟨h0, h1.1, h1.2⟩, hx⟩

end Go.Proofs.YtlcdefpdahjjeagDoor
