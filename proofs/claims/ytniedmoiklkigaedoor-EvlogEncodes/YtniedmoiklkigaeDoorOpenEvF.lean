/- A slice of events that is handed in, opened, with room in their words' slices. -/
import Derived.Test.YtniedmoiklkigaeDoorOpenEv
import Derived.Test.YtniedmoiklkigaeDoorByEnc
namespace Go.Proofs.YtniedmoiklkigaeDoor
open Go.ChangeShapes Go.WideShapes Go.ChangeAt Go.RowKit Go.Deep Go.Joins

theorem fits_of {H : Type} {enc : TypeId × Value → H} {W : World} {fuel : Nat} {v : Value} {x : DataW H × List MemPlace}
    (h : DataW.trod enc Tryd.prog W 0 (fun _ => true) true fuel 33 [v] = some x) : Fits v := by
  rcases open_ints Tryd.underlying33 Tryd.underlying3 cellsInt h with ⟨hcs, _⟩ | ⟨a, len, cap, zs, hcs, _, hl, hm, hz, hx, hcell, hwz⟩
  · simp at hcs
    exact ⟨none, 0, 0, hcs, Nat.le_refl _⟩
  · simp at hcs
    exact ⟨some a, len, cap, hcs, hl⟩

theorem evsF_of {H : Type} {enc : TypeId × Value → H} {W : World} {fuel : Nat} {v : Value} {x : DataW H × List MemPlace}
    (h : DataW.trod enc Tryd.prog W 0 (fun _ => true) true fuel 22 [v] = some x) (hs : ∀ n ∈ x.1.weights Tryd.prog 22, n ≤ reachBytes) :
    ∃ L, EvsF W v L := by
  obtain ⟨L, hL⟩ := evsAt_of h hs
  refine ⟨L, hL, fun b off c e j hj u hu => ?_⟩
  rcases open_slice Tryd.underlying22 h with ⟨hcs, _⟩ | ⟨a, len, cap, m, n, D, Pl, hcs, _, hl, hm, hmm, hx, hel⟩
  · simp at hcs
    rw [hcs] at e
    simp at e
  · simp at hcs
    rw [hcs] at e
    simp only [Value.slice.injEq, Option.some.injEq] at e
    obtain ⟨rfl, rfl, rfl⟩ := e
    simp only [if_true] at hmm
    subst hmm
    rw [cellsEvent] at hel
    obtain ⟨cs, h1, h2⟩ := hel j (by omega)
    obtain ⟨_, hlen, hc⟩ := World.cells?_some h1
    obtain ⟨c0, c1, c2, rfl⟩ := list3 hlen
    obtain ⟨z0, z1, z2, k, hz, _, t0, t1, t2⟩ := trod_struct3 Tryd.underlying35 h2
    simp [cellsInts] at t2
    have hc2 : W.cell? ⟨b, off + j * 3 + 2, none⟩ = some c2 := by
      have := hc 2 (by decide)
      rw [add_add, add_plain] at this
      simpa [Nat.add_assoc] using this
    rw [hc2] at hu
    simp only [Option.some.injEq] at hu
    subst hu
    exact fits_of t2

end Go.Proofs.YtniedmoiklkigaeDoor
