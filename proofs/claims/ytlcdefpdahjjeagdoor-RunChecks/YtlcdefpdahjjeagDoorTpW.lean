/- Contract of hourglassref.EventsOf, in one. -/
import Derived.Test.YtlcdefpdahjjeagDoorTpV
namespace Go.Proofs.YtlcdefpdahjjeagDoor
open Go.RowKit
set_option maxRecDepth 100000

theorem EventsOf_any (v : Value) (l : List Int) (w : World) (h : BytesAt w v l) (hc : ∃ A c, v = .slice A l.length c ∧ l.length ≤ c) :
    Calls Tryd.prog 42 #[v] w fun e w' => ∃ u, e = .returned (.tuple #[u, .int .i64 (decD l).1]) ∧ DecQ w w' u (decD l) := by
  obtain ⟨A, c, rfl, hcap⟩ := hc
  have h' := h
  obtain ⟨A', c', e, hl, hy, hcell⟩ := h'
  simp only [Value.slice.injEq] at e
  obtain ⟨rfl, -, rfl⟩ := e
  have fin : ∀ (en : Int), en ≠ 0 → decD l = (en, []) → (Calls Tryd.prog 42 #[.slice A l.length c] w fun e w' => e = .returned (.tuple #[.slice none 0 0, .int .i64 en]) ∧ Below w.heap.size w w') → Calls Tryd.prog 42 #[.slice A l.length c] w fun e w' => ∃ u, e = .returned (.tuple #[u, .int .i64 (decD l).1]) ∧ DecQ w w' u (decD l) := fun en h0 E H => H.mono fun e w' ⟨he, hb⟩ => ⟨_, by rw [E]; exact he, hb, fun e0 => by rw [E] at e0; exact absurd e0 h0, fun _ => rfl⟩
  by_cases h1 : 60000 < l.length
  · refine fin 1 (by simp) (by unfold decD; rw [if_pos h1]) ?_
    exact (EventsOf_size A l.length c w h1 hl).mono fun e w' ⟨he, hw⟩ => ⟨he, by rw [hw]; exact Below.refl _ _⟩
  by_cases h2 : l.length ≤ 4
  · refine fin 5 (by simp) (by unfold decD; rw [if_neg h1, if_pos h2]) ?_
    exact (EventsOf_short A l.length c w h2).mono fun e w' ⟨he, hw⟩ => ⟨he, by rw [hw]; exact Below.refl _ _⟩
  obtain ⟨b, off, rfl, hlt, hj⟩ := hcell (by omega)
  by_cases h3 : l.drop (l.length - 4) = sumB (l.take (l.length - 4))
  · refine EventsOf_body b off c l w h hcap (by omega) (by omega) h3 (decD l) ?_
    unfold decD
    rw [if_neg h1, if_neg h2, if_neg (by simp [h3])]
  · exact fin 10 (by simp) (by unfold decD; rw [if_neg h1, if_neg h2, if_pos h3]) (EventsOf_sum b off c l w h hcap (by omega) (by omega) h3)

end Go.Proofs.YtlcdefpdahjjeagDoor
