/- Contract of hourglassref.EventsOf, in one. -/
import Derived.Test.YtlcdefpdahjjeagDoorTpEPart
import Derived.Test.YtlcdefpdahjjeagDoorByPart
import Derived.Test.YtlcdefpdahjjeagDoorRepPPart
namespace Go.Proofs.YtlcdefpdahjjeagDoor
open Go.RowKit
set_option maxRecDepth 100000

theorem EventsOf_any (v : Value) (l : List Int) (w : World) (h : BytesAt w v l) (hc : ∃ A c, v = .slice A l.length c ∧ l.length ≤ c) :
    Calls Tryd.prog 42 #[v] w fun e w' => ∃ u, e = .returned (.tuple #[u, .int .i64 (decD l).1]) ∧ DecQ w w' u (decD l) := by
  obtain ⟨A, c, rfl, hcap⟩ := hc
  have h' := h
  obtain ⟨A', c', e, hl, hy, hcell⟩ := h'
  simp only [Value.slice.injEq] at e
  obtain ⟨rfl, -, rfl⟩ := e
  have fin : ∀ (en : Int), en ≠ 0 → decD l = (en, []) → (Calls Tryd.prog 42 #[.slice A l.length c] w fun e w' => e = .returned (.tuple #[.slice none 0 0, .int .i64 en]) ∧ Below w.heap.size w w') → Calls Tryd.prog 42 #[.slice A l.length c] w fun e w' => ∃ u, e = .returned (.tuple #[u, .int .i64 (decD l).1]) ∧ DecQ w w' u (decD l) := fun en h0 E H => H.mono fun e w' ⟨he, hb⟩ => ⟨_, by rw [E]; exact he, hb, fun e0 => by rw [E] at e0; exact absurd e0 h0, fun _ => rfl⟩
  by_cases h1 : 60000 < l.length
  · refine fin 1 (by simp) (by unfold decD; rw [if_pos h1]) ?_
    exact (EventsOf_size A l.length c w h1 hl).mono fun e w' ⟨he, hw⟩ => ⟨he, by rw [hw]; exact Below.refl _ _⟩
  by_cases h2 : l.length ≤ 4
  · refine fin 5 (by simp) (by unfold decD; rw [if_neg h1, if_pos h2]) ?_
    exact (EventsOf_short A l.length c w h2).mono fun e w' ⟨he, hw⟩ => ⟨he, by rw [hw]; exact Below.refl _ _⟩
  obtain ⟨b, off, rfl, hlt, hj⟩ := hcell (by omega)
  by_cases h3 : l.drop (l.length - 4) = sumB (l.take (l.length - 4))
  · refine EventsOf_body b off c l w h hcap (by omega) (by omega) h3 (decD l) ?_
    unfold decD
    rw [if_neg h1, if_neg h2, if_neg (by simp [h3])]
  · exact fin 10 (by simp) (by unfold decD; rw [if_neg h1, if_neg h2, if_pos h3]) (EventsOf_sum b off c l w h hcap (by omega) (by omega) h3)

end Go.Proofs.YtlcdefpdahjjeagDoor

/- Contract of hourglassref.words: new memory that holds the same numbers. -/

namespace Go.Proofs.YtlcdefpdahjjeagDoor
open Go.RowKit

set_option maxHeartbeats 1000000 in
theorem words_some (v : Value) (l : List Int) (w : World) (h : IntsAt w v l) :
    Calls Tryd.prog 36 #[v] w fun e w' => ∃ v', e = .returned v' ∧ OwnI w' w.heap.size v' l ∧ Below w.heap.size w w' := by
  obtain ⟨A, c, rfl, hl, hc⟩ := h
  obtain ⟨i0, hi, hz0, hz1, hz2⟩ := info_parts infoInt
  go_enter Tryd.func36, Tryd.ntmps36
  go_wp2
  go_loopw [3, 4] (fun o i wr => ∃ k : Nat, k ≤ l.length ∧ i = .int .i64 k ∧ Hid (OwnI wr w.heap.size o (l.take k)) ∧ Below w.heap.size w wr) (fun _ i _ => l.length - (intOf i).toNat)
  case atStart => exact ⟨0, Nat.zero_le _, rfl, World.ownsRow_nil _ _ _ _, Below.refl _ _⟩
  case round =>
    obtain ⟨k, hk, rfl, hown, hnx⟩ := hrel
    by_cases hlt : k < l.length
    · obtain ⟨b, off, rfl, hbs, hcell⟩ := hc (by omega)
      have h1 : wr.cell? ⟨b, off + k, none⟩ = some (.int .i64 (l.getD k 0)) := (hnx.cell (p := ⟨b, off + k, none⟩) hbs).trans (hcell k hlt)
      have hsz := hnx.size
      have HT := take_snoc l k hlt
      have HT' : Hid (l.take (k + 1) = l.take k ++ [l.getD k 0]) := HT
      have hlk : Hid ((l.take k).length = k) := by show _ = _; simp; omega
      clear HT hcell hc
      revert h1 HT'
      generalize l.getD k 0 = x
      intro h1 HT'
      revert hown HT' hlk
      generalize l.take k = lk
      intro hown hlk HT'
      go_wp2_with (first
        | (at_builtin; refine wpList_append_own _ rfl _ _ 22 rfl w.heap.size 3 i0 (.int .i64 0) 1 8 Tryd.underlying22 hi hz0 hz1 hz2 rfl (by decide) _ _ _ rfl (hown.out.alloc _) ⟨wr.heap.size, 0, none⟩ 1 1 [.int .i64 x] rfl rfl ?c1 ?c2 ?c3 ?c4 ?c5 ?_))
      case c1 => exact cell_one_new _ _ _
      case c2 => intro u hu; simp at hu; subst hu; rfl
      case c3 => have := hlk.out; unfold maxLen; omega
      case c4 => have := hlk.out; omega
      case c5 => simp; omega
      intro v' w1 hown' hgrow _
      have R1 : Hid (OwnI w1 w.heap.size v' (l.take (k + 1))) := OwnI.snoc hown' HT'.out
      have R2 : Below w.heap.size w w1 := grown_below hnx hown.out (Nat.le_refl _) hsz hgrow
      clear hown' hgrow hown h1 hnx
      go_wp2
      refine ⟨⟨k + 1, by omega, by go_num, R1, R2⟩, ?_⟩
      simp [intOf]; omega
    · clear hc
      go_wp2
      go_ret
      exact ⟨_, rfl, by have := hown.out; rwa [List.take_of_length_le (by omega)] at this, hnx⟩

theorem words_any (v : Value) (l : List Int) (w : World) (h : IntsAt w v l) :
    Calls Tryd.prog 36 #[v] w fun e w' => ∃ A c, e = .returned (.slice A l.length c) ∧ OwnI w' w.heap.size (.slice A l.length c) l ∧ Below w.heap.size w w' :=
  (words_some v l w h).mono fun e w' ⟨v', he, ho, hb⟩ => by
    obtain ⟨A, c, rfl⟩ := ho.shape
    exact ⟨A, c, he, ho, hb⟩

end Go.Proofs.YtlcdefpdahjjeagDoor
