/- The walk of hourglasslaw.EvlogDecodes: evlog.Decode answers as the document's own reader does. -/
import Derived.Test.YtniedmoiklkigaeDoorTpW
import Derived.Test.YtniedmoiklkigaeDoorOpenBy
import Derived.Test.YtniedmoiklkigaeDoorSameEv
import Derived.Deep.QuietTactic
namespace Go.Proofs.YtniedmoiklkigaeDoor
open Go.RowKit

theorem OwnB.fits {w : World} {lo : Nat} {v : Value} {l : List Int} (h : OwnB w lo v l) : ∃ A c, v = .slice A l.length c ∧ l.length ≤ c := by
  rcases h.2 with ⟨rfl, hn⟩ | ⟨g, cap, cur, rfl, _, _, hc, _⟩
  · exact ⟨none, 0, by rw [hn], by omega⟩
  · exact ⟨_, _, rfl, hc⟩
theorem noEvs (w : World) : EvsAt w (.slice none 0 0) [] := ⟨none, 0, rfl, by simp, fun h => by simp at h⟩
theorem DecQ.evs {w w' : World} {u : Value} {g : Int × List Ev} (h : DecQ w w' u g) (h2 : g.1 ≠ 0 → g.2 = []) : EvsAt w' u g.2 := by
  by_cases h0 : g.1 = 0
  · obtain ⟨R, hR, ho, hR1, hR2⟩ := h.ok h0
    have := (ho.evs hR1 hR2).at_
    rwa [hR] at this
  · rw [h.no h0, h2 h0]
    exact noEvs _
theorem decD_no {l : List Int} (h : (decD l).1 ≠ 0) : (decD l).2 = [] := by
  unfold decD at h ⊢
  split
  · rfl
  · split
    · rfl
    · split
      · rfl
      · split
        · rfl
        · split
          · rfl
          · rename_i h1 h2 h3 h4 h5
            rw [if_neg h1, if_neg h2, if_neg h3, if_neg h4, if_neg h5] at h
            exact absurd rfl h

set_option maxRecDepth 20000 in
set_option maxHeartbeats 2000000 in
theorem EvlogDecodes_any (v : Value) (l : List Int) (w : World) (h : BytesIn w v l ∧ (v = .slice none 0 0 ∨ ∃ a n c, v = .slice (some a) n c)) (hL : Laid w) :
    Calls Tryd.prog 5 #[v] w fun e w' => e = .returned (.bool true) ∧ Below w.heap.size w w' := by
  obtain ⟨h, hv⟩ := h
  have HG : Hid (∀ W, Below w.heap.size w W → Calls Tryd.prog 11 #[v] W fun e w' => ∃ u, e = .returned (.tuple #[u, .int .i64 (decD l).1]) ∧ DecQ W w' u (decD l)) := fun W hb => EventsOf_any v l W (h.1.below hb) h.2
  have HF : Hid (∀ W u, Below w.heap.size w W → BytesAt W u l → (∃ A c, u = .slice A l.length c ∧ l.length ≤ c) → Calls Tryd.prog 10 #[u] W fun e w' => ∃ u, e = .returned (.tuple #[u, .int .i64 (decD l).1]) ∧ DecQ W w' u (decD l)) := fun W u hb hu hc => Decode_any u l W hu hc (hL.below hb)
  have HS : Hid (∀ W u1 u2, EvsAt W u1 (decD l).2 → EvsAt W u2 (decD l).2 → Calls Tryd.prog 12 #[u1, u2] W fun e w' => e = .returned (.bool true) ∧ Below W.heap.size W w') := fun W u1 u2 g1 g2 => sameEvents_same u1 u2 _ W g1 g2
  have HD : Hid ((decD l).1 ≠ 0 → (decD l).2 = []) := decD_no
  obtain ⟨i0, hi, hz0, hz1, hz2⟩ := info_parts infoByte
  have hy : ∀ x ∈ l, 0 ≤ x ∧ x ≤ 255 := by obtain ⟨_, _, _, _, hy, _⟩ := h.1; exact hy
  have hll : l.length ≤ 140737488351232 := by obtain ⟨_, _, _, hl, _, _⟩ := h.1; exact hl
  have HY : Hid (∀ x ∈ l, 0 ≤ x ∧ x ≤ 255) := hy
  have key : ∀ (v1 : Value) (w1 : World), OwnB w1 w.heap.size v1 l → Below w.heap.size w w1 → True := fun _ _ _ _ => trivial
  clear hy key hL
  rcases hv with rfl | ⟨a, n, c, rfl⟩
  · obtain rfl : l = [] := by
      obtain ⟨A, c, e, _⟩ := h.1
      simp at e
      exact List.eq_nil_of_length_eq_zero e.2.1.symm
    have HV : Hid (BytesAt w (.slice none 0 0) [] ∧ (∃ A c, Value.slice none 0 0 = .slice A ([] : List Int).length c ∧ ([] : List Int).length ≤ c)) := ⟨h.1, none, 0, rfl, by simp⟩
    clear h
    go_enter Tryd.func5, Tryd.ntmps5
    go_wp2_with (first
      | (at_builtin; refine wpList_append_own_none rfl _ _ 26 rfl w.heap.size 5 i0 1 Tryd.underlying26 hi (.slice none 0 0) 0 [] rfl (World.ownsRow_nil _ _ _ _) rfl ?_))
    refine (HF.out _ _ (Below.refl _ _) HV.out.1 HV.out.2).mono ?_
    rintro e w2 ⟨u2, rfl, hq2⟩
    have HB2 : Hid (Below w.heap.size w w2) := hq2.old
    have HE2 : Hid (EvsAt w2 u2 (decD []).2) := hq2.evs HD.out
    clear hq2 HF HV
    go_wp2_with fail
    refine (HG.out _ HB2.out).mono ?_
    rintro e w3 ⟨u3, rfl, hq3⟩
    have HB3 : Hid (Below w.heap.size w w3) := HB2.out.trans (hq3.old.mono HB2.out.size)
    have HE3 : Hid (EvsAt w3 u3 (decD []).2) := hq3.evs HD.out
    have HE2' : Hid (EvsAt w3 u2 (decD []).2) := HE2.out.below hq3.old
    clear hq3 HG HE2 HB2
    go_wp2_with fail
    refine (HS.out _ _ _ HE2'.out HE3.out).mono ?_
    rintro e w4 ⟨rfl, hb4⟩
    have HB4 : Hid (Below w.heap.size w w4) := HB3.out.trans (hb4.mono HB3.out.size)
    clear hb4
    go_wp2_with fail
    go_ret
    exact ⟨rfl, HB4.out⟩
  · obtain ⟨A, c', e, hl, -, hc⟩ := h.1
    simp only [Value.slice.injEq] at e
    obtain ⟨rfl, rfl, rfl⟩ := e
    have HN : Hid (∀ j u, (l.map (Value.int .u8))[j]? = some u → w.cell? (a.add j) = some u) := by
      intro j u hu
      have hjl : j < l.length := by
        by_cases hh : j < l.length
        · exact hh
        · simp [List.getElem?_eq_none (show l.length ≤ j by omega)] at hu
      obtain ⟨b, off, ea, hb, hj⟩ := hc (by omega)
      simp only [Option.some.injEq] at ea
      subst ea
      rw [Go.WideShapes.add_plain, hj j hjl]
      simp [hjl] at hu
      simp [List.getD, hjl, hu]
    clear hc h
    go_enter Tryd.func5, Tryd.ntmps5
    go_wp2_with (first
      | (at_builtin; refine wpList_append_own_at _ rfl _ _ 26 rfl w.heap.size 5 i0 (.int .u8 0) 1 1 Tryd.underlying26 hi hz0 hz1 hz2 rfl (by decide) (.slice none 0 0) 0 [] rfl (World.ownsRow_nil _ _ _ _) a l.length c (l.map (Value.int .u8)) rfl (by simp) HN.out (bytes_oneCell _) (by unfold maxLen; omega) (by omega) (Nat.le_refl _) ?_))
    intro v1 w1 hown hgrow _ _
    have hB1 : Below w.heap.size w w1 := (Below.refl _ w).grown hgrow (Nat.le_refl _) (fun k hk => by simp [Value.ownBlock] at hk)
    have ho : OwnB w1 w.heap.size v1 l := by
      show w1.ownsRow w.heap.size 5 1 v1 l.length (l.map (Value.int .u8))
      simpa using hown
    have HV : Hid (BytesAt w1 v1 l ∧ (∃ A c, v1 = .slice A l.length c ∧ l.length ≤ c) ∧ Below w.heap.size w w1) := ⟨ho.read hll HY.out, ho.fits, hB1⟩
    obtain ⟨A1, c1, rfl⟩ := ho.shape
    clear hown hgrow HN hB1 ho
    go_wp2_with fail
    refine (HF.out _ _ HV.out.2.2 HV.out.1 HV.out.2.1).mono ?_
    rintro e w2 ⟨u2, rfl, hq2⟩
    have HB2 : Hid (Below w.heap.size w w2) := HV.out.2.2.trans (hq2.old.mono HV.out.2.2.size)
    have HE2 : Hid (EvsAt w2 u2 (decD l).2) := hq2.evs HD.out
    clear hq2 HF HV
    go_wp2_with fail
    refine (HG.out _ HB2.out).mono ?_
    rintro e w3 ⟨u3, rfl, hq3⟩
    have HB3 : Hid (Below w.heap.size w w3) := HB2.out.trans (hq3.old.mono HB2.out.size)
    have HE3 : Hid (EvsAt w3 u3 (decD l).2) := hq3.evs HD.out
    have HE2' : Hid (EvsAt w3 u2 (decD l).2) := HE2.out.below hq3.old
    clear hq3 HG HE2 HB2
    go_wp2_with fail
    refine (HS.out _ _ _ HE2'.out HE3.out).mono ?_
    rintro e w4 ⟨rfl, hb4⟩
    have HB4 : Hid (Below w.heap.size w w4) := HB3.out.trans (hb4.mono HB3.out.size)
    clear hb4
    go_wp2_with fail
    go_ret
    exact ⟨rfl, HB4.out⟩

end Go.Proofs.YtniedmoiklkigaeDoor
