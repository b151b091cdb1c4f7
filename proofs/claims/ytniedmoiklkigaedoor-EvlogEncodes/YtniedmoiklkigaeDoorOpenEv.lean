/- A slice of events that is handed in, opened. -/
import Derived.Test.YtniedmoiklkigaeDoorOpenI
import Derived.Test.YtniedmoiklkigaeDoorEv
namespace Go.Proofs.YtniedmoiklkigaeDoor
open Go.ChangeShapes Go.WideShapes Go.ChangeAt Go.RowKit Go.Deep Go.Joins

theorem cellsEvent : Tryd.prog.cellsOf 35 = 3 := by kernel_rfl
theorem bytesEvent : Tryd.prog.bytesOf 35 = 40 := by kernel_rfl
theorem list3 {l : List Value} (h : l.length = 3) : ∃ a b c, l = [a, b, c] := by
  match l, h with
  | [a, b, c], _ => exact ⟨a, b, c, rfl⟩

/-- A slice of events that is handed in. -/
theorem evsAt_of {H : Type} {enc : TypeId × Value → H} {W : World} {fuel : Nat} {v : Value} {x : DataW H × List MemPlace}
    (h : DataW.trod enc Tryd.prog W 0 (fun _ => true) true fuel 22 [v] = some x) (hs : ∀ n ∈ x.1.weights Tryd.prog 22, n ≤ reachBytes) :
    ∃ L, EvsAt W v L := by
  rcases open_slice Tryd.underlying22 h with ⟨hcs, _⟩ | ⟨a, len, cap, m, n, D, Pl, hcs, _, hl, hm, hmm, hx, hel⟩
  · simp at hcs
    exact ⟨[], none, 0, by simpa using hcs, by simp, fun h => by simp at h⟩
  · simp at hcs
    subst hcs
    simp only [if_true] at hmm
    subst hmm
    rw [cellsEvent] at hel
    have each : ∀ j, j < len → ∃ y : Ev, ∃ u, W.cell? (a.add (j * 3)) = some (.int .i64 y.at_) ∧ W.cell? (a.add (j * 3 + 1)) = some (.int .i64 y.kind) ∧ W.cell? (a.add (j * 3 + 2)) = some u ∧ IntsAt W u y.data := by
      intro j hj
      obtain ⟨cs, h1, h2⟩ := hel j (by omega)
      obtain ⟨_, hlen, hc⟩ := World.cells?_some h1
      obtain ⟨c0, c1, c2, rfl⟩ := list3 hlen
      obtain ⟨z0, z1, z2, k, hz, _, t0, t1, t2⟩ := trod_struct3 Tryd.underlying35 h2
      simp [cellsInt, cellsInts] at t0 t1 t2
      obtain ⟨x0, e0, _, w0⟩ := DataW.trod_int Tryd.underlying3 t0
      obtain ⟨x1, e1, _, w1⟩ := DataW.trod_int Tryd.underlying3 t1
      simp at e0 e1
      subst e0 e1
      have hD : D j = .agg [z0.1, z1.1, z2.1] := by
        have := congrArg Prod.fst hz
        simpa using this
      obtain ⟨l, hl2, _⟩ := intsAt_of t2 (fun n hn => hs n (by
        rw [hx]
        simp only [DataW.weights, Tryd.underlying22, List.mem_cons, List.mem_append]
        refine Or.inr (Or.inl (weightsAll_mem (List.mem_map.2 ⟨j, List.mem_range.2 hj, rfl⟩) n ?_))
        rw [hD]
        simp only [DataW.weights, Tryd.underlying35]
        exact DataW.weights_mem_each (j := 2) rfl rfl n hn))
      refine ⟨⟨x0, x1, l⟩, c2, ?_, ?_, ?_, hl2⟩
      · have := hc 0 (by decide); rw [add_add] at this; simpa using this
      · have := hc 1 (by decide); rw [add_add] at this; simpa using this
      · have := hc 2 (by decide); rw [add_add] at this; simpa using this
    let F : Nat → Ev := fun j => if hj : j < len then (each j hj).choose else noEv
    have hF : ∀ j, (hj : j < len) → F j = (each j hj).choose := fun j hj => by simp [F, hj]
    refine ⟨(List.range len).map F, some a, m, by simp, ?_, fun h0 => ?_⟩
    · have := hs (len * 40 + (m - len) * 40) (by
        rw [hx]
        simp only [DataW.weights, Tryd.underlying22, bytesEvent, List.mem_cons]
        left
        simp
        omega)
      rw [reach_is] at this
      simp
      omega
    · simp at h0
      obtain ⟨b, off, sp⟩ := a
      obtain ⟨u0, hc0, _⟩ := (each 0 h0).choose_spec
      have hsp : sp = none := by simpa [Addr.add] using World.cell?_spot hc0
      subst hsp
      refine ⟨b, off, rfl, World.block_lt_of_cell? _ _ hc0, fun j hj => ?_⟩
      simp at hj
      have hg : ((List.range len).map F).getD j noEv = F j := by simp [List.getD, hj]
      rw [hg, hF j hj]
      obtain ⟨u, h0, h1, h2, h3⟩ := (each j hj).choose_spec
      exact ⟨by rw [← add_plain]; exact h0, by rw [Nat.add_assoc, ← add_plain]; exact h1, u, by rw [Nat.add_assoc, ← add_plain]; exact h2, h3⟩

end Go.Proofs.YtniedmoiklkigaeDoor
