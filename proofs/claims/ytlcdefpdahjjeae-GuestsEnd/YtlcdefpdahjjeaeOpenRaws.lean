/- A slice of raw things that is handed in, opened. -/
import Derived.Test.YtlcdefpdahjjeaeOpenI
import Derived.Test.YtlcdefpdahjjeaeRaws
namespace Go.Proofs.Ytlcdefpdahjjeae
open Go.ChangeShapes Go.WideShapes Go.ChangeAt Go.RowKit Go.Deep Go.Joins

theorem cellsRaw : Try.prog.cellsOf 53 = 4 := by kernel_rfl
theorem bytesRaw : Try.prog.bytesOf 53 = 32 := by kernel_rfl

theorem list4 {l : List Value} (h : l.length = 4) : ∃ a b c d, l = [a, b, c, d] := by
  match l, h with
  | [a, b, c, d], _ => exact ⟨a, b, c, d, rfl⟩

theorem rawsIn_of {H : Type} {enc : TypeId × Value → H} {W : World} {fuel : Nat} {v : Value} {x : DataW H × List MemPlace}
    (h : DataW.trod enc Try.prog W 0 (fun _ => true) true fuel 38 [v] = some x) (hs : ∀ n ∈ x.1.weights Try.prog 38, n ≤ reachBytes) :
    ∃ n, RawsIn W v n := by
  rcases open_slice Try.underlying38 h with ⟨hcs, _⟩ | ⟨a, len, cap, m, n, D, Pl, hcs, _, hl, hm, hmm, hx, hel⟩
  · simp at hcs
    exact ⟨0, none, 0, by simpa using hcs, by simp, fun h => by simp at h⟩
  · simp at hcs
    subst hcs
    simp only [if_true] at hmm
    subst hmm
    rw [cellsRaw] at hel
    refine ⟨len, some a, m, rfl, ?_, fun h0 => ?_⟩
    · have := hs (len * 32 + (m - len) * 32) (by
        rw [hx]
        simp only [DataW.weights, Try.underlying38, bytesRaw, List.mem_cons]
        left
        simp
        omega)
      rw [reach_is] at this
      omega
    · have each : ∀ j, j < len → ∃ x0 x1 x2 x3 : Int, (Lit.int .i64 x0).wf = true ∧ (Lit.int .i64 x1).wf = true ∧ (Lit.int .i64 x2).wf = true ∧ (Lit.int .i64 x3).wf = true ∧
          W.cell? (a.add (j * 4)) = some (.int .i64 x0) ∧ W.cell? (a.add (j * 4 + 1)) = some (.int .i64 x1) ∧ W.cell? (a.add (j * 4 + 2)) = some (.int .i64 x2) ∧ W.cell? (a.add (j * 4 + 3)) = some (.int .i64 x3) := by
        intro j hj
        obtain ⟨cs, h1, h2⟩ := hel j (by omega)
        obtain ⟨_, hlen, hc⟩ := World.cells?_some h1
        obtain ⟨c0, c1, c2, c3, rfl⟩ := list4 hlen
        obtain ⟨z0, z1, z2, z3, k, _, _, t0, t1, t2, t3⟩ := trod_struct4 Try.underlying53 h2
        simp [cellsInt] at t0 t1 t2 t3
        obtain ⟨x0, e0, _, w0⟩ := DataW.trod_int Try.underlying3 t0
        obtain ⟨x1, e1, _, w1⟩ := DataW.trod_int Try.underlying3 t1
        obtain ⟨x2, e2, _, w2⟩ := DataW.trod_int Try.underlying3 t2
        obtain ⟨x3, e3, _, w3⟩ := DataW.trod_int Try.underlying3 t3
        simp at e0 e1 e2 e3
        subst e0 e1 e2 e3
        refine ⟨x0, x1, x2, x3, w0, w1, w2, w3, ?_, ?_, ?_, ?_⟩
        · have := hc 0 (by decide); rw [add_add] at this; simpa using this
        · have := hc 1 (by decide); rw [add_add] at this; simpa using this
        · have := hc 2 (by decide); rw [add_add] at this; simpa using this
        · have := hc 3 (by decide); rw [add_add] at this; simpa using this
      obtain ⟨b, off, sp⟩ := a
      obtain ⟨x0, _, _, _, _, _, _, _, hc0, _⟩ := each 0 h0
      have hsp : sp = none := by simpa [Addr.add] using World.cell?_spot hc0
      subst hsp
      refine ⟨b, off, rfl, World.block_lt_of_cell? _ _ hc0, fun j hj => ?_⟩
      obtain ⟨x0, x1, x2, x3, w0, w1, w2, w3, h0, h1, h2, h3⟩ := each j hj
      simp only [add_plain] at h0 h1 h2 h3
      exact ⟨x0, x1, x2, x3, w0, w1, w2, w3, h0, h1, h2, h3⟩

end Go.Proofs.Ytlcdefpdahjjeae
