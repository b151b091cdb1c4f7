/- RunRecords, walked: the nil slice and a slice with an address. -/
import Derived.Test.YtbjlfhpiebokkaaDoorRrSPart
import Derived.Test.YtbjlfhpiebokkaaDoorRrBPart
import Derived.Test.YtbjlfhpiebokkaaDoorOpenIPart
import Derived.Test.YtbjlfhpiebokkaaDoorBasePart
import Derived.Test.YtbjlfhpiebokkaaDoorByEncPart
import Derived.Test.YtbjlfhpiebokkaaDoorRcSPart
namespace Go.Proofs.YtbjlfhpiebokkaaDoor
open Go.RowKit

theorem RunRecords_any (v : Value) (im : List Int) (a b c d : Value) (x : Wd) (n : Int) (w : World) (h : IntsAt w v im) (hv : v = .slice none 0 0 ∨ ∃ a n c, v = .slice (some a) n c) (hw : WdT w.heap.size w a b c d x) (hn : (Lit.int .i64 n).wf = true) (hL : Laid w) :
    Calls Tryd.prog 3 #[v, .agg #[a, b, c, d], .int .i64 n] w fun e w' => e = .returned (.bool true) ∧ Below w.heap.size w w' := by
  rcases hv with rfl | ⟨a0, n0, c0, rfl⟩
  · obtain rfl : im = [] := by
      obtain ⟨A, c, e, _, _⟩ := h
      simp at e
      exact List.eq_nil_of_length_eq_zero e.2.1.symm
    exact RunRecords_nil a b c d x n w h hw hn hL
  · obtain rfl : n0 = im.length := by
      obtain ⟨A, c, e, _, _⟩ := h
      simp at e
      exact e.2.1
    exact RunRecords_some a0 c0 im a b c d x n w h hw hn hL

end Go.Proofs.YtbjlfhpiebokkaaDoor

/- A slice that is handed in is nil, or it has an address. -/

namespace Go.Proofs.YtbjlfhpiebokkaaDoor
open Go.ChangeShapes Go.WideShapes Go.ChangeAt Go.RowKit Go.Deep Go.Joins

theorem nilOr_of {H : Type} {enc : TypeId × Value → H} {W : World} {fuel : Nat} {v : Value} {x : DataW H × List MemPlace}
    (h : DataW.trod enc Tryd.prog W 0 (fun _ => true) true fuel 22 [v] = some x) : v = .slice none 0 0 ∨ ∃ a n c, v = .slice (some a) n c := by
  rcases open_ints Tryd.underlying22 Tryd.underlying3 cellsInt h with ⟨hcs, _⟩ | ⟨a, len, cap, zs, hcs, _, hl, hm, hz, hx, hcell, hwz⟩
  · simp at hcs
    exact Or.inl hcs
  · simp at hcs
    exact Or.inr ⟨a, len, cap, hcs⟩

end Go.Proofs.YtbjlfhpiebokkaaDoor

/- Frames that are handed in, opened: what their slices hold. -/

namespace Go.Proofs.YtbjlfhpiebokkaaDoor
open Go.ChangeShapes Go.WideShapes Go.ChangeAt Go.RowKit Go.Deep Go.Joins


theorem weights_row {H : Type} {A : Option Addr} {L : Nat} {zs : List Int} (h : ∀ n ∈ (intRow (H := H) .i64 A L zs).weights Tryd.prog 22, n ≤ reachBytes) (hL : L ≤ zs.length) (hA : A = none → L = 0) : L * 8 ≤ 140737488351232 := by
  cases A with
  | none => have := hA rfl; omega
  | some a =>
    have := h ((zs.take L).length * 8 + (zs.drop L).length * 8) (by
        simp only [intRow, DataW.weights, Tryd.underlying22, bytesInt, List.mem_cons]
        left
        simp [lits]
        omega)
    rw [reach_is] at this
    simp at this
    omega

theorem rowsAt_of {H : Type} {enc : TypeId × Value → H} {W : World} {fuel : Nat} {v : Value} {x : DataW H × List MemPlace}
    (h : DataW.trod enc Tryd.prog W 0 (fun _ => true) true fuel 23 [v] = some x) (hs : ∀ n ∈ x.1.weights Tryd.prog 23, n ≤ reachBytes) :
    ∃ D, RowsAt W v D := by
  rcases open_int_rows Tryd.underlying23 Tryd.underlying22 Tryd.underlying3 cellsInts cellsInt h with ⟨hcs, _⟩ | ⟨a, len, cap, A, L, C, Z, hcs, _, hl, hm, hx, hrows⟩
  · simp at hcs
    exact ⟨[], none, 0, by simpa using hcs, by simp, fun h => by simp at h⟩
  · simp at hcs
    subst hcs
    subst hx
    refine ⟨(List.range len).map fun r => (Z r).take (L r), some a, cap, by simp, ?_, fun h0 => ?_⟩
    · have := hs (len * 24 + (cap - len) * 24) (by
        simp only [DataW.weights, Tryd.underlying23, bytesInts, List.mem_cons]
        left
        simp
        omega)
      rw [reach_is] at this
      simp
      omega
    · simp at h0
      obtain ⟨b, off, sp⟩ := a
      have hsp : sp = none := by simpa [Addr.add] using World.cell?_spot (hrows 0 (by omega)).1
      subst hsp
      have hc : ∀ r, r < len → W.cell? ⟨b, off + r, none⟩ = some (.slice (A r) (L r) (C r)) := fun r hr => by rw [← add_plain]; exact (hrows r (by omega)).1
      refine ⟨b, off, rfl, World.block_lt_of_cell? _ _ (hc 0 (by omega)), fun j hj => ?_⟩
      simp at hj
      obtain ⟨_, h1, h2, h3, h4, h5, h6⟩ := hrows j (by omega)
      have hlen : ((Z j).take (L j)).length = L j := by simp; omega
      have hget : ((List.range len).map fun r => (Z r).take (L r)).getD j [] = (Z j).take (L j) := by simp [List.getD, hj]
      refine ⟨_, hc j hj, ?_⟩
      rw [hget]
      refine ⟨A j, C j, by rw [hlen], ?_, fun h0 => ?_⟩
      · rw [hlen]
        refine weights_row (H := H) (A := A j) (L := L j) (zs := Z j) (fun n hn => hs n ?_) (by omega) (fun e => by have := h5 e; omega)
        simp only [DataW.weights, Tryd.underlying23, List.mem_cons, List.mem_append]
        exact Or.inr (Or.inl (weightsAll_mem (List.mem_map.2 ⟨j, List.mem_range.2 hj, rfl⟩) n hn))
      · rw [hlen] at h0 ⊢
        cases hA : A j with
        | none => have := h5 hA; omega
        | some a' =>
          have hcell := (h6 a' hA).2
          obtain ⟨b', off', sp'⟩ := a'
          have hsp : sp' = none := by simpa [Addr.add] using World.cell?_spot (hcell 0 (by omega))
          subst hsp
          refine ⟨b', off', rfl, World.block_lt_of_cell? _ _ (hcell 0 (by omega)), fun i hi => ?_⟩
          rw [← add_plain, hcell i (by omega)]
          simp [List.getD, hi]


end Go.Proofs.YtbjlfhpiebokkaaDoor

/- A world that is handed in, opened. -/

namespace Go.Proofs.YtbjlfhpiebokkaaDoor
open Go.ChangeShapes Go.WideShapes Go.ChangeAt Go.RowKit Go.Deep Go.Joins
set_option maxRecDepth 100000

theorem cellsWorld : Tryd.prog.cellsOf 25 = 4 := by kernel_rfl

theorem worldAt_of {H : Type} {enc : TypeId × Value → H} {W : World} {base : Nat} {v : Value} {d : DataW H} {p : List MemPlace}
    (hv : Value.okWide Tryd.prog W .any base 25 v) (h : DataW.Trod enc Tryd.prog W 0 (fun _ => true) true 25 v d p) (hs : ∀ n ∈ d.weights Tryd.prog 25, n ≤ reachBytes) :
    ∃ v0 v1 v2 v3 x, v = .agg #[v0, v1, v2, v3] ∧ WdAt W v0 v1 v2 v3 x := by
  obtain ⟨v0, v1, v2, v3, y0, y1, y2, y3, m, rfl, rfl, rfl, hy0, hy1, hy2, hy3⟩ := open_agg4 Tryd.underlying25 (by kernel_rfl) cellsWorld hv h
  have hw : ∀ (j : Nat) t d, [22, 22, 23, 22][j]? = some t → [y0.1, y1.1, y2.1, y3.1][j]? = some d → ∀ n ∈ d.weights Tryd.prog t, n ≤ reachBytes := fun j t d ht hd n hn => hs n (by
    simp only [DataW.weights, Tryd.underlying25]
    exact DataW.weights_mem_each (j := j) (by simpa using ht) (by simpa using hd) n hn)
  obtain ⟨l0, h0, -⟩ := intsAt_of hy0 (hw 0 _ _ rfl rfl)
  obtain ⟨l1, h1, -⟩ := intsAt_of hy1 (hw 1 _ _ rfl rfl)
  obtain ⟨D, h2⟩ := rowsAt_of hy2 (hw 2 _ _ rfl rfl)
  obtain ⟨l3, h3, -⟩ := intsAt_of hy3 (hw 3 _ _ rfl rfl)
  exact ⟨v0, v1, v2, v3, ⟨l0, l1, D, l3⟩, rfl, ⟨h0, h1, h2, h3⟩⟩

end Go.Proofs.YtbjlfhpiebokkaaDoor

/- A slice of events that is handed in, opened. -/

namespace Go.Proofs.YtbjlfhpiebokkaaDoor
open Go.ChangeShapes Go.WideShapes Go.ChangeAt Go.RowKit Go.Deep Go.Joins

theorem cellsEvent : Tryd.prog.cellsOf 54 = 3 := by kernel_rfl
theorem bytesEvent : Tryd.prog.bytesOf 54 = 40 := by kernel_rfl
theorem list3 {l : List Value} (h : l.length = 3) : ∃ a b c, l = [a, b, c] := by
  match l, h with
  | [a, b, c], _ => exact ⟨a, b, c, rfl⟩

theorem evsAt_of {H : Type} {enc : TypeId × Value → H} {W : World} {fuel : Nat} {v : Value} {x : DataW H × List MemPlace}
    (h : DataW.trod enc Tryd.prog W 0 (fun _ => true) true fuel 43 [v] = some x) (hs : ∀ n ∈ x.1.weights Tryd.prog 43, n ≤ reachBytes) :
    ∃ L, EvsAt W v L := by
  rcases open_slice Tryd.underlying43 h with ⟨hcs, _⟩ | ⟨a, len, cap, m, n, D, Pl, hcs, _, hl, hm, hmm, hx, hel⟩
  · simp at hcs
    exact ⟨[], none, 0, by simpa using hcs, by simp, fun h => by simp at h⟩
  · simp at hcs
    subst hcs
    simp only [if_true] at hmm
    subst hmm
    rw [cellsEvent] at hel
    have each : ∀ j, j < len → ∃ y : Ev, ∃ u, W.cell? (a.add (j * 3)) = some (.int .i64 y.at_) ∧ W.cell? (a.add (j * 3 + 1)) = some (.int .i64 y.kind) ∧ W.cell? (a.add (j * 3 + 2)) = some u ∧ IntsAt W u y.data := by
      intro j hj
      obtain ⟨cs, h1, h2⟩ := hel j (by omega)
      obtain ⟨_, hlen, hc⟩ := World.cells?_some h1
      obtain ⟨c0, c1, c2, rfl⟩ := list3 hlen
      obtain ⟨z0, z1, z2, k, hz, _, t0, t1, t2⟩ := trod_struct3 Tryd.underlying54 h2
      simp [cellsInt, cellsInts] at t0 t1 t2
      obtain ⟨x0, e0, _, w0⟩ := DataW.trod_int Tryd.underlying3 t0
      obtain ⟨x1, e1, _, w1⟩ := DataW.trod_int Tryd.underlying3 t1
      simp at e0 e1
      subst e0 e1
      have hD : D j = .agg [z0.1, z1.1, z2.1] := by
        have := congrArg Prod.fst hz
        simpa using this
      obtain ⟨l, hl2, _⟩ := intsAt_of t2 (fun n hn => hs n (by
        rw [hx]
        simp only [DataW.weights, Tryd.underlying43, List.mem_cons, List.mem_append]
        refine Or.inr (Or.inl (weightsAll_mem (List.mem_map.2 ⟨j, List.mem_range.2 hj, rfl⟩) n ?_))
        rw [hD]
        simp only [DataW.weights, Tryd.underlying54]
        exact DataW.weights_mem_each (j := 2) rfl rfl n hn))
      refine ⟨⟨x0, x1, l⟩, c2, ?_, ?_, ?_, hl2⟩
      · have := hc 0 (by decide); rw [add_add] at this; simpa using this
      · have := hc 1 (by decide); rw [add_add] at this; simpa using this
      · have := hc 2 (by decide); rw [add_add] at this; simpa using this
    let F : Nat → Ev := fun j => if hj : j < len then (each j hj).choose else noEv
    have hF : ∀ j, (hj : j < len) → F j = (each j hj).choose := fun j hj => by simp [F, hj]
    refine ⟨(List.range len).map F, some a, m, by simp, ?_, fun h0 => ?_⟩
    · have := hs (len * 40 + (m - len) * 40) (by
        rw [hx]
        simp only [DataW.weights, Tryd.underlying43, bytesEvent, List.mem_cons]
        left
        simp
        omega)
      rw [reach_is] at this
      simp
      omega
    · simp at h0
      obtain ⟨b, off, sp⟩ := a
      obtain ⟨u0, hc0, _⟩ := (each 0 h0).choose_spec
      have hsp : sp = none := by simpa [Addr.add] using World.cell?_spot hc0
      subst hsp
      refine ⟨b, off, rfl, World.block_lt_of_cell? _ _ hc0, fun j hj => ?_⟩
      simp at hj
      have hg : ((List.range len).map F).getD j noEv = F j := by simp [List.getD, hj]
      rw [hg, hF j hj]
      obtain ⟨u, h0, h1, h2, h3⟩ := (each j hj).choose_spec
      exact ⟨by rw [← add_plain]; exact h0, by rw [Nat.add_assoc, ← add_plain]; exact h1, u, by rw [Nat.add_assoc, ← add_plain]; exact h2, h3⟩

end Go.Proofs.YtbjlfhpiebokkaaDoor

/- A slice of events that is handed in, opened, with room in their words' slices. -/

namespace Go.Proofs.YtbjlfhpiebokkaaDoor
open Go.ChangeShapes Go.WideShapes Go.ChangeAt Go.RowKit Go.Deep Go.Joins

theorem fits_of {H : Type} {enc : TypeId × Value → H} {W : World} {fuel : Nat} {v : Value} {x : DataW H × List MemPlace}
    (h : DataW.trod enc Tryd.prog W 0 (fun _ => true) true fuel 22 [v] = some x) : Fits v := by
  rcases open_ints Tryd.underlying22 Tryd.underlying3 cellsInt h with ⟨hcs, _⟩ | ⟨a, len, cap, zs, hcs, _, hl, hm, hz, hx, hcell, hwz⟩
  · simp at hcs
    exact ⟨none, 0, 0, hcs, Nat.le_refl _⟩
  · simp at hcs
    exact ⟨some a, len, cap, hcs, hl⟩

theorem evsF_of {H : Type} {enc : TypeId × Value → H} {W : World} {fuel : Nat} {v : Value} {x : DataW H × List MemPlace}
    (h : DataW.trod enc Tryd.prog W 0 (fun _ => true) true fuel 43 [v] = some x) (hs : ∀ n ∈ x.1.weights Tryd.prog 43, n ≤ reachBytes) :
    ∃ L, EvsF W v L := by
  obtain ⟨L, hL⟩ := evsAt_of h hs
  refine ⟨L, hL, fun b off c e j hj u hu => ?_⟩
  rcases open_slice Tryd.underlying43 h with ⟨hcs, _⟩ | ⟨a, len, cap, m, n, D, Pl, hcs, _, hl, hm, hmm, hx, hel⟩
  · simp at hcs
    rw [hcs] at e
    simp at e
  · simp at hcs
    rw [hcs] at e
    simp only [Value.slice.injEq, Option.some.injEq] at e
    obtain ⟨rfl, rfl, rfl⟩ := e
    simp only [if_true] at hmm
    subst hmm
    rw [cellsEvent] at hel
    obtain ⟨cs, h1, h2⟩ := hel j (by omega)
    obtain ⟨_, hlen, hc⟩ := World.cells?_some h1
    obtain ⟨c0, c1, c2, rfl⟩ := list3 hlen
    obtain ⟨z0, z1, z2, k, hz, _, t0, t1, t2⟩ := trod_struct3 Tryd.underlying54 h2
    simp [cellsInts] at t2
    have hc2 : W.cell? ⟨b, off + j * 3 + 2, none⟩ = some c2 := by
      have := hc 2 (by decide)
      rw [add_add, add_plain] at this
      simpa [Nat.add_assoc] using this
    rw [hc2] at hu
    simp only [Option.some.injEq] at hu
    subst hu
    exact fits_of t2

end Go.Proofs.YtbjlfhpiebokkaaDoor

/- A world that is handed in, opened, with room in its slices. -/

namespace Go.Proofs.YtbjlfhpiebokkaaDoor
open Go.ChangeShapes Go.WideShapes Go.ChangeAt Go.RowKit Go.Deep Go.Joins
set_option maxRecDepth 100000

theorem cellsRows1 : Tryd.prog.cellsOf 23 = 1 := by kernel_rfl
theorem rowsFit_of {H : Type} {enc : TypeId × Value → H} {W : World} {fuel : Nat} {v : Value} {x : DataW H × List MemPlace}
    (h : DataW.trod enc Tryd.prog W 0 (fun _ => true) true fuel 23 [v] = some x) :
    Fits v ∧ ∀ b off n c, v = .slice (some ⟨b, off, none⟩) n c → ∀ j, j < n → ∀ u, W.cell? ⟨b, off + j, none⟩ = some u → Fits u := by
  rcases open_slice Tryd.underlying23 h with ⟨hcs, _⟩ | ⟨a, len, cap, m, n, D, Pl, hcs, _, hl, hm, hmm, hx, hel⟩
  · simp at hcs
    subst hcs
    exact ⟨⟨none, 0, 0, rfl, Nat.le_refl _⟩, fun b off n c e => by simp at e⟩
  · simp at hcs
    subst hcs
    refine ⟨⟨some a, len, cap, rfl, hl⟩, fun b off n' c e j hj u hu => ?_⟩
    simp only [Value.slice.injEq, Option.some.injEq] at e
    obtain ⟨rfl, rfl, rfl⟩ := e
    simp only [if_true] at hmm
    subst hmm
    rw [cellsInts] at hel
    obtain ⟨cs, h1, h2⟩ := hel j (by omega)
    obtain ⟨_, hlen, hc⟩ := World.cells?_some h1
    obtain ⟨c0, rfl⟩ : ∃ c0, cs = [c0] := by
      match cs, hlen with
      | [c0], _ => exact ⟨c0, rfl⟩
    have hc0 := hc 0 (by decide)
    rw [add_add, add_plain] at hc0
    simp at hc0
    rw [hc0] at hu
    simp only [Option.some.injEq] at hu
    subst hu
    exact fits_of h2
theorem tailR_of {w : World} {u : Value} {D : List (List Int)} (h : RowsAt w u D) (hf : Fits u) (hr : ∀ b off n c, u = .slice (some ⟨b, off, none⟩) n c → ∀ j, j < n → ∀ r, w.cell? ⟨b, off + j, none⟩ = some r → Fits r) : TailR w.heap.size w u D := by
  obtain ⟨A, c, rfl, hl, hc⟩ := h
  obtain ⟨A', n', c', e, hn⟩ := hf
  simp only [Value.slice.injEq] at e
  obtain ⟨rfl, rfl, rfl⟩ := e
  refine ⟨A, c, rfl, hn, hl, fun h0 => ?_⟩
  obtain ⟨b, off, rfl, hlt, hj⟩ := hc h0
  refine ⟨b, off, rfl, hlt, fun j hjl => ?_⟩
  obtain ⟨r, h1, h2⟩ := hj j hjl
  exact ⟨r, h1, TailI.of h2 (hr b off _ c rfl j hjl r h1)⟩

theorem worldT_of {H : Type} {enc : TypeId × Value → H} {W : World} {base : Nat} {v : Value} {d : DataW H} {p : List MemPlace}
    (hv : Value.okWide Tryd.prog W .any base 25 v) (h : DataW.Trod enc Tryd.prog W 0 (fun _ => true) true 25 v d p) (hs : ∀ n ∈ d.weights Tryd.prog 25, n ≤ reachBytes) :
    ∃ v0 v1 v2 v3 x, v = .agg #[v0, v1, v2, v3] ∧ WdT W.heap.size W v0 v1 v2 v3 x := by
  obtain ⟨v0, v1, v2, v3, y0, y1, y2, y3, m, rfl, rfl, rfl, hy0, hy1, hy2, hy3⟩ := open_agg4 Tryd.underlying25 (by kernel_rfl) cellsWorld hv h
  have hw : ∀ (j : Nat) t d, [22, 22, 23, 22][j]? = some t → [y0.1, y1.1, y2.1, y3.1][j]? = some d → ∀ n ∈ d.weights Tryd.prog t, n ≤ reachBytes := fun j t d ht hd n hn => hs n (by
    simp only [DataW.weights, Tryd.underlying25]
    exact DataW.weights_mem_each (j := j) (by simpa using ht) (by simpa using hd) n hn)
  obtain ⟨l0, h0, -⟩ := intsAt_of hy0 (hw 0 _ _ rfl rfl)
  obtain ⟨l1, h1, -⟩ := intsAt_of hy1 (hw 1 _ _ rfl rfl)
  obtain ⟨D, h2⟩ := rowsAt_of hy2 (hw 2 _ _ rfl rfl)
  obtain ⟨l3, h3, -⟩ := intsAt_of hy3 (hw 3 _ _ rfl rfl)
  obtain ⟨f2, g2⟩ := rowsFit_of hy2
  exact ⟨v0, v1, v2, v3, ⟨l0, l1, D, l3⟩, rfl, ⟨TailI.of h0 (fits_of hy0), TailI.of h1 (fits_of hy1), tailR_of h2 f2 g2, TailI.of h3 (fits_of hy3), Nat.le_refl _⟩⟩

end Go.Proofs.YtbjlfhpiebokkaaDoor
