/- Instructions and guests that are handed in, opened. -/
import Derived.Test.YtbdpnaklincgfacOpenI
import Derived.Test.YtbdpnaklincgfacGuest
namespace Go.Proofs.Ytbdpnaklincgfac
open Go.ChangeShapes Go.WideShapes Go.ChangeAt Go.RowKit Go.Deep Go.Joins

theorem cellsMach : Try.prog.cellsOf 34 = 12 := by kernel_rfl
theorem cellsBool : Try.prog.cellsOf 4 = 1 := by kernel_rfl

theorem array12 {α : Type} {cs : Array α} (h : cs.size = 12) : ∃ c0 c1 c2 c3 c4 c5 c6 c7 c8 c9 c10 c11, cs = #[c0, c1, c2, c3, c4, c5, c6, c7, c8, c9, c10, c11] := by
  obtain ⟨l⟩ := cs
  match l, h with
  | [c0, c1, c2, c3, c4, c5, c6, c7, c8, c9, c10, c11], _ => exact ⟨c0, c1, c2, c3, c4, c5, c6, c7, c8, c9, c10, c11, rfl⟩

/-- What holds of a guest's numbers as such. -/
structure MachWf (m : Mach) : Prop where
  regs : ∀ n ∈ m.regs, (Lit.int .i64 n).wf = true
  pc : (Lit.int .i64 m.pc).wf = true
  back : (Lit.int .i64 m.back).wf = true
  table : (Lit.int .i64 m.table).wf = true
  count : (Lit.int .i64 m.count).wf = true
  fin : (Lit.int .i64 m.fin).wf = true
  mem : ∀ n ∈ m.mem, (Lit.int .i64 n).wf = true
  out : ∀ n ∈ m.out, (Lit.int .i64 n).wf = true
  ready : (Lit.int .i64 m.ready).wf = true
  want : (Lit.int .i64 m.want).wf = true

set_option maxRecDepth 100000 in
/-- A guest that is handed in. -/
theorem machAt_of {H : Type} {enc : TypeId × Value → H} {W : World} {base : Nat} {v : Value} {d : DataW H} {p : List MemPlace}
    (hv : Value.okWide Try.prog W .any base 34 v) (h : DataW.Trod enc Try.prog W 0 (fun _ => true) true 34 v d p) (hs : ∀ n ∈ d.weights Try.prog 34, n ≤ reachBytes) :
    ∃ rv mv ov m, v = .agg (Mach.cells m rv mv ov) ∧ MachAt W rv mv ov m ∧ MachWf m := by
  obtain ⟨cs, rfl, hsz⟩ := okWide_struct Try.underlying34 hv
  obtain ⟨c0, c1, c2, c3, c4, c5, c6, c7, c8, c9, c10, c11, rfl⟩ := array12 (hsz.trans cellsMach)
  obtain ⟨fuel, hf⟩ := h
  obtain ⟨xs, n, _, hx, hl, hlen, hfs⟩ := DataW.trod_struct Try.underlying34 hf
  obtain ⟨y0, y1, y2, y3, y4, y5, y6, y7, y8, y9, y10, y11, rfl⟩ : ∃ y0 y1 y2 y3 y4 y5 y6 y7 y8 y9 y10 y11, xs = [y0, y1, y2, y3, y4, y5, y6, y7, y8, y9, y10, y11] := by
    match xs, hlen with
    | [y0, y1, y2, y3, y4, y5, y6, y7, y8, y9, y10, y11], _ => exact ⟨y0, y1, y2, y3, y4, y5, y6, y7, y8, y9, y10, y11, rfl⟩
  simp only [Prod.mk.injEq] at hx
  obtain ⟨hd, -⟩ := hx
  subst hd
  have t0 := hfs 0 _ rfl
  simp [Value.cells, cellsInts] at t0
  have t1 := hfs 1 _ rfl
  simp [Value.cells, cellsInt] at t1
  have t2 := hfs 2 _ rfl
  simp [Value.cells, cellsInt] at t2
  have t3 := hfs 3 _ rfl
  simp [Value.cells, cellsBool] at t3
  have t4 := hfs 4 _ rfl
  simp [Value.cells, cellsBool] at t4
  have t5 := hfs 5 _ rfl
  simp [Value.cells, cellsInt] at t5
  have t6 := hfs 6 _ rfl
  simp [Value.cells, cellsInt] at t6
  have t7 := hfs 7 _ rfl
  simp [Value.cells, cellsInt] at t7
  have t8 := hfs 8 _ rfl
  simp [Value.cells, cellsInts] at t8
  have t9 := hfs 9 _ rfl
  simp [Value.cells, cellsInts] at t9
  have t10 := hfs 10 _ rfl
  simp [Value.cells, cellsInt] at t10
  have t11 := hfs 11 _ rfl
  simp [Value.cells, cellsInt] at t11
  obtain ⟨x0, e0, w0⟩ := intsAt_of t0 (fun n hn => hs n (by
    simp only [DataW.weights, Try.underlying34]
    exact DataW.weights_mem_each (j := 0) rfl rfl n hn))
  obtain ⟨x1, e1, _, w1⟩ := DataW.trod_int Try.underlying3 t1
  obtain ⟨x2, e2, _, w2⟩ := DataW.trod_int Try.underlying3 t2
  obtain ⟨x3, e3, _⟩ := DataW.trod_bool Try.underlying4 t3
  obtain ⟨x4, e4, _⟩ := DataW.trod_bool Try.underlying4 t4
  obtain ⟨x5, e5, _, w5⟩ := DataW.trod_int Try.underlying3 t5
  obtain ⟨x6, e6, _, w6⟩ := DataW.trod_int Try.underlying3 t6
  obtain ⟨x7, e7, _, w7⟩ := DataW.trod_int Try.underlying3 t7
  obtain ⟨x8, e8, w8⟩ := intsAt_of t8 (fun n hn => hs n (by
    simp only [DataW.weights, Try.underlying34]
    exact DataW.weights_mem_each (j := 8) rfl rfl n hn))
  obtain ⟨x9, e9, w9⟩ := intsAt_of t9 (fun n hn => hs n (by
    simp only [DataW.weights, Try.underlying34]
    exact DataW.weights_mem_each (j := 9) rfl rfl n hn))
  obtain ⟨x10, e10, _, w10⟩ := DataW.trod_int Try.underlying3 t10
  obtain ⟨x11, e11, _, w11⟩ := DataW.trod_int Try.underlying3 t11
  simp at e1
  simp at e2
  simp at e3
  simp at e4
  simp at e5
  simp at e6
  simp at e7
  simp at e10
  simp at e11
  subst e1 e2 e3 e4 e5 e6 e7 e10 e11
  exact ⟨c0, c8, c9, ⟨x0, x1, x2, x3, x4, x5, x6, x7, x8, x9, x10, x11⟩, rfl, ⟨e0, e8, e9⟩, ⟨w0, w1, w2, w5, w6, w7, w8, w9, w10, w11⟩⟩

end Go.Proofs.Ytbdpnaklincgfac
