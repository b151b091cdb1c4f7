/- Numbers and slices of numbers that are handed in, opened. -/
import Derived.Test.YtbjlfhpiebokkaaDoorProg
import Derived.Test.YtbjlfhpiebokkaaDoorBasePart
import Derived.ProofKit
import Derived.OpenShut
import Derived.SizedLaws
import Derived.Lib.SmallJoins
import Derived.Deep.Matrix
import Derived.Test.YtbjlfhpiebokkaaDoorRows
import Derived.LaidMore
import Derived.LaidLaws
import Derived.Stop.Joined
import Derived.Maps.AppendAt
namespace Go.Proofs.YtbjlfhpiebokkaaDoor
open Go.ChangeShapes Go.WideShapes Go.ChangeAt Go.RowKit Go.Deep Go.Joins
set_option maxRecDepth 100000

theorem own : ownKnob Tryd.prog.godebug = none := by kernel_rfl
theorem laidOut : laidOutB Tryd.prog = true := by kernel_rfl
theorem cellsInts : Tryd.prog.cellsOf 22 = 1 := by kernel_rfl
theorem cellsInt : Tryd.prog.cellsOf 3 = 1 := by kernel_rfl
theorem bytesInts : Tryd.prog.bytesOf 22 = 24 := by kernel_rfl
theorem bytesInt : Tryd.prog.bytesOf 3 = 8 := by kernel_rfl
theorem reach_is : reachBytes = 140737488351232 := rfl

theorem weightsAll_mem {H : Type} {P : Program} {e : TypeId} : ∀ {l : List (DataW H)} {d : DataW H}, d ∈ l → ∀ n ∈ d.weights P e, n ∈ DataW.weightsAll P e l
  | x :: l, d, hd, n, hn => by
    simp only [DataW.weightsAll, List.mem_append]
    rcases List.mem_cons.1 hd with rfl | h
    · exact Or.inl hn
    · exact Or.inr (weightsAll_mem h n hn)

theorem intsAt_of {H : Type} {enc : TypeId × Value → H} {W : World} {fuel : Nat} {v : Value} {x : DataW H × List MemPlace}
    (h : DataW.trod enc Tryd.prog W 0 (fun _ => true) true fuel 22 [v] = some x) (hs : ∀ n ∈ x.1.weights Tryd.prog 22, n ≤ reachBytes) :
    ∃ l, IntsAt W v l ∧ ∀ n ∈ l, (Lit.int .i64 n).wf = true := by
  rcases open_ints Tryd.underlying22 Tryd.underlying3 cellsInt h with ⟨hcs, _⟩ | ⟨a, len, cap, zs, hcs, _, hl, hm, hz, hx, hcell, hwz⟩
  · simp at hcs
    exact ⟨[], ⟨none, 0, by simpa using hcs, by simp, fun h => by simp at h⟩, by simp⟩
  · simp at hcs
    subst hcs
    simp only [if_true] at hz
    have hlen : (zs.take len).length = len := by simp; omega
    refine ⟨zs.take len, ⟨some a, cap, by rw [hlen], ?_, fun h0 => ?_⟩, fun n hn => hwz n (List.mem_of_mem_take hn)⟩
    · have := hs ((zs.take len).length * 8 + (zs.drop len).length * 8) (by
        rw [hx]
        simp only [DataW.weights, Tryd.underlying22, bytesInt, List.mem_cons]
        left
        simp [lits]
        omega)
      rw [reach_is] at this
      omega
    · rw [hlen] at h0 ⊢
      obtain ⟨b, off, rfl, hc⟩ := ints_at hcell (by omega)
      refine ⟨b, off, rfl, World.block_lt_of_cell? _ _ (hc 0 (by omega)), fun j hj => ?_⟩
      rw [hc j (by omega)]
      simp [List.getD, hj]

end Go.Proofs.YtbjlfhpiebokkaaDoor

/- What the package variable evlog.dataWords holds when a call begins. -/

namespace Go.Proofs.YtbjlfhpiebokkaaDoor
open Go.ChangeShapes Go.WideShapes Go.ChangeAt Go.WideMaps Go.WideElems Go.RowKit
set_option maxRecDepth 100000

theorem gWords : Tryd.prog.globalNamed "hourglass/evlog.dataWords" = some 0 := by kernel_rfl
theorem tWords : (Tryd.prog.globals[0]?).map (·.type) = some 146 := by kernel_rfl
def laidD : List (String × DataW Unit) := [("hourglass/evlog.dataWords", Rows.laid_hourglass_evlog_dataWords)]

theorem door_met (os : Os) (args : Array Value) : laidMetH Tryd.prog laidD ((World.doorLaid Tryd.prog 400 os).forCall (fun _ _ => 0) ⟨#[], args, []⟩).memory :=
  laidMetH_of_parts3 (fuel := 8) (laidMet_of_run' 8 (by kernel_rfl) (by kernel_rfl)) (by kernel_rfl) (by kernel_rfl)

theorem of_laid {W : World} (h : laidMetH Tryd.prog laidD W) : Laid W := by
  rw [MakeChecks.laidMetH_plain _ _ _ (by kernel_rfl)] at h
  obtain ⟨ps, ⟨g0, t0, cs0, f0, p0, q0, hg0, ht0, hv0, hd0, _, _⟩, _, _⟩ := h
  obtain rfl := Option.some.inj (gWords.symm.trans hg0)
  obtain rfl := Option.some.inj (tWords.symm.trans ht0)
  obtain ⟨xs, m1, rfl, hx1, hlen, hn4, hel⟩ := DataW.trod_array Tryd.underlying146 hd0
  have c3 : Tryd.prog.cellsOf 3 = 1 := by kernel_rfl
  have c57 : Tryd.prog.cellsOf 146 = 4 := by kernel_rfl
  simp only [Prod.mk.injEq, Rows.laid_hourglass_evlog_dataWords, DataW.agg.injEq] at hx1
  match xs, hn4, hx1, hel with
  | [x0, x1, x2, x3], _, hx1, hel =>
    simp only [List.map_cons, List.map_nil, List.cons.injEq] at hx1
    have e0 := hel 0 (by decide)
    have e1 := hel 1 (by decide)
    have e2 := hel 2 (by decide)
    have e3 := hel 3 (by decide)
    obtain ⟨k0, a0, b0, _⟩ := DataW.trod_int Tryd.underlying3 (show DataW.trod _ Tryd.prog W 0 _ false m1 3 _ = some x0 from e0)
    obtain ⟨k1, a1, b1, _⟩ := DataW.trod_int Tryd.underlying3 (show DataW.trod _ Tryd.prog W 0 _ false m1 3 _ = some x1 from e1)
    obtain ⟨k2, a2, b2, _⟩ := DataW.trod_int Tryd.underlying3 (show DataW.trod _ Tryd.prog W 0 _ false m1 3 _ = some x2 from e2)
    obtain ⟨k3, a3, b3, _⟩ := DataW.trod_int Tryd.underlying3 (show DataW.trod _ Tryd.prog W 0 _ false m1 3 _ = some x3 from e3)
    have v0 := World.var?_cell hg0 hv0 0
    have v1 := World.var?_cell hg0 hv0 1
    have v2 := World.var?_cell hg0 hv0 2
    have v3 := World.var?_cell hg0 hv0 3
    obtain ⟨l⟩ := cs0
    rw [c57] at hlen
    rw [c3] at a0 a1 a2 a3
    rw [b0, b1, b2, b3] at hx1
    simp only [DataW.lit.injEq, Lit.int.injEq] at hx1
    obtain ⟨⟨⟨-, h0⟩, ⟨-, h1⟩, ⟨-, h2⟩, ⟨-, h3⟩, -⟩, -⟩ := hx1
    subst h0 h1 h2 h3
    match l, hlen with
    | [y0, y1, y2, y3], _ =>
      simp at a0 a1 a2 a3
      subst a0 a1 a2 a3
      simp at v0 v1 v2 v3
      exact ⟨v0, v1, v2, v3, World.block_lt_of_cell? _ _ v0⟩

end Go.Proofs.YtbjlfhpiebokkaaDoor

/- Memory that a call has made itself: slices of numbers, slices of such slices, frames; what stores into it do. Plain laws, without the program. -/

namespace Go.Proofs.YtbjlfhpiebokkaaDoor
open Go.RowKit
set_option maxRecDepth 100000


def OwnI (w : World) (lo : Nat) (v : Value) (l : List Int) : Prop := w.ownsRow lo 3 1 v l.length (l.map (Value.int .i64))

theorem ownsRow_below {w w' : World} {base : Nat} {e : TypeId} {size : Nat} {v : Value} {n : Nat} {xs : List Value} (h : w.ownsRow base e size v n xs) (hb : Below w.heap.size w w') : w'.ownsRow base e size v n xs := by
  obtain ⟨h1, h2⟩ := h
  refine ⟨h1, ?_⟩
  rcases h2 with h2 | ⟨g, cap, cur, hv, hg, hh, r⟩
  · exact Or.inl h2
  · exact Or.inr ⟨g, cap, cur, hv, hg, by rw [hb.block g (lt_of_block hh)]; exact hh, r⟩

theorem ownsRow_mono {w : World} {base base' : Nat} {e : TypeId} {size : Nat} {v : Value} {n : Nat} {xs : List Value} (h : w.ownsRow base e size v n xs) (hb : base' ≤ base) : w.ownsRow base' e size v n xs := by
  obtain ⟨h1, h2⟩ := h
  refine ⟨h1, ?_⟩
  rcases h2 with h2 | ⟨g, cap, cur, hv, hg, r⟩
  · exact Or.inl h2
  · exact Or.inr ⟨g, cap, cur, hv, by omega, r⟩

theorem ownsRow_at {w : World} {base : Nat} {e : TypeId} {v : Value} {n : Nat} {xs : List Value} (h : w.ownsRow base e 1 v n xs) (hn : 0 < n) :
    ∃ g cap, v = .slice (some ⟨g, 0, none⟩) n cap ∧ base ≤ g ∧ g < w.heap.size ∧ (∃ cur, w.heap[g]? = some (.cells cur e (0, 0))) ∧ (∀ j, j < n → w.cell? ⟨g, j, none⟩ = xs[j]?) ∧ (∀ j, w.frozen? ⟨g, j, none⟩ = false) := by
  have h' := h
  obtain ⟨h1, h2⟩ := h
  rcases h2 with ⟨_, h2⟩ | ⟨g, cap, cur, rfl, hg, hh, r⟩
  · omega
  · exact ⟨g, cap, rfl, hg, lt_of_block hh, ⟨cur, hh⟩, fun j hj => h'.cellAt j (by omega), fun j => h'.frozenAt j⟩

theorem OwnI.low {w : World} {lo : Nat} {v : Value} {l : List Int} (h : OwnI w lo v l) (hl : l.length * 8 ≤ 140737488351232) : IntsLo lo w v l := by
  by_cases h0 : 0 < l.length
  · obtain ⟨g, cap, rfl, hlo, hlt, _, hc, _⟩ := ownsRow_at h h0
    refine ⟨_, cap, rfl, hl, fun _ => ⟨g, 0, rfl, hlo, hlt, fun j hj => ?_⟩⟩
    rw [Nat.zero_add, hc j hj]
    simp [List.getD, hj]
  · have hv : ∃ A c, v = .slice A l.length c := by
      rcases h.2 with ⟨rfl, hn⟩ | ⟨g, cap, cur, rfl, _⟩
      · exact ⟨none, 0, by rw [hn]⟩
      · exact ⟨_, _, rfl⟩
    obtain ⟨A, c, rfl⟩ := hv
    exact ⟨A, c, rfl, hl, fun h => absurd h h0⟩
theorem OwnI.at {w : World} {lo : Nat} {v : Value} {l : List Int} (h : OwnI w lo v l) (hl : l.length * 8 ≤ 140737488351232) : IntsAt w v l := (h.low hl).at

theorem OwnI.snoc {w : World} {lo : Nat} {v : Value} {l l' : List Int} {x : Int} (h : w.ownsRow lo 3 1 v (l.length + 1) (l.map (Value.int .i64) ++ [.int .i64 x])) (e : l' = l ++ [x]) : OwnI w lo v l' := by
  subst e
  simpa [OwnI] using h

theorem grown_below {B : Nat} {w0 w w' : World} {v : Value} {base : Nat} {e : TypeId} {size n : Nat} {xs : List Value} (hb : Below B w0 w) (ho : w.ownsRow base e size v n xs) (hB : B ≤ base) (hB' : B ≤ w.heap.size) {o : Obj} (hg : (w.alloc o).grownBy w' v.ownBlock) : Below B w0 w' :=
  (hb.alloc hB' o).grown hg (by simp; omega) (fun k hk => by have := (ho.lt k hk).1; omega)

theorem OwnI.shape {w : World} {lo : Nat} {v : Value} {l : List Int} (h : OwnI w lo v l) : ∃ A c, v = .slice A l.length c := by
  rcases h.2 with ⟨rfl, hn⟩ | ⟨g, cap, cur, rfl, _⟩
  · exact ⟨none, 0, by rw [hn]⟩
  · exact ⟨_, _, rfl⟩

theorem OwnI.below {w w' : World} {lo : Nat} {v : Value} {l : List Int} (h : OwnI w lo v l) (hb : Below w.heap.size w w') : OwnI w' lo v l := ownsRow_below h hb

end Go.Proofs.YtbjlfhpiebokkaaDoor

/- Bytes: plain notions; what a number, a number of any kind, the sum, and events are as bytes. -/

namespace Go.Proofs.YtbjlfhpiebokkaaDoor
open Go.RowKit
set_option maxRecDepth 100000

def sevensF : Nat → Nat → List Int
  | 0, n => [(n : Int)]
  | f + 1, n => if n < 128 then [(n : Int)] else ((128 + n % 128 : Nat) : Int) :: sevensF f (n / 128)
def sevens (n : Nat) : List Int := sevensF n n
theorem sevensF_same : ∀ (f f' n : Nat), n ≤ f → n ≤ f' → sevensF f n = sevensF f' n
  | 0, 0, _, _, _ => rfl
  | 0, f' + 1, n, h, _ => by
    obtain rfl : n = 0 := by omega
    simp [sevensF]
  | f + 1, 0, n, _, h => by
    obtain rfl : n = 0 := by omega
    simp [sevensF]
  | f + 1, f' + 1, n, h, h' => by
    rw [sevensF, sevensF]
    by_cases h1 : n < 128
    · rw [if_pos h1, if_pos h1]
    · rw [if_neg h1, if_neg h1, sevensF_same f f' (n / 128) (by omega) (by omega)]
theorem sevens_small {n : Nat} (h : n < 128) : sevens n = [(n : Int)] := by
  unfold sevens
  cases n with
  | zero => rfl
  | succ m => rw [sevensF, if_pos h]
theorem sevens_more {n : Nat} (h : ¬ n < 128) : sevens n = ((128 + n % 128 : Nat) : Int) :: sevens (n / 128) := by
  unfold sevens
  cases n with
  | zero => omega
  | succ m =>
    rw [sevensF, if_neg h]
    congr 1
    exact sevensF_same _ _ _ (by omega) (by omega)
theorem sevens_ne (n : Nat) : 0 < (sevens n).length := by
  by_cases h : n < 128
  · rw [sevens_small h]; simp
  · rw [sevens_more h]; simp
theorem sevens_len : ∀ (k n : Nat), n < 128 ^ (k + 1) → (sevens n).length ≤ k + 1
  | 0, n, h => by rw [sevens_small (by simpa using h)]; simp
  | k + 1, n, h => by
    by_cases h1 : n < 128
    · rw [sevens_small h1]; simp
    · rw [sevens_more h1]
      have : n / 128 < 128 ^ (k + 1) := Nat.div_lt_of_lt_mul (by rw [Nat.pow_succ] at h; omega)
      have := sevens_len k (n / 128) this
      simp
      omega
theorem sevens_len7 {n : Nat} (h : n < 562949953421312) : (sevens n).length ≤ 7 := sevens_len 6 n (by simpa using h)
theorem sevens_byte {n : Nat} : ∀ x ∈ sevens n, 0 ≤ x ∧ x ≤ 255 := by
  induction n using Nat.strongRecOn with
  | _ n ih =>
    intro x hx
    by_cases h1 : n < 128
    · rw [sevens_small h1] at hx
      simp at hx
      omega
    · rw [sevens_more h1] at hx
      rcases List.mem_cons.1 hx with rfl | hx
      · omega
      · exact ih (n / 128) (by omega) x hx
def zigs (z : Int) : List Int := if z < 0 then sevens (-2 * z - 1).toNat else sevens (2 * z).toNat
theorem zigs_len7 {z : Int} (h : -281474976710656 < z ∧ z < 281474976710656) : (zigs z).length ≤ 7 := by
  unfold zigs
  split <;> exact sevens_len7 (by omega)
def sumStep (s : Int × Int) (b : Int) : Int × Int := ((s.1 + b) % 65521, (s.2 + (s.1 + b) % 65521) % 65521)
def sumP (l : List Int) : Int × Int := l.foldl sumStep (1, 0)
def sumB (l : List Int) : List Int := [(sumP l).2 / 256, (sumP l).2 % 256, (sumP l).1 / 256, (sumP l).1 % 256]
theorem foldl_sum_bd (l : List Int) : ∀ s : Int × Int, (0 ≤ s.1 ∧ s.1 < 65521) → (0 ≤ s.2 ∧ s.2 < 65521) → (0 ≤ (l.foldl sumStep s).1 ∧ (l.foldl sumStep s).1 < 65521) ∧ (0 ≤ (l.foldl sumStep s).2 ∧ (l.foldl sumStep s).2 < 65521) := by
  induction l with
  | nil => intro s h1 h2; exact ⟨h1, h2⟩
  | cons b l ih =>
    intro s h1 h2
    exact ih _ (by simp only [sumStep]; omega) (by simp only [sumStep]; omega)
theorem sumP_bd (l : List Int) : (0 ≤ (sumP l).1 ∧ (sumP l).1 < 65521) ∧ (0 ≤ (sumP l).2 ∧ (sumP l).2 < 65521) := foldl_sum_bd l (1, 0) (by simp) (by simp)
theorem sumP_snoc (l : List Int) (b : Int) : sumP (l ++ [b]) = sumStep (sumP l) b := by simp [sumP]
theorem sumB_byte (l : List Int) : ∀ x ∈ sumB l, 0 ≤ x ∧ x ≤ 255 := by
  have := sumP_bd l
  intro x hx
  simp [sumB] at hx
  omega

def runsB (last : Int) (run : Nat) : List Int → List Int
  | [] => []
  | [x] => sevens (run + 1) ++ zigs (x - last)
  | x :: y :: t => if y = x then runsB last (run + 1) (y :: t) else sevens (run + 1) ++ zigs (x - last) ++ runsB x 0 (y :: t)
def runLen : List Int → Nat
  | [] => 0
  | [_] => 1
  | x :: y :: t => if y = x then runLen (y :: t) + 1 else 1
theorem runLen_le : ∀ l : List Int, runLen l ≤ l.length
  | [] => by simp [runLen]
  | [_] => by simp [runLen]
  | x :: y :: t => by
    have := runLen_le (y :: t)
    simp only [runLen]
    split <;> simp_all <;> omega
theorem runLen_pos : ∀ (x : Int) (t : List Int), 0 < runLen (x :: t)
  | _, [] => by simp [runLen]
  | x, y :: t => by simp only [runLen]; split <;> omega
theorem runsB_run : ∀ (t : List Int) (x last : Int) (run : Nat), runsB last run (x :: t) = sevens (run + runLen (x :: t)) ++ zigs (x - last) ++ runsB x 0 ((x :: t).drop (runLen (x :: t)))
  | [], x, last, run => by simp [runsB, runLen]
  | y :: t, x, last, run => by
    by_cases h : y = x
    · subst h
      rw [show runsB last run (y :: y :: t) = runsB last (run + 1) (y :: t) by simp [runsB], runsB_run t y last (run + 1)]
      rw [show runLen (y :: y :: t) = runLen (y :: t) + 1 by simp [runLen]]
      rw [List.drop_succ_cons]
      rw [show run + 1 + runLen (y :: t) = run + (runLen (y :: t) + 1) by omega]
    · simp [runsB, runLen, h]
def dataB (x : Ev) : List Int := if x.kind = 2 then runsB 0 0 x.data else if x.kind = 3 then zigs (x.data.getD 0 0) else []
def evB (last : Int) (x : Ev) : List Int := sevens (4 * (x.at_ - last) + x.kind).toNat ++ dataB x
def encFrom (last : Int) : List Ev → List Int
  | [] => []
  | x :: L => evB last x ++ encFrom x.at_ L
def encB (L : List Ev) : List Int := sevens L.length ++ encFrom 0 L
def fullB (L : List Ev) : List Int := encB L ++ sumB (encB L)

theorem runsB_len : ∀ (l : List Int) (last : Int) (run : Nat), run + l.length ≤ 1000 → (-1099511627776 ≤ last ∧ last ≤ 1099511627776) → (∀ x ∈ l, -1099511627776 ≤ x ∧ x ≤ 1099511627776) → (runsB last run l).length ≤ 14 * l.length
  | [], _, _, _, _, _ => by simp [runsB]
  | [x], last, run, hr, hl, hx => by
    have h1 := sevens_len7 (n := run + 1) (by simp at hr; omega)
    have hx0 := hx x (by simp)
    have h2 := zigs_len7 (z := x - last) (by omega)
    simp [runsB]
    omega
  | x :: y :: t, last, run, hr, hl, hx => by
    have hx0 := hx x (by simp)
    have h1 := sevens_len7 (n := run + 1) (by simp at hr; omega)
    have h2 := zigs_len7 (z := x - last) (by omega)
    by_cases h : y = x
    · have := runsB_len (y :: t) last (run + 1) (by simp at hr ⊢; omega) hl (fun z hz => hx z (List.mem_cons_of_mem _ hz))
      simp [runsB, h] at this ⊢
      omega
    · have := runsB_len (y :: t) x 0 (by simp at hr ⊢; omega) hx0 (fun z hz => hx z (List.mem_cons_of_mem _ hz))
      simp [runsB, h] at this ⊢
      omega
theorem word_bd {x : Int} (h : wordB x = true) : -1099511627776 ≤ x ∧ x ≤ 1099511627776 := by simpa [wordB, inB] using h
theorem allB_mem {l : List Int} (h : allB l = true) : ∀ x ∈ l, -1099511627776 ≤ x ∧ x ≤ 1099511627776 := fun x hx => by
  obtain ⟨i, hi, rfl⟩ := List.getElem_of_mem hx
  have := allB_iff.1 h i hi
  simp [List.getD, hi] at this
  exact word_bd this
theorem dataB_len {x : Ev} (h : evNo x = 0) : (dataB x).length ≤ 224 := by
  obtain ⟨hk, ha, hw, hl⟩ := evNo_bd h
  unfold dataB
  split
  · rename_i e
    have h16 : x.data.length = 16 := by simp [wordsN, e] at hl; omega
    have := runsB_len x.data 0 0 (by omega) (by simp) (allB_mem hw)
    omega
  · split
    · rename_i e e3
      have h1 : x.data.length = 1 := by simp [wordsN, e3] at hl; omega
      have hm := allB_mem hw (x.data.getD 0 0) (by
        match x.data, h1 with
        | [a], _ => simp)
      have := zigs_len7 (z := x.data.getD 0 0) (by omega)
      omega
    · simp

def OwnB (w : World) (lo : Nat) (v : Value) (l : List Int) : Prop := w.ownsRow lo 5 1 v l.length (l.map (Value.int .u8))
theorem OwnB.below {w w' : World} {lo : Nat} {v : Value} {l : List Int} (h : OwnB w lo v l) (hb : Below w.heap.size w w') : OwnB w' lo v l := ownsRow_below h hb
theorem OwnB.mono {w : World} {lo lo' : Nat} {v : Value} {l : List Int} (h : OwnB w lo v l) (hlo : lo' ≤ lo) : OwnB w lo' v l := ownsRow_mono h hlo
theorem OwnB.shape {w : World} {lo : Nat} {v : Value} {l : List Int} (h : OwnB w lo v l) : ∃ A c, v = .slice A l.length c := by
  rcases h.2 with ⟨rfl, hn⟩ | ⟨g, cap, cur, rfl, _⟩
  · exact ⟨none, 0, by rw [hn]⟩
  · exact ⟨_, _, rfl⟩
theorem OwnB.nil (w : World) (lo : Nat) : OwnB w lo (.slice none 0 0) [] := World.ownsRow_nil _ _ _ _
theorem OwnB.of {w : World} {lo : Nat} {v : Value} {l l' m : List Int} {n k : Nat} (h : w.ownsRow lo 5 1 v (n + k) (l.map (Value.int .u8) ++ m.map (Value.int .u8))) (hn : n = l.length) (hk : k = m.length) (e : l' = l ++ m) : OwnB w lo v l' := by
  subst e hn hk
  simpa [OwnB] using h
theorem OwnB.at {w : World} {lo : Nat} {v : Value} {l : List Int} (h : OwnB w lo v l) (h0 : 0 < l.length) : ∃ g cap, v = .slice (some ⟨g, 0, none⟩) l.length cap ∧ lo ≤ g ∧ g < w.heap.size ∧ (∀ j u, (l.map (Value.int .u8))[j]? = some u → w.cell? ((⟨g, 0, none⟩ : Addr).add j) = some u) := by
  obtain ⟨g, cap, rfl, hlo, hlt, _, hc, _⟩ := ownsRow_at h h0
  refine ⟨g, cap, rfl, hlo, hlt, fun j u hu => ?_⟩
  have hjl : j < l.length := by
    by_cases hh : j < l.length
    · exact hh
    · simp [List.getElem?_eq_none (show l.length ≤ j by omega)] at hu
  rw [Go.WideShapes.add_plain, Nat.zero_add, hc j hjl, hu]

structure Grown (w w' : World) (v v' : Value) : Prop where
  size : w.heap.size ≤ w'.heap.size
  block : ∀ g, g < w.heap.size → v.ownBlock ≠ some g → w'.heap[g]? = w.heap[g]?
  at_ : v'.ownBlock = v.ownBlock ∨ ∀ g, v'.ownBlock = some g → w.heap.size ≤ g
theorem Grown.refl (w : World) (v : Value) : Grown w w v v := ⟨Nat.le_refl _, fun _ _ _ => rfl, Or.inl rfl⟩
theorem Grown.trans {w w1 w2 : World} {v v1 v2 : Value} (h : Grown w w1 v v1) (k : Grown w1 w2 v1 v2) : Grown w w2 v v2 := by
  refine ⟨Nat.le_trans h.size k.size, fun g hg hn => ?_, ?_⟩
  · have h1 := h.block g hg hn
    have hn1 : v1.ownBlock ≠ some g := fun e => by
      rcases h.at_ with a | a
      · exact hn (a ▸ e)
      · have := a g e; omega
    rw [k.block g (Nat.lt_of_lt_of_le hg h.size) hn1, h1]
  · rcases k.at_ with a | a
    · rw [a]; exact h.at_
    · exact Or.inr fun g e => Nat.le_trans h.size (a g e)
theorem Grown.pre {w0 w w' : World} {v v' : Value} (hb : Below w0.heap.size w0 w) (h : Grown w w' v v') : Grown w0 w' v v' := by
  refine ⟨Nat.le_trans hb.size h.size, fun g hg hn => by rw [h.block g (Nat.lt_of_lt_of_le hg hb.size) hn, hb.block g hg], ?_⟩
  rcases h.at_ with a | a
  · exact Or.inl a
  · exact Or.inr fun g e => Nat.le_trans hb.size (a g e)
theorem Grown.post {w w' w1 : World} {v v' : Value} (h : Grown w w' v v') (hb : Below w'.heap.size w' w1) : Grown w w1 v v' :=
  ⟨Nat.le_trans h.size hb.size, fun g hg hn => by rw [hb.block g (Nat.lt_of_lt_of_le hg h.size), h.block g hg hn], h.at_⟩
theorem Grown.of_append {w0 w w' : World} {v v' : Value} {K : Nat} (hb : Below w0.heap.size w0 w) (hg : w.grownBy w' v.ownBlock) (ha : v'.ownBlock = v.ownBlock ∨ v'.ownBlock = some K) (hK : w0.heap.size ≤ K) : Grown w0 w' v v' := by
  refine ⟨Nat.le_trans hb.size hg.size, fun g hlt hn => by rw [hg.block g (Nat.lt_of_lt_of_le hlt hb.size) (fun e => hn e.symm), hb.block g hlt], ?_⟩
  rcases ha with a | a
  · exact Or.inl a
  · exact Or.inr fun g e => by rw [a] at e; simp at e; omega
theorem append_below {lo : Nat} {w0 w w' : World} {v : Value} {n : Nat} {xs : List Value} (hb : Below w0.heap.size w0 w) (hlo : lo ≤ w0.heap.size) (ho : w.ownsRow lo 5 1 v n xs) (hg : w.grownBy w' v.ownBlock) : Below lo w0 w' :=
  (hb.mono hlo).grown hg (Nat.le_trans hlo hb.size) (fun k hk => (World.ownsRow.lt ho k hk).1)

end Go.Proofs.YtbjlfhpiebokkaaDoor
