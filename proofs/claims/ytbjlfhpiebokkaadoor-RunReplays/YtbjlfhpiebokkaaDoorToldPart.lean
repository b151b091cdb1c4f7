/- What events tell a step at its place; contracts of cmp.Compare, told's closure. -/
import Derived.Test.YtbjlfhpiebokkaaDoorTapePart
import Derived.Test.YtbjlfhpiebokkaaDoorPtrPart
namespace Go.Proofs.YtbjlfhpiebokkaaDoor
open Go.RowKit
set_option maxRecDepth 100000

structure Tl where
  irq : Bool
  blk : List Int
  val : Int
def noTl : Tl := ⟨false, [], 0⟩
def tellE (k : Int) (t : Tl) (x : Ev) : Tl := if x.at_ = k then (if x.kind = 1 then { t with irq := true } else if x.kind = 2 then { t with blk := x.data } else { t with val := x.data.getD 0 0 }) else t
def toldL (k : Int) (L : List Ev) : Tl := L.foldl (tellE k) noTl
theorem toldL_take (k : Int) (L : List Ev) (j : Nat) (hj : j < L.length) : toldL k (L.take (j + 1)) = tellE k (toldL k (L.take j)) (L.getD j noEv) := by
  unfold toldL
  rw [List.take_succ_eq_append_getElem hj, List.foldl_append]
  simp [List.getD, hj]
theorem toldL_all (k : Int) (L : List Ev) (j : Nat) (h : L.length ≤ j) : toldL k (L.take j) = toldL k L := by rw [List.take_of_length_le h]
theorem tell_other {k : Int} {t : Tl} {x : Ev} (h : x.at_ ≠ k) : tellE k t x = t := by rw [tellE, if_neg h]
theorem told_before (k : Int) (L : List Ev) : ∀ j, (∀ i, i < j → i < L.length → (L.getD i noEv).at_ ≠ k) → toldL k (L.take j) = noTl
  | 0, _ => by simp [toldL]
  | j + 1, h => by
    by_cases hj : j < L.length
    · rw [toldL_take k L j hj, tell_other (h j (by omega) hj)]
      exact told_before k L j (fun i hi => h i (by omega))
    · have e : L.take (j + 1) = L.take j := by rw [List.take_of_length_le (by omega), List.take_of_length_le (by omega)]
      rw [e]
      exact told_before k L j (fun i hi => h i (by omega))
theorem told_behind (k : Int) (L : List Ev) (j : Nat) (h : ∀ i, j ≤ i → i < L.length → (L.getD i noEv).at_ ≠ k) : ∀ d, toldL k (L.take (j + d)) = toldL k (L.take j)
  | 0 => rfl
  | d + 1 => by
    by_cases hj : j + d < L.length
    · rw [← Nat.add_assoc, toldL_take k L (j + d) hj, tell_other (h (j + d) (by omega) hj)]
      exact told_behind k L j h d
    · have e : L.take (j + (d + 1)) = L.take (j + d) := by rw [List.take_of_length_le (by omega), List.take_of_length_le (by omega)]
      rw [e]
      exact told_behind k L j h d
theorem told_end (k : Int) (L : List Ev) (j : Nat) (h : ∀ i, j ≤ i → i < L.length → (L.getD i noEv).at_ ≠ k) : toldL k L = toldL k (L.take j) := by
  rw [← told_behind k L j h L.length, List.take_of_length_le (by omega)]
structure TlMay (t : Tl) : Prop where
  len : t.blk.length = 0 ∨ t.blk.length = 16
  all : allB t.blk = true
  val : wordB t.val = true
theorem tell_may {k : Int} {t : Tl} {x : Ev} (h : TlMay t) (hx : evNo x = 0) : TlMay (tellE k t x) := by
  obtain ⟨h1, h2, h3, h4⟩ := evNo_bd hx
  unfold tellE
  split
  · split
    · exact ⟨h.len, h.all, h.val⟩
    · split
      · rename_i e
        refine ⟨Or.inr ?_, h3, h.val⟩
        rw [e] at h4
        have h5 : (x.data.length : Int) = 16 := h4
        show x.data.length = 16
        omega
      · refine ⟨h.len, h.all, ?_⟩
        have e : x.kind = 3 := by omega
        rw [e] at h4
        have : x.data.length = 1 := by
          have h5 : (x.data.length : Int) = 1 := h4
          omega
        exact allB_iff.1 h3 0 (by omega)
  · exact h
theorem told_may {L : List Ev} (h : chkNo L = 0) (k : Int) : ∀ j, TlMay (toldL k (L.take j))
  | 0 => by simp [toldL, noTl]; exact ⟨Or.inl rfl, rfl, by decide⟩
  | j + 1 => by
    by_cases hj : j < L.length
    · rw [toldL_take k L j hj]
      exact tell_may (told_may h k j) (verdict_ev (chk_verdict h j hj))
    · have e : L.take (j + 1) = L.take j := by rw [List.take_of_length_le (by omega), List.take_of_length_le (by omega)]
      rw [e]
      exact told_may h k j
theorem toldL_may {L : List Ev} (h : chkNo L = 0) (k : Int) : TlMay (toldL k L) := by
  rw [← toldL_all k L L.length (Nat.le_refl _)]
  exact told_may h k _

def cmpI (a b : Int) : Int := if a < b then -1 else if b < a then 1 else 0
theorem isNaN_any (n : Int) (w : World) : Calls Tryd.prog 104 #[.int .i64 n] w fun e w' => e = .returned (.bool false) ∧ w' = w := by
  have d0 : (n != n) = false := by simp
  go_enter Tryd.func104, Tryd.ntmps104
  go_wp2_with fail
  go_ret
  exact ⟨ret_bool (by simp), rfl⟩
theorem Compare_any (a b : Int) (w : World) : Calls Tryd.prog 74 #[.int .i64 a, .int .i64 b] w fun e w' => e = .returned (.int .i64 (cmpI a b)) ∧ w' = w := by
  by_cases h1 : a < b
  · have HE : Hid (cmpI a b = -1) := by show _ = _; rw [cmpI, if_pos h1]
    go_enter Tryd.func74, Tryd.ntmps74
    go_wp2_with (go_at_call 104; refine (isNaN_any _ _).mono ?_; rintro e w' ⟨rfl, hw'⟩; rw [hw']; clear hw' w')
    go_ret
    exact ⟨ret_int HE.out.symm, rfl⟩
  · by_cases h2 : b < a
    · have HE : Hid (cmpI a b = 1) := by show _ = _; rw [cmpI, if_neg h1, if_pos h2]
      go_enter Tryd.func74, Tryd.ntmps74
      go_wp2_with (go_at_call 104; refine (isNaN_any _ _).mono ?_; rintro e w' ⟨rfl, hw'⟩; rw [hw']; clear hw' w')
      go_ret
      exact ⟨ret_int HE.out.symm, rfl⟩
    · have HE : Hid (cmpI a b = 0) := by show _ = _; rw [cmpI, if_neg h1, if_neg h2]
      go_enter Tryd.func74, Tryd.ntmps74
      go_wp2_with (go_at_call 104; refine (isNaN_any _ _).mono ?_; rintro e w' ⟨rfl, hw'⟩; rw [hw']; clear hw' w')
      go_ret
      exact ⟨ret_int HE.out.symm, rfl⟩
theorem toldClo_any (a k b : Int) (A : Option Addr) (n c : Nat) (w : World) : Calls Tryd.prog 73 #[.agg #[.int .i64 a, .int .i64 k, .slice A n c], .int .i64 b] w fun e w' => e = .returned (.int .i64 (cmpI a b)) ∧ Below w.heap.size w w' := by
  go_enter Tryd.func73, Tryd.ntmps73
  go_wp2_with (go_at_call 74; refine (Compare_any _ _ _).mono ?_; rintro e w' ⟨rfl, hw'⟩; rw [hw']; clear hw' w')
  go_ret
  exact ⟨rfl, below_alloc _ _⟩

end Go.Proofs.YtbjlfhpiebokkaaDoor

/- Contract of slices.BinarySearchFunc, as run.Told calls it. -/

namespace Go.Proofs.YtbjlfhpiebokkaaDoor
open Go.RowKit
set_option maxRecDepth 100000

theorem EvsAt.look {w : World} {A : Option Addr} {c : Nat} {L : List Ev} (h : EvsAt w (.slice A L.length c) L) :
    L.length * 40 ≤ 140737488351232 ∧ (0 < L.length → ∃ b off, A = some ⟨b, off, none⟩ ∧ b < w.heap.size ∧ ∀ j, j < L.length → EvAt w b (off + j * 3) (L.getD j noEv)) := by
  obtain ⟨A', c', e, hl, hc⟩ := h
  simp only [Value.slice.injEq, true_and] at e
  obtain ⟨rfl, rfl⟩ := e
  exact ⟨hl, hc⟩

set_option maxHeartbeats 2000000 in
theorem Bins_any (A : Option Addr) (c : Nat) (L : List Ev) (k : Int) (w : World) (h : EvsAt w (.slice A L.length c) L) (hs : chkNo L = 0) :
    Calls Tryd.prog 72 #[.slice A L.length c, .int .i64 k, .func (.func 73) #[] #[]] w fun e w' => ∃ (f : Nat) (b : Bool), e = .returned (.tuple #[.int .i64 (f : Int), .bool b]) ∧ f ≤ L.length ∧ (∀ j, j < f → (L.getD j noEv).at_ < k) ∧ (∀ j, f ≤ j → j < L.length → k ≤ (L.getD j noEv).at_) ∧ Below w.heap.size w w' := by
  have HEV : Hid (EvsAt w (.slice A L.length c) L ∧ chkNo L = 0) := ⟨h, hs⟩
  have hbd := h.look.1
  clear h hs
  go_enter Tryd.func72, Tryd.ntmps72
  go_wp2_with fail
  go_loopw [9, 10] (fun iv jv wr => ∃ (i j : Nat), i ≤ j ∧ j ≤ L.length ∧ iv = .int .i64 (i : Int) ∧ jv = .int .i64 (j : Int) ∧ Hid ((∀ x, x < i → (L.getD x noEv).at_ < k) ∧ (∀ x, j ≤ x → x < L.length → k ≤ (L.getD x noEv).at_) ∧ Below w.heap.size w wr)) (fun iv jv _ => (intOf jv).toNat - (intOf iv).toNat)
  case atStart => exact ⟨0, L.length, Nat.zero_le _, Nat.le_refl _, rfl, rfl, fun x hx => absurd hx (Nat.not_lt_zero _), fun x h1 h2 => by omega, Below.refl _ _⟩
  case round =>
    obtain ⟨i, j, hij, hj, rfl, rfl, HI⟩ := hrel
    by_cases hlt : i < j
    · have hl : (i : Int) < (j : Int) := by omega
      obtain ⟨m, hm⟩ : ∃ m, m = (i + j) / 2 := ⟨_, rfl⟩
      have hmL : (m : Int) < (L.length : Int) := by omega
      have hw0 : IntKind.i64.wrap ((i : Int) + (j : Int)) = (i : Int) + (j : Int) := IntWalk.i64_in _ (by omega)
      have hw1 : IntKind.u64.wrap ((i : Int) + (j : Int)) = (i : Int) + (j : Int) := by rw [IntKind.wrap_u64]; omega
      have hw2 : IntKind.i64.wrap ((m : Int) + 1) = (m : Int) + 1 := IntWalk.i64_in _ (by omega)
      obtain ⟨b, off, hA, hb, hc⟩ := HEV.out.1.look.2 (by omega)
      obtain ⟨e0, e1, v, e2, hv⟩ := hc m (by omega)
      have g0 := (HI.out.2.2.cell (p := ⟨b, off + m * 3, none⟩) hb).trans e0
      have g1 := (HI.out.2.2.cell (p := ⟨b, off + m * 3 + 1, none⟩) hb).trans e1
      have g2 := (HI.out.2.2.cell (p := ⟨b, off + m * 3 + 2, none⟩) hb).trans e2
      obtain ⟨Av, cv, rfl, -, -⟩ := hv
      subst hA
      have gl : b < wr.heap.size := Nat.lt_of_lt_of_le hb HI.out.2.2.size
      clear e0 e1 e2 hc hb
      have hm2 : ((i : Int) + (j : Int)) / 2 = (m : Int) := by omega
      obtain ⟨x, hx⟩ : ∃ x, x = (L.getD m noEv).at_ := ⟨_, rfl⟩
      rw [← hx] at g0
      have HX : Hid (x = (L.getD m noEv).at_ ∧ m = (i + j) / 2 ∧ i < j ∧ j ≤ L.length) := ⟨hx, hm, hlt, hj⟩
      obtain ⟨y, hy⟩ : ∃ y, y = (L.getD m noEv).kind := ⟨_, rfl⟩
      rw [← hy] at g1
      obtain ⟨nv, hnv⟩ : ∃ nv, nv = (L.getD m noEv).data.length := ⟨_, rfl⟩
      rw [← hnv] at g2
      clear hx hy hnv hm
      by_cases hlx : x < k
      · have hcm : cmpI x k = -1 := by rw [cmpI, if_pos hlx]
        go_wp2_with fail
        refine (toldClo_any _ _ _ _ _ _ _).mono ?_
        rw [hcm]
        rintro e w2 ⟨rfl, hb2⟩
        have HN : Hid ((∀ x, x < m + 1 → (L.getD x noEv).at_ < k) ∧ (∀ x, j ≤ x → x < L.length → k ≤ (L.getD x noEv).at_) ∧ Below w.heap.size w w2) := by
          refine ⟨fun z hz => ?_, HI.out.2.1, HI.out.2.2.trans (hb2.mono HI.out.2.2.size)⟩
          have h1 := HX.out
          have := chk_mono HEV.out.2 (m - z) z (by omega)
          rw [show z + (m - z) = m by omega, ← h1.1] at this
          omega
        clear hb2 hcm
        go_wp2_with fail
        refine ⟨⟨m + 1, j, by have := HX.out; omega, HX.out.2.2.2, by go_num, rfl, HN⟩, ?_⟩
        have := HX.out
        simp [intOf]; omega
      · have hcm : ∃ r : Int, cmpI x k = r ∧ ¬ r < 0 := by
          by_cases h2 : k < x
          · exact ⟨1, by rw [cmpI, if_neg hlx, if_pos h2], by decide⟩
          · exact ⟨0, by rw [cmpI, if_neg hlx, if_neg h2], by decide⟩
        obtain ⟨r, hr, hr0⟩ := hcm
        go_wp2_with fail
        refine (toldClo_any _ _ _ _ _ _ _).mono ?_
        rw [hr]
        rintro e w2 ⟨rfl, hb2⟩
        have HN : Hid ((∀ x, x < i → (L.getD x noEv).at_ < k) ∧ (∀ x, m ≤ x → x < L.length → k ≤ (L.getD x noEv).at_) ∧ Below w.heap.size w w2) := by
          refine ⟨HI.out.1, fun z hz hz2 => ?_, HI.out.2.2.trans (hb2.mono HI.out.2.2.size)⟩
          have h1 := HX.out
          have := chk_mono HEV.out.2 (z - m) m (by omega)
          rw [show m + (z - m) = z by omega, ← h1.1] at this
          omega
        clear hb2 hr
        go_wp2_with fail
        refine ⟨⟨i, m, by have := HX.out; omega, by have := HX.out; omega, rfl, by go_num, HN⟩, ?_⟩
        have := HX.out
        simp [intOf]; omega
    · have e : i = j := by omega
      subst e
      have hnl : ¬ (i : Int) < (i : Int) := by omega
      have HF : Hid (i ≤ L.length) := hj
      by_cases hiL : i < L.length
      · have hl : (i : Int) < (L.length : Int) := by omega
        obtain ⟨b, off, hA, hb, hc⟩ := HEV.out.1.look.2 (by omega)
        obtain ⟨e0, e1, v, e2, hv⟩ := hc i hiL
        have g0 := (HI.out.2.2.cell (p := ⟨b, off + i * 3, none⟩) hb).trans e0
        have g1 := (HI.out.2.2.cell (p := ⟨b, off + i * 3 + 1, none⟩) hb).trans e1
        have g2 := (HI.out.2.2.cell (p := ⟨b, off + i * 3 + 2, none⟩) hb).trans e2
        obtain ⟨Av, cv, rfl, -, -⟩ := hv
        subst hA
        have gl : b < wr.heap.size := Nat.lt_of_lt_of_le hb HI.out.2.2.size
        clear e0 e1 e2 hc hb
        revert g0 g1 g2
        generalize (L.getD i noEv).at_ = x
        generalize (L.getD i noEv).kind = y
        generalize (L.getD i noEv).data.length = nv
        intro g0 g1 g2
        go_wp2_with fail
        refine (toldClo_any _ _ _ _ _ _ _).mono ?_
        rintro e w2 ⟨rfl, hb2⟩
        have HN : Hid (Below w.heap.size w w2) := HI.out.2.2.trans (hb2.mono HI.out.2.2.size)
        clear hb2
        go_wp2_with fail
        refine bodyPost_ret (v := .tuple #[.int .i64 (i : Int), .bool (cmpI x k == 0)]) (by simp [results, Tryd.results72, go_sem]) rfl ?_
        exact ⟨i, _, rfl, HF.out, HI.out.1, HI.out.2.1, HN.out⟩
      · have hl : ¬ (i : Int) < (L.length : Int) := by omega
        go_wp2_with fail
        refine bodyPost_ret (v := .tuple #[.int .i64 (i : Int), .bool false]) (by simp [results, Tryd.results72, go_sem]) rfl ?_
        exact ⟨i, Or.inl rfl, HF.out, fun j hj => by simpa using HI.out.1 j hj, fun j h1 h2 => by simpa using HI.out.2.1 j h1 h2, HI.out.2.2⟩

end Go.Proofs.YtbjlfhpiebokkaaDoor

/- Contracts of cpu.setTable, askBlock, jumps, letIn. -/

namespace Go.Proofs.YtbjlfhpiebokkaaDoor
open Go.RowKit

def Mach.tabled (m : Mach) (x : Int) : Mach := if inB x (-1) 15 then { m with table := x } else { m with fin := 3 }
def Mach.asked (m : Mach) (x : Int) : Mach := if inB x 0 15 then (if m.want == -1 then { m with want := x, ready := 0 } else m) else { m with fin := 3 }
def jumpB (op x : Int) : Bool := if op == 7 then x == 0 else if op == 8 then decide (x < 0) else true

set_option maxHeartbeats 400000 in
theorem setTable_any (lo b : Nat) (rv mv ov : Value) (m : Mach) (x : Int) (w : World) (h : AtP w lo b rv mv ov m) (hlo : lo ≤ w.heap.size) :
    Calls Tryd.prog 91 #[ptr b, .int .i64 x] w fun e w' => e = .returned (.tuple #[]) ∧ AtP w' lo b rv mv ov (m.tabled x) ∧ Below lo w w' := by
  have H : Hid (AtP w lo b rv mv ov m) := h
  cases c : inB x (-1) 15 with
  | false =>
    have HT : Hid (m.tabled x = { m with fin := 3 }) := by show _ = _; simp [Mach.tabled, c]
    rw [HT.out]
    clear h HT
    go_enter Tryd.func91, Tryd.ntmps91
    go_wp2_with fail
    refine (outside_any _ _ _).mono ?_
    rintro e w1 ⟨p, q, rfl, hc, hb⟩
    have HC : Hid (CloAt w1 p q (-1) 15) := hc
    have h1 := H.out.below hb
    have HB : Hid (Below lo w w1) := hb.mono hlo
    obtain ⟨⟨z0, z1, z2, z3, z4, z5, z6, z7, z8, z9, z10, z11⟩, zf, zl⟩ := twelve_cells h1.box
    have H1 : Hid (AtP w1 lo b rv mv ov m) := h1
    clear hc hb h1
    go_wp2_with (go_at_call 78; refine (clo_any _ (-1) 15 _ _ _ HC.out).mono ?_; rw [c]; rintro e w1 ⟨rfl, rfl⟩)
    first | go_end0 | refine bodyPost_ret (results_none rfl _ _ _) rfl ?_
    exact ⟨rfl, (H1.out.setFin 3).1, HB.out.trans ((H1.out.setFin 3).2.mono (Nat.le_refl _))⟩
  | true =>
    have HT : Hid (m.tabled x = { m with table := x }) := by show _ = _; simp [Mach.tabled, c]
    rw [HT.out]
    clear h HT
    go_enter Tryd.func91, Tryd.ntmps91
    go_wp2_with fail
    refine (outside_any _ _ _).mono ?_
    rintro e w1 ⟨p, q, rfl, hc, hb⟩
    have HC : Hid (CloAt w1 p q (-1) 15) := hc
    have h1 := H.out.below hb
    have HB : Hid (Below lo w w1) := hb.mono hlo
    obtain ⟨⟨z0, z1, z2, z3, z4, z5, z6, z7, z8, z9, z10, z11⟩, zf, zl⟩ := twelve_cells h1.box
    have H1 : Hid (AtP w1 lo b rv mv ov m) := h1
    clear hc hb h1
    go_wp2_with (go_at_call 78; refine (clo_any _ (-1) 15 _ _ _ HC.out).mono ?_; rw [c]; rintro e w1 ⟨rfl, rfl⟩)
    first | go_end0 | refine bodyPost_ret (results_none rfl _ _ _) rfl ?_
    exact ⟨rfl, (H1.out.setTab x).1, HB.out.trans ((H1.out.setTab x).2.mono (Nat.le_refl _))⟩

theorem jumps_any (op x : Int) (w : World) : Calls Tryd.prog 88 #[.int .i64 op, .int .i64 x] w fun e w' => e = .returned (.bool (jumpB op x)) ∧ w' = w := by
  cases c1 : op == 7 with
  | true =>
    have HJ : Hid ((x == 0) = jumpB op x) := by show _ = _; simp [jumpB, c1]
    go_enter Tryd.func88, Tryd.ntmps88
    go_wp2
    go_ret
    exact ⟨ret_bool HJ.out, rfl⟩
  | false =>
  cases c2 : op == 8 with
  | true =>
    have HJ : Hid (decide (x < 0) = jumpB op x) := by show _ = _; simp [jumpB, c1, c2]
    go_enter Tryd.func88, Tryd.ntmps88
    go_wp2
    go_ret
    exact ⟨ret_bool HJ.out, rfl⟩
  | false =>
    have HJ : Hid (true = jumpB op x) := by show _ = _; simp [jumpB, c1, c2]
    go_enter Tryd.func88, Tryd.ntmps88
    go_wp2
    go_ret
    exact ⟨ret_bool HJ.out, rfl⟩

end Go.Proofs.YtbjlfhpiebokkaaDoor
