/- Contract of slices.BinarySearchFunc, as run.told calls it. -/
import Derived.Test.YtlcdefpdahjjeagDoorRunCPart
namespace Go.Proofs.YtlcdefpdahjjeagDoor
open Go.RowKit
set_option maxRecDepth 100000

theorem EvsAt.look {w : World} {A : Option Addr} {c : Nat} {L : List Ev} (h : EvsAt w (.slice A L.length c) L) :
    L.length * 40 ≤ 140737488351232 ∧ (0 < L.length → ∃ b off, A = some ⟨b, off, none⟩ ∧ b < w.heap.size ∧ ∀ j, j < L.length → EvAt w b (off + j * 3) (L.getD j noEv)) := by
  obtain ⟨A', c', e, hl, hc⟩ := h
  simp only [Value.slice.injEq, true_and] at e
  obtain ⟨rfl, rfl⟩ := e
  exact ⟨hl, hc⟩

set_option maxHeartbeats 2000000 in
theorem Bins_any (A : Option Addr) (c : Nat) (L : List Ev) (k : Int) (w : World) (h : EvsAt w (.slice A L.length c) L) (hs : chkNo L = 0) :
    Calls Tryd.prog 79 #[.slice A L.length c, .int .i64 k, .func (.func 80) #[] #[]] w fun e w' => ∃ (f : Nat) (b : Bool), e = .returned (.tuple #[.int .i64 (f : Int), .bool b]) ∧ f ≤ L.length ∧ (∀ j, j < f → (L.getD j noEv).at_ < k) ∧ (∀ j, f ≤ j → j < L.length → k ≤ (L.getD j noEv).at_) ∧ Below w.heap.size w w' := by
  have HEV : Hid (EvsAt w (.slice A L.length c) L ∧ chkNo L = 0) := ⟨h, hs⟩
  have hbd := h.look.1
  clear h hs
  go_enter Tryd.func79, Tryd.ntmps79
  go_wp2_with fail
  go_loopw [9, 10] (fun iv jv wr => ∃ (i j : Nat), i ≤ j ∧ j ≤ L.length ∧ iv = .int .i64 (i : Int) ∧ jv = .int .i64 (j : Int) ∧ Hid ((∀ x, x < i → (L.getD x noEv).at_ < k) ∧ (∀ x, j ≤ x → x < L.length → k ≤ (L.getD x noEv).at_) ∧ Below w.heap.size w wr)) (fun iv jv _ => (intOf jv).toNat - (intOf iv).toNat)
  case atStart => exact ⟨0, L.length, Nat.zero_le _, Nat.le_refl _, rfl, rfl, fun x hx => absurd hx (Nat.not_lt_zero _), fun x h1 h2 => by omega, Below.refl _ _⟩
  case round =>
    obtain ⟨i, j, hij, hj, rfl, rfl, HI⟩ := hrel
    by_cases hlt : i < j
    · have hl : (i : Int) < (j : Int) := by omega
      obtain ⟨m, hm⟩ : ∃ m, m = (i + j) / 2 := ⟨_, rfl⟩
      have hmL : (m : Int) < (L.length : Int) := by omega
      have hw0 : IntKind.i64.wrap ((i : Int) + (j : Int)) = (i : Int) + (j : Int) := IntWalk.i64_in _ (by omega)
      have hw1 : IntKind.u64.wrap ((i : Int) + (j : Int)) = (i : Int) + (j : Int) := by rw [IntKind.wrap_u64]; omega
      have hw2 : IntKind.i64.wrap ((m : Int) + 1) = (m : Int) + 1 := IntWalk.i64_in _ (by omega)
      obtain ⟨b, off, hA, hb, hc⟩ := HEV.out.1.look.2 (by omega)
      obtain ⟨e0, e1, v, e2, hv⟩ := hc m (by omega)
      have g0 := (HI.out.2.2.cell (p := ⟨b, off + m * 3, none⟩) hb).trans e0
      have g1 := (HI.out.2.2.cell (p := ⟨b, off + m * 3 + 1, none⟩) hb).trans e1
      have g2 := (HI.out.2.2.cell (p := ⟨b, off + m * 3 + 2, none⟩) hb).trans e2
      obtain ⟨Av, cv, rfl, -, -⟩ := hv
      subst hA
      have gl : b < wr.heap.size := Nat.lt_of_lt_of_le hb HI.out.2.2.size
      clear e0 e1 e2 hc hb
      have hm2 : ((i : Int) + (j : Int)) / 2 = (m : Int) := by omega
      obtain ⟨x, hx⟩ : ∃ x, x = (L.getD m noEv).at_ := ⟨_, rfl⟩
      rw [← hx] at g0
      have HX : Hid (x = (L.getD m noEv).at_ ∧ m = (i + j) / 2 ∧ i < j ∧ j ≤ L.length) := ⟨hx, hm, hlt, hj⟩
      obtain ⟨y, hy⟩ : ∃ y, y = (L.getD m noEv).kind := ⟨_, rfl⟩
      rw [← hy] at g1
      obtain ⟨nv, hnv⟩ : ∃ nv, nv = (L.getD m noEv).data.length := ⟨_, rfl⟩
      rw [← hnv] at g2
      clear hx hy hnv hm
      by_cases hlx : x < k
      · have hcm : cmpI x k = -1 := by rw [cmpI, if_pos hlx]
        go_wp2_with fail
        refine (toldClo_any _ _ _ _ _ _ _).mono ?_
        rw [hcm]
        rintro e w2 ⟨rfl, hb2⟩
        have HN : Hid ((∀ x, x < m + 1 → (L.getD x noEv).at_ < k) ∧ (∀ x, j ≤ x → x < L.length → k ≤ (L.getD x noEv).at_) ∧ Below w.heap.size w w2) := by
          refine ⟨fun z hz => ?_, HI.out.2.1, HI.out.2.2.trans (hb2.mono HI.out.2.2.size)⟩
          have h1 := HX.out
          have := chk_mono HEV.out.2 (m - z) z (by omega)
          rw [show z + (m - z) = m by omega, ← h1.1] at this
          omega
        clear hb2 hcm
        go_wp2_with fail
        refine ⟨⟨m + 1, j, by have := HX.out; omega, HX.out.2.2.2, by go_num, rfl, HN⟩, ?_⟩
        have := HX.out
        simp [intOf]; omega
      · have hcm : ∃ r : Int, cmpI x k = r ∧ ¬ r < 0 := by
          by_cases h2 : k < x
          · exact ⟨1, by rw [cmpI, if_neg hlx, if_pos h2], by decide⟩
          · exact ⟨0, by rw [cmpI, if_neg hlx, if_neg h2], by decide⟩
        obtain ⟨r, hr, hr0⟩ := hcm
        go_wp2_with fail
        refine (toldClo_any _ _ _ _ _ _ _).mono ?_
        rw [hr]
        rintro e w2 ⟨rfl, hb2⟩
        have HN : Hid ((∀ x, x < i → (L.getD x noEv).at_ < k) ∧ (∀ x, m ≤ x → x < L.length → k ≤ (L.getD x noEv).at_) ∧ Below w.heap.size w w2) := by
          refine ⟨HI.out.1, fun z hz hz2 => ?_, HI.out.2.2.trans (hb2.mono HI.out.2.2.size)⟩
          have h1 := HX.out
          have := chk_mono HEV.out.2 (z - m) m (by omega)
          rw [show m + (z - m) = z by omega, ← h1.1] at this
          omega
        clear hb2 hr
        go_wp2_with fail
        refine ⟨⟨i, m, by have := HX.out; omega, by have := HX.out; omega, rfl, by go_num, HN⟩, ?_⟩
        have := HX.out
        simp [intOf]; omega
    · have e : i = j := by omega
      subst e
      have hnl : ¬ (i : Int) < (i : Int) := by omega
      have HF : Hid (i ≤ L.length) := hj
      by_cases hiL : i < L.length
      · have hl : (i : Int) < (L.length : Int) := by omega
        obtain ⟨b, off, hA, hb, hc⟩ := HEV.out.1.look.2 (by omega)
        obtain ⟨e0, e1, v, e2, hv⟩ := hc i hiL
        have g0 := (HI.out.2.2.cell (p := ⟨b, off + i * 3, none⟩) hb).trans e0
        have g1 := (HI.out.2.2.cell (p := ⟨b, off + i * 3 + 1, none⟩) hb).trans e1
        have g2 := (HI.out.2.2.cell (p := ⟨b, off + i * 3 + 2, none⟩) hb).trans e2
        obtain ⟨Av, cv, rfl, -, -⟩ := hv
        subst hA
        have gl : b < wr.heap.size := Nat.lt_of_lt_of_le hb HI.out.2.2.size
        clear e0 e1 e2 hc hb
        revert g0 g1 g2
        generalize (L.getD i noEv).at_ = x
        generalize (L.getD i noEv).kind = y
        generalize (L.getD i noEv).data.length = nv
        intro g0 g1 g2
        go_wp2_with fail
        refine (toldClo_any _ _ _ _ _ _ _).mono ?_
        rintro e w2 ⟨rfl, hb2⟩
        have HN : Hid (Below w.heap.size w w2) := HI.out.2.2.trans (hb2.mono HI.out.2.2.size)
        clear hb2
        go_wp2_with fail
        refine bodyPost_ret (v := .tuple #[.int .i64 (i : Int), .bool (cmpI x k == 0)]) (by simp [results, Tryd.results79, go_sem]) rfl ?_
        exact ⟨i, _, rfl, HF.out, HI.out.1, HI.out.2.1, HN.out⟩
      · have hl : ¬ (i : Int) < (L.length : Int) := by omega
        go_wp2_with fail
        refine bodyPost_ret (v := .tuple #[.int .i64 (i : Int), .bool false]) (by simp [results, Tryd.results79, go_sem]) rfl ?_
        exact ⟨i, Or.inl rfl, HF.out, fun j hj => by simpa using HI.out.1 j hj, fun j h1 h2 => by simpa using HI.out.2.1 j h1 h2, HI.out.2.2⟩

end Go.Proofs.YtlcdefpdahjjeagDoor

/- Contract of run.told. -/

namespace Go.Proofs.YtlcdefpdahjjeagDoor
open Go.RowKit
set_option maxRecDepth 100000

/-- What told answers. -/
def ToldQ (w : World) (t : Tl) (e : Ending) (w' : World) : Prop :=
  ∃ B cb, e = .returned (.tuple #[.bool t.irq, .slice B t.blk.length cb, .int .i64 t.val]) ∧ IntsAt w' (.slice B t.blk.length cb) t.blk ∧ Below w.heap.size w w'

/-- All from a place on have a greater count. -/
theorem told_stop {L : List Ev} (hs : chkNo L = 0) {k : Int} {j : Nat} (_ : j < L.length) (h1 : k ≤ (L.getD j noEv).at_) (h2 : (L.getD j noEv).at_ ≠ k) : toldL k L = toldL k (L.take j) :=
  told_end k L j fun i hi hl => by
    have := chk_mono hs (i - j) j (by omega)
    rw [show j + (i - j) = i by omega] at this
    omega

set_option maxHeartbeats 4000000 in
theorem told_any (A : Option Addr) (c : Nat) (L : List Ev) (k : Int) (w : World) (h : EvsAt w (.slice A L.length c) L) (hs : chkNo L = 0) (hcap : L.length ≤ c) :
    Calls Tryd.prog 44 #[.slice A L.length c, .int .i64 k] w fun e w' => ToldQ w (toldL k L) e w' := by
  have HEV : Hid (EvsAt w (.slice A L.length c) L ∧ chkNo L = 0) := ⟨h, hs⟩
  have hbd := h.look.1
  clear h hs
  go_enter Tryd.func44, Tryd.ntmps44
  go_wp2_with fail
  refine (Bins_any A c L k w HEV.out.1 HEV.out.2).mono ?_
  rintro e w1 ⟨f, bb, rfl, hf, hlo, hhi, hb1⟩
  have HF : Hid ((∀ j, j < f → (L.getD j noEv).at_ < k) ∧ (∀ j, f ≤ j → j < L.length → k ≤ (L.getD j noEv).at_) ∧ EvsAt w1 (.slice A L.length c) L ∧ Below w.heap.size w w1) := ⟨hlo, hhi, HEV.out.1.below hb1, hb1⟩
  have hf' : (f : Int) ≤ (L.length : Int) := by omega
  have HT0 : Hid (toldL k (L.take f) = noTl) := told_before k L f fun i hi hl => by have := hlo i hi; omega
  clear hlo hhi hb1
  by_cases hlt : f < L.length
  case neg =>
    have e : L.length = f := by omega
    have HE : Hid (toldL k L = noTl) := by
      show _ = _
      have := HT0.out
      rwa [List.take_of_length_le (by omega)] at this
    have hz : ((L.length : Int) - (f : Int)) = 0 := by omega
    have hz2 : L.length - f = 0 := by omega
    by_cases hcf : c = f
    all_goals
      go_wp2_with fail
      go_loopw [4, 5, 6, 21] (fun q v x i wr => q = .bool false ∧ v = .slice none 0 0 ∧ x = .int .i64 0 ∧ i = .int .i64 0 ∧ wr = w1) (fun _ _ _ _ _ => 0)
      case atStart => exact ⟨rfl, rfl, rfl, rfl, rfl⟩
      case round =>
        obtain ⟨rfl, rfl, rfl, rfl, rfl⟩ := hrel
        go_wp2_with fail
        refine bodyPost_ret (v := .tuple #[.bool false, .slice none 0 0, .int .i64 0]) (by simp [results, Tryd.results44, go_sem]) rfl ?_
        rw [HE.out]
        exact ⟨none, 0, rfl, ⟨none, 0, rfl, by simp [noTl], fun h => by simp [noTl] at h⟩, HF.out.2.2.2⟩
  case pos =>
    have hcf : ¬ c = f := by omega
    obtain ⟨b, off, rfl, hb, hc⟩ := HF.out.2.2.1.look.2 (by omega)
    have HC : Hid (b < w1.heap.size ∧ ∀ j, j < L.length → EvAt w1 b (off + j * 3) (L.getD j noEv)) := ⟨hb, hc⟩
    have HLF : Hid (f < L.length) := hlt
    clear hb hc hlt
    go_wp2_with fail
    go_loopw [4, 5, 6, 21] (fun q v x i wr => ∃ (n : Nat) (B : Option Addr) (cb : Nat), f + n ≤ L.length ∧ q = .bool (toldL k (L.take (f + n))).irq ∧ v = .slice B (toldL k (L.take (f + n))).blk.length cb ∧ x = .int .i64 (toldL k (L.take (f + n))).val ∧ i = .int .i64 (n : Int) ∧ Hid (IntsAt wr (.slice B (toldL k (L.take (f + n))).blk.length cb) (toldL k (L.take (f + n))).blk ∧ Below w1.heap.size w1 wr)) (fun _ _ _ i _ => (L.length - f) - (intOf i).toNat)
    case atStart =>
      refine ⟨0, none, 0, by have := HLF.out; omega, ?_, ?_, ?_, rfl, ?_, Below.refl _ _⟩
      all_goals rw [Nat.add_zero, HT0.out]
      · rfl
      · rfl
      · rfl
      · exact ⟨none, 0, rfl, by simp [noTl], fun h => by simp [noTl] at h⟩
    case round =>
      obtain ⟨n, B, cb, hn, rfl, rfl, rfl, rfl, HI⟩ := hrel
      obtain ⟨T, hT⟩ : ∃ T, T = toldL k (L.take (f + n)) := ⟨_, rfl⟩
      rw [← hT] at HI ⊢
      have HTT : Hid (T = toldL k (L.take (f + n))) := hT
      clear hT
      by_cases hl : f + n < L.length
      · have hl1 : (n : Int) < ((L.length - f : Nat) : Int) := by omega
        have hl2 : (n : Int) < (L.length : Int) - (f : Int) := by omega
        have hw2 : IntKind.i64.wrap ((n : Int) + 1) = (n : Int) + 1 := IntWalk.i64_in _ (by omega)
        obtain ⟨e0, e1, v, e2, hv⟩ := HC.out.2 (f + n) hl
        obtain ⟨X, hX⟩ : ∃ X, X = L.getD (f + n) noEv := ⟨_, rfl⟩
        rw [← hX] at e0 e1 hv
        have HX : Hid (X = L.getD (f + n) noEv ∧ f + n < L.length) := ⟨hX, hl⟩
        have HV : Hid (IntsAt wr v X.data) := hv.below HI.out.2
        have HEO : Hid (evNo X = 0) := by show _ = _; rw [hX]; exact verdict_ev (chk_verdict HEV.out.2 _ hl)
        have g0 := (HI.out.2.cell (p := ⟨b, off + (f + n) * 3, none⟩) HC.out.1).trans e0
        have g1 := (HI.out.2.cell (p := ⟨b, off + (f + n) * 3 + 1, none⟩) HC.out.1).trans e1
        have g2 := (HI.out.2.cell (p := ⟨b, off + (f + n) * 3 + 2, none⟩) HC.out.1).trans e2
        rw [show off + (f + n) * 3 = off + f * 3 + n * 3 by omega] at g0 g1 g2
        obtain ⟨Av, cv, rfl, -, -⟩ := hv
        have gl : b < wr.heap.size := Nat.lt_of_lt_of_le HC.out.1 HI.out.2.size
        obtain ⟨xa, hxa⟩ : ∃ xa, xa = X.at_ := ⟨_, rfl⟩
        obtain ⟨xk, hxk⟩ : ∃ xk, xk = X.kind := ⟨_, rfl⟩
        obtain ⟨xn, hxn⟩ : ∃ xn, xn = X.data.length := ⟨_, rfl⟩
        rw [← hxa] at g0
        rw [← hxk] at g1
        rw [← hxn] at g2 HV
        have HXX : Hid (xa = X.at_ ∧ xk = X.kind ∧ xn = X.data.length) := ⟨hxa, hxk, hxn⟩
        clear e0 e1 e2 hX hxa hxk hxn hl
        by_cases ha : xa = k
        case neg =>
          have d0 : (xa != k) = true := by simpa using ha
          have HE : Hid (toldL k L = T) := by
            show _ = _
            rw [HTT.out]
            refine told_stop HEV.out.2 HX.out.2 (HF.out.2.1 _ (by omega) HX.out.2) ?_
            rw [← HX.out.1, ← HXX.out.1]
            exact ha
          clear ha
          go_wp2_with fail
          refine bodyPost_ret (v := .tuple #[.bool T.irq, .slice B T.blk.length cb, .int .i64 T.val]) (by simp [results, Tryd.results44, go_sem]) rfl ?_
          rw [HE.out]
          exact ⟨B, cb, rfl, HI.out.1.below (below_alloc _ _), (HF.out.2.2.2.trans (HI.out.2.mono HF.out.2.2.2.size)).alloc (by have := HI.out.2.size; have := HF.out.2.2.2.size; omega) _⟩
        case pos =>
          have d0 : (xa != k) = false := by simp [ha]
          have HBW : Hid (∀ o, Below w1.heap.size w1 (wr.alloc o)) := fun o => HI.out.2.alloc HI.out.2.size o
          have HTN : Hid (toldL k (L.take (f + (n + 1))) = tellE k T X) := by show _ = _; rw [← Nat.add_assoc, toldL_take k L (f + n) HX.out.2, ← HX.out.1, ← HTT.out]
          have HAT : Hid (X.at_ = k) := by show _ = _; rw [← HXX.out.1]; exact ha
          clear ha
          by_cases k1 : xk = 1
          · have c1 : (xk == 1) = true := by simp [k1]
            have HTE : Hid (tellE k T X = { T with irq := true }) := by show _ = _; rw [tellE, if_pos HAT.out, if_pos (by rw [← HXX.out.2.1]; exact k1)]
            clear k1
            go_wp2_with fail
            refine ⟨⟨n + 1, B, cb, by have := HX.out.2; omega, ?_, ?_, ?_, by go_num, ?_⟩, ?_⟩
            · rw [HTN.out, HTE.out]
            · rw [HTN.out, HTE.out]
            · rw [HTN.out, HTE.out]
            · rw [HTN.out, HTE.out]; exact ⟨HI.out.1.below (below_alloc _ _), HBW.out _⟩
            · have := HX.out.2; simp [intOf]; omega
          · have c1 : (xk == 1) = false := by simpa using k1
            by_cases k2 : xk = 2
            · have c2 : (xk == 2) = true := by simp [k2]
              have HTE : Hid (tellE k T X = { T with blk := X.data }) := by show _ = _; rw [tellE, if_pos HAT.out, if_neg (by rw [← HXX.out.2.1]; exact k1), if_pos (by rw [← HXX.out.2.1]; exact k2)]
              clear k1 k2
              go_wp2_with fail
              refine ⟨⟨n + 1, Av, cv, by have := HX.out.2; omega, ?_, ?_, ?_, by go_num, ?_⟩, ?_⟩
              · rw [HTN.out, HTE.out]
              · rw [HTN.out, HTE.out, HXX.out.2.2]
              · rw [HTN.out, HTE.out]
              · rw [HTN.out, HTE.out]; exact ⟨by have := HV.out; rw [HXX.out.2.2] at this; exact this.below (below_alloc _ _), HBW.out _⟩
              · have := HX.out.2; simp [intOf]; omega
            · have c2 : (xk == 2) = false := by simpa using k2
              have hb3 := (evNo_bd HEO.out)
              have k3 : xk = 3 := by have := hb3.1; rw [← HXX.out.2.1] at this; omega
              have hlen : xn = 1 := by
                have h4 := hb3.2.2.2
                rw [← HXX.out.2.1, ← HXX.out.2.2, k3] at h4
                have h5 : (xn : Int) = 1 := h4
                omega
              have c3 : (xk == 3) = true := by simp [k3]
              subst hlen
              have HTE : Hid (tellE k T X = { T with val := X.data.getD 0 0 }) := by show _ = _; rw [tellE, if_pos HAT.out, if_neg (by rw [← HXX.out.2.1]; exact k1), if_neg (by rw [← HXX.out.2.1]; exact k2)]
              have hd1 : X.data.length = 1 := HXX.out.2.2.symm
              obtain ⟨Aw, cw, ew, -, hcw⟩ := HV.out
              rw [hd1] at ew hcw
              simp only [Value.slice.injEq, true_and] at ew
              obtain ⟨rfl, rfl⟩ := ew
              obtain ⟨bd, od, rfl, hbd2, hcd⟩ := hcw (by omega)
              have g3 := hcd 0 (by omega)
              rw [Nat.add_zero] at g3
              obtain ⟨y, hy⟩ : ∃ y, y = X.data.getD 0 0 := ⟨_, rfl⟩
              rw [← hy] at g3
              have HY : Hid (y = X.data.getD 0 0) := hy
              have nw : ¬ bd = wr.heap.size := by omega
              clear hb3 k1 k2 k3 hcd hcw hy hd1
              go_wp2_with fail
              refine ⟨⟨n + 1, B, cb, by have := HX.out.2; omega, ?_, ?_, ?_, by go_num, ?_⟩, ?_⟩
              · rw [HTN.out, HTE.out]
              · rw [HTN.out, HTE.out]
              · rw [HTN.out, HTE.out, HY.out]
              · rw [HTN.out, HTE.out]; exact ⟨HI.out.1.below (below_alloc _ _), HBW.out _⟩
              · have := HX.out.2; simp [intOf]; omega
      · have hl1 : ¬ (n : Int) < ((L.length - f : Nat) : Int) := by omega
        have hl2 : ¬ (n : Int) < (L.length : Int) - (f : Int) := by omega
        have HE : Hid (toldL k L = T) := by show _ = _; rw [HTT.out, List.take_of_length_le (by omega)]
        clear hl
        go_wp2_with fail
        refine bodyPost_ret (v := .tuple #[.bool T.irq, .slice B T.blk.length cb, .int .i64 T.val]) (by simp [results, Tryd.results44, go_sem]) rfl ?_
        rw [HE.out]
        exact ⟨B, cb, rfl, HI.out.1, HF.out.2.2.2.trans (HI.out.2.mono HF.out.2.2.2.size)⟩

end Go.Proofs.YtlcdefpdahjjeagDoor
