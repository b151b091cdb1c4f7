/- Contract of run.Told. -/
import Derived.Test.YtbjlfhpiebokkaaDoorToldPart
import Derived.Test.YtbjlfhpiebokkaaDoorRepAPart
import Derived.Test.YtbjlfhpiebokkaaDoorBasePart
import Derived.Test.YtbjlfhpiebokkaaDoorCloPart
namespace Go.Proofs.YtbjlfhpiebokkaaDoor
open Go.RowKit
set_option maxRecDepth 100000

def ToldQ (w : World) (t : Tl) (e : Ending) (w' : World) : Prop :=
  ∃ B cb, e = .returned (.tuple #[.bool t.irq, .slice B t.blk.length cb, .int .i64 t.val]) ∧ IntsAt w' (.slice B t.blk.length cb) t.blk ∧ Below w.heap.size w w'

theorem told_stop {L : List Ev} (hs : chkNo L = 0) {k : Int} {j : Nat} (_ : j < L.length) (h1 : k ≤ (L.getD j noEv).at_) (h2 : (L.getD j noEv).at_ ≠ k) : toldL k L = toldL k (L.take j) :=
  told_end k L j fun i hi hl => by
    have := chk_mono hs (i - j) j (by omega)
    rw [show j + (i - j) = i by omega] at this
    omega

set_option maxHeartbeats 4000000 in
theorem told_any (A : Option Addr) (c : Nat) (L : List Ev) (k : Int) (w : World) (h : EvsAt w (.slice A L.length c) L) (hs : chkNo L = 0) (hcap : L.length ≤ c) :
    Calls Tryd.prog 39 #[.slice A L.length c, .int .i64 k] w fun e w' => ToldQ w (toldL k L) e w' := by
  have HEV : Hid (EvsAt w (.slice A L.length c) L ∧ chkNo L = 0) := ⟨h, hs⟩
  have hbd := h.look.1
  clear h hs
  go_enter Tryd.func39, Tryd.ntmps39
  go_wp2_with fail
  refine (Bins_any A c L k w HEV.out.1 HEV.out.2).mono ?_
  rintro e w1 ⟨f, bb, rfl, hf, hlo, hhi, hb1⟩
  have HF : Hid ((∀ j, j < f → (L.getD j noEv).at_ < k) ∧ (∀ j, f ≤ j → j < L.length → k ≤ (L.getD j noEv).at_) ∧ EvsAt w1 (.slice A L.length c) L ∧ Below w.heap.size w w1) := ⟨hlo, hhi, HEV.out.1.below hb1, hb1⟩
  have hf' : (f : Int) ≤ (L.length : Int) := by omega
  have HT0 : Hid (toldL k (L.take f) = noTl) := told_before k L f fun i hi hl => by have := hlo i hi; omega
  clear hlo hhi hb1
  by_cases hlt : f < L.length
  case neg =>
    have e : L.length = f := by omega
    have HE : Hid (toldL k L = noTl) := by
      show _ = _
      have := HT0.out
      rwa [List.take_of_length_le (by omega)] at this
    have hz : ((L.length : Int) - (f : Int)) = 0 := by omega
    have hz2 : L.length - f = 0 := by omega
    by_cases hcf : c = f
    all_goals
      go_wp2_with fail
      go_loopw [4, 5, 6, 21] (fun q v x i wr => q = .bool false ∧ v = .slice none 0 0 ∧ x = .int .i64 0 ∧ i = .int .i64 0 ∧ wr = w1) (fun _ _ _ _ _ => 0)
      case atStart => exact ⟨rfl, rfl, rfl, rfl, rfl⟩
      case round =>
        obtain ⟨rfl, rfl, rfl, rfl, rfl⟩ := hrel
        go_wp2_with fail
        refine bodyPost_ret (v := .tuple #[.bool false, .slice none 0 0, .int .i64 0]) (by simp [results, Tryd.results39, go_sem]) rfl ?_
        rw [HE.out]
        exact ⟨none, 0, rfl, ⟨none, 0, rfl, by simp [noTl], fun h => by simp [noTl] at h⟩, HF.out.2.2.2⟩
  case pos =>
    have hcf : ¬ c = f := by omega
    obtain ⟨b, off, rfl, hb, hc⟩ := HF.out.2.2.1.look.2 (by omega)
    have HC : Hid (b < w1.heap.size ∧ ∀ j, j < L.length → EvAt w1 b (off + j * 3) (L.getD j noEv)) := ⟨hb, hc⟩
    have HLF : Hid (f < L.length) := hlt
    clear hb hc hlt
    go_wp2_with fail
    go_loopw [4, 5, 6, 21] (fun q v x i wr => ∃ (n : Nat) (B : Option Addr) (cb : Nat), f + n ≤ L.length ∧ q = .bool (toldL k (L.take (f + n))).irq ∧ v = .slice B (toldL k (L.take (f + n))).blk.length cb ∧ x = .int .i64 (toldL k (L.take (f + n))).val ∧ i = .int .i64 (n : Int) ∧ Hid (IntsAt wr (.slice B (toldL k (L.take (f + n))).blk.length cb) (toldL k (L.take (f + n))).blk ∧ Below w1.heap.size w1 wr)) (fun _ _ _ i _ => (L.length - f) - (intOf i).toNat)
    case atStart =>
      refine ⟨0, none, 0, by have := HLF.out; omega, ?_, ?_, ?_, rfl, ?_, Below.refl _ _⟩
      all_goals rw [Nat.add_zero, HT0.out]
      · rfl
      · rfl
      · rfl
      · exact ⟨none, 0, rfl, by simp [noTl], fun h => by simp [noTl] at h⟩
    case round =>
      obtain ⟨n, B, cb, hn, rfl, rfl, rfl, rfl, HI⟩ := hrel
      obtain ⟨T, hT⟩ : ∃ T, T = toldL k (L.take (f + n)) := ⟨_, rfl⟩
      rw [← hT] at HI ⊢
      have HTT : Hid (T = toldL k (L.take (f + n))) := hT
      clear hT
      by_cases hl : f + n < L.length
      · have hl1 : (n : Int) < ((L.length - f : Nat) : Int) := by omega
        have hl2 : (n : Int) < (L.length : Int) - (f : Int) := by omega
        have hw2 : IntKind.i64.wrap ((n : Int) + 1) = (n : Int) + 1 := IntWalk.i64_in _ (by omega)
        obtain ⟨e0, e1, v, e2, hv⟩ := HC.out.2 (f + n) hl
        obtain ⟨X, hX⟩ : ∃ X, X = L.getD (f + n) noEv := ⟨_, rfl⟩
        rw [← hX] at e0 e1 hv
        have HX : Hid (X = L.getD (f + n) noEv ∧ f + n < L.length) := ⟨hX, hl⟩
        have HV : Hid (IntsAt wr v X.data) := hv.below HI.out.2
        have HEO : Hid (evNo X = 0) := by show _ = _; rw [hX]; exact verdict_ev (chk_verdict HEV.out.2 _ hl)
        have g0 := (HI.out.2.cell (p := ⟨b, off + (f + n) * 3, none⟩) HC.out.1).trans e0
        have g1 := (HI.out.2.cell (p := ⟨b, off + (f + n) * 3 + 1, none⟩) HC.out.1).trans e1
        have g2 := (HI.out.2.cell (p := ⟨b, off + (f + n) * 3 + 2, none⟩) HC.out.1).trans e2
        rw [show off + (f + n) * 3 = off + f * 3 + n * 3 by omega] at g0 g1 g2
        obtain ⟨Av, cv, rfl, -, -⟩ := hv
        have gl : b < wr.heap.size := Nat.lt_of_lt_of_le HC.out.1 HI.out.2.size
        obtain ⟨xa, hxa⟩ : ∃ xa, xa = X.at_ := ⟨_, rfl⟩
        obtain ⟨xk, hxk⟩ : ∃ xk, xk = X.kind := ⟨_, rfl⟩
        obtain ⟨xn, hxn⟩ : ∃ xn, xn = X.data.length := ⟨_, rfl⟩
        rw [← hxa] at g0
        rw [← hxk] at g1
        rw [← hxn] at g2 HV
        have HXX : Hid (xa = X.at_ ∧ xk = X.kind ∧ xn = X.data.length) := ⟨hxa, hxk, hxn⟩
        clear e0 e1 e2 hX hxa hxk hxn hl
        by_cases ha : xa = k
        case neg =>
          have d0 : (xa != k) = true := by simpa using ha
          have HE : Hid (toldL k L = T) := by
            show _ = _
            rw [HTT.out]
            refine told_stop HEV.out.2 HX.out.2 (HF.out.2.1 _ (by omega) HX.out.2) ?_
            rw [← HX.out.1, ← HXX.out.1]
            exact ha
          clear ha
          go_wp2_with fail
          refine bodyPost_ret (v := .tuple #[.bool T.irq, .slice B T.blk.length cb, .int .i64 T.val]) (by simp [results, Tryd.results39, go_sem]) rfl ?_
          rw [HE.out]
          exact ⟨B, cb, rfl, HI.out.1.below (below_alloc _ _), (HF.out.2.2.2.trans (HI.out.2.mono HF.out.2.2.2.size)).alloc (by have := HI.out.2.size; have := HF.out.2.2.2.size; omega) _⟩
        case pos =>
          have d0 : (xa != k) = false := by simp [ha]
          have HBW : Hid (∀ o, Below w1.heap.size w1 (wr.alloc o)) := fun o => HI.out.2.alloc HI.out.2.size o
          have HTN : Hid (toldL k (L.take (f + (n + 1))) = tellE k T X) := by show _ = _; rw [← Nat.add_assoc, toldL_take k L (f + n) HX.out.2, ← HX.out.1, ← HTT.out]
          have HAT : Hid (X.at_ = k) := by show _ = _; rw [← HXX.out.1]; exact ha
          clear ha
          by_cases k1 : xk = 1
          · have c1 : (xk == 1) = true := by simp [k1]
            have HTE : Hid (tellE k T X = { T with irq := true }) := by show _ = _; rw [tellE, if_pos HAT.out, if_pos (by rw [← HXX.out.2.1]; exact k1)]
            clear k1
            go_wp2_with fail
            refine ⟨⟨n + 1, B, cb, by have := HX.out.2; omega, ?_, ?_, ?_, by go_num, ?_⟩, ?_⟩
            · rw [HTN.out, HTE.out]
            · rw [HTN.out, HTE.out]
            · rw [HTN.out, HTE.out]
            · rw [HTN.out, HTE.out]; exact ⟨HI.out.1.below (below_alloc _ _), HBW.out _⟩
            · have := HX.out.2; simp [intOf]; omega
          · have c1 : (xk == 1) = false := by simpa using k1
            by_cases k2 : xk = 2
            · have c2 : (xk == 2) = true := by simp [k2]
              have HTE : Hid (tellE k T X = { T with blk := X.data }) := by show _ = _; rw [tellE, if_pos HAT.out, if_neg (by rw [← HXX.out.2.1]; exact k1), if_pos (by rw [← HXX.out.2.1]; exact k2)]
              clear k1 k2
              go_wp2_with fail
              refine (Clone_any _ X.data _ (HV.out.below (below_alloc _ _))).mono ?_
              rintro e w3 ⟨A2, n2, rfl, ho, hb3⟩
              have HO : Hid (IntsAt w3 (.slice A2 X.data.length n2) X.data ∧ Below w1.heap.size w1 w3) := ⟨OwnI.at ho HV.out.bound, (HBW.out _).trans (hb3.mono (HBW.out _).size)⟩
              clear ho hb3
              go_wp2_with fail
              refine ⟨⟨n + 1, A2, n2, by have := HX.out.2; omega, ?_, ?_, ?_, by go_num, ?_⟩, ?_⟩
              · rw [HTN.out, HTE.out]
              · rw [HTN.out, HTE.out]
              · rw [HTN.out, HTE.out]
              · rw [HTN.out, HTE.out]; exact HO.out
              · have := HX.out.2; simp [intOf]; omega
            · have c2 : (xk == 2) = false := by simpa using k2
              have hb3 := (evNo_bd HEO.out)
              have k3 : xk = 3 := by have := hb3.1; rw [← HXX.out.2.1] at this; omega
              have hlen : xn = 1 := by
                have h4 := hb3.2.2.2
                rw [← HXX.out.2.1, ← HXX.out.2.2, k3] at h4
                have h5 : (xn : Int) = 1 := h4
                omega
              have c3 : (xk == 3) = true := by simp [k3]
              subst hlen
              have HTE : Hid (tellE k T X = { T with val := X.data.getD 0 0 }) := by show _ = _; rw [tellE, if_pos HAT.out, if_neg (by rw [← HXX.out.2.1]; exact k1), if_neg (by rw [← HXX.out.2.1]; exact k2)]
              have hd1 : X.data.length = 1 := HXX.out.2.2.symm
              obtain ⟨Aw, cw, ew, -, hcw⟩ := HV.out
              rw [hd1] at ew hcw
              simp only [Value.slice.injEq, true_and] at ew
              obtain ⟨rfl, rfl⟩ := ew
              obtain ⟨bd, od, rfl, hbd2, hcd⟩ := hcw (by omega)
              have g3 := hcd 0 (by omega)
              rw [Nat.add_zero] at g3
              obtain ⟨y, hy⟩ : ∃ y, y = X.data.getD 0 0 := ⟨_, rfl⟩
              rw [← hy] at g3
              have HY : Hid (y = X.data.getD 0 0) := hy
              have nw : ¬ bd = wr.heap.size := by omega
              clear hb3 k1 k2 k3 hcd hcw hy hd1
              go_wp2_with fail
              refine ⟨⟨n + 1, B, cb, by have := HX.out.2; omega, ?_, ?_, ?_, by go_num, ?_⟩, ?_⟩
              · rw [HTN.out, HTE.out]
              · rw [HTN.out, HTE.out]
              · rw [HTN.out, HTE.out, HY.out]
              · rw [HTN.out, HTE.out]; exact ⟨HI.out.1.below (below_alloc _ _), HBW.out _⟩
              · have := HX.out.2; simp [intOf]; omega
      · have hl1 : ¬ (n : Int) < ((L.length - f : Nat) : Int) := by omega
        have hl2 : ¬ (n : Int) < (L.length : Int) - (f : Int) := by omega
        have HE : Hid (toldL k L = T) := by show _ = _; rw [HTT.out, List.take_of_length_le (by omega)]
        clear hl
        go_wp2_with fail
        refine bodyPost_ret (v := .tuple #[.bool T.irq, .slice B T.blk.length cb, .int .i64 T.val]) (by simp [results, Tryd.results39, go_sem]) rfl ?_
        rw [HE.out]
        exact ⟨B, cb, rfl, HI.out.1, HF.out.2.2.2.trans (HI.out.2.mono HF.out.2.2.2.size)⟩

end Go.Proofs.YtbjlfhpiebokkaaDoor

/- A replay, plainly. -/

namespace Go.Proofs.YtbjlfhpiebokkaaDoor
open Go.RowKit
set_option maxRecDepth 100000

def replayM (im : List Int) (L : List Ev) : Nat → Mach
  | 0 => newM im
  | n + 1 => ((replayM im L n).step (toldL n L).irq (toldL n L).blk (toldL n L).val).1
theorem replay_may {im : List Int} {L : List Ev} (hi : newNo im = 0) (hL : chkNo L = 0) : ∀ n, n ≤ 3000 → MayP (replayM im L n) ∧ (replayM im L n).count ≤ n
  | 0, _ => ⟨newM_may hi, Int.le_refl _⟩
  | n + 1, hn => by
    obtain ⟨h1, h2⟩ := replay_may hi hL n (by omega)
    have ht := toldL_may hL n
    refine ⟨h1.step _ ht.all ht.len ht.val (by omega), ?_⟩
    have := step_count (replayM im L n) (toldL n L).irq (toldL n L).blk (toldL n L).val
    show ((replayM im L n).step _ _ _).1.count ≤ ((n + 1 : Nat) : Int)
    omega

def noMach12 : Mach := ⟨[], 0, 0, false, false, 0, 0, 0, [], [], 0, 0⟩
def replayG (im bs : List Int) (cnt n : Int) : Mach × Int :=
  if (tapeG im bs cnt).1 ≠ 0 then (noMach12, (tapeG im bs cnt).1) else if inB n 0 cnt = false then (noMach12, 2) else (replayM im (tapeG im bs cnt).2 n.toNat, 0)
theorem tapeG_ok {im bs : List Int} {cnt : Int} (h : (tapeG im bs cnt).1 = 0) : newNo im = 0 ∧ inB cnt 0 3000 = true ∧ (decD bs).1 = 0 ∧ (tapeG im bs cnt).2 = (decD bs).2 := by
  unfold tapeG at h ⊢
  split at h
  · rename_i h1; exact absurd h h1
  · rename_i h1
    split at h
    · cases h
    · rename_i h2
      split at h
      · rename_i h3; exact absurd h h3
      · rename_i h3
        split at h
        · cases h
        · rename_i h4
          rw [if_neg h1, if_neg h2, if_neg h3, if_neg h4]
          exact ⟨by simpa using h1, by simpa using h2, by simpa using h3, rfl⟩

end Go.Proofs.YtbjlfhpiebokkaaDoor

/- Contract of In: is a number from low to high; and laws on callees met in a region that draws. -/

namespace Go.Proofs.YtbjlfhpiebokkaaDoor
open Go.RowKit
set_option maxRecDepth 100000
set_option linter.unusedVariables false

theorem In_any (n lo hi : Int) (w : World) : Calls Tryd.prog 32 #[.int .i64 n, .int .i64 lo, .int .i64 hi] w fun e w' => e = .returned (.bool (decide (lo ≤ n ∧ n ≤ hi))) ∧ w' = w := by
  by_cases h1 : lo ≤ n <;> by_cases h2 : n ≤ hi
  all_goals
    go_enter Tryd.func32, Tryd.ntmps32
    go_wp2
    go_ret
    simp [h1, h2]

theorem In_B (n lo hi : Int) (w : World) : Calls Tryd.prog 32 #[.int .i64 n, .int .i64 lo, .int .i64 hi] w fun e w' => e = .returned (.bool (inB n lo hi)) ∧ w' = w := In_any n lo hi w

end Go.Proofs.YtbjlfhpiebokkaaDoor

/- Contracts of hourglassref's meant and NextOf: the word that an address means; the instruction that comes next. -/

namespace Go.Proofs.YtbjlfhpiebokkaaDoor
open Go.RowKit

set_option maxHeartbeats 2000000 in
theorem meant_any (m : Mach) (rv mv ov : Value) (at' : Int) (write : Bool) (w : World) (ha : MachAt w rv mv ov m) (hl : m.mem.length = 256) (ht : -1 ≤ m.table ∧ m.table ≤ 15) :
    Calls Tryd.prog 66 #[.agg (m.cells rv mv ov), .int .i64 at', .bool write] w fun e w' => e = .returned (.tuple #[.int .i64 (m.meantK at' write), .int .i64 (m.meantE at' write)]) ∧ Below w.heap.size w w' := by
  cases g0 : inB at' 0 255 with
  | false =>
    have HE : Hid (3 = m.meantE at' write) := by show _ = _; simp [Mach.meantE, g0]
    have HK : Hid (0 = m.meantK at' write) := by show _ = _; simp [Mach.meantK, ← HE.out]
    obtain ⟨r, p, k, i, t, a, n, f, m, o, y, q⟩ := m
    simp only [Mach.cells]
    clear hl ht ha
    go_enter Tryd.func66, Tryd.ntmps66
    go_wp2_with (go_at_call 32; refine (In_B _ _ _ _).mono ?_; rintro e w' ⟨rfl, rfl⟩)
    go_ret2
    exact ⟨ret_two HK.out HE.out, below_alloc _ _⟩
  | true =>
  obtain ⟨a1, a2⟩ := inB_iff.1 g0
  cases g1 : m.table == -1 with
  | true =>
    have HE : Hid (0 = m.meantE at' write) := by show _ = _; simp only [Mach.meantE, g0, g1]; rfl
    have HK : Hid (at' = m.meantK at' write) := by show _ = _; simp only [Mach.meantK, ← HE.out, g1]; rfl
    obtain ⟨r, p, k, i, t, a, n, f, m, o, y, q⟩ := m
    simp only [Mach.cells] at g1 ⊢
    clear hl ht ha
    go_enter Tryd.func66, Tryd.ntmps66
    go_wp2_with (go_at_call 32; refine (In_B _ _ _ _).mono ?_; rintro e w' ⟨rfl, rfl⟩)
    go_ret2
    exact ⟨ret_two HK.out HE.out, below_alloc _ _⟩
  | false =>
  have t0 : 0 ≤ m.table := by
    have : m.table ≠ -1 := by simpa using g1
    omega
  obtain ⟨A, c, rfl, hl8, hc⟩ := ha.mem
  obtain ⟨b, off, rfl, hbs, hcell⟩ := hc (by omega)
  have h1 : w.cell? ⟨b, off + (16 * m.table + at' / 16).toNat, none⟩ = some (.int .i64 (m.page at')) := hcell (16 * m.table + at' / 16).toNat (by omega)
  have hE : m.meantE at' write = (if !inB (m.page at') 32 63 then 4 else if write && decide (m.page at' < 48) then 4 else 0) := by simp only [Mach.meantE, g0, g1]; rfl
  have hK : m.meantK at' write = (if m.meantE at' write = 0 then 16 * (m.page at' % 16) + at' % 16 else 0) := by simp only [Mach.meantK, g1]; rfl
  obtain ⟨E, eE⟩ : ∃ E, E = m.meantE at' write := ⟨_, rfl⟩
  obtain ⟨K, eK⟩ : ∃ K, K = m.meantK at' write := ⟨_, rfl⟩
  rw [← eE, ← eK]
  rw [← eE] at hE
  rw [← eK, ← eE] at hK
  have HE : Hid (E = (if !inB (m.page at') 32 63 then 4 else if write && decide (m.page at' < 48) then 4 else 0)) := hE
  have HK : Hid (K = (if E = 0 then 16 * (m.page at' % 16) + at' % 16 else 0)) := hK
  clear hK hE hcell hc ha eE eK
  revert h1 HE HK
  generalize m.page at' = x
  intro h1 HE HK
  have hj2 : 16 * m.table + at' / 16 < (m.mem.length : Int) := by omega
  have hj3 : 0 ≤ 16 * m.table + at' / 16 := by omega
  obtain ⟨-, t2⟩ := ht
  clear hl8 hl
  obtain ⟨r, p, k, i, t, a, n, f, m, o, y, q⟩ := m
  simp only [Mach.cells] at *
  cases g2 : inB x 32 63 with
  | false =>
    have FE : Hid (4 = E) := by show _ = _; rw [HE.out, g2]; rfl
    have FK : Hid (0 = K) := by show _ = _; rw [HK.out, ← FE.out]; rfl
    clear HE HK
    go_enter Tryd.func66, Tryd.ntmps66
    go_wp2_with (go_at_call 32; refine (In_B _ _ _ _).mono ?_; rintro e w' ⟨rfl, rfl⟩)
    go_ret2
    exact ⟨ret_two FK.out FE.out, below_alloc _ _⟩
  | true =>
  obtain ⟨x1, x2⟩ := inB_iff.1 g2
  cases write with
  | false =>
    have FE : Hid (0 = E) := by show _ = _; rw [HE.out, g2]; rfl
    have FK : Hid (16 * (x % 16) + at' % 16 = K) := by show _ = _; rw [HK.out, ← FE.out]; rfl
    clear HE HK
    go_enter Tryd.func66, Tryd.ntmps66
    go_wp2_with (go_at_call 32; refine (In_B _ _ _ _).mono ?_; rintro e w' ⟨rfl, rfl⟩)
    go_ret2
    exact ⟨ret_two FK.out FE.out, below_alloc _ _⟩
  | true =>
  by_cases g3 : x < 48
  · have d3 : decide (x < 48) = true := by simpa using g3
    have FE : Hid (4 = E) := by show _ = _; rw [HE.out, g2, d3]; rfl
    have FK : Hid (0 = K) := by show _ = _; rw [HK.out, ← FE.out]; rfl
    clear HE HK
    go_enter Tryd.func66, Tryd.ntmps66
    go_wp2_with (go_at_call 32; refine (In_B _ _ _ _).mono ?_; rintro e w' ⟨rfl, rfl⟩)
    go_ret2
    exact ⟨ret_two FK.out FE.out, below_alloc _ _⟩
  · have d3 : decide (x < 48) = false := by simpa using g3
    have FE : Hid (0 = E) := by show _ = _; rw [HE.out, g2, d3]; rfl
    have FK : Hid (16 * (x % 16) + at' % 16 = K) := by show _ = _; rw [HK.out, ← FE.out]; rfl
    clear HE HK
    go_enter Tryd.func66, Tryd.ntmps66
    go_wp2_with (go_at_call 32; refine (In_B _ _ _ _).mono ?_; rintro e w' ⟨rfl, rfl⟩)
    go_ret2
    exact ⟨ret_two FK.out FE.out, below_alloc _ _⟩

end Go.Proofs.YtbjlfhpiebokkaaDoor
