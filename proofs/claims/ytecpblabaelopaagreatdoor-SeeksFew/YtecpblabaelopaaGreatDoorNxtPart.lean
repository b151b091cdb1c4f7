/- Contracts of run.nextOf and of what it makes. -/
import Derived.Test.YtecpblabaelopaaGreatDoorMaySPart
import Derived.Test.YtecpblabaelopaaGreatDoorECloPart
import Derived.Test.YtecpblabaelopaaGreatDoorByFPart
namespace Go.Proofs.YtecpblabaelopaaGreatDoor
open Go.RowKit
set_option maxRecDepth 100000

structure But (p lo : Nat) (w w' : World) : Prop where
  old : Below lo w w'
  kept : ∀ g, g < w.heap.size → g ≠ p → w'.heap[g]? = w.heap[g]?
theorem But.refl (p lo : Nat) (w : World) : But p lo w w := ⟨Below.refl _ _, fun _ _ _ => rfl⟩
theorem But.set {p lo : Nat} (w : World) (h : lo ≤ p) (i : Nat) (u : Value) : But p lo w (w.setCell ⟨p, i, none⟩ u) :=
  ⟨(Below.refl lo w).setCell (by simpa using h) u, fun g _ hne => Go.Deep.blk_setCell_other _ _ _ _ (by simpa using hne)⟩

def TailI (lo : Nat) (w : World) (u : Value) (l : List Int) : Prop :=
  ∃ (A : Option Addr) (c : Nat), u = .slice A l.length c ∧ l.length ≤ c ∧ l.length * 8 ≤ 140737488351232 ∧
    (0 < l.length → ∃ b off, A = some ⟨b, off, none⟩ ∧ b < lo ∧ ∀ j, j < l.length → w.cell? ⟨b, off + j, none⟩ = some (.int .i64 (l.getD j 0)))
theorem TailI.below {lo : Nat} {w w' : World} {u : Value} {l : List Int} (h : TailI lo w u l) (hb : Below lo w w') : TailI lo w' u l := by
  obtain ⟨A, c, rfl, hf, hl, hc⟩ := h
  refine ⟨A, c, rfl, hf, hl, fun h0 => ?_⟩
  obtain ⟨b, off, rfl, hlt, hj⟩ := hc h0
  exact ⟨b, off, rfl, hlt, fun j hjl => (hb.cell (p := ⟨b, off + j, none⟩) hlt).trans (hj j hjl)⟩
theorem TailI.at {lo : Nat} {w : World} {u : Value} {l : List Int} (h : TailI lo w u l) (hlo : lo ≤ w.heap.size) : IntsAt w u l := by
  obtain ⟨A, c, rfl, hf, hl, hc⟩ := h
  refine ⟨A, c, rfl, hl, fun h0 => ?_⟩
  obtain ⟨b, off, rfl, hlt, hj⟩ := hc h0
  exact ⟨b, off, rfl, by omega, hj⟩
theorem TailI.mono {lo lo' : Nat} {w : World} {u : Value} {l : List Int} (h : TailI lo w u l) (hlo : lo ≤ lo') : TailI lo' w u l := by
  obtain ⟨A, c, rfl, hf, hl, hc⟩ := h
  refine ⟨A, c, rfl, hf, hl, fun h0 => ?_⟩
  obtain ⟨b, off, rfl, hlt, hj⟩ := hc h0
  exact ⟨b, off, rfl, by omega, hj⟩
theorem TailI.old {lo : Nat} {w : World} {u : Value} {l : List Int} (h : TailI lo w u l) : IntsOld lo w u l := by
  obtain ⟨A, c, rfl, hf, hl, hc⟩ := h
  exact ⟨A, c, rfl, hl, hc⟩
theorem TailI.fits {lo : Nat} {w : World} {u : Value} {l : List Int} (h : TailI lo w u l) : Fits u := by
  obtain ⟨A, c, rfl, hf, hl, hc⟩ := h
  exact ⟨A, _, c, rfl, hf⟩
theorem TailI.of {w : World} {u : Value} {l : List Int} (h : IntsAt w u l) (hf : Fits u) : TailI w.heap.size w u l := by
  obtain ⟨A, c, rfl, hl, hc⟩ := h
  obtain ⟨A', n', c', e, hn⟩ := hf
  simp only [Value.slice.injEq] at e
  obtain ⟨rfl, rfl, rfl⟩ := e
  exact ⟨A, c, rfl, hn, hl, hc⟩
def TailR (lo : Nat) (w : World) (u : Value) (D : List (List Int)) : Prop :=
  ∃ (A : Option Addr) (c : Nat), u = .slice A D.length c ∧ D.length ≤ c ∧ D.length * 24 ≤ 140737488351232 ∧
    (0 < D.length → ∃ b off, A = some ⟨b, off, none⟩ ∧ b < lo ∧ ∀ j, j < D.length → ∃ r, w.cell? ⟨b, off + j, none⟩ = some r ∧ TailI lo w r (D.getD j []))
theorem TailR.below {lo : Nat} {w w' : World} {u : Value} {D : List (List Int)} (h : TailR lo w u D) (hb : Below lo w w') : TailR lo w' u D := by
  obtain ⟨A, c, rfl, hf, hl, hc⟩ := h
  refine ⟨A, c, rfl, hf, hl, fun h0 => ?_⟩
  obtain ⟨b, off, rfl, hlt, hj⟩ := hc h0
  refine ⟨b, off, rfl, hlt, fun j hjl => ?_⟩
  obtain ⟨r, h1, h2⟩ := hj j hjl
  exact ⟨r, (hb.cell (p := ⟨b, off + j, none⟩) hlt).trans h1, h2.below hb⟩
theorem TailR.mono {lo lo' : Nat} {w : World} {u : Value} {D : List (List Int)} (h : TailR lo w u D) (hlo : lo ≤ lo') : TailR lo' w u D := by
  obtain ⟨A, c, rfl, hf, hl, hc⟩ := h
  refine ⟨A, c, rfl, hf, hl, fun h0 => ?_⟩
  obtain ⟨b, off, rfl, hlt, hj⟩ := hc h0
  refine ⟨b, off, rfl, by omega, fun j hjl => ?_⟩
  obtain ⟨r, h1, h2⟩ := hj j hjl
  exact ⟨r, h1, h2.mono hlo⟩

abbrev nxI (p q : Nat) : Value := .func (.func 122) #[] #[.pointer (some ⟨p, 0, none⟩), .pointer (some ⟨q, 0, none⟩)]
abbrev nxB (p q : Nat) : Value := .func (.func 123) #[] #[.pointer (some ⟨p, 0, none⟩), .pointer (some ⟨q, 0, none⟩)]

theorem nextI_any (A : Option Addr) (n c : Nat) (d : Int) (w : World) : Calls Tryz.prog 84 #[.slice A n c, .int .i64 d] w fun e w' => ∃ p q, e = .returned (nxI p q) ∧ w.heap.size ≤ p ∧ p < q ∧ w'.heap[p]? = some (.cells #[.slice A n c] 24 (0, 0)) ∧ w'.heap[q]? = some (.cells #[.int .i64 d] 3 (0, 0)) ∧ Below w.heap.size w w' := by
  go_enter Tryz.func84, Tryz.ntmps84
  go_wp2
  go_ret
  obtain ⟨b0, b1, b2⟩ := two_boxes (Below.refl ((w.alloc (.cells #[.slice A n c] 24)).alloc (.cells #[.int .i64 d] 3)).heap.size ((w.alloc (.cells #[.slice A n c] 24)).alloc (.cells #[.int .i64 d] 3)))
  exact ⟨_, _, rfl, Nat.le_refl _, by simp, b0, b1, b2⟩
theorem nextB_any (A Az : Option Addr) (n c nz cz : Nat) (w : World) : Calls Tryz.prog 85 #[.slice A n c, .slice Az nz cz] w fun e w' => ∃ p q, e = .returned (nxB p q) ∧ w.heap.size ≤ p ∧ p < q ∧ w'.heap[p]? = some (.cells #[.slice A n c] 51 (0, 0)) ∧ w'.heap[q]? = some (.cells #[.slice Az nz cz] 24 (0, 0)) ∧ Below w.heap.size w w' := by
  go_enter Tryz.func85, Tryz.ntmps85
  go_wp2
  go_ret
  obtain ⟨b0, b1, b2⟩ := two_boxes (Below.refl ((w.alloc (.cells #[.slice A n c] 51)).alloc (.cells #[.slice Az nz cz] 24)).heap.size ((w.alloc (.cells #[.slice A n c] 51)).alloc (.cells #[.slice Az nz cz] 24)))
  exact ⟨_, _, rfl, Nat.le_refl _, by simp, b0, b1, b2⟩

theorem one_cellN {w : World} {b : Nat} {x : Value} {t : TypeId} (h : w.heap[b]? = some (.cells #[x] t (0, 0))) : w.cell? ⟨b, 0, none⟩ = some x ∧ (∀ j, w.frozen? ⟨b, j, none⟩ = false) ∧ b < w.heap.size := ⟨by simp [World.cell?, h], fun j => by simp [World.frozen?, h], lt_of_block h⟩
theorem getD_drop1 (l : List Int) (j : Nat) : (l.drop 1).getD j 0 = l.getD (1 + j) 0 := by simp [List.getD, Nat.add_comm]
theorem getDR_drop1 (l : List (List Int)) (j : Nat) : (l.drop 1).getD j [] = l.getD (1 + j) [] := by simp [List.getD, Nat.add_comm]

set_option maxHeartbeats 2000000 in
theorem cloI_any (p q lo : Nat) (u : Value) (l : List Int) (d : Int) (w : World) (hp : w.heap[p]? = some (.cells #[u] 24 (0, 0))) (hq : w.heap[q]? = some (.cells #[.int .i64 d] 3 (0, 0))) (hu : TailI lo w u l) (hlo : lo ≤ p) :
    Calls Tryz.prog 122 #[.pointer (some ⟨p, 0, none⟩), .pointer (some ⟨q, 0, none⟩)] w fun e w' => ∃ u', e = .returned (.int .i64 (l.getD 0 d)) ∧ w'.heap[p]? = some (.cells #[u'] 24 (0, 0)) ∧ TailI lo w' u' (l.drop 1) ∧ But p lo w w' := by
  have HU : Hid (TailI lo w u l) := hu
  obtain ⟨A, c, rfl, hf, hbd, hc⟩ := hu
  obtain ⟨p0, pf, pl⟩ := one_cellN hp
  obtain ⟨q0, qf, ql⟩ := one_cellN hq
  have HP : Hid (w.heap[p]? = some (.cells #[.slice A l.length c] 24 (0, 0)) ∧ lo ≤ p) := ⟨hp, hlo⟩
  obtain ⟨n, hn⟩ : ∃ n, n = l.length := ⟨_, rfl⟩
  by_cases h0 : l.length = 0
  · have e0 : l = [] := List.eq_nil_of_length_eq_zero h0
    subst e0
    simp only [List.length_nil] at p0
    have HP0 : Hid (w.heap[p]? = some (.cells #[.slice A 0 c] 24 (0, 0))) := hp
    clear hp hq hc HP hn
    go_enter Tryz.func122, Tryz.ntmps122
    go_wp2_with fail
    go_ret
    exact ⟨.slice A 0 c, rfl, HP0.out, HU.out, But.refl _ _ _⟩
  · obtain ⟨b, off, rfl, hb, hcell⟩ := hc (by omega)
    clear hc
    have g0 := hcell 0 (by omega)
    rw [Nat.add_zero] at g0
    have HA : Hid (∀ A' n' c', n' = l.length - 1 → c' = c - 1 → (1 < l.length → A' = some ⟨b, off + 1, none⟩) → (w.setCell ⟨p, 0, none⟩ (.slice A' n' c')).heap[p]? = some (.cells #[.slice A' n' c'] 24 (0, 0)) ∧ TailI lo (w.setCell ⟨p, 0, none⟩ (.slice A' n' c')) (.slice A' n' c') (l.drop 1) ∧ But p lo w (w.setCell ⟨p, 0, none⟩ (.slice A' n' c'))) := fun A' n' c' e1 e2 e3 => by
      have hB := But.set w HP.out.2 0 (.slice A' n' c')
      refine ⟨by rw [box_set HP.out.1]; rfl, ?_, hB⟩
      refine TailI.below ⟨A', c', by rw [e1, List.length_drop], by rw [List.length_drop]; omega, by rw [List.length_drop]; omega, fun h1 => ?_⟩ hB.old
      rw [List.length_drop] at h1
      refine ⟨b, off + 1, e3 (by omega), hb, fun j hj => ?_⟩
      rw [List.length_drop] at hj
      rw [getD_drop1, Nat.add_assoc]
      exact hcell (1 + j) (by omega)
    have HG : Hid (l.getD 0 d = l.getD 0 0) := by
      show _ = _
      have : 0 < l.length := by omega
      simp [List.getD, this]
    have hcc2 : c = 1 → ¬ 1 < l.length := fun e => by omega
    have hi1 : (1 : Int) ≤ (l.length : Int) := by omega
    have hi2 : (1 : Int) ≤ (c : Int) := by omega
    have hi3 : (0 : Int) < (l.length : Int) := by omega
    have hi4 : ((l.length : Int) == 0) = false := beq_false_of_ne (by omega)
    have hi5 : (l.length : Int) ≤ (c : Int) := by omega
    clear hp hq hcell HU hn
    by_cases hcc : c = 1
    · go_enter Tryz.func122, Tryz.ntmps122
      go_wp2_with fail
      go_ret
      obtain ⟨r1, r2, r3⟩ := HA.out (some ⟨b, off, none⟩) _ 0 rfl (by omega) (fun hh => absurd hh (hcc2 hcc))
      exact ⟨_, ret_int HG.out.symm, r1, r2, r3⟩
    · go_enter Tryz.func122, Tryz.ntmps122
      go_wp2_with fail
      go_ret
      obtain ⟨r1, r2, r3⟩ := HA.out _ _ _ rfl rfl (fun _ => rfl)
      exact ⟨_, ret_int HG.out.symm, r1, r2, r3⟩

set_option maxHeartbeats 2000000 in
theorem cloB_any (p q lo : Nat) (u d : Value) (D : List (List Int)) (w : World) (hp : w.heap[p]? = some (.cells #[u] 51 (0, 0))) (hq : w.heap[q]? = some (.cells #[d] 24 (0, 0))) (hu : TailR lo w u D) (hlo : lo ≤ p) (hz : ∃ A n c, d = .slice A n c) :
    Calls Tryz.prog 123 #[.pointer (some ⟨p, 0, none⟩), .pointer (some ⟨q, 0, none⟩)] w fun e w' => ∃ u' r, e = .returned r ∧ (D = [] ∧ r = d ∨ 0 < D.length ∧ TailI lo w r (D.getD 0 [])) ∧ w'.heap[p]? = some (.cells #[u'] 51 (0, 0)) ∧ TailR lo w' u' (D.drop 1) ∧ But p lo w w' := by
  have HU : Hid (TailR lo w u D) := hu
  obtain ⟨A, c, rfl, hf, hbd, hc⟩ := hu
  obtain ⟨Az, nz, cz, rfl⟩ := hz
  obtain ⟨p0, pf, pl⟩ := one_cellN hp
  obtain ⟨q0, qf, ql⟩ := one_cellN hq
  have HP : Hid (w.heap[p]? = some (.cells #[.slice A D.length c] 51 (0, 0)) ∧ lo ≤ p) := ⟨hp, hlo⟩
  by_cases h0 : D.length = 0
  · have e0 : D = [] := List.eq_nil_of_length_eq_zero h0
    subst e0
    simp only [List.length_nil] at p0
    have HP0 : Hid (w.heap[p]? = some (.cells #[.slice A 0 c] 51 (0, 0))) := hp
    clear hp hq hc HP
    go_enter Tryz.func123, Tryz.ntmps123
    go_wp2_with fail
    go_ret
    exact ⟨.slice A 0 c, _, rfl, (by first | exact Or.inl ⟨rfl, rfl⟩ | exact Or.inl ⟨trivial, rfl⟩), HP0.out, HU.out, But.refl _ _ _⟩
  · obtain ⟨b, off, rfl, hb, hcell⟩ := hc (by omega)
    clear hc
    obtain ⟨r, g0, hr⟩ := hcell 0 (by omega)
    rw [Nat.add_zero] at g0
    have HRR : Hid (TailI lo w r (D.getD 0 []) ∧ 0 < D.length) := ⟨hr, by omega⟩
    obtain ⟨Ar, cr, rfl, -, -, -⟩ := hr
    have HA : Hid (∀ A' n' c', n' = D.length - 1 → c' = c - 1 → (1 < D.length → A' = some ⟨b, off + 1, none⟩) → (w.setCell ⟨p, 0, none⟩ (.slice A' n' c')).heap[p]? = some (.cells #[.slice A' n' c'] 51 (0, 0)) ∧ TailR lo (w.setCell ⟨p, 0, none⟩ (.slice A' n' c')) (.slice A' n' c') (D.drop 1) ∧ But p lo w (w.setCell ⟨p, 0, none⟩ (.slice A' n' c'))) := fun A' n' c' e1 e2 e3 => by
      have hB := But.set w HP.out.2 0 (.slice A' n' c')
      refine ⟨by rw [box_set HP.out.1]; rfl, ?_, hB⟩
      refine TailR.below ⟨A', c', by rw [e1, List.length_drop], by rw [List.length_drop]; omega, by rw [List.length_drop]; omega, fun h1 => ?_⟩ hB.old
      rw [List.length_drop] at h1
      refine ⟨b, off + 1, e3 (by omega), hb, fun j hj => ?_⟩
      rw [List.length_drop] at hj
      rw [getDR_drop1, Nat.add_assoc]
      exact hcell (1 + j) (by omega)
    have hcc2 : c = 1 → ¬ 1 < D.length := fun e => by omega
    have hi1 : (1 : Int) ≤ (D.length : Int) := by omega
    have hi2 : (1 : Int) ≤ (c : Int) := by omega
    have hi3 : (0 : Int) < (D.length : Int) := by omega
    have hi4 : ((D.length : Int) == 0) = false := beq_false_of_ne (by omega)
    have hi5 : (D.length : Int) ≤ (c : Int) := by omega
    obtain ⟨rn, hrn⟩ : ∃ rn, rn = (D.getD 0 []).length := ⟨_, rfl⟩
    rw [← hrn] at g0 HRR
    clear hp hq hcell HU hrn
    by_cases hcc : c = 1
    · go_enter Tryz.func123, Tryz.ntmps123
      go_wp2_with fail
      go_ret
      obtain ⟨r1, r2, r3⟩ := HA.out (some ⟨b, off, none⟩) _ 0 rfl (by omega) (fun hh => absurd hh (hcc2 hcc))
      exact ⟨_, _, rfl, Or.inr ⟨HRR.out.2, HRR.out.1⟩, r1, r2, r3⟩
    · go_enter Tryz.func123, Tryz.ntmps123
      go_wp2_with fail
      go_ret
      obtain ⟨r1, r2, r3⟩ := HA.out _ _ _ rfl rfl (fun _ => rfl)
      exact ⟨_, _, rfl, Or.inr ⟨HRR.out.2, HRR.out.1⟩, r1, r2, r3⟩

end Go.Proofs.YtecpblabaelopaaGreatDoor

/- The recorder in memory; contract of its note. -/

namespace Go.Proofs.YtecpblabaelopaaGreatDoor
open Go.RowKit
set_option maxRecDepth 100000

theorem blk_ne {w : World} {b c : Nat} {cur cur' : Array Value} {t t' : TypeId} (h1 : w.heap[b]? = some (.cells cur t (0, 0))) (h2 : w.heap[c]? = some (.cells cur' t' (0, 0))) (h : t ≠ t') : b ≠ c := fun e => by
  subst e
  rw [h1] at h2
  simp at h2
  exact h h2.2
theorem own_ne3 {w : World} {lo n g size : Nat} {e e' : TypeId} {v : Value} {xs : List Value} {cur : Array Value} (h : w.ownsRow lo e size v n xs) (hg : w.heap[g]? = some (.cells cur e' (0, 0))) (hne : e ≠ e') : v.ownBlock ≠ some g := fun he => by
  rcases h.2 with ⟨rfl, _⟩ | ⟨g', cap, cur', rfl, _, hh, _⟩
  · simp [Value.ownBlock] at he
  · simp [Value.ownBlock] at he
    subst he
    exact blk_ne hh hg hne rfl
theorem But.owns {p lo : Nat} {w w' : World} (h : But p lo w w') {base : Nat} {e : TypeId} {size : Nat} {v : Value} {n : Nat} {xs : List Value} (k : w.ownsRow base e size v n xs) (hn : v.ownBlock ≠ some p) : w'.ownsRow base e size v n xs := by
  obtain ⟨h1, h2⟩ := k
  refine ⟨h1, ?_⟩
  rcases h2 with h2 | ⟨g, cap, cur, rfl, hg, hh, r⟩
  · exact Or.inl h2
  · exact Or.inr ⟨g, cap, cur, rfl, hg, by rw [h.kept g (lt_of_block hh) (fun e => hn (by simp [Value.ownBlock, e]))]; exact hh, r⟩
theorem But.at_ {p lo b : Nat} {w w' : World} {o : Obj} (h : But p lo w w') (hb : w.heap[b]? = some o) (hne : b ≠ p) : w'.heap[b]? = some o := by rw [h.kept b (lt_of_block hb) hne]; exact hb

def Mut (t : TypeId) : Prop := t = 101 ∨ t = 24 ∨ t = 51 ∨ t = 62
structure KpI (lo : Nat) (w w' : World) : Prop where
  old : Below lo w w'
  kept : ∀ (g : Nat) (cur : Array Value) (t : TypeId), ¬ Mut t → w.heap[g]? = some (.cells cur t (0, 0)) → w'.heap[g]? = some (.cells cur t (0, 0))
theorem KpI.refl (lo : Nat) (w : World) : KpI lo w w := ⟨Below.refl _ _, fun _ _ _ _ h => h⟩
theorem KpI.trans {lo : Nat} {w w1 w2 : World} (h : KpI lo w w1) (k : KpI lo w1 w2) : KpI lo w w2 := ⟨h.old.trans k.old, fun g cur t ht hg => k.kept g cur t ht (h.kept g cur t ht hg)⟩
theorem KpI.of_below {lo : Nat} {w w' : World} (h : Below w.heap.size w w') (hlo : lo ≤ w.heap.size) : KpI lo w w' := ⟨h.mono hlo, fun g cur t _ hg => by rw [h.block g (lt_of_block hg)]; exact hg⟩
theorem KpI.of_but {p lo : Nat} {w w' : World} {cur : Array Value} {t : TypeId} (h : But p lo w w') (hp : w.heap[p]? = some (.cells cur t (0, 0))) (ht : Mut t) : KpI lo w w' :=
  ⟨h.old, fun _ _ _ ht' hg => h.at_ hg (blk_ne hg hp (fun e => ht' (e ▸ ht)))⟩
theorem KpI.own {lo lo' n size : Nat} {w w' : World} {e : TypeId} {v : Value} {xs : List Value} (h : KpI lo w w') (ht : ¬ Mut e) (k : w.ownsRow lo' e size v n xs) : w'.ownsRow lo' e size v n xs := by
  obtain ⟨h1, h2⟩ := k
  refine ⟨h1, ?_⟩
  rcases h2 with h2 | ⟨g, cap, cur, rfl, hg, hh, r⟩
  · exact Or.inl h2
  · exact Or.inr ⟨g, cap, cur, rfl, hg, h.kept g cur e ht hh, r⟩
theorem mutI : ¬ Mut 3 := by unfold Mut; decide
theorem mutM : ¬ Mut 37 := by unfold Mut; decide
theorem mutT : ¬ Mut 27 := by unfold Mut; decide
theorem mutW : ¬ Mut 53 := by unfold Mut; decide
theorem OwnI.kp {lo lo' : Nat} {w w' : World} {v : Value} {l : List Int} (k : OwnI w lo' v l) (h : KpI lo w w') : OwnI w' lo' v l := h.own mutI k
theorem OwnM.kp {lo lo' : Nat} {w w' : World} {rv mv ov : Value} {m : Mach} (k : OwnM w lo' rv mv ov m) (h : KpI lo w w') : OwnM w' lo' rv mv ov m := ⟨k.regs.kp h, k.mem.kp h, k.out.kp h, k.rm, k.ro, k.mo⟩

def DataOk (w : World) (lo : Nat) (v : Value) (l : List Int) : Prop := TailI lo w v l ∨ OwnI w lo v l
theorem DataOk.kp {lo : Nat} {w w' : World} {v : Value} {l : List Int} (k : DataOk w lo v l) (h : KpI lo w w') : DataOk w' lo v l := by
  rcases k with k | k
  · exact Or.inl (k.below h.old)
  · exact Or.inr (k.kp h)
theorem DataOk.at {lo : Nat} {w : World} {v : Value} {l : List Int} (k : DataOk w lo v l) (hlo : lo ≤ w.heap.size) (hl : l.length * 8 ≤ 140737488351232) : IntsAt w v l := by
  rcases k with k | k
  · exact k.at hlo
  · exact OwnI.at k hl
theorem DataOk.fits {lo : Nat} {w : World} {v : Value} {l : List Int} (k : DataOk w lo v l) : Fits v := by
  rcases k with k | k
  · exact k.fits
  · exact ownI_fits k
structure OwnV (w : World) (lo : Nat) (v : Value) (R : List (Ev × Value)) : Prop where
  row : w.ownsRow lo 62 3 v R.length (flat R)
  data : ∀ p ∈ R, DataOk w lo p.2 p.1.data
theorem row_shape {w : World} {lo n size : Nat} {e : TypeId} {v : Value} {xs : List Value} (h : w.ownsRow lo e size v n xs) : ∃ A c, v = .slice A n c := by
  rcases h.2 with ⟨rfl, h0⟩ | ⟨g, cap, cur, rfl, _⟩
  · exact ⟨none, 0, by rw [h0]⟩
  · exact ⟨_, _, rfl⟩
theorem OwnV.nil (w : World) (lo : Nat) : OwnV w lo (.slice none 0 0) [] := ⟨World.ownsRow_nil _ _ _ _, fun p hp => by simp at hp⟩
theorem OwnV.shape {w : World} {lo : Nat} {v : Value} {R : List (Ev × Value)} (h : OwnV w lo v R) : ∃ A c, v = .slice A R.length c := by
  rcases h.row.2 with ⟨rfl, h0⟩ | ⟨g, cap, cur, rfl, _⟩
  · exact ⟨none, 0, by rw [h0]⟩
  · exact ⟨_, _, rfl⟩
theorem OwnV.below {w w' : World} {lo : Nat} {v : Value} {R : List (Ev × Value)} (h : OwnV w lo v R) (hb : Below w.heap.size w w') (hlo : lo ≤ w.heap.size) : OwnV w' lo v R := ⟨ownsRow_below h.row hb, fun p hp => (h.data p hp).kp (KpI.of_below hb hlo)⟩
theorem OwnV.but {w w' : World} {lo p : Nat} {v : Value} {R : List (Ev × Value)} {cur : Array Value} {t : TypeId} (h : OwnV w lo v R) (hB : But p lo w w') (hp : w.heap[p]? = some (.cells cur t (0, 0))) (ht : Mut t) (ht2 : 62 ≠ t) : OwnV w' lo v R :=
  ⟨hB.owns h.row (own_ne3 h.row hp ht2), fun q hq => (h.data q hq).kp (KpI.of_but hB hp ht)⟩
theorem OwnV.evs {w : World} {lo : Nat} {v : Value} {R : List (Ev × Value)} (h : OwnV w lo v R) (hlo : lo ≤ w.heap.size) (hl : R.length ≤ 9000) (hd : ∀ p ∈ R, p.1.data.length ≤ 1000) : EvsF w v (R.map Prod.fst) := by
  have hat : ∀ g cap, v = .slice (some ⟨g, 0, none⟩) R.length cap → (∀ j, j < R.length * 3 → w.cell? ⟨g, j, none⟩ = (flat R)[j]?) := fun g cap e j hj => by
    subst e
    exact h.row.cellAt j hj
  refine ⟨?_, ?_⟩
  · rcases h.row.2 with ⟨rfl, h0⟩ | ⟨g, cap, cur, rfl, _, hh, _⟩
    · exact ⟨none, 0, by simp [h0], by simp [h0], fun h => by simp [h0] at h⟩
    · refine ⟨some ⟨g, 0, none⟩, cap, by simp, by simp; omega, fun h0 => ⟨g, 0, rfl, lt_of_block hh, fun j hj => ?_⟩⟩
      simp at hj
      obtain ⟨f0, f1, f2⟩ := flat_get R j hj
      have hg : (R.map Prod.fst).getD j noEv = R[j].1 := by simp [List.getD, hj]
      rw [hg, Nat.zero_add]
      have hm : R[j] ∈ R := List.getElem_mem hj
      refine ⟨(hat g cap rfl _ (by omega)).trans f0, (hat g cap rfl _ (by omega)).trans f1, R[j].2, (hat g cap rfl _ (by omega)).trans f2, (h.data _ hm).at hlo (by have := hd _ hm; omega)⟩
  · intro b off c e j hj u hu
    simp at hj
    obtain ⟨f0, f1, f2⟩ := flat_get R j hj
    rcases h.row.2 with ⟨e0, h0⟩ | ⟨g, cap, cur, e2, _, hh, _⟩
    · rw [e] at e0
      simp at e0
    · have e3 := e.symm.trans e2
      simp only [Value.slice.injEq, Option.some.injEq, Addr.mk.injEq] at e3
      obtain ⟨⟨rfl, rfl, -⟩, -, rfl⟩ := e3
      rw [Nat.zero_add, hat b c e2 _ (by omega), f2] at hu
      simp only [Option.some.injEq] at hu
      subst hu
      exact (h.data _ (List.getElem_mem hj)).fits

structure RcB where
  p : Nat
  pv : Nat
  qv : Nat
  pb : Nat
  qb : Nat
  pd : Nat
  qd : Nat
structure RcAt (w : World) (lo : Nat) (g : RcB) (iv zv : Value) (x : Wd) (va cm bl : Nat) (due : Int) (R : List (Ev × Value)) : Prop where
  box : ∃ ev, w.heap[g.p]? = some (.cells #[iv, nxI g.pv g.qv, nxB g.pb g.qb, nxI g.pd g.qd, .int .i64 due, ev] 101 (0, 0)) ∧ OwnV w lo ev R
  bv : ∃ u, w.heap[g.pv]? = some (.cells #[u] 24 (0, 0)) ∧ TailI lo w u (x.values.drop va)
  bb : ∃ u, w.heap[g.pb]? = some (.cells #[u] 51 (0, 0)) ∧ TailR lo w u (x.blocks.drop cm)
  bd : ∃ u, w.heap[g.pd]? = some (.cells #[u] 24 (0, 0)) ∧ TailI lo w u (x.delays.drop bl)
  cv : w.heap[g.qv]? = some (.cells #[.int .i64 0] 3 (0, 0))
  cb : w.heap[g.qb]? = some (.cells #[zv] 24 (0, 0))
  cd : w.heap[g.qd]? = some (.cells #[.int .i64 0] 3 (0, 0))
  irqs : TailI lo w iv x.irqs
  zero : OwnI w lo zv zero16
  le : lo ≤ g.p ∧ lo ≤ g.pv ∧ lo ≤ g.pb ∧ lo ≤ g.pd
  ne : g.pv ≠ g.pd ∧ g.pv ≠ g.qb ∧ g.pd ≠ g.qb
  lw : lo ≤ w.heap.size
theorem RcAt.below {w w' : World} {lo : Nat} {g : RcB} {iv zv : Value} {x : Wd} {va cm bl : Nat} {due : Int} {R : List (Ev × Value)} (h : RcAt w lo g iv zv x va cm bl due R) (hb : Below w.heap.size w w') : RcAt w' lo g iv zv x va cm bl due R := by
  have hB := hb.mono h.lw
  have at_ : ∀ {b : Nat} {o : Obj}, w.heap[b]? = some o → w'.heap[b]? = some o := fun hbo => by rw [hb.block _ (lt_of_block hbo)]; exact hbo
  obtain ⟨ev, e1, e2⟩ := h.box
  obtain ⟨u1, v1, v2⟩ := h.bv
  obtain ⟨u2, b1, b2⟩ := h.bb
  obtain ⟨u3, d1, d2⟩ := h.bd
  exact ⟨⟨ev, at_ e1, e2.below hb h.lw⟩, ⟨u1, at_ v1, v2.below hB⟩, ⟨u2, at_ b1, b2.below hB⟩, ⟨u3, at_ d1, d2.below hB⟩, at_ h.cv, at_ h.cb, at_ h.cd, h.irqs.below hB, OwnI.below h.zero hb, h.le, h.ne, Nat.le_trans h.lw hb.size⟩
theorem RcAt.tookV {w w' : World} {lo : Nat} {g : RcB} {iv zv u' : Value} {x : Wd} {va cm bl : Nat} {due : Int} {R : List (Ev × Value)} (h : RcAt w lo g iv zv x va cm bl due R) (hB : But g.pv lo w w') (h1 : w'.heap[g.pv]? = some (.cells #[u'] 24 (0, 0))) (h2 : TailI lo w' u' ((x.values.drop va).drop 1)) : RcAt w' lo g iv zv x (va + 1) cm bl due R ∧ KpI lo w w' := by
  obtain ⟨ev, e1, e2⟩ := h.box
  obtain ⟨u1, v1, v2⟩ := h.bv
  obtain ⟨u2, b1, b2⟩ := h.bb
  obtain ⟨u3, d1, d2⟩ := h.bd
  have hK : KpI lo w w' := KpI.of_but hB v1 (by unfold Mut; decide)
  rw [List.drop_drop] at h2
  exact ⟨⟨⟨ev, hB.at_ e1 (blk_ne e1 v1 (by decide)), e2.but hB v1 (by unfold Mut; decide) (by decide)⟩, ⟨u', h1, h2⟩, ⟨u2, hB.at_ b1 (blk_ne b1 v1 (by decide)), b2.below hB.old⟩, ⟨u3, hB.at_ d1 h.ne.1.symm, d2.below hB.old⟩, hK.kept _ _ _ mutI h.cv, hB.at_ h.cb h.ne.2.1.symm, hK.kept _ _ _ mutI h.cd, h.irqs.below hB.old, OwnI.kp h.zero hK, h.le, h.ne, Nat.le_trans h.lw hB.old.size⟩, hK⟩
theorem RcAt.tookD {w w' : World} {lo : Nat} {g : RcB} {iv zv u' : Value} {x : Wd} {va cm bl : Nat} {due : Int} {R : List (Ev × Value)} (h : RcAt w lo g iv zv x va cm bl due R) (hB : But g.pd lo w w') (h1 : w'.heap[g.pd]? = some (.cells #[u'] 24 (0, 0))) (h2 : TailI lo w' u' ((x.delays.drop bl).drop 1)) : RcAt w' lo g iv zv x va cm (bl + 1) due R ∧ KpI lo w w' := by
  obtain ⟨ev, e1, e2⟩ := h.box
  obtain ⟨u1, v1, v2⟩ := h.bv
  obtain ⟨u2, b1, b2⟩ := h.bb
  obtain ⟨u3, d1, d2⟩ := h.bd
  have hK : KpI lo w w' := KpI.of_but hB d1 (by unfold Mut; decide)
  rw [List.drop_drop] at h2
  exact ⟨⟨⟨ev, hB.at_ e1 (blk_ne e1 d1 (by decide)), e2.but hB d1 (by unfold Mut; decide) (by decide)⟩, ⟨u1, hB.at_ v1 h.ne.1, v2.below hB.old⟩, ⟨u2, hB.at_ b1 (blk_ne b1 d1 (by decide)), b2.below hB.old⟩, ⟨u', h1, h2⟩, hK.kept _ _ _ mutI h.cv, hB.at_ h.cb h.ne.2.2.symm, hK.kept _ _ _ mutI h.cd, h.irqs.below hB.old, OwnI.kp h.zero hK, h.le, h.ne, Nat.le_trans h.lw hB.old.size⟩, hK⟩
theorem RcAt.tookB {w w' : World} {lo : Nat} {g : RcB} {iv zv u' : Value} {x : Wd} {va cm bl : Nat} {due : Int} {R : List (Ev × Value)} (h : RcAt w lo g iv zv x va cm bl due R) (hB : But g.pb lo w w') (h1 : w'.heap[g.pb]? = some (.cells #[u'] 51 (0, 0))) (h2 : TailR lo w' u' ((x.blocks.drop cm).drop 1)) : RcAt w' lo g iv zv x va (cm + 1) bl due R ∧ KpI lo w w' := by
  obtain ⟨ev, e1, e2⟩ := h.box
  obtain ⟨u1, v1, v2⟩ := h.bv
  obtain ⟨u2, b1, b2⟩ := h.bb
  obtain ⟨u3, d1, d2⟩ := h.bd
  have hK : KpI lo w w' := KpI.of_but hB b1 (by unfold Mut; decide)
  rw [List.drop_drop] at h2
  exact ⟨⟨⟨ev, hB.at_ e1 (blk_ne e1 b1 (by decide)), e2.but hB b1 (by unfold Mut; decide) (by decide)⟩, ⟨u1, hB.at_ v1 (blk_ne v1 b1 (by decide)), v2.below hB.old⟩, ⟨u', h1, h2⟩, ⟨u3, hB.at_ d1 (blk_ne d1 b1 (by decide)), d2.below hB.old⟩, hK.kept _ _ _ mutI h.cv, hB.at_ h.cb (blk_ne h.cb b1 (by decide)), hK.kept _ _ _ mutI h.cd, h.irqs.below hB.old, OwnI.kp h.zero hK, h.le, h.ne, Nat.le_trans h.lw hB.old.size⟩, hK⟩
theorem RcAt.stored {w w' : World} {lo : Nat} {g : RcB} {iv zv ev : Value} {x : Wd} {va cm bl : Nat} {due due' : Int} {R R' : List (Ev × Value)} (h : RcAt w lo g iv zv x va cm bl due R) (hB : But g.p lo w w') (h1 : w'.heap[g.p]? = some (.cells #[iv, nxI g.pv g.qv, nxB g.pb g.qb, nxI g.pd g.qd, .int .i64 due', ev] 101 (0, 0))) (h2 : OwnV w' lo ev R') : RcAt w' lo g iv zv x va cm bl due' R' ∧ KpI lo w w' := by
  obtain ⟨ev0, e1, e2⟩ := h.box
  obtain ⟨u1, v1, v2⟩ := h.bv
  obtain ⟨u2, b1, b2⟩ := h.bb
  obtain ⟨u3, d1, d2⟩ := h.bd
  have hK : KpI lo w w' := KpI.of_but hB e1 (by unfold Mut; decide)
  exact ⟨⟨⟨ev, h1, h2⟩, ⟨u1, hB.at_ v1 (blk_ne v1 e1 (by decide)), v2.below hB.old⟩, ⟨u2, hB.at_ b1 (blk_ne b1 e1 (by decide)), b2.below hB.old⟩, ⟨u3, hB.at_ d1 (blk_ne d1 e1 (by decide)), d2.below hB.old⟩, hK.kept _ _ _ mutI h.cv, hB.at_ h.cb (blk_ne h.cb e1 (by decide)), hK.kept _ _ _ mutI h.cd, h.irqs.below hB.old, OwnI.kp h.zero hK, h.le, h.ne, Nat.le_trans h.lw hB.old.size⟩, hK⟩
theorem RcAt.setDue {w : World} {lo : Nat} {g : RcB} {iv zv : Value} {x : Wd} {va cm bl : Nat} {due : Int} {R : List (Ev × Value)} (h : RcAt w lo g iv zv x va cm bl due R) (d : Int) : RcAt (w.setCell ⟨g.p, 4, none⟩ (.int .i64 d)) lo g iv zv x va cm bl d R ∧ KpI lo w (w.setCell ⟨g.p, 4, none⟩ (.int .i64 d)) := by
  obtain ⟨ev0, e1, e2⟩ := h.box
  have hB := But.set w h.le.1 4 (.int .i64 d)
  exact h.stored hB (by rw [box_set e1]; rfl) (e2.but hB e1 (by unfold Mut; decide) (by decide))
theorem RcAt.noted {w w1 : World} {lo : Nat} {g : RcB} {iv zv ev ev' d : Value} {x : Wd} {va cm bl : Nat} {due : Int} {R : List (Ev × Value)} {y : Ev} {o : Obj} (h : RcAt w lo g iv zv x va cm bl due R) (he : w.heap[g.p]? = some (.cells #[iv, nxI g.pv g.qv, nxB g.pb g.qb, nxI g.pd g.qd, .int .i64 due, ev] 101 (0, 0))) (hd : DataOk w lo d y.data)
    (hg : (w.alloc o).grownBy w1 ev.ownBlock) (ho : w1.ownsRow lo 62 3 ev' (R.length + 1) (flat R ++ [.int .i64 y.at_, .int .i64 y.kind, d])) :
    w1.heap[g.p]? = some (.cells #[iv, nxI g.pv g.qv, nxB g.pb g.qb, nxI g.pd g.qd, .int .i64 due, ev] 101 (0, 0)) ∧ RcAt (w1.setCell ⟨g.p, 5, none⟩ ev') lo g iv zv x va cm bl due (R ++ [(y, d)]) ∧ KpI lo w (w1.setCell ⟨g.p, 5, none⟩ ev') := by
  obtain ⟨ev0, e1, e2⟩ := h.box
  rw [he] at e1
  simp only [Option.some.injEq, Obj.cells.injEq, Array.mk.injEq, List.cons.injEq, true_and, and_true] at e1
  subst e1
  have hA : Below w.heap.size w (w.alloc o) := below_alloc w o
  have hr : (w.alloc o).ownsRow lo 62 3 ev R.length (flat R) := ownsRow_below e2.row hA
  have keep : ∀ (b : Nat) (cur : Array Value) (t : TypeId), 62 ≠ t → w.heap[b]? = some (.cells cur t (0, 0)) → w1.heap[b]? = some (.cells cur t (0, 0)) := fun b cur t ht hb => by
    have hb' : (w.alloc o).heap[b]? = some (.cells cur t (0, 0)) := by rw [hA.block b (lt_of_block hb)]; exact hb
    rw [hg.block b (lt_of_block hb') (fun e => own_ne3 hr hb' ht e.symm)]
    exact hb'
  have hB : Below lo w w1 := (hA.mono h.lw).grown hg (Nat.le_trans h.lw hA.size) (fun k hk => (World.ownsRow.lt hr k hk).1)
  have hK1 : KpI lo w w1 := ⟨hB, fun b cur t ht hb => keep b cur t (fun e => ht (by subst e; unfold Mut; decide)) hb⟩
  have hev : OwnV w1 lo ev' (R ++ [(y, d)]) := by
    refine ⟨by rw [flat_append]; simpa using ho, fun q hq => ?_⟩
    simp at hq
    rcases hq with hq | rfl
    · exact (e2.data q hq).kp hK1
    · exact hd.kp hK1
  have hp1 := keep _ _ _ (by decide) he
  have hS := But.set w1 h.le.1 5 ev'
  have hK2 : KpI lo w1 (w1.setCell ⟨g.p, 5, none⟩ ev') := KpI.of_but hS hp1 (by unfold Mut; decide)
  obtain ⟨u1, v1, v2⟩ := h.bv
  obtain ⟨u2, b1, b2⟩ := h.bb
  obtain ⟨u3, d1, d2⟩ := h.bd
  have hall : ∀ (b : Nat) (cur : Array Value) (t : TypeId), 62 ≠ t → t ≠ 101 → w.heap[b]? = some (.cells cur t (0, 0)) → (w1.setCell ⟨g.p, 5, none⟩ ev').heap[b]? = some (.cells cur t (0, 0)) := fun b cur t h1 h2 hb => hS.at_ (keep b cur t h1 hb) (blk_ne (keep b cur t h1 hb) hp1 h2)
  have hBB := hB.trans hS.old
  refine ⟨hp1, ⟨⟨ev', by rw [box_set hp1]; rfl, hev.but hS hp1 (by unfold Mut; decide) (by decide)⟩, ⟨u1, hall _ _ _ (by decide) (by decide) v1, v2.below hBB⟩, ⟨u2, hall _ _ _ (by decide) (by decide) b1, b2.below hBB⟩, ⟨u3, hall _ _ _ (by decide) (by decide) d1, d2.below hBB⟩, hall _ _ _ (by decide) (by decide) h.cv, hall _ _ _ (by decide) (by decide) h.cb, hall _ _ _ (by decide) (by decide) h.cd, h.irqs.below hBB, (OwnI.kp h.zero hK1).kp hK2, h.le, h.ne, Nat.le_trans h.lw hBB.size⟩, hK1.trans hK2⟩

theorem six_cells {w : World} {b : Nat} {x0 x1 x2 x3 x4 x5 : Value} {t : TypeId} (h : w.heap[b]? = some (.cells #[x0, x1, x2, x3, x4, x5] t (0, 0))) :
    (w.cell? ⟨b, 0, none⟩ = some x0 ∧ w.cell? ⟨b, 1, none⟩ = some x1 ∧ w.cell? ⟨b, 2, none⟩ = some x2 ∧ w.cell? ⟨b, 3, none⟩ = some x3 ∧ w.cell? ⟨b, 4, none⟩ = some x4 ∧ w.cell? ⟨b, 5, none⟩ = some x5) ∧ (∀ j, w.frozen? ⟨b, j, none⟩ = false) ∧ b < w.heap.size := by
  refine ⟨⟨?_, ?_, ?_, ?_, ?_, ?_⟩, fun j => by simp [World.frozen?, h], lt_of_block h⟩ <;> simp [World.cell?, h]

set_option maxHeartbeats 2000000 in
theorem note_any (g : RcB) (lo : Nat) (iv zv : Value) (x : Wd) (va cm bl : Nat) (due : Int) (R : List (Ev × Value)) (a k : Int) (Ad : Option Addr) (nd cd : Nat) (l : List Int) (w : World) (h : RcAt w lo g iv zv x va cm bl due R) (hd : DataOk w lo (.slice Ad nd cd) l) (hR : R.length ≤ 9000) :
    Calls Tryz.prog 88 #[ptr g.p, .int .i64 a, .int .i64 k, .slice Ad nd cd] w fun e w' => e = .returned (.tuple #[]) ∧ RcAt w' lo g iv zv x va cm bl due (R ++ [(⟨a, k, l⟩, .slice Ad nd cd)]) ∧ KpI lo w w' := by
  obtain ⟨ev, e1, e2⟩ := h.box
  obtain ⟨Ae, ce, rfl⟩ := e2.shape
  obtain ⟨i3, hi3, hz30, hz31, hz32⟩ := info_parts infoEvent
  have H : Hid (RcAt w lo g iv zv x va cm bl due R ∧ w.heap[g.p]? = some (.cells #[iv, nxI g.pv g.qv, nxB g.pb g.qb, nxI g.pd g.qd, .int .i64 due, .slice Ae R.length ce] 101 (0, 0)) ∧ DataOk w lo (.slice Ad nd cd) l) := ⟨h, e1, hd⟩
  have HO : Hid (w.ownsRow lo 62 3 (.slice Ae R.length ce) R.length (flat R)) := e2.row
  have hlo := h.lw
  obtain ⟨⟨z0, z1, z2, z3, z4, z5⟩, zf, zl⟩ := six_cells e1
  obtain ⟨P, hP⟩ : ∃ P, P = g.p := ⟨_, rfl⟩
  rw [← hP] at z0 z1 z2 z3 z4 z5 zf zl ⊢
  have HP : Hid (P = g.p) := hP
  clear h hd e1 e2 hP
  go_enter Tryz.func88, Tryz.ntmps88
  go_wp2_with (first
    | (at_builtin; refine wpList_append_own_at _ rfl _ _ 58 rfl lo 62 i3 (.agg #[.int .i64 0, .int .i64 0, .slice none 0 0]) 3 40 Tryz.underlying58 hi3 hz30 hz31 hz32 rfl (by decide) (.slice Ae R.length ce) R.length (flat R) rfl (World.ownsRow.alloc HO.out _) ⟨w.heap.size, 0, none⟩ 1 1 [.int .i64 a, .int .i64 k, .slice Ad nd cd] rfl rfl (cell_three_new _ _ _ _ _) (by intro u hu; simp at hu; rcases hu with rfl | rfl | rfl <;> rfl) ?c3 ?c4 ?c5 ?_))
  case c3 => unfold maxLen; omega
  case c4 => omega
  case c5 => simp; omega
  intro v' w3 hown hgrow _ _
  obtain ⟨A', c', rfl⟩ := row_shape hown
  have hN := H.out.1.noted (y := ⟨a, k, l⟩) H.out.2.1 H.out.2.2 hgrow (by simpa using hown)
  rw [← HP.out] at hN
  have HN : Hid (RcAt (w3.setCell ⟨P, 5, none⟩ (.slice A' (R.length + 1) c')) lo g iv zv x va cm bl due (R ++ [(⟨a, k, l⟩, .slice Ad nd cd)]) ∧ KpI lo w (w3.setCell ⟨P, 5, none⟩ (.slice A' (R.length + 1) c'))) := hN.2
  clear z0 z1 z2 z3 z4 z5 zf zl
  obtain ⟨⟨z0, z1, z2, z3, z4, z5⟩, zf, zl⟩ := six_cells hN.1
  clear hN hown hgrow
  go_wp2_with fail
  go_end0
  exact ⟨rfl, HN.out⟩

end Go.Proofs.YtecpblabaelopaaGreatDoor

/- Contract of the recorder's ahead. -/

namespace Go.Proofs.YtecpblabaelopaaGreatDoor
open Go.RowKit
set_option maxRecDepth 100000

def irqE (irq : Bool) (k : Int) : List Ev := if irq = true then [⟨k, 1, []⟩] else []
theorem irqE_t (k : Int) : irqE true k = [⟨k, 1, []⟩] := rfl
theorem irqE_f (k : Int) : irqE false k = [] := rfl
theorem tailI_nil (lo : Nat) (w : World) : TailI lo w (.slice none 0 0) [] := ⟨none, 0, rfl, Nat.zero_le _, by simp, fun h => by simp at h⟩
theorem RcAt.six {w : World} {lo : Nat} {g : RcB} {iv zv : Value} {x : Wd} {va cm bl : Nat} {due : Int} {R : List (Ev × Value)} (h : RcAt w lo g iv zv x va cm bl due R) :
    (w.cell? ⟨g.p, 0, none⟩ = some iv ∧ w.cell? ⟨g.p, 1, none⟩ = some (nxI g.pv g.qv) ∧ w.cell? ⟨g.p, 2, none⟩ = some (nxB g.pb g.qb) ∧ w.cell? ⟨g.p, 3, none⟩ = some (nxI g.pd g.qd) ∧ w.cell? ⟨g.p, 4, none⟩ = some (.int .i64 due)) ∧ (∀ j, w.frozen? ⟨g.p, j, none⟩ = false) ∧ g.p < w.heap.size := by
  obtain ⟨ev, e1, _⟩ := h.box
  obtain ⟨⟨z0, z1, z2, z3, z4, _⟩, zf, zl⟩ := six_cells e1
  exact ⟨⟨z0, z1, z2, z3, z4⟩, zf, zl⟩

theorem blockNext (g : RcB) (lo : Nat) (iv zv : Value) (x : Wd) (va cm bl : Nat) (due : Int) (R : List (Ev × Value)) (w : World) (h : RcAt w lo g iv zv x va cm bl due R) (hx : WdMay x) :
    Calls Tryz.prog 123 #[.pointer (some ⟨g.pb, 0, none⟩), .pointer (some ⟨g.qb, 0, none⟩)] w fun e w' => ∃ Ab cb, e = .returned (.slice (some Ab) 16 cb) ∧ RcAt w' lo g iv zv x va (cm + 1) bl due R ∧ DataOk w' lo (.slice (some Ab) 16 cb) (x.blocks.getD cm zero16) ∧ KpI lo w w' := by
  obtain ⟨u, b1, b2⟩ := h.bb
  have hz := h.zero
  obtain ⟨Az, cz, ez⟩ := hz.shape
  refine (cloB_any g.pb g.qb lo u zv (x.blocks.drop cm) w b1 h.cb b2 h.le.2.2.1 ⟨_, _, _, ez⟩).mono ?_
  rintro e w' ⟨u', r, rfl, hr, h1, h2, hB⟩
  obtain ⟨hN, hK⟩ := h.tookB hB h1 h2
  have hlen := (hx.blk cm).1
  rcases hr with ⟨h0, hrz⟩ | ⟨h0, hT⟩
  · have e0 : x.blocks.getD cm zero16 = zero16 := by
      have : ¬ cm < x.blocks.length := fun e => by
        have := congrArg List.length h0
        simp at this
        omega
      simp [List.getD, this]
    have hz' := OwnI.kp hz hK
    obtain ⟨g', cap', e1, -⟩ := hz'.opened (by rw [zero16_len]; omega)
    refine ⟨⟨g', 0, none⟩, cap', by rw [hrz, e1, zero16_len], hN, Or.inr ?_, hK⟩
    rw [e0]
    have hz2 := hz'
    rw [e1, zero16_len] at hz2
    exact hz2
  · rw [List.length_drop] at h0
    have e0 : (x.blocks.drop cm).getD 0 [] = x.blocks.getD cm zero16 := by
      have hc : cm < x.blocks.length := by omega
      simp [List.getD, hc]
    rw [e0] at hT
    have hT' := hT.below hB.old
    obtain ⟨A, c, rfl, hf, hl, hc⟩ := hT
    rw [hlen] at hc hT' ⊢
    obtain ⟨b, off, rfl, -⟩ := hc (by omega)
    exact ⟨_, _, rfl, hN, Or.inl hT', hK⟩

set_option maxHeartbeats 2000000 in
theorem ahead_not (g : RcB) (lo : Nat) (iv zv : Value) (x : Wd) (va cm bl : Nat) (due k : Int) (R : List (Ev × Value)) (w : World) (h : RcAt w lo g iv zv x va cm bl due R) (hR : R.length ≤ 8997) (hd : due ≠ k) :
    Calls Tryz.prog 86 #[ptr g.p, .int .i64 k] w fun e w' => ∃ R', e = .returned (.tuple #[.bool (hasI x.irqs k), .slice none 0 0]) ∧ RcAt w' lo g iv zv x va cm bl due R' ∧ R'.map Prod.fst = R.map Prod.fst ++ irqE (hasI x.irqs k) k ∧ R'.length ≤ R.length + 1 ∧ KpI lo w w' := by
  have H : Hid (RcAt w lo g iv zv x va cm bl due R) := h
  have HC : Hid (Calls Tryz.prog 124 #[iv, .int .i64 k] w fun e w' => e = .returned (.bool (hasI x.irqs k)) ∧ w' = w) := Contains_any iv x.irqs k w (h.irqs.at h.lw)
  obtain ⟨Ai, ci, rfl, -, -, -⟩ := h.irqs
  obtain ⟨⟨z0, z1, z2, z3, z4⟩, zf, zl⟩ := h.six
  have d0 : (due != k) = true := by simpa using hd
  clear h hd
  revert HC
  cases hI : hasI x.irqs k with
  | false =>
    intro HC
    clear hI
    rw [irqE_f, List.append_nil]
    go_enter Tryz.func86, Tryz.ntmps86
    go_wp2_with fail
    refine HC.out.mono ?_
    rintro e w' ⟨rfl, hw'⟩
    rw [hw']
    clear hw' w' HC
    go_wp2_with fail
    go_ret2
    exact ⟨R, rfl, H.out, rfl, by omega, KpI.refl _ _⟩
  | true =>
    intro HC
    clear hI
    rw [irqE_t]
    go_enter Tryz.func86, Tryz.ntmps86
    go_wp2_with fail
    refine HC.out.mono ?_
    rintro e w' ⟨rfl, hw'⟩
    rw [hw']
    clear hw' w' HC
    go_wp2_with fail
    refine (note_any g lo _ zv x va cm bl due R k 1 none 0 0 [] w H.out (Or.inl (tailI_nil _ _)) (by omega)).mono ?_
    rintro e w1 ⟨rfl, h1, hk1⟩
    have H1 : Hid (RcAt w1 lo g (.slice Ai x.irqs.length ci) zv x va cm bl due (R ++ [(⟨k, 1, []⟩, .slice none 0 0)]) ∧ KpI lo w w1) := ⟨h1, hk1⟩
    clear z0 z1 z2 z3 z4 zf zl
    obtain ⟨⟨z0, z1, z2, z3, z4⟩, zf, zl⟩ := h1.six
    clear h1 hk1
    go_wp2_with fail
    go_ret2
    exact ⟨_, rfl, H1.out.1, by simp, by simp, H1.out.2⟩

set_option maxHeartbeats 2000000 in
theorem ahead_due (g : RcB) (lo : Nat) (iv zv : Value) (x : Wd) (va cm bl : Nat) (k : Int) (R : List (Ev × Value)) (w : World) (h : RcAt w lo g iv zv x va cm bl k R) (hx : WdMay x) (hR : R.length ≤ 8997) :
    Calls Tryz.prog 86 #[ptr g.p, .int .i64 k] w fun e w' => ∃ R' Ab cb, e = .returned (.tuple #[.bool (hasI x.irqs k), .slice (some Ab) 16 cb]) ∧ RcAt w' lo g iv zv x va (cm + 1) bl k R' ∧ DataOk w' lo (.slice (some Ab) 16 cb) (x.blocks.getD cm zero16) ∧ R'.map Prod.fst = R.map Prod.fst ++ irqE (hasI x.irqs k) k ++ [⟨k, 2, x.blocks.getD cm zero16⟩] ∧ R'.length ≤ R.length + 2 ∧ KpI lo w w' := by
  have H : Hid (RcAt w lo g iv zv x va cm bl k R) := h
  have HC : Hid (Calls Tryz.prog 124 #[iv, .int .i64 k] w fun e w' => e = .returned (.bool (hasI x.irqs k)) ∧ w' = w) := Contains_any iv x.irqs k w (h.irqs.at h.lw)
  obtain ⟨Ai, ci, rfl, -, -, -⟩ := h.irqs
  obtain ⟨⟨z0, z1, z2, z3, z4⟩, zf, zl⟩ := h.six
  have HX : Hid (WdMay x) := hx
  clear h hx
  revert HC
  cases hI : hasI x.irqs k with
  | false =>
    intro HC
    clear hI
    rw [irqE_f, List.append_nil]
    go_enter Tryz.func86, Tryz.ntmps86
    go_wp2_with fail
    refine HC.out.mono ?_
    rintro e w' ⟨rfl, hw'⟩
    rw [hw']
    clear hw' w' HC
    go_wp2_with fail
    refine (blockNext g lo _ zv x va cm bl k R w H.out HX.out).mono ?_
    rintro e w2 ⟨Ab, cb, rfl, h2, hd2, hk2⟩
    have H2 : Hid (RcAt w2 lo g (.slice Ai x.irqs.length ci) zv x va (cm + 1) bl k R ∧ DataOk w2 lo (.slice (some Ab) 16 cb) (x.blocks.getD cm zero16) ∧ KpI lo w w2) := ⟨h2, hd2, hk2⟩
    clear z0 z1 z2 z3 z4 zf zl
    obtain ⟨⟨z0, z1, z2, z3, z4⟩, zf, zl⟩ := h2.six
    clear h2 hd2 hk2
    go_wp2_with fail
    refine (note_any g lo _ zv x va (cm + 1) bl k R k 2 (some Ab) 16 cb (x.blocks.getD cm zero16) w2 H2.out.1 H2.out.2.1 (by omega)).mono ?_
    rintro e w3 ⟨rfl, h3, hk3⟩
    have H3 : Hid (RcAt w3 lo g (.slice Ai x.irqs.length ci) zv x va (cm + 1) bl k (R ++ [(⟨k, 2, x.blocks.getD cm zero16⟩, .slice (some Ab) 16 cb)]) ∧ DataOk w3 lo (.slice (some Ab) 16 cb) (x.blocks.getD cm zero16) ∧ KpI lo w w3) := ⟨h3, H2.out.2.1.kp hk3, H2.out.2.2.trans hk3⟩
    clear z0 z1 z2 z3 z4 zf zl h3 hk3
    go_wp2_with fail
    go_ret2
    exact ⟨_, _, _, rfl, H3.out.1, H3.out.2.1, by simp, by simp, H3.out.2.2⟩
  | true =>
    intro HC
    clear hI
    rw [irqE_t]
    go_enter Tryz.func86, Tryz.ntmps86
    go_wp2_with fail
    refine HC.out.mono ?_
    rintro e w' ⟨rfl, hw'⟩
    rw [hw']
    clear hw' w' HC
    go_wp2_with fail
    refine (note_any g lo _ zv x va cm bl k R k 1 none 0 0 [] w H.out (Or.inl (tailI_nil _ _)) (by omega)).mono ?_
    rintro e w1 ⟨rfl, h1, hk1⟩
    have H1 : Hid (RcAt w1 lo g (.slice Ai x.irqs.length ci) zv x va cm bl k (R ++ [(⟨k, 1, []⟩, .slice none 0 0)]) ∧ KpI lo w w1) := ⟨h1, hk1⟩
    clear z0 z1 z2 z3 z4 zf zl
    obtain ⟨⟨z0, z1, z2, z3, z4⟩, zf, zl⟩ := h1.six
    clear h1 hk1
    go_wp2_with fail
    refine (blockNext g lo _ zv x va cm bl k _ w1 H1.out.1 HX.out).mono ?_
    rintro e w2 ⟨Ab, cb, rfl, h2, hd2, hk2⟩
    have H2 : Hid (RcAt w2 lo g (.slice Ai x.irqs.length ci) zv x va (cm + 1) bl k (R ++ [(⟨k, 1, []⟩, .slice none 0 0)]) ∧ DataOk w2 lo (.slice (some Ab) 16 cb) (x.blocks.getD cm zero16) ∧ KpI lo w w2) := ⟨h2, hd2, H1.out.2.trans hk2⟩
    clear z0 z1 z2 z3 z4 zf zl
    obtain ⟨⟨z0, z1, z2, z3, z4⟩, zf, zl⟩ := h2.six
    clear h2 hd2 hk2
    go_wp2_with fail
    refine (note_any g lo _ zv x va (cm + 1) bl k _ k 2 (some Ab) 16 cb (x.blocks.getD cm zero16) w2 H2.out.1 H2.out.2.1 (by simp; omega)).mono ?_
    rintro e w3 ⟨rfl, h3, hk3⟩
    have H3 : Hid (RcAt w3 lo g (.slice Ai x.irqs.length ci) zv x va (cm + 1) bl k (R ++ [(⟨k, 1, []⟩, .slice none 0 0)] ++ [(⟨k, 2, x.blocks.getD cm zero16⟩, .slice (some Ab) 16 cb)]) ∧ DataOk w3 lo (.slice (some Ab) 16 cb) (x.blocks.getD cm zero16) ∧ KpI lo w w3) := ⟨h3, H2.out.2.1.kp hk3, H2.out.2.2.trans hk3⟩
    clear z0 z1 z2 z3 z4 zf zl h3 hk3
    go_wp2_with fail
    go_ret2
    exact ⟨_, _, _, rfl, H3.out.1, H3.out.2.1, by simp, by simp, H3.out.2.2⟩

end Go.Proofs.YtecpblabaelopaaGreatDoor
