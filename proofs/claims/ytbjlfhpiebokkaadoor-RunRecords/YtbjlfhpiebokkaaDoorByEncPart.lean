/- Contracts of evlog.appendData and evlog.Encode. -/
import Derived.Test.YtbjlfhpiebokkaaDoorByRunPart
import Derived.Test.YtbjlfhpiebokkaaDoorBySevPart
import Derived.Test.YtbjlfhpiebokkaaDoorOpenIPart
import Derived.Test.YtbjlfhpiebokkaaDoorMadeZPart
namespace Go.Proofs.YtbjlfhpiebokkaaDoor
open Go.RowKit
set_option maxRecDepth 100000

def Fits (u : Value) : Prop := ∃ A n c, u = .slice A n c ∧ n ≤ c
structure EvsF (w : World) (v : Value) (L : List Ev) : Prop where
  at_ : EvsAt w v L
  fit : ∀ b off c, v = .slice (some ⟨b, off, none⟩) L.length c → ∀ j, j < L.length → ∀ u, w.cell? ⟨b, off + j * 3 + 2, none⟩ = some u → Fits u
theorem EvsF.below {w w' : World} {v : Value} {L : List Ev} (h : EvsF w v L) (hB : Below w.heap.size w w') : EvsF w' v L := by
  refine ⟨h.at_.below hB, fun b off c e j hj u hu => h.fit b off c e j hj u ?_⟩
  obtain ⟨A, c', e', _, hc⟩ := h.at_
  obtain ⟨b', off', e2, hlt, _⟩ := hc (by omega)
  rw [e] at e'
  simp only [Value.slice.injEq] at e'
  have e3 := e'.1.trans e2
  simp only [Option.some.injEq, Addr.mk.injEq] at e3
  obtain ⟨rfl, rfl, -⟩ := e3
  rw [← hu]
  exact (hB.cell (p := ⟨b, off + j * 3 + 2, none⟩) hlt).symm

def prevAt (L : List Ev) (k : Nat) : Int := if k = 0 then 0 else (L.getD (k - 1) noEv).at_
theorem chk_zero {L : List Ev} (h : chkNo L = 0) : L.length ≤ 1000 ∧ ∀ k, k < L.length → verdict L k = 0 := by
  by_cases h1 : 1000 < L.length
  · simp [chkNo, h1] at h
  · refine ⟨by omega, ?_⟩
    have h0 : chk L 0 = 0 := by simpa [chkNo, h1] using h
    have hall : ∀ k, k ≤ L.length → chk L k = 0 := by
      intro k
      induction k with
      | zero => intro _; exact h0
      | succ k ih =>
        intro hk
        have := ih (by omega)
        by_cases hv : verdict L k = 0
        · rw [← chk_ok (by omega) hv]; exact this
        · rw [chk_no (by omega) hv] at this; exact absurd this hv
    intro k hk
    by_cases hv : verdict L k = 0
    · exact hv
    · have := hall k (by omega)
      rw [chk_no hk hv] at this
      exact absurd this hv
theorem ok_at {L : List Ev} (h : chkNo L = 0) (k : Nat) (hk : k < L.length) : evNo (L.getD k noEv) = 0 ∧ 0 ≤ prevAt L k ∧ prevAt L k ≤ (L.getD k noEv).at_ := by
  obtain ⟨_, hv⟩ := chk_zero h
  have he := verdict_ev (hv k hk)
  refine ⟨he, ?_⟩
  rcases k with _ | j
  · simp only [prevAt, if_pos]
    exact ⟨Int.le_refl 0, (evNo_bd he).2.1.1⟩
  · have hj := verdict_ev (hv j (by omega))
    have hb := hv (j + 1) hk
    unfold verdict at hb
    rw [if_pos he, if_neg (by omega), Nat.add_sub_cancel] at hb
    have hbb : behind (L.getD (j + 1) noEv) (L.getD j noEv) = true := by
      cases e : behind (L.getD (j + 1) noEv) (L.getD j noEv) with
      | true => rfl
      | false => rw [e] at hb; simp at hb
    have h1 := evNo_bd he
    have h2 := evNo_bd hj
    simp only [prevAt, if_neg (show ¬ j + 1 = 0 by omega), Nat.add_sub_cancel]
    unfold behind at hbb
    have hbb := of_decide_eq_true hbb
    exact ⟨h2.2.1.1, by omega⟩
theorem prevAt_succ (L : List Ev) (k : Nat) : prevAt L (k + 1) = (L.getD k noEv).at_ := by simp [prevAt]

theorem zigs_byte {z : Int} : ∀ x ∈ zigs z, 0 ≤ x ∧ x ≤ 255 := by
  unfold zigs
  split <;> exact sevens_byte
theorem runsB_byte : ∀ (l : List Int) (last : Int) (run : Nat), ∀ x ∈ runsB last run l, 0 ≤ x ∧ x ≤ 255
  | [], _, _, x, hx => by simp [runsB] at hx
  | [y], last, run, x, hx => by
    simp only [runsB, List.mem_append] at hx
    rcases hx with hx | hx
    · exact sevens_byte x hx
    · exact zigs_byte x hx
  | y :: z :: t, last, run, x, hx => by
    by_cases h : z = y
    · simp only [runsB, if_pos h] at hx
      exact runsB_byte (z :: t) _ _ x hx
    · simp only [runsB, if_neg h, List.mem_append] at hx
      rcases hx with (hx | hx) | hx
      · exact sevens_byte x hx
      · exact zigs_byte x hx
      · exact runsB_byte (z :: t) _ _ x hx
theorem dataB_byte (y : Ev) : ∀ x ∈ dataB y, 0 ≤ x ∧ x ≤ 255 := by
  unfold dataB
  split
  · exact runsB_byte _ _ _
  · split
    · exact zigs_byte
    · simp
theorem encFrom_byte : ∀ (L : List Ev) (last : Int), ∀ x ∈ encFrom last L, 0 ≤ x ∧ x ≤ 255
  | [], _, x, hx => by simp [encFrom] at hx
  | y :: L, last, x, hx => by
    simp only [encFrom, evB, List.mem_append] at hx
    rcases hx with (hx | hx) | hx
    · exact sevens_byte x hx
    · exact dataB_byte y x hx
    · exact encFrom_byte L _ x hx
theorem encB_byte (L : List Ev) : ∀ x ∈ encB L, 0 ≤ x ∧ x ≤ 255 := by
  intro x hx
  simp only [encB, List.mem_append] at hx
  rcases hx with hx | hx
  · exact sevens_byte x hx
  · exact encFrom_byte L _ x hx
theorem encFrom_len : ∀ (L : List Ev) (last : Int), 0 ≤ last → (∀ x ∈ L, evNo x = 0) → (encFrom last L).length ≤ 231 * L.length
  | [], _, _, _ => by simp [encFrom]
  | y :: L, last, hl, he => by
    have hy := he y (by simp)
    have h1 := evNo_bd hy
    have h2 := sevens_len7 (n := (4 * (y.at_ - last) + y.kind).toNat) (by omega)
    have h3 := dataB_len hy
    have h4 := encFrom_len L y.at_ h1.2.1.1 (fun x hx => he x (List.mem_cons_of_mem _ hx))
    simp [encFrom, evB]
    omega
theorem ok_mem {L : List Ev} (h : chkNo L = 0) : ∀ x ∈ L, evNo x = 0 := fun x hx => by
  obtain ⟨i, hi, rfl⟩ := List.getElem_of_mem hx
  have := (ok_at h i hi).1
  simpa [List.getD, hi] using this
theorem encB_len {L : List Ev} (h : chkNo L = 0) : (encB L).length ≤ 231007 := by
  have h1 := encFrom_len L 0 (by simp) (ok_mem h)
  have h2 := (chk_zero h).1
  have h3 := sevens_len7 (n := L.length) (by omega)
  simp [encB]
  omega
theorem enc_step {L : List Ev} {k : Nat} (hk : k < L.length) (last : Int) : encFrom last (L.drop k) = sevens (4 * ((L.getD k noEv).at_ - last) + (L.getD k noEv).kind).toNat ++ dataB (L.getD k noEv) ++ encFrom (L.getD k noEv).at_ (L.drop (k + 1)) := by
  rw [List.drop_eq_getElem_cons hk]
  have : L[k] = L.getD k noEv := by simp [List.getD, hk]
  rw [this]
  rfl

set_option maxHeartbeats 1000000 in
theorem appendData_any (v u : Value) (bs : List Int) (a k : Int) (d : List Int) (lo : Nat) (w : World) (h : OwnB w lo v bs) (hlo : lo ≤ w.heap.size) (he : evNo ⟨a, k, d⟩ = 0) (hi : IntsAt w u d) (hu : Fits u) (hub : ∀ b off n c, 0 < d.length → u = .slice (some ⟨b, off, none⟩) n c → b < lo) (hlen : bs.length ≤ 1000000) :
    Calls Tryd.prog 61 #[v, .agg #[.int .i64 a, .int .i64 k, u]] w fun e w' => ∃ v', e = .returned v' ∧ Appd lo w w' v v' (bs ++ dataB ⟨a, k, d⟩) := by
  obtain ⟨hk, ha, hw, hl⟩ := evNo_bd he
  simp only at hk ha hw hl
  have HI : Hid (IntsAt w u d) := hi
  obtain ⟨A, c, rfl, h8, hc⟩ := hi
  obtain ⟨A', n', c', e', hcap⟩ := hu
  simp only [Value.slice.injEq] at e'
  obtain ⟨rfl, rfl, rfl⟩ := e'
  have hb0 := below_alloc w (.cells #[.int .i64 a, .int .i64 k, .slice A d.length c] 54)
  have HO : Hid (OwnB (w.alloc (.cells #[.int .i64 a, .int .i64 k, .slice A d.length c] 54)) lo v bs) := h.below hb0
  by_cases k2 : k = 2
  · subst k2
    have h16 : d.length = 16 := by simp [wordsN] at hl; omega
    obtain ⟨b, off, rfl, hbs, hcell⟩ := hc (by omega)
    have HF : Hid (∀ W, W = w.alloc (.cells #[.int .i64 a, .int .i64 2, .slice (some ⟨b, off, none⟩) d.length c] 54) → Calls Tryd.prog 99 #[v, .slice (some ⟨b, off, none⟩) d.length c] W fun e w' => ∃ v', e = .returned v' ∧ Appd lo w w' v v' (bs ++ dataB ⟨a, 2, d⟩)) := fun W e => by
      subst e
      refine (appendRuns_any v _ bs d lo _ HO.out (by simp; omega) ⟨b, off, c, rfl, hcap, hub b off _ c (by omega) rfl⟩ (HI.out.below hb0) (by omega) (allB_mem hw) (by omega)).mono ?_
      rintro e w' ⟨v', rfl, ha'⟩
      refine ⟨v', rfl, ?_⟩
      have : dataB ⟨a, 2, d⟩ = runsB 0 0 d := by simp [dataB]
      rw [this]
      exact ha'.pre hb0 hlo
    clear hc hcell hw hl HI hub HO hb0 he h hk ha h16
    go_enter Tryd.func61, Tryd.ntmps61
    go_wp2_with fail
    refine (HF.out _ rfl).mono ?_
    rintro e w' ⟨v', rfl, ha'⟩
    have HA : Hid (Appd lo w w' v v' (bs ++ dataB ⟨a, 2, d⟩)) := ha'
    clear ha' HF
    go_wp2_with fail
    go_ret
    exact ⟨v', rfl, HA.out⟩
  · by_cases k3 : k = 3
    · subst k3
      have h1 : d.length = 1 := by simp [wordsN] at hl; omega
      obtain ⟨x, rfl⟩ : ∃ x, d = [x] := by
        match d, h1 with
        | [x], _ => exact ⟨x, rfl⟩
      obtain ⟨b, off, rfl, hbs, hcell⟩ := hc (by simp)
      have hx := allB_mem hw x (by simp)
      have c0 : w.cell? ⟨b, off, none⟩ = some (.int .i64 x) := by simpa using hcell 0 (by simp)
      have hbn : ¬ b = w.heap.size := by omega
      have HF : Hid (∀ W, W = w.alloc (.cells #[.int .i64 a, .int .i64 3, .slice (some ⟨b, off, none⟩) 1 c] 54) → Calls Tryd.prog 100 #[v, .int .i64 x] W fun e w' => ∃ v', e = .returned v' ∧ Appd lo w w' v v' (bs ++ dataB ⟨a, 3, [x]⟩)) := fun W e => by
        subst e
        refine (appendAnyKind_any v bs x lo _ HO.out (by simp; omega) (by omega) (by omega)).mono ?_
        rintro e w' ⟨v', rfl, ha'⟩
        refine ⟨v', rfl, ?_⟩
        have : dataB ⟨a, 3, [x]⟩ = zigs x := by simp [dataB]
        rw [this]
        exact ha'.pre hb0 hlo
      clear hc hcell hw hl HI hub HO hb0 he h hk ha
      simp only [List.length_singleton]
      go_enter Tryd.func61, Tryd.ntmps61
      go_wp2_with fail
      refine (HF.out _ rfl).mono ?_
      rintro e w' ⟨v', rfl, ha'⟩
      have HA : Hid (Appd lo w w' v v' (bs ++ dataB ⟨a, 3, [x]⟩)) := ha'
      clear ha' HF
      go_wp2_with fail
      go_ret
      exact ⟨v', rfl, HA.out⟩
    · have HD : Hid (bs ++ dataB ⟨a, k, d⟩ = bs) := by show _ = _; simp [dataB, k2, k3]
      have HA : Hid (Appd lo w (w.alloc (.cells #[.int .i64 a, .int .i64 k, .slice A d.length c] 54)) v v bs) := ⟨HO.out, hb0.mono hlo, (Grown.refl _ _).post hb0⟩
      clear hc hw hl HI hub HO hb0 he h hk ha
      go_enter Tryd.func61, Tryd.ntmps61
      go_wp2_with fail
      go_ret
      exact ⟨v, rfl, by rw [HD.out]; exact HA.out⟩

end Go.Proofs.YtbjlfhpiebokkaaDoor

/- Contracts of run.nextOf and of what it makes. -/

namespace Go.Proofs.YtbjlfhpiebokkaaDoor
open Go.RowKit
set_option maxRecDepth 100000

structure But (p lo : Nat) (w w' : World) : Prop where
  old : Below lo w w'
  kept : ∀ g, g < w.heap.size → g ≠ p → w'.heap[g]? = w.heap[g]?
theorem But.refl (p lo : Nat) (w : World) : But p lo w w := ⟨Below.refl _ _, fun _ _ _ => rfl⟩
theorem But.set {p lo : Nat} (w : World) (h : lo ≤ p) (i : Nat) (u : Value) : But p lo w (w.setCell ⟨p, i, none⟩ u) :=
  ⟨(Below.refl lo w).setCell (by simpa using h) u, fun g _ hne => Go.Deep.blk_setCell_other _ _ _ _ (by simpa using hne)⟩

def TailI (lo : Nat) (w : World) (u : Value) (l : List Int) : Prop :=
  ∃ (A : Option Addr) (c : Nat), u = .slice A l.length c ∧ l.length ≤ c ∧ l.length * 8 ≤ 140737488351232 ∧
    (0 < l.length → ∃ b off, A = some ⟨b, off, none⟩ ∧ b < lo ∧ ∀ j, j < l.length → w.cell? ⟨b, off + j, none⟩ = some (.int .i64 (l.getD j 0)))
theorem TailI.below {lo : Nat} {w w' : World} {u : Value} {l : List Int} (h : TailI lo w u l) (hb : Below lo w w') : TailI lo w' u l := by
  obtain ⟨A, c, rfl, hf, hl, hc⟩ := h
  refine ⟨A, c, rfl, hf, hl, fun h0 => ?_⟩
  obtain ⟨b, off, rfl, hlt, hj⟩ := hc h0
  exact ⟨b, off, rfl, hlt, fun j hjl => (hb.cell (p := ⟨b, off + j, none⟩) hlt).trans (hj j hjl)⟩
theorem TailI.at {lo : Nat} {w : World} {u : Value} {l : List Int} (h : TailI lo w u l) (hlo : lo ≤ w.heap.size) : IntsAt w u l := by
  obtain ⟨A, c, rfl, hf, hl, hc⟩ := h
  refine ⟨A, c, rfl, hl, fun h0 => ?_⟩
  obtain ⟨b, off, rfl, hlt, hj⟩ := hc h0
  exact ⟨b, off, rfl, by omega, hj⟩
theorem TailI.mono {lo lo' : Nat} {w : World} {u : Value} {l : List Int} (h : TailI lo w u l) (hlo : lo ≤ lo') : TailI lo' w u l := by
  obtain ⟨A, c, rfl, hf, hl, hc⟩ := h
  refine ⟨A, c, rfl, hf, hl, fun h0 => ?_⟩
  obtain ⟨b, off, rfl, hlt, hj⟩ := hc h0
  exact ⟨b, off, rfl, by omega, hj⟩
theorem TailI.old {lo : Nat} {w : World} {u : Value} {l : List Int} (h : TailI lo w u l) : IntsOld lo w u l := by
  obtain ⟨A, c, rfl, hf, hl, hc⟩ := h
  exact ⟨A, c, rfl, hl, hc⟩
theorem TailI.fits {lo : Nat} {w : World} {u : Value} {l : List Int} (h : TailI lo w u l) : Fits u := by
  obtain ⟨A, c, rfl, hf, hl, hc⟩ := h
  exact ⟨A, _, c, rfl, hf⟩
theorem TailI.of {w : World} {u : Value} {l : List Int} (h : IntsAt w u l) (hf : Fits u) : TailI w.heap.size w u l := by
  obtain ⟨A, c, rfl, hl, hc⟩ := h
  obtain ⟨A', n', c', e, hn⟩ := hf
  simp only [Value.slice.injEq] at e
  obtain ⟨rfl, rfl, rfl⟩ := e
  exact ⟨A, c, rfl, hn, hl, hc⟩
def TailR (lo : Nat) (w : World) (u : Value) (D : List (List Int)) : Prop :=
  ∃ (A : Option Addr) (c : Nat), u = .slice A D.length c ∧ D.length ≤ c ∧ D.length * 24 ≤ 140737488351232 ∧
    (0 < D.length → ∃ b off, A = some ⟨b, off, none⟩ ∧ b < lo ∧ ∀ j, j < D.length → ∃ r, w.cell? ⟨b, off + j, none⟩ = some r ∧ TailI lo w r (D.getD j []))
theorem TailR.below {lo : Nat} {w w' : World} {u : Value} {D : List (List Int)} (h : TailR lo w u D) (hb : Below lo w w') : TailR lo w' u D := by
  obtain ⟨A, c, rfl, hf, hl, hc⟩ := h
  refine ⟨A, c, rfl, hf, hl, fun h0 => ?_⟩
  obtain ⟨b, off, rfl, hlt, hj⟩ := hc h0
  refine ⟨b, off, rfl, hlt, fun j hjl => ?_⟩
  obtain ⟨r, h1, h2⟩ := hj j hjl
  exact ⟨r, (hb.cell (p := ⟨b, off + j, none⟩) hlt).trans h1, h2.below hb⟩
theorem TailR.mono {lo lo' : Nat} {w : World} {u : Value} {D : List (List Int)} (h : TailR lo w u D) (hlo : lo ≤ lo') : TailR lo' w u D := by
  obtain ⟨A, c, rfl, hf, hl, hc⟩ := h
  refine ⟨A, c, rfl, hf, hl, fun h0 => ?_⟩
  obtain ⟨b, off, rfl, hlt, hj⟩ := hc h0
  refine ⟨b, off, rfl, by omega, fun j hjl => ?_⟩
  obtain ⟨r, h1, h2⟩ := hj j hjl
  exact ⟨r, h1, h2.mono hlo⟩

abbrev nxI (p q : Nat) : Value := .func (.func 93) #[] #[.pointer (some ⟨p, 0, none⟩), .pointer (some ⟨q, 0, none⟩)]
abbrev nxB (p q : Nat) : Value := .func (.func 94) #[] #[.pointer (some ⟨p, 0, none⟩), .pointer (some ⟨q, 0, none⟩)]

theorem nextI_any (A : Option Addr) (n c : Nat) (d : Int) (w : World) : Calls Tryd.prog 54 #[.slice A n c, .int .i64 d] w fun e w' => ∃ p q, e = .returned (nxI p q) ∧ w.heap.size ≤ p ∧ p < q ∧ w'.heap[p]? = some (.cells #[.slice A n c] 22 (0, 0)) ∧ w'.heap[q]? = some (.cells #[.int .i64 d] 3 (0, 0)) ∧ Below w.heap.size w w' := by
  go_enter Tryd.func54, Tryd.ntmps54
  go_wp2
  go_ret
  obtain ⟨b0, b1, b2⟩ := two_boxes (Below.refl ((w.alloc (.cells #[.slice A n c] 22)).alloc (.cells #[.int .i64 d] 3)).heap.size ((w.alloc (.cells #[.slice A n c] 22)).alloc (.cells #[.int .i64 d] 3)))
  exact ⟨_, _, rfl, Nat.le_refl _, by simp, b0, b1, b2⟩
theorem nextB_any (A Az : Option Addr) (n c nz cz : Nat) (w : World) : Calls Tryd.prog 55 #[.slice A n c, .slice Az nz cz] w fun e w' => ∃ p q, e = .returned (nxB p q) ∧ w.heap.size ≤ p ∧ p < q ∧ w'.heap[p]? = some (.cells #[.slice A n c] 23 (0, 0)) ∧ w'.heap[q]? = some (.cells #[.slice Az nz cz] 22 (0, 0)) ∧ Below w.heap.size w w' := by
  go_enter Tryd.func55, Tryd.ntmps55
  go_wp2
  go_ret
  obtain ⟨b0, b1, b2⟩ := two_boxes (Below.refl ((w.alloc (.cells #[.slice A n c] 23)).alloc (.cells #[.slice Az nz cz] 22)).heap.size ((w.alloc (.cells #[.slice A n c] 23)).alloc (.cells #[.slice Az nz cz] 22)))
  exact ⟨_, _, rfl, Nat.le_refl _, by simp, b0, b1, b2⟩

theorem one_cellN {w : World} {b : Nat} {x : Value} {t : TypeId} (h : w.heap[b]? = some (.cells #[x] t (0, 0))) : w.cell? ⟨b, 0, none⟩ = some x ∧ (∀ j, w.frozen? ⟨b, j, none⟩ = false) ∧ b < w.heap.size := ⟨by simp [World.cell?, h], fun j => by simp [World.frozen?, h], lt_of_block h⟩
theorem getD_drop1 (l : List Int) (j : Nat) : (l.drop 1).getD j 0 = l.getD (1 + j) 0 := by simp [List.getD, Nat.add_comm]
theorem getDR_drop1 (l : List (List Int)) (j : Nat) : (l.drop 1).getD j [] = l.getD (1 + j) [] := by simp [List.getD, Nat.add_comm]

set_option maxHeartbeats 2000000 in
theorem cloI_any (p q lo : Nat) (u : Value) (l : List Int) (d : Int) (w : World) (hp : w.heap[p]? = some (.cells #[u] 22 (0, 0))) (hq : w.heap[q]? = some (.cells #[.int .i64 d] 3 (0, 0))) (hu : TailI lo w u l) (hlo : lo ≤ p) :
    Calls Tryd.prog 93 #[.pointer (some ⟨p, 0, none⟩), .pointer (some ⟨q, 0, none⟩)] w fun e w' => ∃ u', e = .returned (.int .i64 (l.getD 0 d)) ∧ w'.heap[p]? = some (.cells #[u'] 22 (0, 0)) ∧ TailI lo w' u' (l.drop 1) ∧ But p lo w w' := by
  have HU : Hid (TailI lo w u l) := hu
  obtain ⟨A, c, rfl, hf, hbd, hc⟩ := hu
  obtain ⟨p0, pf, pl⟩ := one_cellN hp
  obtain ⟨q0, qf, ql⟩ := one_cellN hq
  have HP : Hid (w.heap[p]? = some (.cells #[.slice A l.length c] 22 (0, 0)) ∧ lo ≤ p) := ⟨hp, hlo⟩
  obtain ⟨n, hn⟩ : ∃ n, n = l.length := ⟨_, rfl⟩
  by_cases h0 : l.length = 0
  · have e0 : l = [] := List.eq_nil_of_length_eq_zero h0
    subst e0
    simp only [List.length_nil] at p0
    have HP0 : Hid (w.heap[p]? = some (.cells #[.slice A 0 c] 22 (0, 0))) := hp
    clear hp hq hc HP hn
    go_enter Tryd.func93, Tryd.ntmps93
    go_wp2_with fail
    go_ret
    exact ⟨.slice A 0 c, rfl, HP0.out, HU.out, But.refl _ _ _⟩
  · obtain ⟨b, off, rfl, hb, hcell⟩ := hc (by omega)
    clear hc
    have g0 := hcell 0 (by omega)
    rw [Nat.add_zero] at g0
    have HA : Hid (∀ A' n' c', n' = l.length - 1 → c' = c - 1 → (1 < l.length → A' = some ⟨b, off + 1, none⟩) → (w.setCell ⟨p, 0, none⟩ (.slice A' n' c')).heap[p]? = some (.cells #[.slice A' n' c'] 22 (0, 0)) ∧ TailI lo (w.setCell ⟨p, 0, none⟩ (.slice A' n' c')) (.slice A' n' c') (l.drop 1) ∧ But p lo w (w.setCell ⟨p, 0, none⟩ (.slice A' n' c'))) := fun A' n' c' e1 e2 e3 => by
      have hB := But.set w HP.out.2 0 (.slice A' n' c')
      refine ⟨by rw [box_set HP.out.1]; rfl, ?_, hB⟩
      refine TailI.below ⟨A', c', by rw [e1, List.length_drop], by rw [List.length_drop]; omega, by rw [List.length_drop]; omega, fun h1 => ?_⟩ hB.old
      rw [List.length_drop] at h1
      refine ⟨b, off + 1, e3 (by omega), hb, fun j hj => ?_⟩
      rw [List.length_drop] at hj
      rw [getD_drop1, Nat.add_assoc]
      exact hcell (1 + j) (by omega)
    have HG : Hid (l.getD 0 d = l.getD 0 0) := by
      show _ = _
      have : 0 < l.length := by omega
      simp [List.getD, this]
    have hcc2 : c = 1 → ¬ 1 < l.length := fun e => by omega
    have hi1 : (1 : Int) ≤ (l.length : Int) := by omega
    have hi2 : (1 : Int) ≤ (c : Int) := by omega
    have hi3 : (0 : Int) < (l.length : Int) := by omega
    have hi4 : ((l.length : Int) == 0) = false := beq_false_of_ne (by omega)
    have hi5 : (l.length : Int) ≤ (c : Int) := by omega
    clear hp hq hcell HU hn
    by_cases hcc : c = 1
    · go_enter Tryd.func93, Tryd.ntmps93
      go_wp2_with fail
      go_ret
      obtain ⟨r1, r2, r3⟩ := HA.out (some ⟨b, off, none⟩) _ 0 rfl (by omega) (fun hh => absurd hh (hcc2 hcc))
      exact ⟨_, ret_int HG.out.symm, r1, r2, r3⟩
    · go_enter Tryd.func93, Tryd.ntmps93
      go_wp2_with fail
      go_ret
      obtain ⟨r1, r2, r3⟩ := HA.out _ _ _ rfl rfl (fun _ => rfl)
      exact ⟨_, ret_int HG.out.symm, r1, r2, r3⟩

set_option maxHeartbeats 2000000 in
theorem cloB_any (p q lo : Nat) (u d : Value) (D : List (List Int)) (w : World) (hp : w.heap[p]? = some (.cells #[u] 23 (0, 0))) (hq : w.heap[q]? = some (.cells #[d] 22 (0, 0))) (hu : TailR lo w u D) (hlo : lo ≤ p) (hz : ∃ A n c, d = .slice A n c) :
    Calls Tryd.prog 94 #[.pointer (some ⟨p, 0, none⟩), .pointer (some ⟨q, 0, none⟩)] w fun e w' => ∃ u' r, e = .returned r ∧ (D = [] ∧ r = d ∨ 0 < D.length ∧ TailI lo w r (D.getD 0 [])) ∧ w'.heap[p]? = some (.cells #[u'] 23 (0, 0)) ∧ TailR lo w' u' (D.drop 1) ∧ But p lo w w' := by
  have HU : Hid (TailR lo w u D) := hu
  obtain ⟨A, c, rfl, hf, hbd, hc⟩ := hu
  obtain ⟨Az, nz, cz, rfl⟩ := hz
  obtain ⟨p0, pf, pl⟩ := one_cellN hp
  obtain ⟨q0, qf, ql⟩ := one_cellN hq
  have HP : Hid (w.heap[p]? = some (.cells #[.slice A D.length c] 23 (0, 0)) ∧ lo ≤ p) := ⟨hp, hlo⟩
  by_cases h0 : D.length = 0
  · have e0 : D = [] := List.eq_nil_of_length_eq_zero h0
    subst e0
    simp only [List.length_nil] at p0
    have HP0 : Hid (w.heap[p]? = some (.cells #[.slice A 0 c] 23 (0, 0))) := hp
    clear hp hq hc HP
    go_enter Tryd.func94, Tryd.ntmps94
    go_wp2_with fail
    go_ret
    exact ⟨.slice A 0 c, _, rfl, (by first | exact Or.inl ⟨rfl, rfl⟩ | exact Or.inl ⟨trivial, rfl⟩), HP0.out, HU.out, But.refl _ _ _⟩
  · obtain ⟨b, off, rfl, hb, hcell⟩ := hc (by omega)
    clear hc
    obtain ⟨r, g0, hr⟩ := hcell 0 (by omega)
    rw [Nat.add_zero] at g0
    have HRR : Hid (TailI lo w r (D.getD 0 []) ∧ 0 < D.length) := ⟨hr, by omega⟩
    obtain ⟨Ar, cr, rfl, -, -, -⟩ := hr
    have HA : Hid (∀ A' n' c', n' = D.length - 1 → c' = c - 1 → (1 < D.length → A' = some ⟨b, off + 1, none⟩) → (w.setCell ⟨p, 0, none⟩ (.slice A' n' c')).heap[p]? = some (.cells #[.slice A' n' c'] 23 (0, 0)) ∧ TailR lo (w.setCell ⟨p, 0, none⟩ (.slice A' n' c')) (.slice A' n' c') (D.drop 1) ∧ But p lo w (w.setCell ⟨p, 0, none⟩ (.slice A' n' c'))) := fun A' n' c' e1 e2 e3 => by
      have hB := But.set w HP.out.2 0 (.slice A' n' c')
      refine ⟨by rw [box_set HP.out.1]; rfl, ?_, hB⟩
      refine TailR.below ⟨A', c', by rw [e1, List.length_drop], by rw [List.length_drop]; omega, by rw [List.length_drop]; omega, fun h1 => ?_⟩ hB.old
      rw [List.length_drop] at h1
      refine ⟨b, off + 1, e3 (by omega), hb, fun j hj => ?_⟩
      rw [List.length_drop] at hj
      rw [getDR_drop1, Nat.add_assoc]
      exact hcell (1 + j) (by omega)
    have hcc2 : c = 1 → ¬ 1 < D.length := fun e => by omega
    have hi1 : (1 : Int) ≤ (D.length : Int) := by omega
    have hi2 : (1 : Int) ≤ (c : Int) := by omega
    have hi3 : (0 : Int) < (D.length : Int) := by omega
    have hi4 : ((D.length : Int) == 0) = false := beq_false_of_ne (by omega)
    have hi5 : (D.length : Int) ≤ (c : Int) := by omega
    obtain ⟨rn, hrn⟩ : ∃ rn, rn = (D.getD 0 []).length := ⟨_, rfl⟩
    rw [← hrn] at g0 HRR
    clear hp hq hcell HU hrn
    by_cases hcc : c = 1
    · go_enter Tryd.func94, Tryd.ntmps94
      go_wp2_with fail
      go_ret
      obtain ⟨r1, r2, r3⟩ := HA.out (some ⟨b, off, none⟩) _ 0 rfl (by omega) (fun hh => absurd hh (hcc2 hcc))
      exact ⟨_, _, rfl, Or.inr ⟨HRR.out.2, HRR.out.1⟩, r1, r2, r3⟩
    · go_enter Tryd.func94, Tryd.ntmps94
      go_wp2_with fail
      go_ret
      obtain ⟨r1, r2, r3⟩ := HA.out _ _ _ rfl rfl (fun _ => rfl)
      exact ⟨_, _, rfl, Or.inr ⟨HRR.out.2, HRR.out.1⟩, r1, r2, r3⟩

end Go.Proofs.YtbjlfhpiebokkaaDoor
