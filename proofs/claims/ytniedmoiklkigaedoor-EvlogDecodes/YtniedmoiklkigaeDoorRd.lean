/- The reader of bytes: what it is in memory; contracts of anyKind and reader.number. -/
import Derived.Test.YtniedmoiklkigaeDoorByD
import Derived.Test.YtniedmoiklkigaeDoorBySum
namespace Go.Proofs.YtniedmoiklkigaeDoor
open Go.RowKit

/-- A slice over these bytes, its memory ahead of block lo, with room. -/
structure Bys (w : World) (lo : Nat) (v : Value) (l : List Int) : Prop where
  at_ : ∃ (A : Option Addr) (c : Nat), v = .slice A l.length c ∧ l.length ≤ c ∧ (0 < l.length → ∃ g off, A = some ⟨g, off, none⟩ ∧ g < lo ∧ g < w.heap.size ∧ ∀ j, j < l.length → w.cell? ⟨g, off + j, none⟩ = some (.int .u8 (l.getD j 0)))
  few : l.length ≤ 60000
  byte : ∀ x ∈ l, 0 ≤ x ∧ x ≤ 255
theorem Bys.below {w w' : World} {lo : Nat} {v : Value} {l : List Int} (h : Bys w lo v l) (hb : Below lo w w') : Bys w' lo v l := by
  obtain ⟨⟨A, c, rfl, hc, hA⟩, hf, hy⟩ := h
  refine ⟨⟨A, c, rfl, hc, fun h0 => ?_⟩, hf, hy⟩
  obtain ⟨g, off, rfl, hg, hgs, hj⟩ := hA h0
  exact ⟨g, off, rfl, hg, Nat.lt_of_lt_of_le hgs hb.size, fun j hjl => (hb.cell (p := ⟨g, off + j, none⟩) hg).trans (hj j hjl)⟩
/-- The reader that lies there has these bytes left. -/
structure RdAt (w : World) (lo b : Nat) (v : Value) (l : List Int) : Prop where
  box : w.heap[b]? = some (.cells #[v] 47 (0, 0))
  own : lo ≤ b
  bys : Bys w lo v l
/-- Nothing but the reader is another one. -/
structure Sans (b lo : Nat) (w w' : World) : Prop where
  old : Below lo w w'
  size : w.heap.size ≤ w'.heap.size
  block : ∀ g, g < w.heap.size → g ≠ b → w'.heap[g]? = w.heap[g]?
theorem Sans.refl (b lo : Nat) (w : World) : Sans b lo w w := ⟨Below.refl _ _, Nat.le_refl _, fun _ _ _ => rfl⟩
theorem Sans.trans {b lo : Nat} {w w1 w2 : World} (h : Sans b lo w w1) (k : Sans b lo w1 w2) : Sans b lo w w2 :=
  ⟨h.old.trans k.old, Nat.le_trans h.size k.size, fun g hg hn => by rw [k.block g (Nat.lt_of_lt_of_le hg h.size) hn, h.block g hg hn]⟩
theorem Sans.of_below {b lo : Nat} {w w' : World} (h : Below w.heap.size w w') (hlo : lo ≤ w.heap.size) : Sans b lo w w' := ⟨h.mono hlo, h.size, fun g hg _ => h.block g hg⟩
theorem Sans.set {b lo : Nat} (w : World) (h : lo ≤ b) (u : Value) : Sans b lo w (w.setCell ⟨b, 0, none⟩ u) :=
  ⟨(Below.refl _ w).setCell (p := ⟨b, 0, none⟩) h u, by simp [World.setCell], fun g hg hn => Below.heap_setCell _ _ _ _ hn⟩
theorem Sans.owns {b lo : Nat} {w w' : World} (h : Sans b lo w w') {base : Nat} {e : TypeId} {size : Nat} {v : Value} {n : Nat} {xs : List Value} (k : w.ownsRow base e size v n xs) (hn : v.ownBlock ≠ some b) : w'.ownsRow base e size v n xs := by
  obtain ⟨h1, h2⟩ := k
  refine ⟨h1, ?_⟩
  rcases h2 with h2 | ⟨g, cap, cur, rfl, hg, hh, r⟩
  · exact Or.inl h2
  · exact Or.inr ⟨g, cap, cur, rfl, hg, by rw [h.block g (lt_of_block hh) (fun e => hn (by simp [Value.ownBlock, e]))]; exact hh, r⟩
theorem Sans.ints {b lo : Nat} {w w' : World} (h : Sans b lo w w') {base : Nat} {v : Value} {l : List Int} (k : OwnI w base v l) {cur : Array Value} (hb : w.heap[b]? = some (.cells cur 47 (0, 0))) : OwnI w' base v l :=
  h.owns k (own_ne k hb (by decide))
theorem RdAt.lt {w : World} {lo b : Nat} {v : Value} {l : List Int} (h : RdAt w lo b v l) : b < w.heap.size := lt_of_block h.box
theorem RdAt.cell {w : World} {lo b : Nat} {v : Value} {l : List Int} (h : RdAt w lo b v l) : w.cell? ⟨b, 0, none⟩ = some v ∧ w.frozen? ⟨b, 0, none⟩ = false := by
  have := h.box
  simp [World.cell?, World.frozen?, this]
theorem RdAt.below {w w' : World} {lo b : Nat} {v : Value} {l : List Int} (h : RdAt w lo b v l) (hb : Below w.heap.size w w') : RdAt w' lo b v l :=
  ⟨by rw [hb.block b h.lt]; exact h.box, h.own, h.bys.below (hb.mono (by have := h.own; have := h.lt; omega))⟩
theorem box1_set {w : World} {b i : Nat} {cur : Array Value} {t : TypeId} (h : w.heap[b]? = some (.cells cur t (0, 0))) (x : Value) : (w.setCell ⟨b, i, none⟩ x).heap[b]? = some (.cells (cur.setIfInBounds i x) t (0, 0)) := by
  simp [World.setCell, Array.getElem?_modify, h]
/-- So many bytes are read. -/
theorem RdAt.rest {w : World} {lo b : Nat} {A A' : Option Addr} {c c' n n' : Nat} {l : List Int} (h : RdAt w lo b (.slice A n c) l) (k : Nat) (hk : k ≤ l.length) (hn : n' = n - k) (hc : c' = c - k) (hA : k < l.length → ∀ g off, A = some ⟨g, off, none⟩ → A' = some ⟨g, off + k, none⟩) :
    RdAt (w.setCell ⟨b, 0, none⟩ (.slice A' n' c')) lo b (.slice A' n' c') (l.drop k) := by
  obtain ⟨hbox, hown, ⟨⟨A0, c0, e, hcc, hA0⟩, hf, hy⟩⟩ := h
  simp only [Value.slice.injEq] at e
  obtain ⟨rfl, rfl, rfl⟩ := e
  subst hn hc
  have hB : Below lo w (w.setCell ⟨b, 0, none⟩ (.slice A' (l.length - k) (c - k))) := (Below.refl _ w).setCell (p := ⟨b, 0, none⟩) hown _
  refine ⟨?_, hown, ⟨⟨A', c - k, by simp, by simp; omega, fun h0 => ?_⟩, by simp; omega, fun x hx => hy x (List.mem_of_mem_drop hx)⟩⟩
  · rw [box1_set hbox]
    rfl
  · simp at h0
    obtain ⟨g, off, rfl, hg, hgs, hj⟩ := hA0 (by omega)
    refine ⟨g, off + k, hA (by omega) g off rfl, hg, Nat.lt_of_lt_of_le hgs hB.size, fun j hjl => ?_⟩
    simp at hjl
    rw [Nat.add_assoc, hB.cell (p := ⟨g, off + (k + j), none⟩) hg, hj (k + j) (by omega)]
    simp [List.getD]

theorem anyKind_any (n : Int) (w : World) (h0 : 0 ≤ n) (h1 : n ≤ 4611686018427387904) :
    Calls Tryd.prog 42 #[.int .i64 n] w fun e w' => e = .returned (.int .i64 (anyK n)) ∧ w' = w := by
  by_cases h : n % 2 = 1
  · have HP : Hid (anyK n = -((n + 1) / 2)) := by show _ = _; simp [anyK, h]
    have hr : Int.tmod n 2 = 1 := by rw [Int.tmod_eq_emod_of_nonneg h0]; exact h
    have hw : IntKind.i64.wrap (n + 1) = n + 1 := IntWalk.i64_in _ (by omega)
    have hw2 : IntKind.i64.wrap (-(n + 1)) = -(n + 1) := IntWalk.i64_in _ (by omega)
    have hq : Int.tdiv (-(n + 1)) 2 = -((n + 1) / 2) := by rw [Int.neg_tdiv, Int.tdiv_eq_ediv_of_nonneg (by omega)]
    have hw3 : IntKind.i64.wrap (-((n + 1) / 2)) = -((n + 1) / 2) := IntWalk.i64_in _ (by omega)
    go_enter Tryd.func42, Tryd.ntmps42
    go_wp2
    go_ret
    rw [HP.out]
    exact ⟨rfl, rfl⟩
  · have HP : Hid (anyK n = n / 2) := by show _ = _; simp [anyK, h]
    have hr : Int.tmod n 2 = 0 := by rw [Int.tmod_eq_emod_of_nonneg h0]; omega
    have hq : Int.tdiv n 2 = n / 2 := Int.tdiv_eq_ediv_of_nonneg h0
    go_enter Tryd.func42, Tryd.ntmps42
    go_wp2
    go_ret
    rw [HP.out]
    exact ⟨rfl, rfl⟩

/-- What reading a number comes to. -/
structure NumQ (w w' : World) (lo b : Nat) (v : Value) (l : List Int) : Prop where
  sans : Sans b lo w w'
  rd : (numD l).no = 0 → ∃ v', RdAt w' lo b v' (numD l).rest
  val : 0 ≤ (numD l).val ∧ (numD l).val < 562949953421312

theorem numG_end {i : Nat} {n u : Int} {l : List Int} {k : Nat} (hk : ¬ k < l.length) : numG i n u (l.drop k) = ⟨5, 0, []⟩ := by
  rw [List.drop_eq_nil_of_le (by omega), numG]
theorem drop_step {l : List Int} {k : Nat} (hk : k < l.length) : l.drop k = l.getD k 0 :: l.drop (k + 1) := by
  rw [List.drop_eq_getElem_cons hk]
  simp [List.getD, hk]

def pw (k : Nat) : Int := 128 ^ k
theorem pw_succ (k : Nat) : pw (k + 1) = pw k * 128 := Int.pow_succ _ _
theorem pw_next {k : Nat} (h : k < 7) : pw k * 128 ≤ 562949953421312 := by
  match k, h with
  | 0, _ => decide
  | 1, _ => decide
  | 2, _ => decide
  | 3, _ => decide
  | 4, _ => decide
  | 5, _ => decide
  | 6, _ => decide

set_option maxRecDepth 20000 in
set_option maxHeartbeats 2000000 in
theorem number_any (b lo : Nat) (v : Value) (l : List Int) (w : World) (h : RdAt w lo b v l) :
    Calls Tryd.prog 35 #[.pointer (some ⟨b, 0, none⟩)] w fun e w' => e = .returned (.tuple #[.int .i64 (numD l).val, .int .i64 (numD l).no]) ∧ NumQ w w' lo b v l := by
  have HR : Hid (RdAt w lo b v l) := h
  obtain ⟨⟨A, c, rfl, hcap, hA⟩, hfew, hby⟩ := h.bys
  obtain ⟨hc0, hf0⟩ := h.cell
  have hlt := h.lt
  clear h
  go_enter Tryd.func35, Tryd.ntmps35
  go_wp2_with fail
  go_loopw [4, 5, 13] (fun n u i wr => ∃ (k : Nat) (a q : Int), k ≤ l.length ∧ k ≤ 7 ∧ i = .int .i64 k ∧ n = .int .i64 a ∧ u = .int .i64 q ∧ Hid (numG k a q (l.drop k) = numD l) ∧ (0 ≤ a ∧ a < q ∧ q ≤ 562949953421312) ∧ Hid (q = pw k) ∧ wr = w) (fun _ _ i _ => l.length - (intOf i).toNat)
  case atStart => exact ⟨0, 0, 1, by omega, by omega, rfl, rfl, rfl, (by show _ = _; rw [List.drop_zero, numD]), by omega, (by show _ = _; rfl), rfl⟩
  case round =>
    obtain ⟨k, a, q, hk, hk7, rfl, rfl, rfl, HN, ⟨ha0, haq, hq⟩, HQ, hw⟩ := hrel
    subst wr
    by_cases hkl : k < l.length
    · have hki : (k : Int) < (l.length : Int) := by omega
      obtain ⟨g, off, rfl, hg, hgs, hj⟩ := hA (by omega)
      have hx := hj k hkl
      obtain ⟨x, hxe⟩ : ∃ x, x = l.getD k 0 := ⟨_, rfl⟩
      rw [← hxe] at hx
      have hxb : 0 ≤ x ∧ x ≤ 255 := by rw [hxe]; exact hby _ (by simp [List.getD, hkl])
      have HST : Hid (numD l = numG k a q (x :: l.drop (k + 1))) := by show _ = _; rw [← HN.out, drop_step hkl, ← hxe]
      clear hA hj HN hxe hby
      by_cases h7 : k = 7
      · subst h7
        have HD : Hid (numD l = ⟨4, 0, []⟩) := by show _ = _; rw [HST.out, numG, if_pos rfl]
        clear HST HQ
        go_wp2_with fail
        go_ret2
        rw [HD.out]
        exact ⟨rfl, Sans.refl _ _ _, fun e => by rw [HD.out] at e; simp at e, by rw [HD.out]; simp⟩
      · have hk7' : ¬ (k : Int) = 7 := by omega
        have hpb : 0 ≤ x % 128 ∧ x % 128 ≤ 127 := by omega
        have hpq : 0 ≤ x % 128 * q ∧ x % 128 * q ≤ 127 * q := ⟨Int.mul_nonneg hpb.1 (by omega), Int.mul_le_mul_of_nonneg_right hpb.2 (by omega)⟩
        have hqn : q * 128 ≤ 562949953421312 := by rw [HQ.out]; exact pw_next (by omega)
        have hw1 : IntKind.i64.wrap (x % 128 * q) = x % 128 * q := IntWalk.i64_in _ (by omega)
        have hw2 : IntKind.i64.wrap (a + x % 128 * q) = a + x % 128 * q := IntWalk.i64_in _ (by omega)
        have hw3 : IntKind.i64.wrap (q * 128) = q * 128 := IntWalk.i64_in _ (by omega)
        have HNX : Hid (0 ≤ a + x % 128 * q ∧ a + x % 128 * q < q * 128 ∧ q * 128 ≤ 562949953421312) := ⟨by omega, by omega, hqn⟩
        have HPW : Hid (q * 128 = pw (k + 1)) := by show _ = _; rw [HQ.out, pw_succ]
        clear HQ hqn hpq hpb
        by_cases h1 : 128 ≤ x
        · have HD : Hid (numG (k + 1) (a + x % 128 * q) (q * 128) (l.drop (k + 1)) = numD l) := by show _ = _; rw [HST.out, numG, if_neg h7, if_pos h1]
          clear HST
          go_wp2_with fail
          refine ⟨⟨k + 1, _, _, by omega, by omega, by go_num, rfl, rfl, HD, HNX.out, HPW, trivial⟩, ?_⟩
          simp [intOf]; omega
        · by_cases h2 : x = 0 ∧ 0 < k
          · obtain ⟨rfl, h0⟩ := h2
            have h0i : (0 : Int) < (k : Int) := by omega
            have HD : Hid (numD l = ⟨4, 0, []⟩) := by show _ = _; rw [HST.out, numG, if_neg h7, if_neg h1, if_pos ⟨rfl, h0⟩]
            clear HST
            go_wp2_with fail
            go_ret2
            rw [HD.out]
            exact ⟨rfl, Sans.refl _ _ _, fun e => by rw [HD.out] at e; simp at e, by rw [HD.out]; simp⟩
          · have HD : Hid (numD l = ⟨0, a + x % 128 * q, l.drop (k + 1)⟩) := by show _ = _; rw [HST.out, numG, if_neg h7, if_neg h1, if_neg h2]
            have HV : Hid (0 ≤ (numD l).val ∧ (numD l).val < 562949953421312) := by show _ ∧ _; rw [HD.out]; exact ⟨HNX.out.1, by have := HNX.out; show a + x % 128 * q < _; omega⟩
            have hwk : IntKind.i64.wrap ((k : Int) + 1) = (k : Int) + 1 := IntWalk.i64_in _ (by omega)
            have hk1 : (k : Int) + 1 ≤ (c : Int) := by omega
            have hk2 : (k : Int) + 1 ≤ (l.length : Int) := by omega
            have hk3 : ((k : Int) + 1).toNat = k + 1 := by omega
            have HA : Hid (∀ A' n' c', n' = l.length - (k + 1) → c' = c - (k + 1) → (k + 1 < l.length → A' = some ⟨g, off + (k + 1), none⟩) → RdAt (w.setCell ⟨b, 0, none⟩ (.slice A' n' c')) lo b (.slice A' n' c') (l.drop (k + 1)) ∧ Sans b lo w (w.setCell ⟨b, 0, none⟩ (.slice A' n' c'))) := fun A' n' c' e1 e2 e3 => ⟨HR.out.rest (k + 1) (by omega) e1 e2 (fun hh g' off' e => by simp only [Option.some.injEq, Addr.mk.injEq] at e; obtain ⟨rfl, rfl, -⟩ := e; exact e3 hh), Sans.set w HR.out.own _⟩
            have hcell : c = k + 1 → ¬ k + 1 < l.length := fun e => by omega
            clear HST HNX HPW HR
            by_cases hx0 : x = 0
            · subst hx0
              have hk0 : ¬ (0 : Int) < (k : Int) := by omega
              have HD0 : Hid (numD l = ⟨0, a, l.drop (k + 1)⟩) := by show _ = _; rw [HD.out]; simp
              clear HD
              by_cases hcc : c = k + 1
              · go_wp2_with fail
                go_ret2
                rw [HD0.out]
                obtain ⟨r1, r2⟩ := HA.out (some ⟨g, off, none⟩) _ 0 rfl (by omega) (fun hh => absurd hh (hcell hcc))
                exact ⟨rfl, r2, fun _ => ⟨_, by rw [HD0.out]; exact r1⟩, HV.out⟩
              · go_wp2_with fail
                go_ret2
                rw [HD0.out]
                obtain ⟨r1, r2⟩ := HA.out _ _ _ rfl rfl (fun _ => rfl)
                exact ⟨rfl, r2, fun _ => ⟨_, by rw [HD0.out]; exact r1⟩, HV.out⟩
            · by_cases hcc : c = k + 1
              · go_wp2_with fail
                go_ret2
                rw [HD.out]
                obtain ⟨r1, r2⟩ := HA.out (some ⟨g, off, none⟩) _ 0 rfl (by omega) (fun hh => absurd hh (hcell hcc))
                exact ⟨rfl, r2, fun _ => ⟨_, by rw [HD.out]; exact r1⟩, HV.out⟩
              · go_wp2_with fail
                go_ret2
                rw [HD.out]
                obtain ⟨r1, r2⟩ := HA.out _ _ _ rfl rfl (fun _ => rfl)
                exact ⟨rfl, r2, fun _ => ⟨_, by rw [HD.out]; exact r1⟩, HV.out⟩
    · have hki : ¬ (k : Int) < (l.length : Int) := by omega
      have HD : Hid (numD l = ⟨5, 0, []⟩) := by show _ = _; rw [← HN.out, numG_end hkl]
      clear hA HN HQ
      go_wp2_with fail
      go_ret2
      rw [HD.out]
      exact ⟨rfl, Sans.refl _ _ _, fun e => by rw [HD.out] at e; simp at e, by rw [HD.out]; simp⟩

end Go.Proofs.YtniedmoiklkigaeDoor
