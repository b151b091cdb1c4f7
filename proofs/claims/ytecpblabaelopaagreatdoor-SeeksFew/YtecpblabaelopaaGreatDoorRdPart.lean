/- The reader of bytes: what it is in memory; contracts of anyKind and reader.number. -/
import Derived.Test.YtecpblabaelopaaGreatDoorECloPart
import Derived.Test.YtecpblabaelopaaGreatDoorByPart
import Derived.Test.YtecpblabaelopaaGreatDoorOwnPart
import Derived.Deep.RegionLaw
namespace Go.Proofs.YtecpblabaelopaaGreatDoor
open Go.RowKit
set_option maxRecDepth 100000

structure Bys (w : World) (lo : Nat) (v : Value) (l : List Int) : Prop where
  at_ : ∃ (A : Option Addr) (c : Nat), v = .slice A l.length c ∧ l.length ≤ c ∧ (0 < l.length → ∃ g off, A = some ⟨g, off, none⟩ ∧ g < lo ∧ g < w.heap.size ∧ ∀ j, j < l.length → w.cell? ⟨g, off + j, none⟩ = some (.int .u8 (l.getD j 0)))
  few : l.length ≤ 60000
  byte : ∀ x ∈ l, 0 ≤ x ∧ x ≤ 255
theorem Bys.below {w w' : World} {lo : Nat} {v : Value} {l : List Int} (h : Bys w lo v l) (hb : Below lo w w') : Bys w' lo v l := by
  obtain ⟨⟨A, c, rfl, hc, hA⟩, hf, hy⟩ := h
  refine ⟨⟨A, c, rfl, hc, fun h0 => ?_⟩, hf, hy⟩
  obtain ⟨g, off, rfl, hg, hgs, hj⟩ := hA h0
  exact ⟨g, off, rfl, hg, Nat.lt_of_lt_of_le hgs hb.size, fun j hjl => (hb.cell (p := ⟨g, off + j, none⟩) hg).trans (hj j hjl)⟩
structure RdAt (w : World) (lo b : Nat) (v : Value) (l : List Int) : Prop where
  box : w.heap[b]? = some (.cells #[v] 140 (0, 0))
  own : lo ≤ b
  bys : Bys w lo v l
structure Sans (b lo : Nat) (w w' : World) : Prop where
  old : Below lo w w'
  size : w.heap.size ≤ w'.heap.size
  block : ∀ g, g < w.heap.size → g ≠ b → w'.heap[g]? = w.heap[g]?
theorem Sans.refl (b lo : Nat) (w : World) : Sans b lo w w := ⟨Below.refl _ _, Nat.le_refl _, fun _ _ _ => rfl⟩
theorem Sans.trans {b lo : Nat} {w w1 w2 : World} (h : Sans b lo w w1) (k : Sans b lo w1 w2) : Sans b lo w w2 :=
  ⟨h.old.trans k.old, Nat.le_trans h.size k.size, fun g hg hn => by rw [k.block g (Nat.lt_of_lt_of_le hg h.size) hn, h.block g hg hn]⟩
theorem Sans.of_below {b lo : Nat} {w w' : World} (h : Below w.heap.size w w') (hlo : lo ≤ w.heap.size) : Sans b lo w w' := ⟨h.mono hlo, h.size, fun g hg _ => h.block g hg⟩
theorem Sans.set {b lo : Nat} (w : World) (h : lo ≤ b) (u : Value) : Sans b lo w (w.setCell ⟨b, 0, none⟩ u) :=
  ⟨(Below.refl _ w).setCell (p := ⟨b, 0, none⟩) h u, by simp [World.setCell], fun g hg hn => Below.heap_setCell _ _ _ _ hn⟩
theorem Sans.owns {b lo : Nat} {w w' : World} (h : Sans b lo w w') {base : Nat} {e : TypeId} {size : Nat} {v : Value} {n : Nat} {xs : List Value} (k : w.ownsRow base e size v n xs) (hn : v.ownBlock ≠ some b) : w'.ownsRow base e size v n xs := by
  obtain ⟨h1, h2⟩ := k
  refine ⟨h1, ?_⟩
  rcases h2 with h2 | ⟨g, cap, cur, rfl, hg, hh, r⟩
  · exact Or.inl h2
  · exact Or.inr ⟨g, cap, cur, rfl, hg, by rw [h.block g (lt_of_block hh) (fun e => hn (by simp [Value.ownBlock, e]))]; exact hh, r⟩
theorem Sans.ints {b lo : Nat} {w w' : World} (h : Sans b lo w w') {base : Nat} {v : Value} {l : List Int} (k : OwnI w base v l) {cur : Array Value} (hb : w.heap[b]? = some (.cells cur 140 (0, 0))) : OwnI w' base v l :=
  h.owns k (own_ne k hb (by decide))
theorem RdAt.lt {w : World} {lo b : Nat} {v : Value} {l : List Int} (h : RdAt w lo b v l) : b < w.heap.size := lt_of_block h.box
theorem RdAt.cell {w : World} {lo b : Nat} {v : Value} {l : List Int} (h : RdAt w lo b v l) : w.cell? ⟨b, 0, none⟩ = some v ∧ w.frozen? ⟨b, 0, none⟩ = false := by
  have := h.box
  simp [World.cell?, World.frozen?, this]
theorem RdAt.below {w w' : World} {lo b : Nat} {v : Value} {l : List Int} (h : RdAt w lo b v l) (hb : Below w.heap.size w w') : RdAt w' lo b v l :=
  ⟨by rw [hb.block b h.lt]; exact h.box, h.own, h.bys.below (hb.mono (by have := h.own; have := h.lt; omega))⟩
theorem box1_set {w : World} {b i : Nat} {cur : Array Value} {t : TypeId} (h : w.heap[b]? = some (.cells cur t (0, 0))) (x : Value) : (w.setCell ⟨b, i, none⟩ x).heap[b]? = some (.cells (cur.setIfInBounds i x) t (0, 0)) := by
  simp [World.setCell, Array.getElem?_modify, h]
theorem RdAt.rest {w : World} {lo b : Nat} {A A' : Option Addr} {c c' n n' : Nat} {l : List Int} (h : RdAt w lo b (.slice A n c) l) (k : Nat) (hk : k ≤ l.length) (hn : n' = n - k) (hc : c' = c - k) (hA : k < l.length → ∀ g off, A = some ⟨g, off, none⟩ → A' = some ⟨g, off + k, none⟩) :
    RdAt (w.setCell ⟨b, 0, none⟩ (.slice A' n' c')) lo b (.slice A' n' c') (l.drop k) := by
  obtain ⟨hbox, hown, ⟨⟨A0, c0, e, hcc, hA0⟩, hf, hy⟩⟩ := h
  simp only [Value.slice.injEq] at e
  obtain ⟨rfl, rfl, rfl⟩ := e
  subst hn hc
  have hB : Below lo w (w.setCell ⟨b, 0, none⟩ (.slice A' (l.length - k) (c - k))) := (Below.refl _ w).setCell (p := ⟨b, 0, none⟩) hown _
  refine ⟨?_, hown, ⟨⟨A', c - k, by simp, by simp; omega, fun h0 => ?_⟩, by simp; omega, fun x hx => hy x (List.mem_of_mem_drop hx)⟩⟩
  · rw [box1_set hbox]
    rfl
  · simp at h0
    obtain ⟨g, off, rfl, hg, hgs, hj⟩ := hA0 (by omega)
    refine ⟨g, off + k, hA (by omega) g off rfl, hg, Nat.lt_of_lt_of_le hgs hB.size, fun j hjl => ?_⟩
    simp at hjl
    rw [Nat.add_assoc, hB.cell (p := ⟨g, off + (k + j), none⟩) hg, hj (k + j) (by omega)]
    simp [List.getD]

theorem anyKind_any (n : Int) (w : World) (h0 : 0 ≤ n) (h1 : n ≤ 4611686018427387904) :
    Calls Tryz.prog 168 #[.int .i64 n] w fun e w' => e = .returned (.int .i64 (anyK n)) ∧ w' = w := by
  by_cases h : n % 2 = 1
  · have HP : Hid (anyK n = -((n + 1) / 2)) := by show _ = _; simp [anyK, h]
    have hr : Int.tmod n 2 = 1 := by rw [Int.tmod_eq_emod_of_nonneg h0]; exact h
    have hw : IntKind.i64.wrap (n + 1) = n + 1 := IntWalk.i64_in _ (by omega)
    have hw2 : IntKind.i64.wrap (-(n + 1)) = -(n + 1) := IntWalk.i64_in _ (by omega)
    have hq : Int.tdiv (-(n + 1)) 2 = -((n + 1) / 2) := by rw [Int.neg_tdiv, Int.tdiv_eq_ediv_of_nonneg (by omega)]
    have hw3 : IntKind.i64.wrap (-((n + 1) / 2)) = -((n + 1) / 2) := IntWalk.i64_in _ (by omega)
    go_enter Tryz.func168, Tryz.ntmps168
    go_wp2
    go_ret
    rw [HP.out]
    exact ⟨rfl, rfl⟩
  · have HP : Hid (anyK n = n / 2) := by show _ = _; simp [anyK, h]
    have hr : Int.tmod n 2 = 0 := by rw [Int.tmod_eq_emod_of_nonneg h0]; omega
    have hq : Int.tdiv n 2 = n / 2 := Int.tdiv_eq_ediv_of_nonneg h0
    go_enter Tryz.func168, Tryz.ntmps168
    go_wp2
    go_ret
    rw [HP.out]
    exact ⟨rfl, rfl⟩

structure NumQ (w w' : World) (lo b : Nat) (v : Value) (l : List Int) : Prop where
  sans : Sans b lo w w'
  rd : (numD l).no = 0 → ∃ v', RdAt w' lo b v' (numD l).rest
  val : 0 ≤ (numD l).val ∧ (numD l).val < 562949953421312

theorem numG_end {i : Nat} {n u : Int} {l : List Int} {k : Nat} (hk : ¬ k < l.length) : numG i n u (l.drop k) = ⟨5, 0, []⟩ := by
  rw [List.drop_eq_nil_of_le (by omega), numG]
theorem drop_step {l : List Int} {k : Nat} (hk : k < l.length) : l.drop k = l.getD k 0 :: l.drop (k + 1) := by
  rw [List.drop_eq_getElem_cons hk]
  simp [List.getD, hk]

def pw (k : Nat) : Int := 128 ^ k
theorem pw_succ (k : Nat) : pw (k + 1) = pw k * 128 := Int.pow_succ _ _
theorem pw_next {k : Nat} (h : k < 7) : pw k * 128 ≤ 562949953421312 := by
  match k, h with
  | 0, _ => decide
  | 1, _ => decide
  | 2, _ => decide
  | 3, _ => decide
  | 4, _ => decide
  | 5, _ => decide
  | 6, _ => decide

set_option maxRecDepth 20000 in
set_option maxHeartbeats 2000000 in
theorem number_any (b lo : Nat) (v : Value) (l : List Int) (w : World) (h : RdAt w lo b v l) :
    Calls Tryz.prog 128 #[.pointer (some ⟨b, 0, none⟩)] w fun e w' => e = .returned (.tuple #[.int .i64 (numD l).val, .int .i64 (numD l).no]) ∧ NumQ w w' lo b v l := by
  have HR : Hid (RdAt w lo b v l) := h
  obtain ⟨⟨A, c, rfl, hcap, hA⟩, hfew, hby⟩ := h.bys
  obtain ⟨hc0, hf0⟩ := h.cell
  have hlt := h.lt
  clear h
  go_enter Tryz.func128, Tryz.ntmps128
  go_wp2_with fail
  go_loopw [4, 5, 13] (fun n u i wr => ∃ (k : Nat) (a q : Int), k ≤ l.length ∧ k ≤ 7 ∧ i = .int .i64 k ∧ n = .int .i64 a ∧ u = .int .i64 q ∧ Hid (numG k a q (l.drop k) = numD l) ∧ (0 ≤ a ∧ a < q ∧ q ≤ 562949953421312) ∧ Hid (q = pw k) ∧ wr = w) (fun _ _ i _ => l.length - (intOf i).toNat)
  case atStart => exact ⟨0, 0, 1, by omega, by omega, rfl, rfl, rfl, (by show _ = _; rw [List.drop_zero, numD]), by omega, (by show _ = _; rfl), rfl⟩
  case round =>
    obtain ⟨k, a, q, hk, hk7, rfl, rfl, rfl, HN, ⟨ha0, haq, hq⟩, HQ, hw⟩ := hrel
    subst wr
    by_cases hkl : k < l.length
    · have hki : (k : Int) < (l.length : Int) := by omega
      obtain ⟨g, off, rfl, hg, hgs, hj⟩ := hA (by omega)
      have hx := hj k hkl
      obtain ⟨x, hxe⟩ : ∃ x, x = l.getD k 0 := ⟨_, rfl⟩
      rw [← hxe] at hx
      have hxb : 0 ≤ x ∧ x ≤ 255 := by rw [hxe]; exact hby _ (by simp [List.getD, hkl])
      have HST : Hid (numD l = numG k a q (x :: l.drop (k + 1))) := by show _ = _; rw [← HN.out, drop_step hkl, ← hxe]
      clear hA hj HN hxe hby
      by_cases h7 : k = 7
      · subst h7
        have HD : Hid (numD l = ⟨4, 0, []⟩) := by show _ = _; rw [HST.out, numG, if_pos rfl]
        clear HST HQ
        go_wp2_with fail
        go_ret2
        rw [HD.out]
        exact ⟨rfl, Sans.refl _ _ _, fun e => by rw [HD.out] at e; simp at e, by rw [HD.out]; simp⟩
      · have hk7' : ¬ (k : Int) = 7 := by omega
        have hpb : 0 ≤ x % 128 ∧ x % 128 ≤ 127 := by omega
        have hpq : 0 ≤ x % 128 * q ∧ x % 128 * q ≤ 127 * q := ⟨Int.mul_nonneg hpb.1 (by omega), Int.mul_le_mul_of_nonneg_right hpb.2 (by omega)⟩
        have hqn : q * 128 ≤ 562949953421312 := by rw [HQ.out]; exact pw_next (by omega)
        have hw1 : IntKind.i64.wrap (x % 128 * q) = x % 128 * q := IntWalk.i64_in _ (by omega)
        have hw2 : IntKind.i64.wrap (a + x % 128 * q) = a + x % 128 * q := IntWalk.i64_in _ (by omega)
        have hw3 : IntKind.i64.wrap (q * 128) = q * 128 := IntWalk.i64_in _ (by omega)
        have HNX : Hid (0 ≤ a + x % 128 * q ∧ a + x % 128 * q < q * 128 ∧ q * 128 ≤ 562949953421312) := ⟨by omega, by omega, hqn⟩
        have HPW : Hid (q * 128 = pw (k + 1)) := by show _ = _; rw [HQ.out, pw_succ]
        clear HQ hqn hpq hpb
        by_cases h1 : 128 ≤ x
        · have HD : Hid (numG (k + 1) (a + x % 128 * q) (q * 128) (l.drop (k + 1)) = numD l) := by show _ = _; rw [HST.out, numG, if_neg h7, if_pos h1]
          clear HST
          go_wp2_with fail
          refine ⟨⟨k + 1, _, _, by omega, by omega, by go_num, rfl, rfl, HD, HNX.out, HPW, trivial⟩, ?_⟩
          simp [intOf]; omega
        · by_cases h2 : x = 0 ∧ 0 < k
          · obtain ⟨rfl, h0⟩ := h2
            have h0i : (0 : Int) < (k : Int) := by omega
            have HD : Hid (numD l = ⟨4, 0, []⟩) := by show _ = _; rw [HST.out, numG, if_neg h7, if_neg h1, if_pos ⟨rfl, h0⟩]
            clear HST
            go_wp2_with fail
            go_ret2
            rw [HD.out]
            exact ⟨rfl, Sans.refl _ _ _, fun e => by rw [HD.out] at e; simp at e, by rw [HD.out]; simp⟩
          · have HD : Hid (numD l = ⟨0, a + x % 128 * q, l.drop (k + 1)⟩) := by show _ = _; rw [HST.out, numG, if_neg h7, if_neg h1, if_neg h2]
            have HV : Hid (0 ≤ (numD l).val ∧ (numD l).val < 562949953421312) := by show _ ∧ _; rw [HD.out]; exact ⟨HNX.out.1, by have := HNX.out; show a + x % 128 * q < _; omega⟩
            have hwk : IntKind.i64.wrap ((k : Int) + 1) = (k : Int) + 1 := IntWalk.i64_in _ (by omega)
            have hk1 : (k : Int) + 1 ≤ (c : Int) := by omega
            have hk2 : (k : Int) + 1 ≤ (l.length : Int) := by omega
            have hk3 : ((k : Int) + 1).toNat = k + 1 := by omega
            have HA : Hid (∀ A' n' c', n' = l.length - (k + 1) → c' = c - (k + 1) → (k + 1 < l.length → A' = some ⟨g, off + (k + 1), none⟩) → RdAt (w.setCell ⟨b, 0, none⟩ (.slice A' n' c')) lo b (.slice A' n' c') (l.drop (k + 1)) ∧ Sans b lo w (w.setCell ⟨b, 0, none⟩ (.slice A' n' c'))) := fun A' n' c' e1 e2 e3 => ⟨HR.out.rest (k + 1) (by omega) e1 e2 (fun hh g' off' e => by simp only [Option.some.injEq, Addr.mk.injEq] at e; obtain ⟨rfl, rfl, -⟩ := e; exact e3 hh), Sans.set w HR.out.own _⟩
            have hcell : c = k + 1 → ¬ k + 1 < l.length := fun e => by omega
            clear HST HNX HPW HR
            by_cases hx0 : x = 0
            · subst hx0
              have hk0 : ¬ (0 : Int) < (k : Int) := by omega
              have HD0 : Hid (numD l = ⟨0, a, l.drop (k + 1)⟩) := by show _ = _; rw [HD.out]; simp
              clear HD
              by_cases hcc : c = k + 1
              · go_wp2_with fail
                go_ret2
                rw [HD0.out]
                obtain ⟨r1, r2⟩ := HA.out (some ⟨g, off, none⟩) _ 0 rfl (by omega) (fun hh => absurd hh (hcell hcc))
                exact ⟨rfl, r2, fun _ => ⟨_, by rw [HD0.out]; exact r1⟩, HV.out⟩
              · go_wp2_with fail
                go_ret2
                rw [HD0.out]
                obtain ⟨r1, r2⟩ := HA.out _ _ _ rfl rfl (fun _ => rfl)
                exact ⟨rfl, r2, fun _ => ⟨_, by rw [HD0.out]; exact r1⟩, HV.out⟩
            · by_cases hcc : c = k + 1
              · go_wp2_with fail
                go_ret2
                rw [HD.out]
                obtain ⟨r1, r2⟩ := HA.out (some ⟨g, off, none⟩) _ 0 rfl (by omega) (fun hh => absurd hh (hcell hcc))
                exact ⟨rfl, r2, fun _ => ⟨_, by rw [HD.out]; exact r1⟩, HV.out⟩
              · go_wp2_with fail
                go_ret2
                rw [HD.out]
                obtain ⟨r1, r2⟩ := HA.out _ _ _ rfl rfl (fun _ => rfl)
                exact ⟨rfl, r2, fun _ => ⟨_, by rw [HD.out]; exact r1⟩, HV.out⟩
    · have hki : ¬ (k : Int) < (l.length : Int) := by omega
      have HD : Hid (numD l = ⟨5, 0, []⟩) := by show _ = _; rw [← HN.out, numG_end hkl]
      clear hA HN HQ
      go_wp2_with fail
      go_ret2
      rw [HD.out]
      exact ⟨rfl, Sans.refl _ _ _, fun e => by rw [HD.out] at e; simp at e, by rw [HD.out]; simp⟩

end Go.Proofs.YtecpblabaelopaaGreatDoor

/- Contract of reader.word. -/

namespace Go.Proofs.YtecpblabaelopaaGreatDoor
open Go.RowKit
set_option maxRecDepth 100000

theorem OwnI.one {w : World} {lo : Nat} (h : lo ≤ w.heap.size) (x : Int) : OwnI (w.alloc (.cells #[.int .i64 x] 3)) lo (.slice (some ⟨w.heap.size, 0, none⟩) 1 1) [x] :=
  ⟨by simp, Or.inr ⟨w.heap.size, 1, _, rfl, h, Go.Deep.blk_alloc_new _ _, by simp, by unfold maxLen; omega, by simp, by simp⟩⟩

set_option maxHeartbeats 1000000 in
theorem word_no (b lo : Nat) (v : Value) (l : List Int) (w : World) (h : RdAt w lo b v l) (hn : (numD l).no ≠ 0) :
    Calls Tryz.prog 152 #[.pointer (some ⟨b, 0, none⟩)] w fun e w' => e = .returned (.tuple #[.slice none 0 0, .int .i64 (numD l).no]) ∧ Sans b lo w w' := by
  have HN : Hid (Calls Tryz.prog 128 #[.pointer (some ⟨b, 0, none⟩)] w fun e w' => e = .returned (.tuple #[.int .i64 (numD l).val, .int .i64 (numD l).no]) ∧ Sans b lo w w') := (number_any b lo v l w h).mono fun e w' ⟨h1, h2⟩ => ⟨h1, h2.sans⟩
  clear h
  revert hn HN
  generalize (numD l).no = en
  generalize (numD l).val = x
  intro hn HN
  have hn' : (en == 0) = false := by simpa using hn
  go_enter Tryz.func152, Tryz.ntmps152
  go_wp2_with fail
  refine HN.out.mono ?_
  rintro e w' ⟨rfl, hb⟩
  have HB : Hid (Sans b lo w w') := hb
  clear hb
  go_wp2_with fail
  go_ret2
  exact ⟨rfl, HB.out⟩

set_option maxHeartbeats 1000000 in
theorem word_ok (b lo : Nat) (v : Value) (l : List Int) (w : World) (h : RdAt w lo b v l) (hn : (numD l).no = 0) :
    Calls Tryz.prog 152 #[.pointer (some ⟨b, 0, none⟩)] w fun e w' => ∃ g v', e = .returned (.tuple #[.slice (some ⟨g, 0, none⟩) 1 1, .int .i64 0]) ∧ OwnI w' w.heap.size (.slice (some ⟨g, 0, none⟩) 1 1) [anyK (numD l).val] ∧ RdAt w' lo b v' (numD l).rest ∧ Sans b lo w w' := by
  have HN : Hid (Calls Tryz.prog 128 #[.pointer (some ⟨b, 0, none⟩)] w fun e w' => e = .returned (.tuple #[.int .i64 (numD l).val, .int .i64 0]) ∧ (∃ v', RdAt w' lo b v' (numD l).rest) ∧ Sans b lo w w' ∧ 0 ≤ (numD l).val ∧ (numD l).val < 562949953421312) := (number_any b lo v l w h).mono fun e w' ⟨h1, h2⟩ => ⟨by rw [h1, hn], h2.rd hn, h2.sans, h2.val⟩
  clear h hn
  revert HN
  generalize (numD l).rest = r
  generalize (numD l).val = x
  intro HN
  have HK : Hid (∀ W, 0 ≤ x → x < 562949953421312 → Calls Tryz.prog 168 #[.int .i64 x] W fun e w' => e = .returned (.int .i64 (anyK x)) ∧ w' = W) := fun W h0 h1 => anyKind_any x W h0 (by omega)
  go_enter Tryz.func152, Tryz.ntmps152
  go_wp2_with fail
  refine HN.out.mono ?_
  rintro e w1 ⟨rfl, ⟨v', hr⟩, hb, hx0, hx1⟩
  have HB : Hid (RdAt w1 lo b v' r ∧ Sans b lo w w1) := ⟨hr, hb⟩
  clear hr hb HN
  go_wp2_with fail
  refine (HK.out _ hx0 hx1).mono ?_
  rintro e w2 ⟨rfl, rfl⟩
  go_wp2_with fail
  go_ret2
  have hsz := HB.out.2.size
  have hlw : lo ≤ w2.heap.size := by have := HB.out.1.own; have := HB.out.1.lt; omega
  exact ⟨_, v', rfl, OwnI.one hsz _, HB.out.1.below (below_alloc _ _), HB.out.2.trans (Sans.of_below (below_alloc _ _) hlw)⟩

end Go.Proofs.YtecpblabaelopaaGreatDoor

/- Contract of reader.runs. -/

namespace Go.Proofs.YtecpblabaelopaaGreatDoor
open Go.RowKit
set_option maxRecDepth 100000

theorem Sans.append {b lo n sz : Nat} {e : TypeId} {w w1 W w2 : World} {v : Value} {xs : List Value} (h : Sans b lo w w1) (hlo : lo ≤ w.heap.size) (hB : Below w1.heap.size w1 W) (ho : W.ownsRow w.heap.size e sz v n xs) (hg : W.grownBy w2 v.ownBlock) : Sans b lo w w2 := by
  have hW : Sans b lo w W := h.trans (Sans.of_below hB (Nat.le_trans hlo h.size))
  refine ⟨hW.old.grown hg (Nat.le_trans hlo hW.size) (fun k hk => Nat.le_trans hlo (World.ownsRow.lt ho k hk).1), Nat.le_trans hW.size hg.size, fun g hg' hn => ?_⟩
  rw [hg.block g (Nat.lt_of_lt_of_le hg' hW.size) (fun e => ?_), hW.block g hg' hn]
  have := (World.ownsRow.lt ho g e.symm).1
  omega
theorem RdAt.append {w1 W w2 : World} {lo lo' b n sz : Nat} {e : TypeId} {v u : Value} {l : List Int} {xs : List Value} (h : RdAt w1 lo b v l) (hB : Below w1.heap.size w1 W) (hlo : lo ≤ lo') (hne : u.ownBlock ≠ some b) (ho : W.ownsRow lo' e sz u n xs) (hg : W.grownBy w2 u.ownBlock) : RdAt w2 lo b v l := by
  have hW := h.below hB
  refine ⟨block_grown hW.box hg hne, h.own, hW.bys.below ?_⟩
  exact (Below.refl _ W).grown hg (by have := hW.own; have := hW.lt; omega) (fun k hk => Nat.le_trans hlo (World.ownsRow.lt ho k hk).1)

structure RunsQ (w w' : World) (lo b : Nat) (u : Value) (l : List Int) : Prop where
  sans : Sans b lo w w'
  ok : (runsD 16 [] 0 l).no = 0 → OwnI w' w.heap.size u (runsD 16 [] 0 l).val ∧ ∃ v', RdAt w' lo b v' (runsD 16 [] 0 l).rest
  no : (runsD 16 [] 0 l).no ≠ 0 → u = .slice none 0 0
structure RunsI (w wr : World) (lo b : Nat) (o v : Value) (got l : List Int) : Prop where
  own : OwnI wr w.heap.size o got
  rd : RdAt wr lo b v l
  sans : Sans b lo w wr
theorem RunsI.read {w w1 w2 : World} {lo b : Nat} {o v : Value} {got l : List Int} (h : RunsI w w1 lo b o v got l) (q : NumQ w1 w2 lo b v l) (h0 : (numD l).no = 0) : ∃ v', RunsI w w2 lo b o v' got (numD l).rest := by
  obtain ⟨v', r⟩ := q.rd h0
  exact ⟨v', q.sans.ints h.own h.rd.box, r, h.sans.trans q.sans⟩
theorem RunsI.append {w w1 W w2 : World} {lo b : Nat} {o o' v : Value} {got l : List Int} {x : Int} (h : RunsI w w1 lo b o v got l) (hlo : lo ≤ w.heap.size) (hB : Below w1.heap.size w1 W) (hg : W.grownBy w2 o.ownBlock) (ho : OwnI w2 w.heap.size o' (got ++ [x])) : RunsI w w2 lo b o' v (got ++ [x]) l := by
  have hO := h.own.below hB
  exact ⟨ho, h.rd.append hB hlo (own_ne hO (h.rd.below hB).box (by decide)) hO hg, h.sans.append hlo hB hO hg⟩

set_option maxHeartbeats 2000000 in
theorem runs_any (b lo : Nat) (v : Value) (l : List Int) (w : World) (h : RdAt w lo b v l) (hlo : lo ≤ w.heap.size) :
    Calls Tryz.prog 151 #[.pointer (some ⟨b, 0, none⟩), .int .i64 16] w fun e w' => ∃ u, e = .returned (.tuple #[u, .int .i64 (runsD 16 [] 0 l).no]) ∧ RunsQ w w' lo b u l := by
  obtain ⟨i0, hi, hz0, hz1, hz2⟩ := info_parts infoInt
  have HI0 : Hid (RunsI w w lo b (.slice none 0 0) v [] l) := ⟨World.ownsRow_nil _ _ _ _, h, Sans.refl _ _ _⟩
  have HN : Hid (∀ W v1 l1, RdAt W lo b v1 l1 → Calls Tryz.prog 128 #[.pointer (some ⟨b, 0, none⟩)] W fun e w' => e = .returned (.tuple #[.int .i64 (numD l1).val, .int .i64 (numD l1).no]) ∧ NumQ W w' lo b v1 l1) := fun W v1 l1 hr => number_any b lo v1 l1 W hr
  have HK : Hid (∀ W x, 0 ≤ x → x < 562949953421312 → Calls Tryz.prog 168 #[.int .i64 x] W fun e w' => e = .returned (.int .i64 (anyK x)) ∧ w' = W) := fun W x h0 h1 => anyKind_any x W h0 (by omega)
  clear h
  go_enter Tryz.func151, Tryz.ntmps151
  go_wp2_with fail
  go_loopw [6, 7] (fun o t wr => ∃ (f : Nat) (got : List Int) (last : Int) (l' : List Int) (v' : Value), got.length ≤ 16 ∧ 16 - got.length ≤ f ∧ t = .int .i64 last ∧ (-(562949953421312 * got.length) ≤ last ∧ last ≤ 562949953421312 * got.length) ∧ Hid (runsD f got last l' = runsD 16 [] 0 l) ∧ Hid (RunsI w wr lo b o v' got l')) (fun o _ _ => match o with | .slice _ n _ => 16 - n | _ => 0)
  case atStart => exact ⟨16, [], 0, l, v, by simp, by simp, rfl, by simp, rfl, HI0⟩
  case round =>
    obtain ⟨f, got, last, l', v', hg16, hf, rfl, hlast, HE, HI⟩ := hrel
    obtain ⟨A, c, rfl⟩ := HI.out.own.shape
    by_cases hlt : got.length < 16
    · have hlti : (got.length : Int) < 16 := by omega
      obtain ⟨f', rfl⟩ : ∃ f', f = f' + 1 := ⟨f - 1, by omega⟩
      have HE1 : Hid (runsD 16 [] 0 l = runsD (f' + 1) got last l') := HE.out.symm
      clear HE
      go_wp2_with fail
      refine (HN.out _ _ _ HI.out.rd).mono ?_
      rintro e w1 ⟨rfl, hq1⟩
      have HQ1 : Hid (NumQ wr w1 lo b v' l') := hq1
      have hv1 := hq1.val
      clear hq1
      by_cases h1 : (numD l').no = 0
      · obtain ⟨v1, hi1⟩ := HI.out.read HQ1.out h1
        have HI1 : Hid (RunsI w w1 lo b (.slice A got.length c) v1 got (numD l').rest) := hi1
        clear hi1 HQ1 HI
        rw [h1]
        go_wp2_with fail
        refine (HN.out _ _ _ HI1.out.rd).mono ?_
        rintro e w2 ⟨rfl, hq2⟩
        have HQ2 : Hid (NumQ w1 w2 lo b v1 (numD l').rest) := hq2
        have hv2 := hq2.val
        clear hq2
        by_cases h2 : (numD (numD l').rest).no = 0
        · obtain ⟨v2, hi2⟩ := HI1.out.read HQ2.out h2
          have HI2 : Hid (RunsI w w2 lo b (.slice A got.length c) v2 got (numD (numD l').rest).rest) := hi2
          clear hi2 HQ2 HI1
          rw [h2]
          have HR : Hid (∀ x y r, (numD l').val = x → (numD (numD l').rest).val = y → (numD (numD l').rest).rest = r → ((x < 1 ∨ 16 - (got.length : Int) < x ∨ (y = 0 ∧ 0 < got.length)) → runsD 16 [] 0 l = ⟨4, [], []⟩) ∧ (¬ (x < 1 ∨ 16 - (got.length : Int) < x ∨ (y = 0 ∧ 0 < got.length)) → runsD 16 [] 0 l = runsD f' (got ++ List.replicate x.toNat (last + anyK y)) (last + anyK y) r)) := by
            intro x y r hx hy hr
            subst hx hy hr
            rw [HE1.out, runsD, if_pos hlt, if_neg (by simp [h1]), if_neg (by simp [h2])]
            exact ⟨fun hc => by rw [if_pos hc], fun hc => by rw [if_neg hc]⟩
          clear HE1 h1 h2
          revert hv1 hv2 HR HI2
          generalize (numD (numD l').rest).rest = r
          generalize (numD (numD l').rest).val = y
          generalize (numD l').val = x
          intro hv1 hv2 HI2 HR
          have HS : Hid (RunsI w w2 lo b (.slice A got.length c) v2 got r) := HI2.out
          have hyc : (y = 0 ∧ (0 : Int) < (got.length : Int)) ∨ (y = 0 ∧ ¬ (0 : Int) < (got.length : Int)) ∨ ¬ y = 0 := by omega
          have hw16 : IntKind.i64.wrap (16 - (got.length : Int)) = 16 - (got.length : Int) := IntWalk.i64_in _ (by omega)
          have HZ : Hid (runsD 16 [] 0 l = ⟨4, [], []⟩ → RunsQ w w2 lo b (.slice none 0 0) l) := fun e4 => ⟨HI2.out.sans, fun e => by rw [e4] at e; simp at e, fun _ => rfl⟩
          clear HI2
          by_cases hA : x < 1
          · have HE4 : Hid (runsD 16 [] 0 l = ⟨4, [], []⟩) := (HR.out _ _ _ rfl rfl rfl).1 (Or.inl hA)
            clear HR HN HK
            rcases hyc with ⟨rfl, hg0⟩ | ⟨rfl, hg0⟩ | hg0
            all_goals
              go_wp2_with fail
              go_ret2
              exact ⟨_, by rw [HE4.out]; rfl, HZ.out HE4.out⟩
          by_cases hB : 16 - (got.length : Int) < x
          · have HE4 : Hid (runsD 16 [] 0 l = ⟨4, [], []⟩) := (HR.out _ _ _ rfl rfl rfl).1 (Or.inr (Or.inl hB))
            clear HR HN HK
            rcases hyc with ⟨rfl, hg0⟩ | ⟨rfl, hg0⟩ | hg0
            all_goals
              go_wp2_with fail
              go_ret2
              exact ⟨_, by rw [HE4.out]; rfl, HZ.out HE4.out⟩
          rcases hyc with ⟨rfl, hg0⟩ | hyc
          · have HE4 : Hid (runsD 16 [] 0 l = ⟨4, [], []⟩) := (HR.out _ _ _ rfl rfl rfl).1 (Or.inr (Or.inr ⟨rfl, by omega⟩))
            clear HR HN HK
            go_wp2_with fail
            go_ret2
            exact ⟨_, by rw [HE4.out]; rfl, HZ.out HE4.out⟩
          have HG : Hid (runsD f' (got ++ List.replicate x.toNat (last + anyK y)) (last + anyK y) r = runsD 16 [] 0 l) := ((HR.out _ _ _ rfl rfl rfl).2 (by omega)).symm
          have HKy : Hid (∀ W, Calls Tryz.prog 168 #[.int .i64 y] W fun e w' => e = .returned (.int .i64 (anyK y)) ∧ w' = W) := fun W => HK.out W y hv2.1 hv2.2
          have hak : -281474976710656 ≤ anyK y ∧ anyK y ≤ 281474976710656 := by unfold anyK; split <;> omega
          clear HR HN HK HZ
          revert HG HKy hak
          generalize anyK y = z
          intro HG HKy hak
          obtain ⟨n, rfl⟩ : ∃ n : Nat, x = (n : Int) := ⟨x.toNat, by omega⟩
          rw [Int.toNat_natCast] at HG
          have hwz : IntKind.i64.wrap (last + z) = last + z := IntWalk.i64_in _ (by omega)
          obtain ⟨z', hz'⟩ : ∃ z', z' = last + z := ⟨_, rfl⟩
          rw [← hz'] at HG hwz
          have hzb : -(562949953421312 * ((got.length : Int) + 1)) ≤ z' ∧ z' ≤ 562949953421312 * ((got.length : Int) + 1) := by omega
          rcases hyc with ⟨rfl, hg0⟩ | hg0
          all_goals
            go_wp2_with fail
            refine (HKy.out _).mono ?_
            rintro e w3 ⟨rfl, rfl⟩
            go_wp2_with fail
            rw [← hz']
            have HZE : Hid (z' = last + z) := hz'
            clear hz' HKy hwz hak
            go_loopw [6, 57] (fun o i wi => ∃ k : Nat, k ≤ n ∧ i = .int .i64 k ∧ Hid (RunsI w wi lo b o v2 (got ++ List.replicate k z') r)) (fun _ i _ => n - (intOf i).toNat)
            case atStart => exact ⟨0, Nat.zero_le _, rfl, (by show RunsI _ _ _ _ _ _ _ _; rw [List.replicate_zero, List.append_nil]; exact HS.out)⟩
            case round =>
              obtain ⟨k, hk, rfl, HJ⟩ := hrel
              obtain ⟨G, hG⟩ : ∃ G, G = got ++ List.replicate k z' := ⟨_, rfl⟩
              have hGl : G.length = got.length + k := by rw [hG]; simp
              have HG2 : Hid (G ++ [z'] = got ++ List.replicate (k + 1) z') := by show _ = _; rw [hG, List.replicate_succ', List.append_assoc]
              have HG1 : Hid (G = got ++ List.replicate k z') := hG
              rw [← hG] at HJ
              clear hG
              have HGL : Hid (G.length = got.length + k) := hGl
              have hGb : G.length ≤ 16 := by omega
              clear hGl
              obtain ⟨A2, c2, rfl⟩ := HJ.out.own.shape
              have HO : Hid (OwnI wr w.heap.size (.slice A2 G.length c2) G) := HJ.out.own
              by_cases hkn : k < n
              · have hki : (k : Int) < (n : Int) := by omega
                go_wp2_with (first
                  | (at_builtin; refine wpList_append_own_at _ rfl _ _ 24 rfl w.heap.size 3 i0 (.int .i64 0) 1 8 Tryz.underlying24 hi hz0 hz1 hz2 rfl (by decide) (.slice A2 G.length c2) G.length (G.map (Value.int .i64)) rfl (World.ownsRow.alloc HO.out _) ⟨wr.heap.size, 0, none⟩ 1 1 [.int .i64 z'] rfl rfl (cell_one_new _ _ _) (by intro u hu; simp at hu; subst hu; rfl) ?c3 ?c4 ?c5 ?_))
                case c3 => unfold maxLen; omega
                case c4 => omega
                case c5 => simp; have := HJ.out.sans.size; omega
                intro vn w4 hown' hgrow _ _
                have HJ2 : Hid (RunsI w w4 lo b vn v2 (got ++ List.replicate (k + 1) z') r) := by rw [← HG2.out]; exact HJ.out.append hlo (below_alloc _ _) hgrow (OwnI.snoc hown' rfl)
                clear hown' hgrow
                go_wp2_with fail
                refine ⟨⟨k + 1, by omega, by go_num, HJ2⟩, ?_⟩
                simp [intOf]; omega
              · have hki : ¬ (k : Int) < (n : Int) := by omega
                obtain rfl : k = n := by omega
                have hGL := HGL.out
                go_wp2_with fail
                refine ⟨⟨f', G, z', r, v2, hGb, by omega, rfl, by omega, (by rw [HG1.out]; exact HG.out), HJ⟩, ?_⟩
                show 16 - G.length < 16 - got.length
                omega
        · have HR : Hid (runsD 16 [] 0 l = ⟨(numD (numD l').rest).no, [], []⟩) := by
            show _ = _
            rw [HE1.out, runsD, if_pos hlt, if_neg (by simp [h1]), if_pos h2]
          have HZ : Hid (RunsQ w w2 lo b (.slice none 0 0) l) := ⟨HI1.out.sans.trans HQ2.out.sans, fun e => by rw [HR.out] at e; exact absurd e h2, fun _ => rfl⟩
          clear HE1 HI1 HQ2 h1
          revert h2 HR
          generalize (numD (numD l').rest).no = en
          intro h2 HR
          have h2' : (en == 0) = false := by simpa using h2
          go_wp2_with fail
          go_ret2
          exact ⟨_, by rw [HR.out]; rfl, HZ.out⟩
      · have HR : Hid (runsD 16 [] 0 l = ⟨(numD l').no, [], []⟩) := by
          show _ = _
          rw [HE1.out, runsD, if_pos hlt, if_pos h1]
        have HZ : Hid (RunsQ w w1 lo b (.slice none 0 0) l) := ⟨HI.out.sans.trans HQ1.out.sans, fun e => by rw [HR.out] at e; exact absurd e h1, fun _ => rfl⟩
        clear HE1 HI HQ1
        revert h1 HR
        generalize (numD l').no = en
        intro h1 HR
        have h1' : (en == 0) = false := by simpa using h1
        go_wp2_with fail
        go_ret2
        exact ⟨_, by rw [HR.out]; rfl, HZ.out⟩
    · have hg : got.length = 16 := by omega
      have HR : Hid (runsD 16 [] 0 l = ⟨0, got, l'⟩) := by
        show _ = _
        rw [← HE.out]
        cases f with
        | zero => rfl
        | succ f => rw [runsD, if_neg hlt]
      have HZ : Hid (RunsQ w wr lo b (.slice A got.length c) l) := ⟨HI.out.sans, fun _ => by rw [HR.out]; exact ⟨HI.out.own, v', HI.out.rd⟩, fun e => by rw [HR.out] at e; exact absurd rfl e⟩
      rw [hg] at HZ ⊢
      clear HE HI
      go_wp2_with fail
      go_ret2
      exact ⟨_, by rw [HR.out]; rfl, HZ.out⟩

end Go.Proofs.YtecpblabaelopaaGreatDoor

/- Contract of reader.event. -/

namespace Go.Proofs.YtecpblabaelopaaGreatDoor
open Go.RowKit
set_option maxRecDepth 100000

theorem Sans.put {b lo : Nat} {w w1 : World} (h : Sans b lo w w1) (hlo : lo ≤ w.heap.size) {p : Addr} (hp : w.heap.size ≤ p.block) (u : Value) : Sans b lo w (w1.setCell p u) :=
  ⟨h.old.setCell (Nat.le_trans hlo hp) u, by simpa [World.setCell] using h.size, fun g hg hn => by
    rw [Below.heap_setCell _ _ _ _ (by omega)]
    exact h.block g hg hn⟩
theorem RdAt.put {w : World} {lo b : Nat} {v : Value} {l : List Int} (h : RdAt w lo b v l) {p : Addr} (hp : lo ≤ p.block) (hb : b ≠ p.block) (u : Value) : RdAt (w.setCell p u) lo b v l :=
  ⟨by rw [Below.heap_setCell _ _ _ _ hb]; exact h.box, h.own, h.bys.below ((Below.refl _ w).setCell hp u)⟩

structure EvS (w w1 : World) (lo b : Nat) (v : Value) (l : List Int) : Prop where
  rd : RdAt w1 lo b v l
  sans : Sans b lo w w1
  res : w1.heap[w.heap.size]? = some (.cells #[.int .i64 0, .int .i64 0, .slice none 0 0] 62 (0, 0))
  blt : b < w.heap.size
structure EvX (w w1 : World) (lo b : Nat) (v : Value) (l : List Int) (x : Nat) (a k : Int) (u : Value) : Prop where
  s : EvS w w1 lo b v l
  box : w1.heap[x]? = some (.cells #[.int .i64 a, .int .i64 k, u] 62 (0, 0))
  lt : w.heap.size < x
theorem EvS.start {w w1 : World} {lo b : Nat} {v : Value} {l : List Int} (h : RdAt w lo b v l) (q : NumQ (w.alloc (.cells #[.int .i64 0, .int .i64 0, .slice none 0 0] 62)) w1 lo b v l) : Sans b lo w w1 ∧ w1.heap[w.heap.size]? = some (.cells #[.int .i64 0, .int .i64 0, .slice none 0 0] 62 (0, 0)) ∧ ((numD l).no = 0 → ∃ v', EvS w w1 lo b v' (numD l).rest) := by
  have hlt := h.lt
  have hown := h.own
  have hs : Sans b lo w w1 := (Sans.of_below (below_alloc _ _) (by omega)).trans q.sans
  have hr : w1.heap[w.heap.size]? = some (.cells #[.int .i64 0, .int .i64 0, .slice none 0 0] 62 (0, 0)) := by
    rw [q.sans.block _ (by simp) (by omega)]
    exact Go.Deep.blk_alloc_new _ _
  refine ⟨hs, hr, fun h0 => ?_⟩
  obtain ⟨v', hv⟩ := q.rd h0
  exact ⟨v', hv, hs, hr, hlt⟩
theorem EvS.boxed {w w1 : World} {lo b : Nat} {v : Value} {l : List Int} (h : EvS w w1 lo b v l) (a k : Int) : EvX w (w1.alloc (.cells #[.int .i64 a, .int .i64 k, .slice none 0 0] 62)) lo b v l w1.heap.size a k (.slice none 0 0) := by
  have hB := below_alloc w1 (.cells #[.int .i64 a, .int .i64 k, .slice none 0 0] 62)
  have hl := lt_of_block h.res
  have := h.rd.own
  have := h.rd.lt
  exact ⟨⟨h.rd.below hB, h.sans.trans (Sans.of_below hB (by omega)), by rw [hB.block _ hl]; exact h.res, h.blt⟩, Go.Deep.blk_alloc_new _ _, hl⟩
theorem EvX.on {w w1 w2 : World} {lo b x : Nat} {v v' u : Value} {l l' : List Int} {a k : Int} (h : EvX w w1 lo b v l x a k u) (hs : Sans b lo w1 w2) (hr : RdAt w2 lo b v' l') : EvX w w2 lo b v' l' x a k u := by
  have := h.s.blt
  have := h.lt
  exact ⟨⟨hr, h.s.sans.trans hs, by rw [hs.block _ (lt_of_block h.s.res) (by omega)]; exact h.s.res, h.s.blt⟩, by rw [hs.block _ (lt_of_block h.box) (by omega)]; exact h.box, h.lt⟩

set_option maxHeartbeats 2000000 in
theorem event_no (b lo : Nat) (v : Value) (l : List Int) (last : Int) (w : World) (h : RdAt w lo b v l) (hn : (numD l).no ≠ 0) :
    Calls Tryz.prog 129 #[.pointer (some ⟨b, 0, none⟩), .int .i64 last] w fun e w' => e = .returned (.tuple #[.agg #[.int .i64 0, .int .i64 0, .slice none 0 0], .int .i64 (numD l).no]) ∧ Sans b lo w w' := by
  have hlo : lo ≤ w.heap.size := by have := h.own; have := h.lt; omega
  have HN : Hid (Calls Tryz.prog 128 #[.pointer (some ⟨b, 0, none⟩)] (w.alloc (.cells #[.int .i64 0, .int .i64 0, .slice none 0 0] 62)) fun e w' => e = .returned (.tuple #[.int .i64 (numD l).val, .int .i64 (numD l).no]) ∧ Sans b lo w w' ∧ w'.heap[w.heap.size]? = some (.cells #[.int .i64 0, .int .i64 0, .slice none 0 0] 62 (0, 0))) := (number_any b lo v l _ (h.below (below_alloc _ _))).mono fun e w' ⟨h1, h2⟩ => ⟨h1, (EvS.start h h2).1, (EvS.start h h2).2.1⟩
  clear h
  revert hn HN
  generalize (numD l).no = en
  generalize (numD l).val = x
  intro hn HN
  have hn' : (en == 0) = false := by simpa using hn
  go_enter Tryz.func129, Tryz.ntmps129
  go_wp2_with fail
  refine HN.out.mono ?_
  rintro e w1 ⟨rfl, hb, hr⟩
  have HB : Hid (Sans b lo w w1) := hb
  obtain ⟨e0, e1, e2, ef, el⟩ := three_cells hr
  clear hb hr HN
  go_wp2_with fail
  refine bodyPost_ret (v := .tuple #[.agg #[.int .i64 0, .int .i64 0, .slice none 0 0], .int .i64 en]) (by simp [results, Tryz.results129, go_sem, e0, e1, e2]) rfl ?_
  exact ⟨rfl, ((HB.out.put hlo (by simp) _).put hlo (by simp) _).put hlo (by simp) _⟩

theorem number_ev (b lo : Nat) (v : Value) (l : List Int) (w : World) (h : RdAt w lo b v l) (hn : (numD l).no = 0) (n : Int) (r : List Int) (hv : (numD l).val = n) (hr : (numD l).rest = r) :
    Calls Tryz.prog 128 #[.pointer (some ⟨b, 0, none⟩)] (w.alloc (.cells #[.int .i64 0, .int .i64 0, .slice none 0 0] 62)) fun e w' => e = .returned (.tuple #[.int .i64 n, .int .i64 0]) ∧ (0 ≤ n ∧ n < 562949953421312) ∧ ∃ v', EvS w w' lo b v' r := by
  subst hv hr
  exact (number_any b lo v l _ (h.below (below_alloc _ _))).mono fun e w' ⟨h1, h2⟩ => ⟨by rw [h1, hn], h2.val, (EvS.start h h2).2.2 hn⟩

set_option maxHeartbeats 2000000 in
theorem event_one (b lo : Nat) (v : Value) (l : List Int) (last n : Int) (r : List Int) (w : World) (h : RdAt w lo b v l) (hn : (numD l).no = 0) (hv : (numD l).val = n) (hr : (numD l).rest = r) (hk : n % 4 = 1) (hl : 0 ≤ last ∧ last ≤ 1152921504606846976) :
    Calls Tryz.prog 129 #[.pointer (some ⟨b, 0, none⟩), .int .i64 last] w fun e w' => e = .returned (.tuple #[.agg #[.int .i64 (last + n / 4), .int .i64 1, .slice none 0 0], .int .i64 0]) ∧ Sans b lo w w' ∧ ∃ v', RdAt w' lo b v' r := by
  have hlo : lo ≤ w.heap.size := by have := h.own; have := h.lt; omega
  have HN : Hid (Calls Tryz.prog 128 #[.pointer (some ⟨b, 0, none⟩)] (w.alloc (.cells #[.int .i64 0, .int .i64 0, .slice none 0 0] 62)) fun e w' => e = .returned (.tuple #[.int .i64 n, .int .i64 0]) ∧ (0 ≤ n ∧ n < 562949953421312) ∧ ∃ v', EvS w w' lo b v' r) := number_ev b lo v l w h hn n r hv hr
  clear h hn hv hr
  go_enter Tryz.func129, Tryz.ntmps129
  go_wp2_with fail
  refine HN.out.mono ?_
  rintro e w1 ⟨rfl, ⟨hn0, hn1⟩, v1, hs⟩
  have HS : Hid (EvS w w1 lo b v1 r) := hs
  obtain ⟨e0, e1, e2, ef, el⟩ := three_cells hs.res
  clear hs HN
  have hq : Int.tdiv n 4 = n / 4 := Int.tdiv_eq_ediv_of_nonneg hn0
  have hm : Int.tmod n 4 = 1 := by rw [Int.tmod_eq_emod_of_nonneg hn0]; exact hk
  have hw : IntKind.i64.wrap (last + n / 4) = last + n / 4 := IntWalk.i64_in _ (by omega)
  clear hk
  go_wp2_with fail
  refine bodyPost_ret (v := .tuple #[.agg #[.int .i64 (last + n / 4), .int .i64 1, .slice none 0 0], .int .i64 0]) (by simp [results, Tryz.results129, go_sem, e0, e1, e2, el]) rfl ?_
  have hz := HS.out.sans.size
  exact ⟨rfl, (((HS.out.sans.put hlo (by simp) _).put hlo (by simp) _).put hlo (by simp) _).trans (Sans.of_below (below_alloc _ _) (by simp; omega)), v1, (((HS.out.rd.put (by simpa using hlo) (by have := HS.out.blt; simp; omega) _).put (by simpa using hlo) (by have := HS.out.blt; simp; omega) _).put (by simpa using hlo) (by have := HS.out.blt; simp; omega) _).below (below_alloc _ _)⟩

theorem EvX.done {w w2 : World} {lo b x : Nat} {v n : Value} {r : List Int} {a k : Int} (h : EvX w w2 lo b v r x a k n) (hlo : lo ≤ w.heap.size) (u y0 y1 y2 : Value) :
    Sans b lo w ((((w2.setCell ⟨x, 2, none⟩ u).setCell ⟨w.heap.size, 0, none⟩ y0).setCell ⟨w.heap.size, 1, none⟩ y1).setCell ⟨w.heap.size, 2, none⟩ y2) ∧
    RdAt ((((w2.setCell ⟨x, 2, none⟩ u).setCell ⟨w.heap.size, 0, none⟩ y0).setCell ⟨w.heap.size, 1, none⟩ y1).setCell ⟨w.heap.size, 2, none⟩ y2) lo b v r ∧
    ∀ (lo' : Nat) (d : List Int) (z : Value), OwnI w2 lo' z d → OwnI ((((w2.setCell ⟨x, 2, none⟩ u).setCell ⟨w.heap.size, 0, none⟩ y0).setCell ⟨w.heap.size, 1, none⟩ y1).setCell ⟨w.heap.size, 2, none⟩ y2) lo' z d := by
  have hb := h.s.blt
  have hx := h.lt
  refine ⟨(((h.s.sans.put hlo (by simp; omega) _).put hlo (by simp) _).put hlo (by simp) _).put hlo (by simp) _, (((h.s.rd.put (by simp; omega) (by simp; omega) _).put (by simpa using hlo) (by simp; omega) _).put (by simpa using hlo) (by simp; omega) _).put (by simpa using hlo) (by simp; omega) _, fun lo' d z ho => ?_⟩
  have n1 := own_ne ho h.box (by decide)
  have n2 := own_ne ho h.s.res (by decide)
  exact ownsRow_setCell_other (a := ⟨w.heap.size, 2, none⟩) (ownsRow_setCell_other (a := ⟨w.heap.size, 1, none⟩) (ownsRow_setCell_other (a := ⟨w.heap.size, 0, none⟩) (ownsRow_setCell_other (a := ⟨x, 2, none⟩) ho n1 _) n2 _) n2 _) n2 _

set_option maxHeartbeats 2000000 in
theorem event_two (b lo : Nat) (v : Value) (l : List Int) (last n : Int) (r : List Int) (w : World) (h : RdAt w lo b v l) (hL : Laid w) (h0 : 0 < lo) (hn : (numD l).no = 0) (hv : (numD l).val = n) (hr : (numD l).rest = r) (hk : n % 4 = 2) (hl : 0 ≤ last ∧ last ≤ 1152921504606846976) (hg : (runsD 16 [] 0 r).no = 0) :
    Calls Tryz.prog 129 #[.pointer (some ⟨b, 0, none⟩), .int .i64 last] w fun e w' => ∃ u, e = .returned (.tuple #[.agg #[.int .i64 (last + n / 4), .int .i64 2, u], .int .i64 0]) ∧ OwnI w' w.heap.size u (runsD 16 [] 0 r).val ∧ Sans b lo w w' ∧ ∃ v', RdAt w' lo b v' (runsD 16 [] 0 r).rest := by
  have hlo : lo ≤ w.heap.size := by have := h.own; have := h.lt; omega
  have HN : Hid (Calls Tryz.prog 128 #[.pointer (some ⟨b, 0, none⟩)] (w.alloc (.cells #[.int .i64 0, .int .i64 0, .slice none 0 0] 62)) fun e w' => e = .returned (.tuple #[.int .i64 n, .int .i64 0]) ∧ (0 ≤ n ∧ n < 562949953421312) ∧ ∃ v', EvS w w' lo b v' r) := number_ev b lo v l w h hn n r hv hr
  have HG : Hid ((runsD 16 [] 0 r).no = 0) := hg
  have HC : Hid (w.cell? ⟨0, 2, none⟩ = some (.int .i64 16)) := hL.2.2.1
  clear h hn hv hr hg hL
  go_enter Tryz.func129, Tryz.ntmps129
  go_wp2_with fail
  refine HN.out.mono ?_
  rintro e w1 ⟨rfl, ⟨hn0, hn1⟩, v1, hs⟩
  have HX : Hid (EvX w (w1.alloc (.cells #[.int .i64 (last + n / 4), .int .i64 2, .slice none 0 0] 62)) lo b v1 r w1.heap.size (last + n / 4) 2 (.slice none 0 0)) := hs.boxed _ _
  have c2 : w1.cell? ⟨0, 2, none⟩ = some (.int .i64 16) := (hs.sans.old.cell (p := ⟨0, 2, none⟩) h0).trans HC.out
  have el := lt_of_block hs.res
  have hs1 := hs.sans.size
  have h01 : ¬ 0 = w1.heap.size := by omega
  have h02 : 0 < w1.heap.size := by omega
  clear hs HN HC
  have hq : Int.tdiv n 4 = n / 4 := Int.tdiv_eq_ediv_of_nonneg hn0
  have hm : Int.tmod n 4 = 2 := by rw [Int.tmod_eq_emod_of_nonneg hn0]; exact hk
  have hw : IntKind.i64.wrap (last + n / 4) = last + n / 4 := IntWalk.i64_in _ (by omega)
  clear hk
  go_wp2_with fail
  refine (runs_any b lo v1 r _ HX.out.s.rd (by simp; omega)).mono ?_
  rintro e w2 ⟨u, rfl, hq2⟩
  obtain ⟨ho, v2, hr2⟩ := hq2.ok HG.out
  have HX2 : Hid (EvX w w2 lo b v2 (runsD 16 [] 0 r).rest w1.heap.size (last + n / 4) 2 (.slice none 0 0)) := HX.out.on hq2.sans hr2
  have HO : Hid (OwnI w2 w.heap.size u (runsD 16 [] 0 r).val) := ownsRow_mono ho (by simp; omega)
  obtain ⟨A, c, rfl⟩ := ho.shape
  obtain ⟨e0, e1, e2, ef, el2⟩ := three_cells HX2.out.box
  obtain ⟨f0, f1, f2, ff, fl⟩ := three_cells HX2.out.s.res
  have hne : ¬ w.heap.size = w1.heap.size := by omega
  have hne2 : ¬ w1.heap.size = w.heap.size := by omega
  rw [HG.out]
  clear ho hr2 hq2 HX HG c2 h01 h02
  obtain ⟨m, hm2⟩ : ∃ m, m = (runsD 16 [] 0 r).val.length := ⟨_, rfl⟩
  rw [← hm2] at HO ⊢
  clear hm2
  go_wp2_with fail
  refine bodyPost_ret (v := .tuple #[.agg #[.int .i64 (last + n / 4), .int .i64 2, .slice A m c], .int .i64 0]) (by simp [results, Tryz.results129, go_sem, f0, f1, f2]) rfl ?_
  obtain ⟨d1, d2, d3⟩ := HX2.out.done hlo (.slice A m c) (.int .i64 (last + n / 4)) (.int .i64 2) (.slice A m c)
  exact ⟨_, rfl, d3 _ _ _ HO.out, d1, v2, d2⟩

set_option maxHeartbeats 2000000 in
theorem event_two_no (b lo : Nat) (v : Value) (l : List Int) (last n : Int) (r : List Int) (w : World) (h : RdAt w lo b v l) (hL : Laid w) (h0 : 0 < lo) (hn : (numD l).no = 0) (hv : (numD l).val = n) (hr : (numD l).rest = r) (hk : n % 4 = 2) (hl : 0 ≤ last ∧ last ≤ 1152921504606846976) (hg : (runsD 16 [] 0 r).no ≠ 0) :
    Calls Tryz.prog 129 #[.pointer (some ⟨b, 0, none⟩), .int .i64 last] w fun e w' => e = .returned (.tuple #[.agg #[.int .i64 0, .int .i64 0, .slice none 0 0], .int .i64 (runsD 16 [] 0 r).no]) ∧ Sans b lo w w' := by
  have hlo : lo ≤ w.heap.size := by have := h.own; have := h.lt; omega
  have HN : Hid (Calls Tryz.prog 128 #[.pointer (some ⟨b, 0, none⟩)] (w.alloc (.cells #[.int .i64 0, .int .i64 0, .slice none 0 0] 62)) fun e w' => e = .returned (.tuple #[.int .i64 n, .int .i64 0]) ∧ (0 ≤ n ∧ n < 562949953421312) ∧ ∃ v', EvS w w' lo b v' r) := number_ev b lo v l w h hn n r hv hr
  have HG : Hid ((runsD 16 [] 0 r).no ≠ 0) := hg
  have HC : Hid (w.cell? ⟨0, 2, none⟩ = some (.int .i64 16)) := hL.2.2.1
  clear h hn hv hr hg hL
  go_enter Tryz.func129, Tryz.ntmps129
  go_wp2_with fail
  refine HN.out.mono ?_
  rintro e w1 ⟨rfl, ⟨hn0, hn1⟩, v1, hs⟩
  have HX : Hid (EvX w (w1.alloc (.cells #[.int .i64 (last + n / 4), .int .i64 2, .slice none 0 0] 62)) lo b v1 r w1.heap.size (last + n / 4) 2 (.slice none 0 0)) := hs.boxed _ _
  have c2 : w1.cell? ⟨0, 2, none⟩ = some (.int .i64 16) := (hs.sans.old.cell (p := ⟨0, 2, none⟩) h0).trans HC.out
  have el := lt_of_block hs.res
  have hs1 := hs.sans.size
  have h01 : ¬ 0 = w1.heap.size := by omega
  have h02 : 0 < w1.heap.size := by omega
  clear hs HN HC
  have hq : Int.tdiv n 4 = n / 4 := Int.tdiv_eq_ediv_of_nonneg hn0
  have hm : Int.tmod n 4 = 2 := by rw [Int.tmod_eq_emod_of_nonneg hn0]; exact hk
  have hw : IntKind.i64.wrap (last + n / 4) = last + n / 4 := IntWalk.i64_in _ (by omega)
  clear hk
  go_wp2_with fail
  refine (runs_any b lo v1 r _ HX.out.s.rd (by simp; omega)).mono ?_
  rintro e w2 ⟨u, rfl, hq2⟩
  obtain rfl := hq2.no HG.out
  have hbl := HX.out.s.blt
  have hbx : w2.heap[w1.heap.size]? = some (.cells #[.int .i64 (last + n / 4), .int .i64 2, .slice none 0 0] 62 (0, 0)) := by rw [hq2.sans.block _ (by simp) (by omega)]; exact HX.out.box
  have hrs : w2.heap[w.heap.size]? = some (.cells #[.int .i64 0, .int .i64 0, .slice none 0 0] 62 (0, 0)) := by rw [hq2.sans.block _ (by simp; omega) (by omega)]; exact HX.out.s.res
  obtain ⟨e0, e1, e2, ef, el2⟩ := three_cells hbx
  obtain ⟨f0, f1, f2, ff, fl⟩ := three_cells hrs
  have HB : Hid (Sans b lo w w2) := HX.out.s.sans.trans hq2.sans
  have hne : ¬ w.heap.size = w1.heap.size := by omega
  have hne2 : ¬ w1.heap.size = w.heap.size := by omega
  have hgg := HG.out
  clear hq2 HX HG c2 h01 h02 hbx hrs
  obtain ⟨en, hen⟩ : ∃ en, en = (runsD 16 [] 0 r).no := ⟨_, rfl⟩
  have HE : Hid (en = (runsD 16 [] 0 r).no) := hen
  rw [← hen] at hgg ⊢
  clear hen
  have hen' : (en == 0) = false := by simpa using hgg
  go_wp2_with fail
  refine bodyPost_ret (v := .tuple #[.agg #[.int .i64 0, .int .i64 0, .slice none 0 0], .int .i64 en]) (by simp [results, Tryz.results129, go_sem, f0, f1, f2]) rfl ?_
  exact ⟨by rw [HE.out], (((HB.out.put hlo (by simp; omega) _).put hlo (by simp) _).put hlo (by simp) _).put hlo (by simp) _⟩

set_option maxHeartbeats 2000000 in
theorem event_three (b lo : Nat) (v : Value) (l : List Int) (last n : Int) (r : List Int) (w : World) (h : RdAt w lo b v l) (hn : (numD l).no = 0) (hv : (numD l).val = n) (hr : (numD l).rest = r) (hk : n % 4 = 3) (hl : 0 ≤ last ∧ last ≤ 1152921504606846976) (hg : (numD r).no = 0) :
    Calls Tryz.prog 129 #[.pointer (some ⟨b, 0, none⟩), .int .i64 last] w fun e w' => ∃ u, e = .returned (.tuple #[.agg #[.int .i64 (last + n / 4), .int .i64 3, u], .int .i64 0]) ∧ OwnI w' w.heap.size u [anyK (numD r).val] ∧ Sans b lo w w' ∧ ∃ v', RdAt w' lo b v' (numD r).rest := by
  have hlo : lo ≤ w.heap.size := by have := h.own; have := h.lt; omega
  have HN : Hid (Calls Tryz.prog 128 #[.pointer (some ⟨b, 0, none⟩)] (w.alloc (.cells #[.int .i64 0, .int .i64 0, .slice none 0 0] 62)) fun e w' => e = .returned (.tuple #[.int .i64 n, .int .i64 0]) ∧ (0 ≤ n ∧ n < 562949953421312) ∧ ∃ v', EvS w w' lo b v' r) := number_ev b lo v l w h hn n r hv hr
  have HG : Hid ((numD r).no = 0) := hg
  clear h hn hv hr hg
  go_enter Tryz.func129, Tryz.ntmps129
  go_wp2_with fail
  refine HN.out.mono ?_
  rintro e w1 ⟨rfl, ⟨hn0, hn1⟩, v1, hs⟩
  have HX : Hid (EvX w (w1.alloc (.cells #[.int .i64 (last + n / 4), .int .i64 3, .slice none 0 0] 62)) lo b v1 r w1.heap.size (last + n / 4) 3 (.slice none 0 0)) := hs.boxed _ _
  have el := lt_of_block hs.res
  have hs1 := hs.sans.size
  clear hs HN
  have hq : Int.tdiv n 4 = n / 4 := Int.tdiv_eq_ediv_of_nonneg hn0
  have hm : Int.tmod n 4 = 3 := by rw [Int.tmod_eq_emod_of_nonneg hn0]; exact hk
  have hw : IntKind.i64.wrap (last + n / 4) = last + n / 4 := IntWalk.i64_in _ (by omega)
  clear hk
  go_wp2_with fail
  refine (word_ok b lo v1 r _ HX.out.s.rd HG.out).mono ?_
  rintro e w2 ⟨g, v2, rfl, ho, hr2, hq2⟩
  have HX2 : Hid (EvX w w2 lo b v2 (numD r).rest w1.heap.size (last + n / 4) 3 (.slice none 0 0)) := HX.out.on hq2 hr2
  have HO : Hid (OwnI w2 w.heap.size (.slice (some ⟨g, 0, none⟩) 1 1) [anyK (numD r).val]) := ownsRow_mono ho (by simp; omega)
  obtain ⟨e0, e1, e2, ef, el2⟩ := three_cells HX2.out.box
  obtain ⟨f0, f1, f2, ff, fl⟩ := three_cells HX2.out.s.res
  have hne : ¬ w.heap.size = w1.heap.size := by omega
  have hne2 : ¬ w1.heap.size = w.heap.size := by omega
  clear ho hr2 hq2 HX HG
  go_wp2_with fail
  refine bodyPost_ret (v := .tuple #[.agg #[.int .i64 (last + n / 4), .int .i64 3, .slice (some ⟨g, 0, none⟩) 1 1], .int .i64 0]) (by simp [results, Tryz.results129, go_sem, f0, f1, f2]) rfl ?_
  obtain ⟨d1, d2, d3⟩ := HX2.out.done hlo (.slice (some ⟨g, 0, none⟩) 1 1) (.int .i64 (last + n / 4)) (.int .i64 3) (.slice (some ⟨g, 0, none⟩) 1 1)
  exact ⟨_, rfl, d3 _ _ _ HO.out, d1, v2, d2⟩

set_option maxHeartbeats 2000000 in
theorem event_three_no (b lo : Nat) (v : Value) (l : List Int) (last n : Int) (r : List Int) (w : World) (h : RdAt w lo b v l) (hn : (numD l).no = 0) (hv : (numD l).val = n) (hr : (numD l).rest = r) (hk : n % 4 = 3) (hl : 0 ≤ last ∧ last ≤ 1152921504606846976) (hg : (numD r).no ≠ 0) :
    Calls Tryz.prog 129 #[.pointer (some ⟨b, 0, none⟩), .int .i64 last] w fun e w' => e = .returned (.tuple #[.agg #[.int .i64 0, .int .i64 0, .slice none 0 0], .int .i64 (numD r).no]) ∧ Sans b lo w w' := by
  have hlo : lo ≤ w.heap.size := by have := h.own; have := h.lt; omega
  have HN : Hid (Calls Tryz.prog 128 #[.pointer (some ⟨b, 0, none⟩)] (w.alloc (.cells #[.int .i64 0, .int .i64 0, .slice none 0 0] 62)) fun e w' => e = .returned (.tuple #[.int .i64 n, .int .i64 0]) ∧ (0 ≤ n ∧ n < 562949953421312) ∧ ∃ v', EvS w w' lo b v' r) := number_ev b lo v l w h hn n r hv hr
  have HG : Hid ((numD r).no ≠ 0) := hg
  clear h hn hv hr hg
  go_enter Tryz.func129, Tryz.ntmps129
  go_wp2_with fail
  refine HN.out.mono ?_
  rintro e w1 ⟨rfl, ⟨hn0, hn1⟩, v1, hs⟩
  have HX : Hid (EvX w (w1.alloc (.cells #[.int .i64 (last + n / 4), .int .i64 3, .slice none 0 0] 62)) lo b v1 r w1.heap.size (last + n / 4) 3 (.slice none 0 0)) := hs.boxed _ _
  have el := lt_of_block hs.res
  have hs1 := hs.sans.size
  clear hs HN
  have hq : Int.tdiv n 4 = n / 4 := Int.tdiv_eq_ediv_of_nonneg hn0
  have hm : Int.tmod n 4 = 3 := by rw [Int.tmod_eq_emod_of_nonneg hn0]; exact hk
  have hw : IntKind.i64.wrap (last + n / 4) = last + n / 4 := IntWalk.i64_in _ (by omega)
  clear hk
  go_wp2_with fail
  refine (word_no b lo v1 r _ HX.out.s.rd HG.out).mono ?_
  rintro e w2 ⟨rfl, hq2⟩
  have hbl := HX.out.s.blt
  have hbx : w2.heap[w1.heap.size]? = some (.cells #[.int .i64 (last + n / 4), .int .i64 3, .slice none 0 0] 62 (0, 0)) := by rw [hq2.block _ (by simp) (by omega)]; exact HX.out.box
  have hrs : w2.heap[w.heap.size]? = some (.cells #[.int .i64 0, .int .i64 0, .slice none 0 0] 62 (0, 0)) := by rw [hq2.block _ (by simp; omega) (by omega)]; exact HX.out.s.res
  obtain ⟨e0, e1, e2, ef, el2⟩ := three_cells hbx
  obtain ⟨f0, f1, f2, ff, fl⟩ := three_cells hrs
  have HB : Hid (Sans b lo w w2) := HX.out.s.sans.trans hq2
  have hne : ¬ w.heap.size = w1.heap.size := by omega
  have hne2 : ¬ w1.heap.size = w.heap.size := by omega
  have hgg := HG.out
  clear hq2 HX HG hbx hrs
  obtain ⟨en, hen⟩ : ∃ en, en = (numD r).no := ⟨_, rfl⟩
  have HE : Hid (en = (numD r).no) := hen
  rw [← hen] at hgg ⊢
  clear hen
  have hen' : (en == 0) = false := by simpa using hgg
  go_wp2_with fail
  refine bodyPost_ret (v := .tuple #[.agg #[.int .i64 0, .int .i64 0, .slice none 0 0], .int .i64 en]) (by simp [results, Tryz.results129, go_sem, f0, f1, f2]) rfl ?_
  exact ⟨by rw [HE.out], (((HB.out.put hlo (by simp; omega) _).put hlo (by simp) _).put hlo (by simp) _).put hlo (by simp) _⟩

set_option maxHeartbeats 2000000 in
theorem event_zero (b lo : Nat) (v : Value) (l : List Int) (last n : Int) (r : List Int) (w : World) (h : RdAt w lo b v l) (hn : (numD l).no = 0) (hv : (numD l).val = n) (hr : (numD l).rest = r) (hk : n % 4 = 0) (hl : 0 ≤ last ∧ last ≤ 1152921504606846976) :
    Calls Tryz.prog 129 #[.pointer (some ⟨b, 0, none⟩), .int .i64 last] w fun e w' => e = .returned (.tuple #[.agg #[.int .i64 0, .int .i64 0, .slice none 0 0], .int .i64 3]) ∧ Sans b lo w w' := by
  have hlo : lo ≤ w.heap.size := by have := h.own; have := h.lt; omega
  have HN : Hid (Calls Tryz.prog 128 #[.pointer (some ⟨b, 0, none⟩)] (w.alloc (.cells #[.int .i64 0, .int .i64 0, .slice none 0 0] 62)) fun e w' => e = .returned (.tuple #[.int .i64 n, .int .i64 0]) ∧ (0 ≤ n ∧ n < 562949953421312) ∧ ∃ v', EvS w w' lo b v' r) := number_ev b lo v l w h hn n r hv hr
  clear h hn hv hr
  go_enter Tryz.func129, Tryz.ntmps129
  go_wp2_with fail
  refine HN.out.mono ?_
  rintro e w1 ⟨rfl, ⟨hn0, hn1⟩, v1, hs⟩
  have HS : Hid (EvS w w1 lo b v1 r) := hs
  obtain ⟨e0, e1, e2, ef, el⟩ := three_cells hs.res
  clear hs HN
  have hq : Int.tdiv n 4 = n / 4 := Int.tdiv_eq_ediv_of_nonneg hn0
  have hm : Int.tmod n 4 = 0 := by rw [Int.tmod_eq_emod_of_nonneg hn0]; exact hk
  have hw : IntKind.i64.wrap (last + n / 4) = last + n / 4 := IntWalk.i64_in _ (by omega)
  clear hk
  go_wp2_with fail
  refine bodyPost_ret (v := .tuple #[.agg #[.int .i64 0, .int .i64 0, .slice none 0 0], .int .i64 3]) (by simp [results, Tryz.results129, go_sem, e0, e1, e2, el]) rfl ?_
  have hz := HS.out.sans.size
  exact ⟨rfl, (((HS.out.sans.put hlo (by simp) _).put hlo (by simp) _).put hlo (by simp) _).trans (Sans.of_below (below_alloc _ _) (by simp; omega))⟩

end Go.Proofs.YtecpblabaelopaaGreatDoor
