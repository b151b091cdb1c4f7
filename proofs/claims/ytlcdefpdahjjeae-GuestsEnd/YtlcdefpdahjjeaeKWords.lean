/- Contract of hourglasskeep.words: the words of instructions. -/
import Derived.Test.YtlcdefpdahjjeaeCpuCode
import Derived.Test.YtlcdefpdahjjeaeInfo
import Derived.Maps.AppendAt
namespace Go.Proofs.Ytlcdefpdahjjeae
open Go.RowKit

/-- An instruction, as a plain thing. -/
abbrev Ins := Int × Int × Int × Int
def insWord (i : Ins) : Int := wordNo i.1 i.2.1 i.2.2.1 i.2.2.2
/-- A slice of instructions. -/
def InsAt (w : World) (v : Value) (L : List Ins) : Prop :=
  ∃ (A : Option Addr) (c : Nat), v = .slice A L.length c ∧ L.length ≤ 1000 ∧
    (0 < L.length → ∃ b off, A = some ⟨b, off, none⟩ ∧ b < w.heap.size ∧ ∀ j, j < L.length →
      w.cell? ⟨b, off + j * 4, none⟩ = some (.int .i64 (L.getD j (0, 0, 0, 0)).1) ∧ w.cell? ⟨b, off + j * 4 + 1, none⟩ = some (.int .i64 (L.getD j (0, 0, 0, 0)).2.1) ∧ w.cell? ⟨b, off + j * 4 + 2, none⟩ = some (.int .i64 (L.getD j (0, 0, 0, 0)).2.2.1) ∧ w.cell? ⟨b, off + j * 4 + 3, none⟩ = some (.int .i64 (L.getD j (0, 0, 0, 0)).2.2.2))

theorem take_insWord (L : List Ins) (k : Nat) (h : k < L.length) : (L.take (k + 1)).map insWord = (L.take k).map insWord ++ [insWord (L.getD k (0, 0, 0, 0))] := by
  have e : L.getD k (0, 0, 0, 0) = L[k] := by simp [List.getD, h]
  rw [List.take_succ_eq_append_getElem h, List.map_append, List.map_cons, List.map_nil, e]

set_option maxHeartbeats 2000000 in
theorem kwords_any (v : Value) (L : List Ins) (w : World) (h : InsAt w v L) :
    Calls Try.prog 14 #[v] w fun e w' => ∃ v', e = .returned v' ∧ OwnI w' w.heap.size v' (L.map insWord) ∧ Below w.heap.size w w' := by
  obtain ⟨A, c, rfl, hl, hc⟩ := h
  obtain ⟨i0, hi, hz0, hz1, hz2⟩ := info_parts infoInt
  have HC : Hid (_) := hc
  clear hc
  go_enter Try.func14, Try.ntmps14
  go_wp2
  go_loopw [3, 10] (fun o i wr => ∃ k : Nat, k ≤ L.length ∧ i = .int .i64 k ∧ Hid (OwnI wr w.heap.size o ((L.take k).map insWord)) ∧ Below w.heap.size w wr) (fun _ i _ => L.length - (intOf i).toNat)
  case atStart => exact ⟨0, Nat.zero_le _, rfl, World.ownsRow_nil _ _ _ _, Below.refl _ _⟩
  case round =>
    obtain ⟨k, hk, rfl, hown, hnx⟩ := hrel
    by_cases hlt : k < L.length
    · obtain ⟨b, off, rfl, hbs, hcell⟩ := HC.out (by omega)
      obtain ⟨c0, c1, c2, c3⟩ := hcell k hlt
      have t0 := (hnx.cell (p := ⟨b, off + k * 4, none⟩) hbs).trans c0
      have t1 := (hnx.cell (p := ⟨b, off + k * 4 + 1, none⟩) hbs).trans c1
      have t2 := (hnx.cell (p := ⟨b, off + k * 4 + 2, none⟩) hbs).trans c2
      have t3 := (hnx.cell (p := ⟨b, off + k * 4 + 3, none⟩) hbs).trans c3
      have hsz := hnx.size
      have HT : Hid ((L.take (k + 1)).map insWord = (L.take k).map insWord ++ [insWord (L.getD k (0, 0, 0, 0))]) := take_insWord L k hlt
      have hlk : Hid (((L.take k).map insWord).length = k) := by show _ = _; simp; omega
      have HNX : Hid (Below w.heap.size w wr) := hnx
      clear hcell c0 c1 c2 c3 hnx
      obtain ⟨x, hx⟩ : ∃ x, x = L.getD k (0, 0, 0, 0) := ⟨_, rfl⟩
      rw [← hx] at t0 t1 t2 t3 HT
      clear hx
      obtain ⟨y, hy⟩ : ∃ y, y = insWord x := ⟨_, rfl⟩
      rw [← hy] at HT
      obtain ⟨op, a, bb, n⟩ := x
      have HE : Hid (∃ z, ∀ W, Calls Try.prog 21 #[.agg #[.int .i64 op, .int .i64 a, .int .i64 bb, .int .i64 n]] W fun e w' => e = .returned (.tuple #[.int .i64 y, .int .i64 z]) ∧ Below W.heap.size W w') := ⟨instrNo op a bb n, fun W => by rw [hy]; exact CpuEncode_any op a bb n W⟩
      clear hy
      revert hown HT hlk
      generalize (L.take k).map insWord = lk
      intro hown hlk HT
      obtain ⟨z, he⟩ := HE.out
      have HE : Hid (_) := he
      clear he
      simp only at t0 t1 t2 t3
      go_wp2_with fail
      refine (HE.out _).mono ?_
      rintro e w2 ⟨rfl, hb2⟩
      have hB2 : Below wr.heap.size wr w2 := (below_alloc _ _).trans (hb2.mono (by simp))
      have how := hown.out.below hB2
      have HOW : Hid (OwnI _ _ _ _) := how
      clear how
      have HB2 : Hid (Below w.heap.size w w2) := HNX.out.trans (hB2.mono HNX.out.size)
      have hsz2 : w.heap.size ≤ w2.heap.size := HB2.out.size
      clear hb2 hB2 hown HE t0 t1 t2 t3
      go_wp2_with (first
        | (at_builtin; refine wpList_append_own _ rfl _ _ 25 rfl w.heap.size 3 i0 (.int .i64 0) 1 8 Try.underlying25 hi hz0 hz1 hz2 rfl (by decide) _ _ _ rfl (HOW.out.alloc _) ⟨w2.heap.size, 0, none⟩ 1 1 [.int .i64 y] rfl rfl ?c1 ?c2 ?c3 ?c4 ?c5 ?_))
      case c1 => exact cell_one_new _ _ _
      case c2 => intro u hu; simp at hu; subst hu; rfl
      case c3 => have := hlk.out; unfold maxLen; omega
      case c4 => have := hlk.out; omega
      case c5 => simp; omega
      intro v' w3 hown' hgrow _
      have R1 : Hid (OwnI w3 w.heap.size v' ((L.take (k + 1)).map insWord)) := OwnI.snoc hown' HT.out
      have R2 : Below w.heap.size w w3 := grown_below HB2.out HOW.out (Nat.le_refl _) hsz2 hgrow
      clear hown' hgrow HOW HNX HB2
      go_wp2
      refine ⟨⟨k + 1, by omega, by go_num, R1, R2⟩, ?_⟩
      simp [intOf]; omega
    · clear HC
      go_wp2
      go_ret
      exact ⟨_, rfl, by have := hown.out; rwa [List.take_of_length_le (by omega)] at this, hnx⟩

end Go.Proofs.Ytlcdefpdahjjeae
