/- Contracts of hourglassref.words and frames.copyWords: new memory that holds the same numbers. -/
import Derived.Test.YtchmmpeblpnjnabOwn
import Derived.Test.YtchmmpeblpnjnabWalkA
import Derived.Laws.CopyOwn
import Derived.WalkSpells
import Derived.Deep.OwnRows
namespace Go.Proofs.Ytchmmpeblpnjnab
open Go.RowKit

theorem infoInt : (Try.prog.info? 3).map (fun i => (i.zero, i.size, i.bytes)) = some (some (.int .i64 0), 1, 8) := by kernel_rfl

theorem infoInts : (Try.prog.info? 23).map (fun i => (i.zero, i.size, i.bytes)) = some (some (.slice none 0 0), 1, 24) := by kernel_rfl

theorem take_snoc (l : List Int) (k : Nat) (h : k < l.length) : l.take (k + 1) = l.take k ++ [l.getD k 0] := by
  rw [List.take_succ_eq_append_getElem h]; simp [List.getD, h]

set_option maxHeartbeats 1000000 in
theorem words_some (v : Value) (l : List Int) (w : World) (h : IntsAt w v l) :
    Calls Try.prog 25 #[v] w fun e w' => ∃ v', e = .returned v' ∧ OwnI w' w.heap.size v' l ∧ Below w.heap.size w w' := by
  obtain ⟨A, c, rfl, hl, hc⟩ := h
  obtain ⟨i0, hi, hz0, hz1, hz2⟩ := info_parts infoInt
  go_enter Try.func25, Try.ntmps25
  go_wp2
  go_loopw [3, 4] (fun o i wr => ∃ k : Nat, k ≤ l.length ∧ i = .int .i64 k ∧ Hid (OwnI wr w.heap.size o (l.take k)) ∧ Below w.heap.size w wr) (fun _ i _ => l.length - (intOf i).toNat)
  case atStart => exact ⟨0, Nat.zero_le _, rfl, World.ownsRow_nil _ _ _ _, Below.refl _ _⟩
  case round =>
    obtain ⟨k, hk, rfl, hown, hnx⟩ := hrel
    by_cases hlt : k < l.length
    · obtain ⟨b, off, rfl, hbs, hcell⟩ := hc (by omega)
      have h1 : wr.cell? ⟨b, off + k, none⟩ = some (.int .i64 (l.getD k 0)) := (hnx.cell (p := ⟨b, off + k, none⟩) hbs).trans (hcell k hlt)
      have hsz := hnx.size
      have HT := take_snoc l k hlt
      have HT' : Hid (l.take (k + 1) = l.take k ++ [l.getD k 0]) := HT
      have hlk : Hid ((l.take k).length = k) := by show _ = _; simp; omega
      clear HT hcell hc
      revert h1 HT'
      generalize l.getD k 0 = x
      intro h1 HT'
      revert hown HT' hlk
      generalize l.take k = lk
      intro hown hlk HT'
      go_wp2_with (first
        | (at_builtin; refine wpList_append_own _ rfl _ _ 23 rfl w.heap.size 3 i0 (.int .i64 0) 1 8 Try.underlying23 hi hz0 hz1 hz2 rfl (by decide) _ _ _ rfl (hown.out.alloc _) ⟨wr.heap.size, 0, none⟩ 1 1 [.int .i64 x] rfl rfl ?c1 ?c2 ?c3 ?c4 ?c5 ?_))
      case c1 => exact cell_one_new _ _ _
      case c2 => intro u hu; simp at hu; subst hu; rfl
      case c3 => have := hlk.out; unfold maxLen; omega
      case c4 => have := hlk.out; omega
      case c5 => simp; omega
      intro v' w1 hown' hgrow _
      have R1 : Hid (OwnI w1 w.heap.size v' (l.take (k + 1))) := OwnI.snoc hown' HT'.out
      have R2 : Below w.heap.size w w1 := grown_below hnx hown.out (Nat.le_refl _) hsz hgrow
      clear hown' hgrow hown h1 hnx
      go_wp2
      refine ⟨⟨k + 1, by omega, by go_num, R1, R2⟩, ?_⟩
      simp [intOf]; omega
    · clear hc
      go_wp2
      go_ret
      exact ⟨_, rfl, by have := hown.out; rwa [List.take_of_length_le (by omega)] at this, hnx⟩

theorem splice_all (l : List Int) (n : Nat) (h : n = l.length) : splice (madeCells #[Value.int .i64 0] n).toList 0 (l.map (Value.int .i64)) = l.map (Value.int .i64) := by
  subst h
  simp [splice, size_madeCells]

theorem OwnI.made {w : World} {l : List Int} {lo g : Nat} (hlo : lo ≤ g) (hl : l.length * 8 ≤ 140737488351232) (h : w.heap[g]? = some (.cells (l.map (Value.int .i64)).toArray 3 (0, 0))) : OwnI w lo (.slice (some ⟨g, 0, none⟩) l.length l.length) l :=
  ⟨by simp, Or.inr ⟨g, l.length, _, rfl, hlo, h, Nat.le_refl _, by unfold maxLen; omega, by simp, by simp [List.take_of_length_le]⟩⟩

theorem copy_src {w : World} {l : List Int} {A : Option Addr} {g : Nat} (o : Obj)
    (hc : 0 < l.length → ∃ b off, A = some ⟨b, off, none⟩ ∧ b < w.heap.size ∧ ∀ j, j < l.length → w.cell? ⟨b, off + j, none⟩ = some (.int .i64 (l.getD j 0))) :
    0 < (l.map (Value.int .i64)).length → (some ⟨g, 0, none⟩ : Option Addr) = some ⟨g, 0, none⟩ ∧ ∃ ad, A = some ad ∧ ∀ j v, (l.map (Value.int .i64))[j]? = some v → (w.alloc o).cell? (ad.add j) = some v := by
  intro h0
  obtain ⟨b, off, rfl, hb, hj⟩ := hc (by simpa using h0)
  refine ⟨rfl, _, rfl, fun j v hv => ?_⟩
  have hjl : j < l.length := by
    by_cases h : j < l.length
    · exact h
    · simp [List.getElem?_eq_none (show l.length ≤ j by omega)] at hv
  rw [Go.WideShapes.add_plain]
  rw [(below_alloc w o).cell (p := ⟨b, off + j, none⟩) hb, hj j hjl]
  simp [hjl] at hv
  simp [List.getD, hjl, hv]

theorem made_at (w : World) (n : Nat) : (w.alloc (.cells (madeCells #[Value.int .i64 0] n) 3)).heap[w.heap.size]? = some (.cells (madeCells #[Value.int .i64 0] n).toList.toArray 3 (0, 0)) := by
  rw [Go.Deep.blk_alloc_new]

set_option maxHeartbeats 1000000 in
theorem copyWords_some (v : Value) (l : List Int) (w : World) (h : IntsAt w v l) :
    Calls Try.prog 27 #[v] w fun e w' => ∃ v', e = .returned v' ∧ OwnI w' w.heap.size v' l ∧ Below w.heap.size w w' := by
  obtain ⟨A, c, rfl, hl, hc⟩ := h
  have hmk := run_make_row' (P := Try.prog) 23 3 (.int .i64 0) 8 Try.underlying23 infoInt rfl .i64 .i64 l.length (by omega) (by omega)
  have hsi : (Try.prog.info? 3).map (·.size) = some 1 := by kernel_rfl
  have H1 := made_at w l.length
  have H3 := copy_src (g := w.heap.size) (.cells (madeCells #[Value.int .i64 0] l.length) 3) hc
  have H6 := below_alloc w (.cells (madeCells #[Value.int .i64 0] l.length) 3)
  have HC : Hid (_ ∧ _ ∧ _) := ⟨H1, H3, H6⟩
  clear H1 H3 H6 hc
  go_enter Try.func27, Try.ntmps27
  go_wp2_with (refine wpList_copy_splice rfl (.tmp 7) (.tmp 8) 23 23 rfl 3 Try.underlying23 hsi (some ⟨w.heap.size, 0, none⟩) A l.length l.length l.length c rfl rfl w.heap.size 0 (madeCells #[Value.int .i64 0] l.length).toList 3 HC.out.1 (l.map (Value.int .i64)) (by simp) HC.out.2.1 (by simp [size_madeCells]) (ints_oneCell _ _) w.heap.size w HC.out.2.2 (Nat.le_refl _) ?_)
  intro w2 hg2 hb2
  go_wp2
  go_ret
  refine ⟨_, rfl, OwnI.made (Nat.le_refl _) hl ?_, hb2⟩
  rw [hg2.out, splice_all l _ rfl]

theorem words_any (v : Value) (l : List Int) (w : World) (h : IntsAt w v l) :
    Calls Try.prog 25 #[v] w fun e w' => ∃ A c, e = .returned (.slice A l.length c) ∧ OwnI w' w.heap.size (.slice A l.length c) l ∧ Below w.heap.size w w' :=
  (words_some v l w h).mono fun e w' ⟨v', he, ho, hb⟩ => by
    obtain ⟨A, c, rfl⟩ := ho.shape
    exact ⟨A, c, he, ho, hb⟩

theorem copyWords_any (v : Value) (l : List Int) (w : World) (h : IntsAt w v l) :
    Calls Try.prog 27 #[v] w fun e w' => ∃ A c, e = .returned (.slice A l.length c) ∧ OwnI w' w.heap.size (.slice A l.length c) l ∧ Below w.heap.size w w' :=
  (copyWords_some v l w h).mono fun e w' ⟨v', he, ho, hb⟩ => by
    obtain ⟨A, c, rfl⟩ := ho.shape
    exact ⟨A, c, he, ho, hb⟩

end Go.Proofs.Ytchmmpeblpnjnab
