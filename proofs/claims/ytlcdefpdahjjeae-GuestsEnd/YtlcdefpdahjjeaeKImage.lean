/- Contract of hourglasskeep.Image: the words of a program of raw things. -/
import Derived.Test.YtlcdefpdahjjeaeKInsAll
import Derived.Test.YtlcdefpdahjjeaeKStep
import Derived.Test.YtlcdefpdahjjeaeRaws
namespace Go.Proofs.Ytlcdefpdahjjeae
open Go.RowKit

def imgL : List Ins := [(9, 0, 0, 12), (15, 0, 0, 0), (15, 0, 0, 0), (15, 0, 0, 0), (15, 0, 0, 0), (15, 0, 0, 0), (15, 0, 0, 0), (15, 0, 0, 0), (4, 7, 7, 1), (11, 7, 0, 3), (13, 0, 0, 0), (15, 0, 0, 0), (12, 0, 0, 1)]
theorem insWord_bd (i : Ins) : -1099511627776 ≤ insWord i ∧ insWord i ≤ 1099511627776 := by
  obtain ⟨op, a, b, n⟩ := i
  unfold insWord wordNo
  split
  · rename_i h
    have := instrNo_bd h
    unfold wordF
    simp only at *
    omega
  · omega
theorem OwnI.src {w : World} {lo : Nat} {v : Value} {l : List Int} (h : OwnI w lo v l) (h0 : 0 < l.length) : ∃ g cap, v = .slice (some ⟨g, 0, none⟩) l.length cap ∧ (∀ j u, (l.map (Value.int .i64))[j]? = some u → w.cell? ((⟨g, 0, none⟩ : Addr).add j) = some u) := by
  obtain ⟨g, cap, rfl, hlo, hlt, _, hc, _⟩ := ownsRow_at h h0
  refine ⟨g, cap, rfl, fun j u hu => ?_⟩
  have hjl : j < l.length := by
    by_cases hh : j < l.length
    · exact hh
    · simp [List.getElem?_eq_none (show l.length ≤ j by omega)] at hu
  rw [Go.WideShapes.add_plain, Nat.zero_add, hc j hjl, hu]
theorem ints_one (x : Int) : ∀ u ∈ [x].map (Value.int .i64), u.oneCell' = true := by
  intro u hu
  simp at hu
  subst hu
  rfl

/-- The words so far. -/
structure ImgI (w wr : World) (o : Value) (k : Nat) (L : List Int) : Prop where
  own : OwnI wr w.heap.size o L
  len : L.length = 13 + k
  word : ∀ x ∈ L, -1099511627776 ≤ x ∧ x ≤ 1099511627776
  old : Below w.heap.size w wr
theorem ImgI.snoc {w wr W w2 : World} {o o' : Value} {k : Nat} {L : List Int} {x : Int} (h : ImgI w wr o k L) (hB : Below wr.heap.size wr W) (hx : -1099511627776 ≤ x ∧ x ≤ 1099511627776) (hg : W.grownBy w2 o.ownBlock) (ho : OwnI w2 w.heap.size o' (L ++ [x])) : ImgI w w2 o' (k + 1) (L ++ [x]) := by
  refine ⟨ho, by simp [h.len]; omega, fun y hy => ?_, ?_⟩
  · rcases List.mem_append.1 hy with hy | hy
    · exact h.word y hy
    · simp at hy
      subst hy
      exact hx
  · exact (h.old.trans (hB.mono h.old.size)).grown hg (Nat.le_trans h.old.size hB.size) (fun g e => (World.ownsRow.lt h.own g e).1)

set_option maxRecDepth 100000 in
set_option maxHeartbeats 4000000 in
theorem Image_any (v : Value) (n : Nat) (w : World) (h : RawsIn w v n) :
    Calls Try.prog 13 #[v] w fun e w' => ∃ v' L, e = .returned v' ∧ OwnI w' w.heap.size v' L ∧ L.length ≤ 64 ∧ (∀ x ∈ L, -1099511627776 ≤ x ∧ x ≤ 1099511627776) ∧ Below w.heap.size w w' := by
  obtain ⟨A, c, rfl, hl, hc⟩ := h
  obtain ⟨i0, hi, hz0, hz1, hz2⟩ := info_parts infoInt
  go_enter Try.func13, Try.ntmps13
  go_wp2_with fail
  have hbx := Go.Deep.blk_alloc_new ((w.alloc (.cells #[.int .i64 9, .int .i64 0, .int .i64 0, .int .i64 12] 24)).alloc (.cells #[.int .i64 15, .int .i64 0, .int .i64 0, .int .i64 0] 24)) (.cells (insCells imgL).toArray 24)
  rw [show ((w.alloc (.cells #[.int .i64 9, .int .i64 0, .int .i64 0, .int .i64 12] 24)).alloc (.cells #[.int .i64 15, .int .i64 0, .int .i64 0, .int .i64 0] 24)).heap.size = w.heap.size + 1 + 1 by simp] at hbx
  refine (kwords_any _ imgL _ (InsAt.of imgL hbx (by decide))).mono ?_
  rintro e w1 ⟨v1, rfl, ho1, hb1⟩
  have HI0 : Hid (ImgI w w1 v1 0 (imgL.map insWord)) := by
    refine ⟨ownsRow_mono ho1 (by simp; omega), rfl, fun x hx => ?_, (((below_alloc _ _).alloc (by simp) _).alloc (by simp; omega) _).trans (hb1.mono (by simp; omega))⟩
    obtain ⟨i, _, rfl⟩ := List.mem_map.1 hx
    exact insWord_bd i
  clear ho1 hb1 hbx
  revert HI0
  generalize imgL.map insWord = L0
  intro HI0
  go_wp2_with fail
  go_loopw [5, 6] (fun o i wr => ∃ (k : Nat) (L : List Int), k ≤ n ∧ k ≤ 50 ∧ i = .int .i64 k ∧ Hid (ImgI w wr o k L)) (fun _ i _ => n - (intOf i).toNat)
  case atStart => exact ⟨0, L0, Nat.zero_le _, by omega, rfl, HI0⟩
  case round =>
    obtain ⟨k, L, hk, hk50, rfl, HI⟩ := hrel
    clear HI0
    have hLl : L.length ≤ 63 := by have := HI.out.len; omega
    by_cases hlt : k < n ∧ k < 50
    · obtain ⟨hkn, hk5⟩ := hlt
      have hki : (k : Int) < (n : Int) := by omega
      have hki2 : (k : Int) < 50 := by omega
      obtain ⟨b, off, rfl, hbs, hcell⟩ := hc (by omega)
      obtain ⟨x0, x1, x2, x3, f0, f1, f2, f3, r0, r1, r2, r3⟩ := hcell k hkn
      have y0 := (HI.out.old.cell (p := ⟨b, off + k * 4, none⟩) hbs).trans r0
      have y1 := (HI.out.old.cell (p := ⟨b, off + k * 4 + 1, none⟩) hbs).trans r1
      have y2 := (HI.out.old.cell (p := ⟨b, off + k * 4 + 2, none⟩) hbs).trans r2
      have y3 := (HI.out.old.cell (p := ⟨b, off + k * 4 + 3, none⟩) hbs).trans r3
      have HS : Hid (∀ W, Calls Try.prog 20 #[.agg #[.int .i64 x0, .int .i64 x1, .int .i64 x2, .int .i64 x3]] W fun e w' => ∃ op a b n, e = .returned (.agg #[.int .i64 op, .int .i64 a, .int .i64 b, .int .i64 n]) ∧ instrNo op a b n = 0 ∧ Below W.heap.size W w') := fun W => instr_any x0 x1 x2 x3 W f0 f1 f2 f3
      clear r0 r1 r2 r3 f0 f1 f2 f3 hcell hc
      go_wp2_with fail
      refine (HS.out _).mono ?_
      rintro e w1 ⟨op, a, bb, nn, rfl, hno, hb1⟩
      have HB1 : Hid (Below wr.heap.size wr w1) := hb1
      clear hno hb1 HS y0 y1 y2 y3
      go_wp2_with fail
      have hbx := Go.Deep.blk_alloc_new w1 (.cells (insCells [(op, a, bb, nn)]).toArray 24)
      refine (kwords_any _ [(op, a, bb, nn)] _ (InsAt.of [(op, a, bb, nn)] hbx (by simp))).mono ?_
      rintro e w2 ⟨v2, rfl, ho2, hb2⟩
      obtain ⟨g, cap, hv2, hsrc⟩ := ho2.src (by simp)
      subst hv2
      have hB2 : Below wr.heap.size wr w2 := HB1.out.trans (((below_alloc _ _).trans (hb2.mono (by simp))).mono HB1.out.size)
      have HB2 : Hid (Below wr.heap.size wr w2) := hB2
      have HSRC : Hid (∀ j u, ([insWord (op, a, bb, nn)].map (Value.int .i64))[j]? = some u → w2.cell? ((⟨g, 0, none⟩ : Addr).add j) = some u) := hsrc
      have hxb := insWord_bd (op, a, bb, nn)
      have HO2 : Hid (OwnI w2 w.heap.size u5 L) := HI.out.own.below hB2
      have hsz := HI.out.old.size
      have hsz2 := hB2.size
      clear ho2 hb2 hbx hB2 hsrc HB1
      simp only [List.map_cons, List.map_nil] at HSRC ⊢
      revert hxb HSRC
      generalize insWord (op, a, bb, nn) = y
      intro hxb HSRC
      obtain ⟨A5, c5, rfl⟩ := HO2.out.shape
      simp only [List.length_singleton]
      go_wp2_with (first
        | (at_builtin; refine wpList_append_own_at _ rfl _ _ 25 rfl w.heap.size 3 i0 (.int .i64 0) 1 8 Try.underlying25 hi hz0 hz1 hz2 rfl (by decide) (.slice A5 L.length c5) L.length (L.map (Value.int .i64)) rfl HO2.out ⟨g, 0, none⟩ 1 cap ([y].map (Value.int .i64)) rfl rfl HSRC.out (ints_one y) ?c3 ?c4 ?c5 ?_))
      case c3 => unfold maxLen; omega
      case c4 => omega
      case c5 => omega
      intro v3 w3 hown hgrow _ _
      have HI3 : Hid (ImgI w w3 v3 (k + 1) (L ++ [y])) := HI.out.snoc HB2.out hxb hgrow (OwnI.snoc (by simpa using hown) rfl)
      clear hown hgrow
      go_wp2_with fail
      refine ⟨⟨k + 1, _, by omega, by omega, by go_num, HI3⟩, ?_⟩
      simp [intOf]; omega
    · have HO : Hid (OwnI wr w.heap.size u5 L) := HI.out.own
      have hsz := HI.out.old.size
      obtain ⟨A5, c5, rfl⟩ := HO.out.shape
      have hn0 : (0 : Int) ≤ (n : Int) := by omega
      clear hc
      by_cases h1 : k < n
      · have hki : (k : Int) < (n : Int) := by omega
        have hki2 : ¬ (k : Int) < 50 := by omega
        have hn50 : (50 : Int) ≤ (n : Int) := by omega
        go_wp2_with fail
        have hbx := Go.Deep.blk_alloc_new wr (.cells (insCells [(9, 0, 0, -50)]).toArray 24)
        refine (kwords_any _ [(9, 0, 0, -50)] _ (InsAt.of [(9, 0, 0, -50)] hbx (by simp))).mono ?_
        rintro e w2 ⟨v2, rfl, ho2, hb2⟩
        obtain ⟨g, cap, hv2, hsrc⟩ := ho2.src (by simp)
        subst hv2
        have HB2 : Hid (Below wr.heap.size wr w2) := (below_alloc _ _).trans (hb2.mono (by simp))
        have hxb := insWord_bd (9, 0, 0, -50)
        have HO2 : Hid (OwnI w2 w.heap.size (.slice A5 L.length c5) L) := HO.out.below HB2.out
        have hsz2 := HB2.out.size
        clear ho2 hb2 hbx
        simp only [List.map_cons, List.map_nil, List.length_singleton] at hsrc ⊢
        obtain ⟨y, hy⟩ : ∃ y, y = insWord (9, 0, 0, -50) := ⟨_, rfl⟩
        rw [← hy] at hxb
        simp only [← hy] at hsrc
        have HSRC : Hid (∀ j u, ([y].map (Value.int .i64))[j]? = some u → w2.cell? ((⟨g, 0, none⟩ : Addr).add j) = some u) := hsrc
        clear hsrc hy HO
        go_wp2_with (first
          | (at_builtin; refine wpList_append_own_at _ rfl _ _ 25 rfl w.heap.size 3 i0 (.int .i64 0) 1 8 Try.underlying25 hi hz0 hz1 hz2 rfl (by decide) (.slice A5 L.length c5) L.length (L.map (Value.int .i64)) rfl HO2.out ⟨g, 0, none⟩ 1 cap ([y].map (Value.int .i64)) rfl rfl HSRC.out (ints_one y) ?c3 ?c4 ?c5 ?_))
        case c3 => unfold maxLen; omega
        case c4 => omega
        case c5 => omega
        intro v3 w3 hown hgrow _ _
        have HI3 : Hid (ImgI w w3 v3 (k + 1) (L ++ [y])) := HI.out.snoc HB2.out hxb hgrow (OwnI.snoc (by simpa using hown) rfl)
        clear hown hgrow
        go_wp2_with fail
        go_ret
        exact ⟨v3, _, rfl, HI3.out.own, by have := HI3.out.len; omega, HI3.out.word, HI3.out.old⟩
      · have hki : ¬ (k : Int) < (n : Int) := by omega
        have hn50 : (n : Int) ≤ 50 := by omega
        go_wp2_with fail
        have hbx := Go.Deep.blk_alloc_new wr (.cells (insCells [(9, 0, 0, -(n : Int))]).toArray 24)
        refine (kwords_any _ [(9, 0, 0, -(n : Int))] _ (InsAt.of [(9, 0, 0, -(n : Int))] hbx (by simp))).mono ?_
        rintro e w2 ⟨v2, rfl, ho2, hb2⟩
        obtain ⟨g, cap, hv2, hsrc⟩ := ho2.src (by simp)
        subst hv2
        have HB2 : Hid (Below wr.heap.size wr w2) := (below_alloc _ _).trans (hb2.mono (by simp))
        have hxb := insWord_bd (9, 0, 0, -(n : Int))
        have HO2 : Hid (OwnI w2 w.heap.size (.slice A5 L.length c5) L) := HO.out.below HB2.out
        have hsz2 := HB2.out.size
        clear ho2 hb2 hbx
        simp only [List.map_cons, List.map_nil, List.length_singleton] at hsrc ⊢
        obtain ⟨y, hy⟩ : ∃ y, y = insWord (9, 0, 0, -(n : Int)) := ⟨_, rfl⟩
        rw [← hy] at hxb
        simp only [← hy] at hsrc
        have HSRC : Hid (∀ j u, ([y].map (Value.int .i64))[j]? = some u → w2.cell? ((⟨g, 0, none⟩ : Addr).add j) = some u) := hsrc
        clear hsrc hy HO
        go_wp2_with (first
          | (at_builtin; refine wpList_append_own_at _ rfl _ _ 25 rfl w.heap.size 3 i0 (.int .i64 0) 1 8 Try.underlying25 hi hz0 hz1 hz2 rfl (by decide) (.slice A5 L.length c5) L.length (L.map (Value.int .i64)) rfl HO2.out ⟨g, 0, none⟩ 1 cap ([y].map (Value.int .i64)) rfl rfl HSRC.out (ints_one y) ?c3 ?c4 ?c5 ?_))
        case c3 => unfold maxLen; omega
        case c4 => omega
        case c5 => omega
        intro v3 w3 hown hgrow _ _
        have HI3 : Hid (ImgI w w3 v3 (k + 1) (L ++ [y])) := HI.out.snoc HB2.out hxb hgrow (OwnI.snoc (by simpa using hown) rfl)
        clear hown hgrow
        go_wp2_with fail
        go_ret
        exact ⟨v3, _, rfl, HI3.out.own, by have := HI3.out.len; omega, HI3.out.word, HI3.out.old⟩

end Go.Proofs.Ytlcdefpdahjjeae
