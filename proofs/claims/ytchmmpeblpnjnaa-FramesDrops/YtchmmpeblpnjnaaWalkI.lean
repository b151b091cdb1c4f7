/- Contract of hourglassref.FramesNew. -/
import Derived.Test.YtchmmpeblpnjnaaOwnG
import Derived.Test.YtchmmpeblpnjnaaWalkH
import Derived.Deep.AppendLies
namespace Go.Proofs.Ytchmmpeblpnjnaa
open Go.RowKit

/-- Frames that are being made: the block of the result, the block of the local struct, what it holds. -/
structure MakeInv (w : World) (r b : Nat) (D : List (List Int)) (R : List Int) (dv rv : Value) (rows : List Value) (wr : World) : Prop where
  old : Below w.heap.size w wr
  lo : w.heap.size ≤ r ∧ w.heap.size ≤ b ∧ r ≠ b
  res : ∃ x y, wr.heap[r]? = some (.cells #[x, y] 25 (0, 0))
  box : wr.heap[b]? = some (.cells #[dv, rv] 25 (0, 0))
  own : OwnF wr w.heap.size dv rv rows D R

theorem set0 {w : World} {b : Nat} {x y : Value} {t : TypeId} (h : w.heap[b]? = some (.cells #[x, y] t (0, 0))) (u : Value) : (w.setCell ⟨b, 0, none⟩ u).heap[b]? = some (.cells #[u, y] t (0, 0)) := by
  simp [World.setCell, Array.getElem?_modify, h]
theorem set1 {w : World} {b : Nat} {x y : Value} {t : TypeId} (h : w.heap[b]? = some (.cells #[x, y] t (0, 0))) (u : Value) : (w.setCell ⟨b, 1, none⟩ u).heap[b]? = some (.cells #[x, u] t (0, 0)) := by
  simp [World.setCell, Array.getElem?_modify, h]

/-- A frame's words are appended, and the slice stored. -/
theorem MakeInv.snocD {w wr w1 : World} {r b : Nat} {D : List (List Int)} {R l : List Int} {dv rv dv' u : Value} {rows : List Value} (h : MakeInv w r b D R dv rv rows wr) (hu : OwnI wr w.heap.size u l) (hap : ∀ j, j < D.length → ∀ g, u.ownBlock = some g → (rows.getD j nilv).ownBlock ≠ some g) (hru : ∀ g, rv.ownBlock = some g → u.ownBlock ≠ some g)
    (o : Obj) (hg : (wr.alloc o).grownBy w1 dv.ownBlock) (ho : w1.ownsRow w.heap.size 23 1 dv' (D.length + 1) (rows ++ [u])) :
    w1.heap[b]? = some (.cells #[dv, rv] 25 (0, 0)) ∧ MakeInv w r b (D ++ [l]) R dv' rv (rows ++ [u]) (w1.setCell ⟨b, 0, none⟩ dv') := by
  have hz := h.old.size
  have hA := below_alloc wr o
  have hbA : (wr.alloc o).heap[b]? = some (.cells #[dv, rv] 25 (0, 0)) := by rw [Go.Deep.blk_alloc_lt _ _ _ (lt_of_block h.box)]; exact h.box
  obtain ⟨x, y, hres⟩ := h.res
  have hrA : (wr.alloc o).heap[r]? = some (.cells #[x, y] 25 (0, 0)) := by rw [Go.Deep.blk_alloc_lt _ _ _ (lt_of_block hres)]; exact hres
  have hb1 := block_grown hbA hg (own_ne h.own.dat.top h.box (by decide))
  have hr1 := block_grown hrA hg (own_ne h.own.dat.top hres (by decide))
  have hDA : OwnD (wr.alloc o) w.heap.size dv rows D := h.own.dat.below hA
  have hD1 : OwnD w1 w.heap.size dv' (rows ++ [u]) (D ++ [l]) := hDA.snoc (hu.below hA) hap hg ho
  have hR1 : OwnI w1 w.heap.size rv R := World.ownsRow.kept (h.own.ref.below hA) hg (own_apart (h.own.ref.below hA) hDA.top (by decide))
  refine ⟨hb1, ⟨(grown_below h.old h.own.dat.top (Nat.le_refl _) hz hg).setCell h.lo.2.1 _, h.lo, ⟨x, y, ?_⟩, set0 hb1 _, ?_⟩⟩
  · rw [Go.Deep.blk_setCell_other _ _ _ _ h.lo.2.2]; exact hr1
  · refine OwnF.otherType (a := ⟨b, 0, none⟩) (t := 25) ⟨hD1, hR1, fun i hi g hg' => ?_⟩ hb1 (by decide) (by decide) _
    simp at hi
    rw [getD_snoc, h.own.dat.len]
    by_cases e : i < D.length
    · rw [if_pos e]; exact h.own.off i e g hg'
    · rw [if_neg e, if_pos (by omega)]; exact hru g hg'

/-- How many know a frame is appended, and the slice stored. -/
theorem MakeInv.snocR {w wr w1 : World} {r b : Nat} {D : List (List Int)} {R : List Int} {x : Int} {dv rv rv' : Value} {rows : List Value} (h : MakeInv w r b D R dv rv rows wr)
    (o : Obj) (hg : (wr.alloc o).grownBy w1 rv.ownBlock) (ho : OwnI w1 w.heap.size rv' (R ++ [x])) (hat : rv.ownBlock = rv'.ownBlock ∨ ∀ g, rv'.ownBlock = some g → wr.heap.size ≤ g) :
    w1.heap[b]? = some (.cells #[dv, rv] 25 (0, 0)) ∧ MakeInv w r b D (R ++ [x]) dv rv' rows (w1.setCell ⟨b, 1, none⟩ rv') := by
  have hz := h.old.size
  have hA := below_alloc wr o
  have hbA : (wr.alloc o).heap[b]? = some (.cells #[dv, rv] 25 (0, 0)) := by rw [Go.Deep.blk_alloc_lt _ _ _ (lt_of_block h.box)]; exact h.box
  obtain ⟨x', y', hres⟩ := h.res
  have hrA : (wr.alloc o).heap[r]? = some (.cells #[x', y'] 25 (0, 0)) := by rw [Go.Deep.blk_alloc_lt _ _ _ (lt_of_block hres)]; exact hres
  have hb1 := block_grown hbA hg (own_ne h.own.ref h.box (by decide))
  have hr1 := block_grown hrA hg (own_ne h.own.ref hres (by decide))
  have hDA : OwnD (wr.alloc o) w.heap.size dv rows D := h.own.dat.below hA
  have hD1 : OwnD w1 w.heap.size dv rows D := hDA.grown hg (own_apart hDA.top (h.own.ref.below hA) (by decide)) (fun i hi => by
    cases e : (rows.getD i nilv).ownBlock with
    | none => exact Or.inl rfl
    | some g => exact Or.inr (fun e2 => h.own.off i hi g e2.symm e))
  refine ⟨hb1, ⟨(grown_below h.old h.own.ref (Nat.le_refl _) hz hg).setCell h.lo.2.1 _, h.lo, ⟨x', y', ?_⟩, set1 hb1 _, ?_⟩⟩
  · rw [Go.Deep.blk_setCell_other _ _ _ _ h.lo.2.2]; exact hr1
  · refine OwnF.otherType (a := ⟨b, 1, none⟩) (t := 25) ⟨hD1, ho, fun i hi g hg' e => ?_⟩ hb1 (by decide) (by decide) _
    rcases hat with hat | hat
    · exact h.own.off i hi g (by rw [hat]; exact hg') e
    · have h1 := (World.ownsRow.lt (h.own.dat.each i hi) g e).2
      have h2 := hat g hg'
      omega

theorem OwnF.empty (w : World) (lo : Nat) : OwnF w lo nilv nilv [] [] [] :=
  ⟨⟨World.ownsRow_nil _ _ _ _, fun i hi => by simp at hi, fun i j hi => by simp at hi⟩, ownNil _ _, fun i hi => by simp at hi⟩

theorem MakeInv.start (w : World) : MakeInv w w.heap.size (w.heap.size + 1) (List.replicate 0 []) (List.replicate 0 0) nilv nilv [] ((w.alloc (.cells #[nilv, nilv] 25)).alloc (.cells #[nilv, nilv] 25)) := by
  refine ⟨(below_alloc _ _).alloc (by simp) _, ⟨Nat.le_refl _, by omega, by omega⟩, ⟨nilv, nilv, ?_⟩, ?_, OwnF.empty _ _⟩
  · rw [Go.Deep.blk_alloc_lt _ _ _ (by simp), Go.Deep.blk_alloc_new]
  · have := Go.Deep.blk_alloc_new (w.alloc (.cells #[nilv, nilv] 25)) (.cells #[nilv, nilv] 25)
    simpa using this

theorem newPost_of {w wr : World} {k : Nat} {dv rv : Value} {rows : List Value} (hk : k ≤ 200) (h : OwnF wr w.heap.size dv rv rows (List.replicate k []) (List.replicate k 0)) (hb : Below w.heap.size w wr) : NewPost k w (.returned (.tuple #[.agg #[dv, rv], .int .i64 0])) wr := by
  have hr : 0 ≤ (k : Int) ∧ (k : Int) ≤ 200 := by omega
  have e1 : newD k = List.replicate k [] := by simp [newD, hr]
  have e2 : newR k = List.replicate k 0 := by simp [newR, hr]
  have e3 : newE k = 0 := by simp [newE, hr]
  obtain ⟨A, c, B, c', rfl, rfl⟩ := h.shape
  unfold NewPost
  rw [e1, e2, e3]
  exact ⟨A, c, B, c', rfl, h.dat.rows_at (by simp; omega) (fun i hi => by simp at hi; simp [List.getD, hi]), h.ref.at (by simp; omega), hb⟩

set_option maxHeartbeats 400000 in
theorem FramesNewRef_any (n : Int) (w : World) : Calls Try.prog 10 #[.int .i64 n] w fun e w' => NewPost n w e w' := by
  obtain ⟨i1, hi1, hz10, hz11, hz12⟩ := info_parts infoInts
  obtain ⟨i0, hi0, hz00, hz01, hz02⟩ := info_parts infoInt
  by_cases hr : 0 ≤ n ∧ n ≤ 200
  · have gi : inB n 0 200 = true := inB_yes hr.1 hr.2
    obtain ⟨m, rfl⟩ := Int.eq_ofNat_of_zero_le hr.1
    have hm : m ≤ 200 := by omega
    clear hr
    go_enter Try.func10, Try.ntmps10
    go_wp2_with (go_at_call 22; refine (In_B _ _ _ _).mono ?_; rintro e w' ⟨rfl, rfl⟩)
    go_loopw [5] (fun i wr => ∃ k dv rv rows, k ≤ m ∧ i = .int .i64 (k : Nat) ∧ MakeInv w w.heap.size (w.heap.size + 1) (List.replicate k []) (List.replicate k 0) dv rv rows wr) (fun i _ => m - (intOf i).toNat)
    case atStart => exact ⟨0, nilv, nilv, [], Nat.zero_le _, rfl, MakeInv.start w⟩
    case round =>
      obtain ⟨k, dv, rv, rows, hk, rfl, hinv⟩ := hrel
      obtain ⟨hx0, hx1, hxf, hxl⟩ := two_cells hinv.box
      by_cases hlt : k < m
      · have hsz := hinv.old.size
        have T1 : Hid (wr.ownsRow w.heap.size 23 1 dv k rows) := by have := hinv.own.dat.top; rwa [List.length_replicate] at this
        go_wp2_with (first
          | (at_builtin; refine wpList_append_lies _ rfl (.tmp 17) (.tmp 18) 22 rfl w.heap.size 23 i1 nilv 1 24 Try.underlying22 hi1 hz10 hz11 hz12 rfl (by decide) dv k rows rfl (T1.out.alloc _) ⟨wr.heap.size, 0, none⟩ 1 1 [nilv] rfl rfl (cell_one_new _ _ _) (by intro u hu; simp at hu; subst hu; rfl) (by decide) (by unfold maxLen; omega) (by omega) (by simp; omega) (wr.heap.size + 1) (by simp) ?_))
        intro g cap w1 hown1 hgrow1 _ _
        obtain ⟨hb1, hinv2⟩ := hinv.snocD (ownNil _ _) (fun j hj g hg => by simp [Value.ownBlock] at hg) (fun g hg e => by simp [Value.ownBlock] at e) _ hgrow1 (by rw [List.length_replicate]; exact hown1)
        obtain ⟨hy0, hy1, hyf, hyl⟩ := two_cells hb1
        have T2 : Hid (OwnI (w1.setCell ⟨w.heap.size + 1, 0, none⟩ (.slice (some ⟨g, 0, none⟩) (k + 1) cap)) w.heap.size rv (List.replicate k 0)) := hinv2.own.ref
        have T3 : Hid ((w1.setCell ⟨w.heap.size + 1, 0, none⟩ (.slice (some ⟨g, 0, none⟩) (k + 1) cap)).ownsRow w.heap.size 3 1 rv k ((List.replicate k 0).map (Value.int .i64))) := by have := T2.out; unfold OwnI at this; rwa [List.length_replicate] at this
        have hs2 := hinv2.old.size
        have HI : Hid (_) := hinv2
        clear hown1 hgrow1 hx0 hx1 hxf hxl hinv hinv2
        go_wp2_with (first
          | (at_builtin; refine wpList_append_lies _ rfl (.tmp 22) (.tmp 23) 23 rfl w.heap.size 3 i0 (.int .i64 0) 1 8 Try.underlying23 hi0 hz00 hz01 hz02 rfl (by decide) rv k _ rfl (T3.out.alloc _) ⟨w1.heap.size, 0, none⟩ 1 1 [.int .i64 0] rfl rfl ?c1 (by intro u hu; simp at hu; subst hu; rfl) (by decide) (by unfold maxLen; omega) (by omega) ?c2 (w1.heap.size + 1) (by simp) ?_))
        case c1 => have := cell_one_new (w1.setCell ⟨w.heap.size + 1, 0, none⟩ (.slice (some ⟨g, 0, none⟩) (k + 1) cap)) (.int .i64 0) 3; simpa using this
        case c2 => simp; have := hs2; simp at this; omega
        intro g2 cap2 w3 hown3 hgrow3 hat3 _
        obtain ⟨hb3, hinv3⟩ := MakeInv.snocR (x := 0) (rv' := .slice (some ⟨g2, 0, none⟩) (k + 1) cap2) HI.out _ hgrow3 (by simpa [OwnI] using hown3) (by
          rcases hat3 with h | h
          · exact Or.inl h
          · right
            intro g' hg'
            simp [Value.ownBlock] at hg'
            simp
            omega)
        rw [← List.replicate_succ', ← List.replicate_succ'] at hinv3
        have HI3 : Hid (_) := hinv3
        obtain ⟨hz0, hz1, hzf, hzl⟩ := two_cells hb3
        clear hown3 hgrow3 hat3 hinv3
        go_wp2
        refine ⟨⟨k + 1, _, _, _, by omega, by go_num, HI3.out⟩, ?_⟩
        simp [intOf]; omega
      · have e : k = m := by omega
        subst e
        obtain ⟨x, y, hres⟩ := hinv.res
        obtain ⟨hy0, hy1, hyf, hyl⟩ := two_cells hres
        obtain ⟨A, c, B, c', rfl, rfl⟩ := hinv.own.shape
        rw [List.length_replicate, List.length_replicate] at hinv
        have HI : Hid (_) := hinv
        clear hinv
        go_wp2
        refine bodyPost_ret (v := .tuple #[.agg #[.slice A k c, .slice B k c'], .int .i64 0]) (by simp [results, Try.results10, go_sem, hy0, hy1]) rfl ?_
        exact newPost_of hm (OwnF.store2 HI.out.own hres (by decide) (by decide) _ _) ((HI.out.old.setCell (by simp) _).setCell (by simp) _)
  · have gi : inB n 0 200 = false := inB_no hr
    go_enter Try.func10, Try.ntmps10
    go_wp2_with (go_at_call 22; refine (In_B _ _ _ _).mono ?_; rintro e w' ⟨rfl, rfl⟩)
    exact bodyPost_ret (v := .tuple #[.agg #[nilv, nilv], .int .i64 2]) (by simp [results, Try.results10, go_sem]) rfl (newPost_bad hr (below_alloc _ _))

end Go.Proofs.Ytchmmpeblpnjnaa
