/- Contract of run.newRecorder. -/
import Derived.Test.YtecpblabaelopaaDoorSlCPart
import Derived.Test.YtecpblabaelopaaDoorMaySPart
import Derived.Deep.RegionHeld3
import Derived.Deep.RegionWith
import Derived.Test.YtecpblabaelopaaDoorRunPPart
import Derived.Deep.RegionLaw
import Derived.Deep.DeepCutAuto
namespace Go.Proofs.YtecpblabaelopaaDoor
open Go.RowKit
set_option maxRecDepth 100000

/-- A world in memory, with room. -/
structure WdT (lo : Nat) (w : World) (a b c d : Value) (x : Wd) : Prop where
  irqs : TailI lo w a x.irqs
  values : TailI lo w b x.values
  blocks : TailR lo w c x.blocks
  delays : TailI lo w d x.delays
  low : lo ≤ w.heap.size
theorem TailR.at {lo : Nat} {w : World} {u : Value} {D : List (List Int)} (h : TailR lo w u D) (hlo : lo ≤ w.heap.size) : RowsAt w u D := by
  obtain ⟨A, c, rfl, hf, hl, hc⟩ := h
  refine ⟨A, c, rfl, hl, fun h0 => ?_⟩
  obtain ⟨b, off, rfl, hlt, hj⟩ := hc h0
  refine ⟨b, off, rfl, by omega, fun j hjl => ?_⟩
  obtain ⟨r, h1, h2⟩ := hj j hjl
  exact ⟨r, h1, h2.at hlo⟩
theorem WdT.at {lo : Nat} {w : World} {a b c d : Value} {x : Wd} (h : WdT lo w a b c d x) : WdAt w a b c d x := ⟨h.irqs.at h.low, h.values.at h.low, h.blocks.at h.low, h.delays.at h.low⟩
theorem WdT.below {lo : Nat} {w w' : World} {a b c d : Value} {x : Wd} (h : WdT lo w a b c d x) (hb : Below lo w w') : WdT lo w' a b c d x :=
  ⟨h.irqs.below hb, h.values.below hb, h.blocks.below hb, h.delays.below hb, Nat.le_trans h.low hb.size⟩

theorem rcAt_new {w w3 : World} {a b c d : Value} {x : Wd} {pv qv pb qb pd qd : Nat} {cz : Nat} {zb lo : Nat} (h : WdT lo w a b c d x) (hB : Below w.heap.size w w3)
    (h1 : w3.heap[pv]? = some (.cells #[b] 23 (0, 0))) (h2 : w3.heap[qv]? = some (.cells #[.int .i64 0] 3 (0, 0)))
    (h3 : w3.heap[pb]? = some (.cells #[c] 45 (0, 0))) (h4 : w3.heap[qb]? = some (.cells #[.slice (some ⟨zb, 0, none⟩) 16 cz] 23 (0, 0)))
    (h5 : w3.heap[pd]? = some (.cells #[d] 23 (0, 0))) (h6 : w3.heap[qd]? = some (.cells #[.int .i64 0] 3 (0, 0)))
    (hz : OwnI w3 lo (.slice (some ⟨zb, 0, none⟩) 16 cz) zero16)
    (hle : lo ≤ pv ∧ lo ≤ pb ∧ lo ≤ pd) (hne : pv ≠ pd ∧ pv ≠ qb ∧ pd ≠ qb) :
    RcAt (w3.alloc (.cells #[a, nxI pv qv, nxB pb qb, nxI pd qd, .int .i64 (-1), .slice none 0 0] 72)) lo ⟨w3.heap.size, pv, qv, pb, qb, pd, qd⟩ a (.slice (some ⟨zb, 0, none⟩) 16 cz) x 0 0 0 (-1) [] ∧ Below w.heap.size w (w3.alloc (.cells #[a, nxI pv qv, nxB pb qb, nxI pd qd, .int .i64 (-1), .slice none 0 0] 72)) := by
  have hA := below_alloc w3 (.cells #[a, nxI pv qv, nxB pb qb, nxI pd qd, .int .i64 (-1), .slice none 0 0] 72)
  have hW := hB.trans (hA.mono hB.size)
  have at_ : ∀ {b : Nat} {o : Obj}, w3.heap[b]? = some o → (w3.alloc (.cells #[a, nxI pv qv, nxB pb qb, nxI pd qd, .int .i64 (-1), .slice none 0 0] 72)).heap[b]? = some o := fun hbo => by rw [hA.block _ (lt_of_block hbo)]; exact hbo
  exact ⟨⟨⟨.slice none 0 0, Go.Deep.blk_alloc_new _ _, OwnV.nil _ _⟩, ⟨b, at_ h1, h.values.below (hW.mono h.low)⟩, ⟨c, at_ h3, h.blocks.below (hW.mono h.low)⟩, ⟨d, at_ h5, h.delays.below (hW.mono h.low)⟩, at_ h2, at_ h4, at_ h6, h.irqs.below (hW.mono h.low), OwnI.below hz hA, ⟨Nat.le_trans h.low hB.size, hle⟩, hne, Nat.le_trans h.low hW.size⟩, hW⟩

set_option maxHeartbeats 4000000 in
theorem newRecorder_any (a b c d : Value) (x : Wd) (lo : Nat) (w : World) (h : WdT lo w a b c d x) :
    Calls Tryd.prog 26 #[.agg #[a, b, c, d]] w fun e w' => ∃ g iv zv, e = .returned (ptr g.p) ∧ RcAt w' lo g iv zv x 0 0 0 (-1) [] ∧ Below w.heap.size w w' := by
  have H : Hid (WdT lo w a b c d x) := h
  obtain ⟨A0, k0, rfl, -, -, -⟩ := h.irqs
  obtain ⟨A1, k1, rfl, -, -, -⟩ := h.values
  obtain ⟨A2, k2, rfl, -, -, -⟩ := h.blocks
  obtain ⟨A3, k3, rfl, -, -, -⟩ := h.delays
  have hmk : ∀ W : World, (Instr.makeSlice 23 (.int .i64 16) (.int .i64 16)).run Tryd.prog W = .ok (.slice (some ⟨W.heap.size, 0, none⟩) 16 16) (W.alloc (.cells (madeCells #[.int .i64 0] 16) 3)) := fun W => run_make_row' (P := Tryd.prog) 23 3 (.int .i64 0) 8 Tryd.underlying23 infoInt rfl .i64 .i64 16 (by omega) (by omega) W
  clear h
  have HX : Hid ((w.alloc (.cells #[.slice A0 x.irqs.length k0, .slice A1 x.values.length k1, .slice A2 x.blocks.length k2, .slice A3 x.delays.length k3] 47)).heap[w.heap.size]? = some (.cells #[.slice A0 x.irqs.length k0, .slice A1 x.values.length k1, .slice A2 x.blocks.length k2, .slice A3 x.delays.length k3] 47 (0, 0)) ∧ Below w.heap.size w (w.alloc (.cells #[.slice A0 x.irqs.length k0, .slice A1 x.values.length k1, .slice A2 x.blocks.length k2, .slice A3 x.delays.length k3] 47))) := ⟨Go.Deep.blk_alloc_new _ _, below_alloc _ _⟩
  obtain ⟨W, hW⟩ : ∃ W, W = w.alloc (.cells #[.slice A0 x.irqs.length k0, .slice A1 x.values.length k1, .slice A2 x.blocks.length k2, .slice A3 x.delays.length k3] 47) := ⟨_, rfl⟩
  rw [← hW] at HX
  have HW : Hid (W = w.alloc (.cells #[.slice A0 x.irqs.length k0, .slice A1 x.values.length k1, .slice A2 x.blocks.length k2, .slice A3 x.delays.length k3] 47)) := hW
  clear hW
  go_enter Tryd.func26, Tryd.ntmps26
  go_wp2_with fail
  rw [← HW.out]
  obtain ⟨z0, z1, z2, z3, zf, zl⟩ := four_cells HX.out.1
  go_region_held3 (fun w' => w'.cell? ⟨w.heap.size, 0, none⟩ = some (.slice A0 x.irqs.length k0) ∧ w'.cell? ⟨w.heap.size, 1, none⟩ = some (.slice A1 x.values.length k1) ∧ w'.cell? ⟨w.heap.size, 2, none⟩ = some (.slice A2 x.blocks.length k2) ∧ w'.cell? ⟨w.heap.size, 3, none⟩ = some (.slice A3 x.delays.length k3)) (go_keep)
    (first
      | (go_at_call_of 47 (Value.slice A1 x.values.length k1); refine (nextI_any A1 x.values.length k1 0 _).mono ?_; rintro e w1 ⟨pv, qv, rfl, v1, v2, v3, v4, v5⟩; have vs := v5.size; (try simp at v1); (try simp at vs); have v6 := fun j => v5.cell (p := ⟨w.heap.size, j, none⟩) (by (try simp); omega))
      | (go_at_call_of 48 (Value.slice A2 x.blocks.length k2); refine (nextB_any A2 _ x.blocks.length k2 _ _ _).mono ?_; rintro e w2 ⟨pb, qb, rfl, b1, b2, b3, b4, b5⟩; have bs := b5.size; (try simp at b1); (try simp at bs); have b6 := fun j => b5.cell (p := ⟨w.heap.size, j, none⟩) (by (try simp); omega))
      | (go_at_call_of 47 (Value.slice A3 x.delays.length k3); refine (nextI_any A3 x.delays.length k3 0 _).mono ?_; rintro e w3 ⟨pd, qd, rfl, d1, d2, d3, d4, d5⟩; have ds := d5.size; (try simp at d1); (try simp at ds); have d6 := fun j => d5.cell (p := ⟨w.heap.size, j, none⟩) (by (try simp); omega)))
  all_goals
    have hbW : Below w.heap.size w W := HX.out.2
    have sW := hbW.size
    have l1 := lt_of_block v3
    have l2 := lt_of_block v4
    have l3 := lt_of_block b3
    have l4 := lt_of_block b4
    have l5 := lt_of_block d3
    have hr : ∃ (zb : Nat), RcAt (w3.alloc (.cells #[.slice A0 x.irqs.length k0, nxI pv qv, nxB pb qb, nxI pd qd, .int .i64 (-1), .slice none 0 0] 72)) lo ⟨w3.heap.size, pv, qv, pb, qb, pd, qd⟩ (.slice A0 x.irqs.length k0) (.slice (some ⟨zb, 0, none⟩) 16 16) x 0 0 0 (-1) [] ∧ Below w.heap.size w (w3.alloc (.cells #[.slice A0 x.irqs.length k0, nxI pv qv, nxB pb qb, nxI pd qd, .int .i64 (-1), .slice none 0 0] 72)) := by
      first
        | (have hb1 : Below w.heap.size w w1 := hbW.drew.trans (v5.mono (by simp; omega))
           have s1 := hb1.size
           have t2 : Below w1.heap.size w1 w2 := (below_alloc w1 (.cells (madeCells #[.int .i64 0] 16) 3)).trans (b5.mono (by simp))
           have t3 : Below w1.heap.size w1 w3 := t2.trans (d5.mono t2.size)
           have hz : w3.heap[w1.heap.size]? = some (.cells (madeCells #[.int .i64 0] 16) 3 (0, 0)) := by rw [d5.block _ (by omega), b5.block _ (by simp)]; exact Go.Deep.blk_alloc_new _ _
           exact ⟨w1.heap.size, rcAt_new H.out (hb1.trans (t3.mono s1)) ((t3.block _ l1).trans v3) ((t3.block _ l2).trans v4) ((d5.block _ l3).trans b3) ((d5.block _ l4).trans b4) d3 d4 (OwnI.madeZ (Nat.le_trans H.out.low s1) (by unfold maxLen; omega) hz) ⟨by have := H.out.low; omega, by have := H.out.low; omega, by have := H.out.low; omega⟩ ⟨by omega, by omega, by omega⟩⟩)
        | (have hb0 : Below w.heap.size w (W.alloc (.cells (madeCells #[.int .i64 0] 16) 3)).drew := (hbW.alloc sW _).drew
           have hb1 : Below w.heap.size w w1 := hb0.trans (v5.mono (by simp; omega))
           have s1 := hb1.size
           have t2 : Below w1.heap.size w1 w2 := b5
           have t3 : Below w1.heap.size w1 w3 := t2.trans (d5.mono t2.size)
           have hz : w3.heap[W.heap.size]? = some (.cells (madeCells #[.int .i64 0] 16) 3 (0, 0)) := by rw [t3.block _ (by omega), v5.block _ (by simp)]; exact Go.Deep.blk_alloc_new _ _
           exact ⟨W.heap.size, rcAt_new H.out (hb1.trans (t3.mono s1)) ((t3.block _ l1).trans v3) ((t3.block _ l2).trans v4) ((d5.block _ l3).trans b3) ((d5.block _ l4).trans b4) d3 d4 (OwnI.madeZ (Nat.le_trans H.out.low sW) (by unfold maxLen; omega) hz) ⟨by have := H.out.low; omega, by have := H.out.low; omega, by have := H.out.low; omega⟩ ⟨by omega, by omega, by omega⟩⟩)
    obtain ⟨zb, hr⟩ := hr
    have HR : Hid (RcAt (w3.alloc (.cells #[.slice A0 x.irqs.length k0, nxI pv qv, nxB pb qb, nxI pd qd, .int .i64 (-1), .slice none 0 0] 72)) lo ⟨w3.heap.size, pv, qv, pb, qb, pd, qd⟩ (.slice A0 x.irqs.length k0) (.slice (some ⟨zb, 0, none⟩) 16 16) x 0 0 0 (-1) [] ∧ Below w.heap.size w (w3.alloc (.cells #[.slice A0 x.irqs.length k0, nxI pv qv, nxB pb qb, nxI pd qd, .int .i64 (-1), .slice none 0 0] 72))) := hr
    clear hr
    go_wp2_with fail
    go_ret
    exact ⟨⟨w3.heap.size, pv, qv, pb, qb, pd, qd⟩, _, _, rfl, HR.out⟩

end Go.Proofs.YtecpblabaelopaaDoor

/- Contracts of run.outside, of the closure that it makes, and of what is no word. -/

namespace Go.Proofs.YtecpblabaelopaaDoor
open Go.RowKit

/-- A closure that finds what is not from lo to hi. -/
abbrev cloR (p q : Nat) : Value := .func (.func 36) #[] #[.pointer (some ⟨p, 0, none⟩), .pointer (some ⟨q, 0, none⟩)]
/-- What such a closure holds. -/
structure CloAtR (w : World) (p q : Nat) (lo hi : Int) : Prop where
  c1 : w.cell? ⟨p, 0, none⟩ = some (.int .i64 lo)
  c2 : w.cell? ⟨q, 0, none⟩ = some (.int .i64 hi)
  l1 : p < w.heap.size
  l2 : q < w.heap.size
theorem CloAtR.below {w w' : World} {p q : Nat} {lo hi : Int} (h : CloAtR w p q lo hi) (hb : Below w.heap.size w w') : CloAtR w' p q lo hi :=
  ⟨(hb.cell (p := ⟨p, 0, none⟩) h.l1).trans h.c1, (hb.cell (p := ⟨q, 0, none⟩) h.l2).trans h.c2, Nat.lt_of_lt_of_le h.l1 hb.size, Nat.lt_of_lt_of_le h.l2 hb.size⟩
theorem CloAtR.drew {w : World} {p q : Nat} {lo hi : Int} (h : CloAtR w p q lo hi) : CloAtR w.drew p q lo hi := h.below ((Below.refl _ w).drew)

theorem one_cellR {w : World} {b : Nat} {x : Value} {t : TypeId} (h : w.heap[b]? = some (.cells #[x] t (0, 0))) : w.cell? ⟨b, 0, none⟩ = some x := by simp [World.cell?, h]

theorem outsideR_any (lo hi : Int) (w : World) : Calls Tryd.prog 17 #[.int .i64 lo, .int .i64 hi] w fun e w' => ∃ p q, e = .returned (cloR p q) ∧ CloAtR w' p q lo hi ∧ Below w.heap.size w w' := by
  go_enter Tryd.func17, Tryd.ntmps17
  go_wp2
  go_ret
  obtain ⟨b0, b1, b2⟩ := two_boxes (Below.refl ((w.alloc (.cells #[.int .i64 lo] 3)).alloc (.cells #[.int .i64 hi] 3)).heap.size ((w.alloc (.cells #[.int .i64 lo] 3)).alloc (.cells #[.int .i64 hi] 3)))
  exact ⟨_, _, rfl, ⟨one_cellR b0, one_cellR b1, by simp; omega, by simp⟩, b2⟩

theorem cloR_any (x lo hi : Int) (p q : Nat) (w : World) (h : CloAtR w p q lo hi) :
    Calls Tryd.prog 36 #[.int .i64 x, .pointer (some ⟨p, 0, none⟩), .pointer (some ⟨q, 0, none⟩)] w fun e w' => e = .returned (.bool (!inB x lo hi)) ∧ w' = w := by
  obtain ⟨c1, c2, -, -⟩ := h
  by_cases h1 : x < lo
  · have hI : (!inB x lo hi) = true := by simp [inB]; omega
    rw [hI]
    go_enter Tryd.func36, Tryd.ntmps36
    go_wp2
    go_ret
    exact ⟨rfl, rfl⟩
  · by_cases h2 : hi < x
    · have hI : (!inB x lo hi) = true := by simp [inB]; omega
      rw [hI]
      go_enter Tryd.func36, Tryd.ntmps36
      go_wp2
      go_ret
      exact ⟨rfl, rfl⟩
    · have hI : (!inB x lo hi) = false := by simp [inB]; omega
      rw [hI]
      go_enter Tryd.func36, Tryd.ntmps36
      go_wp2
      go_ret
      exact ⟨rfl, rfl⟩

set_option maxHeartbeats 400000 in
theorem IndexFuncR (v : Value) (l : List Int) (p q : Nat) (lo hi : Int) (w : World) (h : IntsAt w v l) (hq : CloAtR w p q lo hi) :
    Calls Tryd.prog 73 #[v, cloR p q] w fun e w' => ∃ r : Int, e = .returned (.int .i64 r) ∧ decide (0 ≤ r) = !allIn lo hi l ∧ w' = w := by
  obtain ⟨A, c, rfl, hl, hc⟩ := h
  have HQ : Hid (CloAtR w p q lo hi) := hq
  clear hq
  go_enter Tryd.func73, Tryd.ntmps73
  go_wp2
  go_loopw [8] (fun i wr => ∃ k : Nat, k ≤ l.length ∧ i = .int .i64 k ∧ Hid (∀ i, i < k → inB (l.getD i 0) lo hi = true) ∧ wr = w) (fun i _ => l.length - (intOf i).toNat)
  case atStart => exact ⟨0, Nat.zero_le _, rfl, fun i hi => absurd hi (Nat.not_lt_zero _), rfl⟩
  case round =>
    obtain ⟨k, hk, rfl, ht, hw⟩ := hrel
    subst wr
    by_cases hlt : k < l.length
    · obtain ⟨b, off, rfl, hbs, hcell⟩ := hc (by omega)
      have h1 := hcell k hlt
      cases hw : inB (l.getD k 0) lo hi with
      | false =>
        have HN : Hid (true = !allIn lo hi l) := by show _ = _; rw [allIn_no hlt hw]; rfl
        clear hcell hc
        revert h1 hw
        generalize l.getD k 0 = x
        intro h1 hw
        go_wp2_with (go_at_call 36; refine (cloR_any _ lo hi p q _ HQ.out).mono ?_; rintro e w' ⟨rfl, rfl⟩)
        go_ret
        exact ⟨k, rfl, by rw [← HN.out]; simp, rfl⟩
      | true =>
        have HN : Hid (∀ i, i < k + 1 → inB (l.getD i 0) lo hi = true) := allIn_step ht.out hw
        clear hcell hc
        revert h1 hw
        generalize l.getD k 0 = x
        intro h1 hw
        go_wp2_with (go_at_call 36; refine (cloR_any _ lo hi p q _ HQ.out).mono ?_; rintro e w' ⟨rfl, rfl⟩)
        refine ⟨⟨k + 1, by omega, by go_num, HN, trivial⟩, ?_⟩
        simp [intOf]; omega
    · have HN : Hid (false = !allIn lo hi l) := by show _ = _; rw [allIn_iff.2 fun i hi => ht.out i (by omega)]; rfl
      clear hc
      go_wp2
      go_ret
      exact ⟨-1, rfl, by rw [← HN.out]; rfl, rfl⟩

theorem ContainsFuncR (v : Value) (l : List Int) (p q : Nat) (lo hi : Int) (w : World) (h : IntsAt w v l) (hq : CloAtR w p q lo hi) :
    Calls Tryd.prog 44 #[v, cloR p q] w fun e w' => e = .returned (.bool (!allIn lo hi l)) ∧ w' = w := by
  go_enter Tryd.func44, Tryd.ntmps44
  go_wp2_with (go_at_call 73; refine (IndexFuncR v l p q lo hi _ h hq).mono ?_; rintro e w' ⟨r, rfl, hr, rfl⟩)
  go_ret
  exact ⟨rfl, rfl⟩

theorem isNoWordR_any (w : World) : Calls Tryd.prog 46 #[] w fun e w' => ∃ p q, e = .returned (cloR p q) ∧ CloAtR w' p q (-1099511627776) 1099511627776 ∧ Below w.heap.size w w' := by
  go_enter Tryd.func46, Tryd.ntmps46
  go_wp2_with (go_at_call 17; refine (outsideR_any _ _ _).mono ?_; rintro e w' ⟨p, q, rfl, hc, hb⟩)
  go_ret
  exact ⟨p, q, rfl, hc, hb⟩

theorem isNoCount_any (w : World) : Calls Tryd.prog 20 #[] w fun e w' => ∃ p q, e = .returned (cloR p q) ∧ CloAtR w' p q 0 3000 ∧ Below w.heap.size w w' := by
  go_enter Tryd.func20, Tryd.ntmps20
  go_wp2_with (go_at_call 17; refine (outsideR_any _ _ _).mono ?_; rintro e w' ⟨p, q, rfl, hc, hb⟩)
  go_ret
  exact ⟨p, q, rfl, hc, hb⟩

end Go.Proofs.YtecpblabaelopaaDoor

/- Contract of run.CheckWorld. -/

namespace Go.Proofs.YtecpblabaelopaaDoor
open Go.RowKit

theorem wd_cells {w : World} {b : Nat} {x0 x1 x2 x3 : Value} {t : TypeId} (h : w.heap[b]? = some (.cells #[x0, x1, x2, x3] t (0, 0))) :
    w.cell? ⟨b, 0, none⟩ = some x0 ∧ w.cell? ⟨b, 1, none⟩ = some x1 ∧ w.cell? ⟨b, 2, none⟩ = some x2 ∧ w.cell? ⟨b, 3, none⟩ = some x3 := by
  refine ⟨?_, ?_, ?_, ?_⟩ <;> simp [World.cell?, h]

theorem max4_run {P : Program} (ts : Array TypeId) (t : TypeId) (x y z u : Int) : ∃ M, (∀ w, (Builtin.max_ ts t #[.int .i64 x, .int .i64 y, .int .i64 z, .int .i64 u]).run P w = .ok (.int .i64 M) w) ∧ (1000 < M ↔ ¬ (x ≤ 1000 ∧ y ≤ 1000 ∧ z ≤ 1000 ∧ u ≤ 1000)) := by
  refine ⟨_, fun w => by simp only [Builtin.max_, Builtin.max2, List.foldlM, Sem.run_bind, Sem.run_pure, Result.andThen_ok]; rfl, ?_⟩
  split <;> split <;> split <;> omega

theorem RowsAt.look {w : World} {A : Option Addr} {c : Nat} {D : List (List Int)} (h : RowsAt w (.slice A D.length c) D) :
    D.length * 24 ≤ 140737488351232 ∧ (0 < D.length → ∃ b off, A = some ⟨b, off, none⟩ ∧ b < w.heap.size ∧ ∀ j, j < D.length → ∃ rv, w.cell? ⟨b, off + j, none⟩ = some rv ∧ IntsAt w rv (D.getD j [])) := by
  obtain ⟨A', c', e, hl, hc⟩ := h
  simp only [Value.slice.injEq, true_and] at e
  obtain ⟨rfl, rfl⟩ := e
  exact ⟨hl, hc⟩

set_option maxHeartbeats 2000000 in
theorem CheckWorld_any (a b c d : Value) (x : Wd) (w : World) (h : WdAt w a b c d x) :
    Calls Tryd.prog 25 #[.agg #[a, b, c, d]] w fun e w' => e = .returned (.int .i64 (worldNo x)) ∧ Below w.heap.size w w' := by
  have H : Hid (WdAt w a b c d x) := h
  obtain ⟨A0, k0, rfl, -, -⟩ := h.irqs
  obtain ⟨A1, k1, rfl, -, -⟩ := h.values
  obtain ⟨A2, k2, rfl, -, -⟩ := h.blocks
  obtain ⟨A3, k3, rfl, -, -⟩ := h.delays
  obtain ⟨N, eN⟩ : ∃ N, N = worldNo x := ⟨_, rfl⟩
  rw [← eN]
  obtain ⟨M, hM, hm⟩ := max4_run (P := Tryd.prog) #[3, 3, 3, 3] 3 x.irqs.length x.values.length x.blocks.length x.delays.length
  clear h
  by_cases hf : x.fits = true
  case neg =>
    have hq : 1000 < M := hm.2 (by simp only [Wd.fits, decide_eq_true_eq] at hf; omega)
    have HE : Hid (N = 1) := by show _ = _; rw [eN, worldNo, if_neg hf]
    clear hf eN hm
    go_enter Tryd.func25, Tryd.ntmps25
    go_wp2_with fail
    go_ret
    exact ⟨ret_int HE.out.symm, below_alloc _ _⟩
  case pos =>
    have hq : ¬ 1000 < M := fun hh => (hm.1 hh) (by simp only [Wd.fits, decide_eq_true_eq] at hf; omega)
    have hx : (w.alloc (.cells #[.slice A0 x.irqs.length k0, .slice A1 x.values.length k1, .slice A2 x.blocks.length k2, .slice A3 x.delays.length k3] 47)).heap[w.heap.size]? = some (.cells #[.slice A0 x.irqs.length k0, .slice A1 x.values.length k1, .slice A2 x.blocks.length k2, .slice A3 x.delays.length k3] 47 (0, 0)) := Go.Deep.blk_alloc_new _ _
    have hb0 := below_alloc w (.cells #[.slice A0 x.irqs.length k0, .slice A1 x.values.length k1, .slice A2 x.blocks.length k2, .slice A3 x.delays.length k3] 47)
    obtain ⟨W, hW⟩ : ∃ W, W = w.alloc (.cells #[.slice A0 x.irqs.length k0, .slice A1 x.values.length k1, .slice A2 x.blocks.length k2, .slice A3 x.delays.length k3] 47) := ⟨_, rfl⟩
    rw [← hW] at hx hb0
    have HW : Hid (W = w.alloc (.cells #[.slice A0 x.irqs.length k0, .slice A1 x.values.length k1, .slice A2 x.blocks.length k2, .slice A3 x.delays.length k3] 47)) := hW
    have HX : Hid (W.heap[w.heap.size]? = some (.cells #[.slice A0 x.irqs.length k0, .slice A1 x.values.length k1, .slice A2 x.blocks.length k2, .slice A3 x.delays.length k3] 47 (0, 0)) ∧ Below w.heap.size w W) := ⟨hx, hb0⟩
    have EN : Hid (N = if allIn 0 3000 x.irqs = true ∧ allIn 0 3000 x.delays = true ∧ allB x.values = true then blocksNo x.blocks else 2) := by show _ = _; rw [eN, worldNo, if_pos hf]
    clear hm hf hx hb0 hW eN
    go_enter Tryd.func25, Tryd.ntmps25
    go_wp2_with fail
    rw [← HW.out]
    refine (isNoCount_any _).mono ?_
    rintro e w1 ⟨p, q, rfl, hc1, hb1⟩
    have HC1 : Hid (CloAtR w1 p q 0 3000 ∧ Below w.heap.size w w1 ∧ Below W.heap.size W w1) := ⟨hc1, HX.out.2.trans (hb1.mono HX.out.2.size), hb1⟩
    clear hc1 hb1
    go_wp2_with fail
    refine (isNoWordR_any _).mono ?_
    rintro e w2 ⟨p2, q2, rfl, hc3, hb2⟩
    have hb12 : Below W.heap.size W w2 := HC1.out.2.2.trans (hb2.mono HC1.out.2.2.size)
    have hbw : Below w.heap.size w w2 := HX.out.2.trans (hb12.mono HX.out.2.size)
    obtain ⟨z0, z1, z2, z3⟩ := wd_cells (show w2.heap[w.heap.size]? = _ from (hb12.block _ (lt_of_block HX.out.1)).trans HX.out.1)
    have HD : Hid (CloAtR w2 p q 0 3000 ∧ CloAtR w2 p2 q2 (-1099511627776) 1099511627776 ∧ WdAt w2 (.slice A0 x.irqs.length k0) (.slice A1 x.values.length k1) (.slice A2 x.blocks.length k2) (.slice A3 x.delays.length k3) x ∧ Below w.heap.size w w2) := ⟨HC1.out.1.below hb2, hc3, H.out.below hbw, hbw⟩
    clear hc3 hb2 hb12 hbw HC1 HX HW H hM
    obtain ⟨hl2, hc2⟩ := HD.out.2.2.1.blocks.look
    have HC : Hid (0 < x.blocks.length → ∃ b off, A2 = some ⟨b, off, none⟩ ∧ b < w2.heap.size ∧ ∀ j, j < x.blocks.length → ∃ rv, w2.cell? ⟨b, off + j, none⟩ = some rv ∧ IntsAt w2 rv (x.blocks.getD j [])) := hc2
    clear hc2
    cases g0 : allIn 0 3000 x.irqs with
    | false =>
      have HE : Hid (N = 2) := by show _ = _; rw [EN.out, if_neg (by rw [g0]; simp)]
      go_wp2_with fail
      refine (ContainsFuncR _ x.irqs p q 0 3000 _ HD.out.2.2.1.irqs HD.out.1).mono ?_
      rw [g0]
      rintro e w' ⟨rfl, hw'⟩
      rw [hw']
      clear hw' w'
      go_wp2_with fail
      go_ret
      exact ⟨ret_int HE.out.symm, HD.out.2.2.2⟩
    | true =>
    cases g1 : allIn 0 3000 x.delays with
    | false =>
      have HE : Hid (N = 2) := by show _ = _; rw [EN.out, if_neg (by rw [g1]; simp)]
      go_wp2_with fail
      refine (ContainsFuncR _ x.irqs p q 0 3000 _ HD.out.2.2.1.irqs HD.out.1).mono ?_
      rw [g0]
      rintro e w' ⟨rfl, hw'⟩
      rw [hw']
      clear hw' w'
      go_wp2_with fail
      refine (ContainsFuncR _ x.delays p q 0 3000 _ HD.out.2.2.1.delays HD.out.1).mono ?_
      rw [g1]
      rintro e w' ⟨rfl, hw'⟩
      rw [hw']
      clear hw' w'
      go_wp2_with fail
      go_ret
      exact ⟨ret_int HE.out.symm, HD.out.2.2.2⟩
    | true =>
    cases g2 : allB x.values with
    | false =>
      have HE : Hid (N = 2) := by show _ = _; rw [EN.out, if_neg (by rw [g2]; simp)]
      go_wp2_with fail
      refine (ContainsFuncR _ x.irqs p q 0 3000 _ HD.out.2.2.1.irqs HD.out.1).mono ?_
      rw [g0]
      rintro e w' ⟨rfl, hw'⟩
      rw [hw']
      clear hw' w'
      go_wp2_with fail
      refine (ContainsFuncR _ x.delays p q 0 3000 _ HD.out.2.2.1.delays HD.out.1).mono ?_
      rw [g1]
      rintro e w' ⟨rfl, hw'⟩
      rw [hw']
      clear hw' w'
      go_wp2_with fail
      refine (ContainsFuncR _ x.values p2 q2 _ _ _ HD.out.2.2.1.values HD.out.2.1).mono ?_
      rw [allIn_word, g2]
      rintro e w' ⟨rfl, hw'⟩
      rw [hw']
      clear hw' w'
      go_wp2_with fail
      go_ret
      exact ⟨ret_int HE.out.symm, HD.out.2.2.2⟩
    | true =>
      have HE : Hid (N = blocksNo x.blocks) := by show _ = _; rw [EN.out, if_pos ⟨g0, g1, g2⟩]
      go_wp2_with fail
      refine (ContainsFuncR _ x.irqs p q 0 3000 _ HD.out.2.2.1.irqs HD.out.1).mono ?_
      rw [g0]
      rintro e w' ⟨rfl, hw'⟩
      rw [hw']
      clear hw' w'
      go_wp2_with fail
      refine (ContainsFuncR _ x.delays p q 0 3000 _ HD.out.2.2.1.delays HD.out.1).mono ?_
      rw [g1]
      rintro e w' ⟨rfl, hw'⟩
      rw [hw']
      clear hw' w'
      go_wp2_with fail
      refine (ContainsFuncR _ x.values p2 q2 _ _ _ HD.out.2.2.1.values HD.out.2.1).mono ?_
      rw [allIn_word, g2]
      rintro e w' ⟨rfl, hw'⟩
      rw [hw']
      clear hw' w' EN g0 g1 g2 hq
      go_wp2_with fail
      go_loopw [42] (fun i wr => ∃ k : Nat, k ≤ x.blocks.length ∧ i = .int .i64 k ∧ Hid (N = blocksNo (x.blocks.drop k)) ∧ wr = w2) (fun i _ => x.blocks.length - (intOf i).toNat)
      case atStart => exact ⟨0, Nat.zero_le _, rfl, HE, rfl⟩
      case round =>
        obtain ⟨k, hk, rfl, ht, hw⟩ := hrel
        subst wr
        by_cases hlt : k < x.blocks.length
        · obtain ⟨b, off, rfl, hbs, hcell⟩ := HC.out (by omega)
          obtain ⟨rv, h1, h2⟩ := hcell k hlt
          have HT : Hid (N = if (x.blocks.getD k []).length = 16 then (if allB (x.blocks.getD k []) = true then blocksNo (x.blocks.drop (k + 1)) else 2) else 1) := by show _ = _; rw [← blocksNo_drop x.blocks k hlt]; exact ht.out
          obtain ⟨row, hrow⟩ : ∃ row, row = x.blocks.getD k [] := ⟨_, rfl⟩
          rw [← hrow] at h2 HT
          have HI : Hid (IntsAt w2 rv row) := h2
          obtain ⟨A, c, rfl, -, -⟩ := h2
          clear hcell hrow HC ht HE
          by_cases hr : row.length = 16
          · have d0 : ((row.length : Int) != 16) = false := by simp [hr]
            have HT2 : Hid (N = if allB row = true then blocksNo (x.blocks.drop (k + 1)) else 2) := by show _ = _; rw [HT.out, if_pos hr]
            clear hr HT
            cases g : allB row with
            | false =>
              have HE : Hid (N = 2) := by show _ = _; rw [HT2.out, g]; rfl
              go_wp2_with fail
              refine (ContainsFuncR _ row p2 q2 _ _ _ HI.out HD.out.2.1).mono ?_
              rw [allIn_word, g]
              rintro e w' ⟨rfl, hw'⟩
              rw [hw']
              clear hw' w'
              go_wp2_with fail
              go_ret
              exact ⟨ret_int HE.out.symm, HD.out.2.2.2⟩
            | true =>
              have HE : Hid (N = blocksNo (x.blocks.drop (k + 1))) := by show _ = _; rw [HT2.out, if_pos g]
              have hw2 : IntKind.i64.wrap ((k : Int) + 1) = (k : Int) + 1 := IntWalk.i64_in _ (by omega)
              go_wp2_with fail
              refine (ContainsFuncR _ row p2 q2 _ _ _ HI.out HD.out.2.1).mono ?_
              rw [allIn_word, g]
              rintro e w' ⟨rfl, hw'⟩
              rw [hw']
              clear hw' w'
              go_wp2_with fail
              refine ⟨⟨k + 1, by omega, by go_num, HE, trivial⟩, ?_⟩
              simp [intOf]; omega
          · have d0 : ((row.length : Int) != 16) = true := by simp; omega
            have HE : Hid (N = 1) := by show _ = _; rw [HT.out, if_neg hr]
            go_wp2_with fail
            go_ret
            exact ⟨ret_int HE.out.symm, HD.out.2.2.2⟩
        · have HT : Hid (N = 0) := by show _ = _; rw [ht.out, List.drop_of_length_le (by omega)]; rfl
          clear HC ht HE
          go_wp2_with fail
          go_ret
          exact ⟨ret_int HT.out.symm, HD.out.2.2.2⟩

end Go.Proofs.YtecpblabaelopaaDoor
