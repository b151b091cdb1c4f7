/- What a call turns: nothing but the blocks of F. (In a seat with a host these laws stand in its own text.) -/
import Derived.Test.YtecpblabaelopaaDoorRdPart
import Derived.Test.YtecpblabaelopaaDoorKWorldPart
import Derived.Test.YtecpblabaelopaaDoorKInsAllPart
import Derived.Test.YtecpblabaelopaaDoorRecPart
import Derived.Test.YtecpblabaelopaaDoorTapePart
import Derived.Test.YtecpblabaelopaaDoorByEncodePart
import Derived.Test.YtecpblabaelopaaDoorToldCPart
import Derived.Test.YtecpblabaelopaaDoorCpuWordsPart
namespace Go.Proofs.YtecpblabaelopaaDoor
open Go.RowKit
set_option maxRecDepth 100000

/-- Nothing but these blocks has turned. -/
structure Chg (F : Nat → Prop) (w w' : World) : Prop where
  os : w'.os = w.os
  tape : w'.tape = w.tape
  output : w'.output = w.output
  size : w.heap.size ≤ w'.heap.size
  kept : ∀ g, g < w.heap.size → ¬ F g → w'.heap[g]? = w.heap[g]?
theorem Chg.refl (F : Nat → Prop) (w : World) : Chg F w w := ⟨rfl, rfl, rfl, Nat.le_refl _, fun _ _ _ => rfl⟩
theorem Chg.of_below {F : Nat → Prop} {w w' : World} (h : Below w.heap.size w w') : Chg F w w' := ⟨h.os, h.tape, h.output, h.size, fun g hg _ => h.block g hg⟩
theorem Chg.mono {F G : Nat → Prop} {w w' : World} (h : Chg F w w') (hf : ∀ g, g < w.heap.size → F g → G g) : Chg G w w' := ⟨h.os, h.tape, h.output, h.size, fun g hg hn => h.kept g hg (fun e => hn (hf g hg e))⟩
theorem Chg.trans {F G : Nat → Prop} {w w1 w2 : World} (h : Chg F w w1) (k : Chg G w1 w2) (hf : ∀ g, G g → F g ∨ w.heap.size ≤ g) : Chg F w w2 :=
  ⟨k.os.trans h.os, k.tape.trans h.tape, k.output.trans h.output, Nat.le_trans h.size k.size, fun g hg hn => by
    rw [k.kept g (Nat.lt_of_lt_of_le hg h.size) (fun e => by rcases hf g e with e | e; exact hn e; omega)]
    exact h.kept g hg hn⟩
theorem Chg.set {F : Nat → Prop} {w w' : World} (h : Chg F w w') {a : Addr} (ha : F a.block ∨ w.heap.size ≤ a.block) (u : Value) : Chg F w (w'.setCell a u) :=
  ⟨h.os, h.tape, h.output, by simpa using h.size, fun g hg hn => by
    rw [Below.heap_setCell _ _ _ _ (fun e => by subst e; rcases ha with ha | ha; exact hn ha; omega)]
    exact h.kept g hg hn⟩
theorem Chg.alloc {F : Nat → Prop} {w w' : World} (h : Chg F w w') (o : Obj) : Chg F w (w'.alloc o) := h.trans (Chg.of_below (F := fun _ => False) (below_alloc w' o)) (fun _ e => e.elim)
theorem Chg.drew {F : Nat → Prop} {w w' : World} (h : Chg F w w') : Chg F w w'.drew := ⟨h.os, h.tape, h.output, h.size, h.kept⟩
theorem Chg.then_ {F : Nat → Prop} {w w1 w2 : World} (h : Chg F w w1) (k : Below w1.heap.size w1 w2) : Chg F w w2 := h.trans (Chg.of_below (F := fun _ => False) k) (fun _ e => e.elim)
theorem Chg.below {F : Nat → Prop} {w w' : World} (h : Chg F w w') {lo : Nat} (hlo : lo ≤ w.heap.size) (hf : ∀ g, F g → lo ≤ g) : Below lo w w' :=
  ⟨h.os, h.tape, h.output, h.size, fun g hg => h.kept g (by omega) (fun e => by have := hf g e; omega)⟩
theorem Chg.box {F : Nat → Prop} {w w' : World} (h : Chg F w w') {g : Nat} {o : Obj} (hg : w.heap[g]? = some o) (hn : ¬ F g) : w'.heap[g]? = some o := by rw [h.kept g (lt_of_block hg) hn]; exact hg
theorem Chg.owns {F : Nat → Prop} {w w' : World} (h : Chg F w w') {base : Nat} {e : TypeId} {size : Nat} {v : Value} {n : Nat} {xs : List Value} (k : w.ownsRow base e size v n xs) (hn : ∀ g, v.ownBlock = some g → ¬ F g) : w'.ownsRow base e size v n xs := by
  obtain ⟨h1, h2⟩ := k
  refine ⟨h1, ?_⟩
  rcases h2 with h2 | ⟨g, cap, cur, rfl, hg, hh, r⟩
  · exact Or.inl h2
  · exact Or.inr ⟨g, cap, cur, rfl, hg, h.box hh (hn g rfl), r⟩
theorem Chg.own {F : Nat → Prop} {w w' : World} (h : Chg F w w') {lo : Nat} {v : Value} {l : List Int} (k : OwnI w lo v l) (hn : ∀ g, v.ownBlock = some g → ¬ F g) : OwnI w' lo v l := h.owns k hn

end Go.Proofs.YtecpblabaelopaaDoor

/- What is recorded of raw things: plain laws. -/

namespace Go.Proofs.YtecpblabaelopaaDoor
open Go.RowKit
set_option maxRecDepth 100000

theorem OwnI.tail {w : World} {lo : Nat} {v : Value} {l : List Int} (h : OwnI w lo v l) (hl : l.length * 8 ≤ 140737488351232) : TailI w.heap.size w v l := by
  have hi := h.at hl
  rcases h.2 with ⟨rfl, hn⟩ | ⟨g, cap, cur, rfl, hg, hh, hc, _⟩
  · exact ⟨none, 0, by rw [hn], by omega, hl, fun h0 => by omega⟩
  · obtain ⟨A, c, e, _, h2⟩ := hi
    simp only [Value.slice.injEq] at e
    obtain ⟨rfl, -, rfl⟩ := e
    exact ⟨_, cap, rfl, hc, hl, fun h0 => by
      obtain ⟨b, off, e, hb, hj⟩ := h2 h0
      exact ⟨b, off, e, hb, hj⟩⟩
theorem WorldT.tail {w w' : World} {iv vv bv dv : Value} {rows : List Value} {x : Wd} (h : WorldT w w' iv vv bv dv rows x) (hb : ∀ b ∈ x.blocks, b.length ≤ 1000) (hl : x.blocks.length ≤ 1000) : TailR w'.heap.size w' bv x.blocks := by
  have hr := h.rl
  rcases h.top.2 with ⟨rfl, hn⟩ | ⟨g, cap, cur, rfl, hg, hh, hc, _⟩
  · exact ⟨none, 0, by rw [hn], by omega, by omega, fun h0 => by omega⟩
  · refine ⟨_, cap, rfl, hc, by omega, fun _ => ⟨g, 0, rfl, lt_of_block hh, fun j hj => ?_⟩⟩
    have h1 := h.top.cellAt j (by omega)
    have hjr : j < rows.length := by omega
    have e1 : x.blocks.getD j [] = x.blocks[j] := by simp [List.getD, hj]
    refine ⟨rows[j], by rw [Nat.zero_add, h1, List.getElem?_eq_getElem hjr], ?_⟩
    rw [e1]
    have hz : (rows[j], x.blocks[j]) ∈ rows.zip x.blocks := by
      have hjz : j < (rows.zip x.blocks).length := by rw [List.length_zip]; omega
      have : (rows.zip x.blocks)[j] = (rows[j], x.blocks[j]) := by simp
      rw [← this]
      exact List.getElem_mem hjz
    have := hb _ (List.getElem_mem hj)
    exact (h.ints.1 (rows[j], x.blocks[j]) (by simp [hz])).tail (by show (x.blocks[j]).length * 8 ≤ _; omega)
theorem WorldT.wdt {w w' : World} {iv vv bv dv : Value} {rows : List Value} {R : List Raw4} (h : WorldT w w' iv vv bv dv rows (worldF R)) (hR : R.length ≤ 20) : WdT w'.heap.size w' iv vv bv dv (worldF R) := by
  obtain ⟨l1, l2, l3, l4⟩ := worldF_lens R
  have i1 : OwnI w' w.heap.size iv (worldF R).irqs := h.ints.1 (iv, _) (by simp)
  have i2 : OwnI w' w.heap.size vv (worldF R).values := h.ints.1 (vv, _) (by simp)
  have i3 : OwnI w' w.heap.size dv (worldF R).delays := h.ints.1 (dv, _) (by simp)
  exact ⟨i1.tail (by omega), i2.tail (by omega), h.tail (fun b hb => by
    obtain ⟨r, _, rfl⟩ := List.mem_map.1 hb
    rw [blockF_len]; omega) (by omega), i3.tail (by omega), Nat.le_refl _⟩
/-- The world that is recorded in. -/
abbrev wdOf (S : List Raw4) : Wd := worldF (S.take 20)
theorem wdOf_no (S : List Raw4) : worldNo (wdOf S) = 0 := worldF_no (by simp; omega)
theorem recFine (R S : List Raw4) {N : Nat} (hN : N ≤ 900) : RecFine (wdOf S) (imageF R) N := ⟨worldF_small (by simp; omega), imageF_new R, hN⟩
/-- A recording of raw things, in memory of the call's own. -/
def RecdQ (w : World) (R S : List Raw4) (N : Nat) (e : Ending) (w' : World) : Prop :=
  ∃ ti te A1 d1 A2 d2 A3 d3, e = .returned (.tuple #[.agg #[ti, te, .int .i64 (recC (wdOf S) (imageF R) N)], .agg ((recN (wdOf S) (imageF R) N).m.cells (.slice A1 (recN (wdOf S) (imageF R) N).m.regs.length d1) (.slice A2 (recN (wdOf S) (imageF R) N).m.mem.length d2) (.slice A3 (recN (wdOf S) (imageF R) N).m.out.length d3)), .bool true]) ∧ OwnI w' w.heap.size ti (imageF R) ∧ OwnB w' w.heap.size te (fullB (recN (wdOf S) (imageF R) N).evs) ∧ OwnM w' w.heap.size (.slice A1 (recN (wdOf S) (imageF R) N).m.regs.length d1) (.slice A2 (recN (wdOf S) (imageF R) N).m.mem.length d2) (.slice A3 (recN (wdOf S) (imageF R) N).m.out.length d3) (recN (wdOf S) (imageF R) N).m ∧ Below w.heap.size w w'
theorem pick_nat {n m : Int} (hm : 0 < m) : pickF n m = ((pickF n m).toNat : Int) ∧ (pickF n m).toNat < m.toNat := by
  have := pickF_bd n hm
  omega
theorem Chg.ownB {F : Nat → Prop} {w w' : World} (h : Chg F w w') {lo : Nat} {v : Value} {l : List Int} (k : OwnB w lo v l) (hn : ∀ g, v.ownBlock = some g → ¬ F g) : OwnB w' lo v l := h.owns k hn

end Go.Proofs.YtecpblabaelopaaDoor

/- A tape of the call's own, to be handed on. -/

namespace Go.Proofs.YtecpblabaelopaaDoor
open Go.RowKit
set_option maxRecDepth 100000

theorem OwnB.fit {w : World} {lo : Nat} {v : Value} {l : List Int} (h : OwnB w lo v l) : ∃ A c, v = .slice A l.length c ∧ l.length ≤ c := by
  rcases h.2 with ⟨rfl, hn⟩ | ⟨g, cap, cur, rfl, _, _, hn, _⟩
  · exact ⟨none, 0, by rw [hn], by omega⟩
  · exact ⟨_, cap, rfl, hn⟩
theorem tape_own {w : World} {lo : Nat} {ti te : Value} {im : List Int} {L : List Ev} (h1 : OwnI w lo ti im) (h2 : OwnB w lo te (fullB L)) (hi : im.length ≤ 1000) (hb : (fullB L).length ≤ 60000) : TapeAt w ti te im (fullB L) :=
  ⟨h1.at (by omega), h2.read (by omega) (fullB_byte L), h2.fit⟩
theorem RecdQ.tape {w' : World} {R S : List Raw4} {N lo : Nat} {ti te : Value} (hN : N ≤ 900) (h1 : OwnI w' lo ti (imageF R)) (h2 : OwnB w' lo te (fullB (recN (wdOf S) (imageF R) N).evs)) : TapeAt w' ti te (imageF R) (fullB (recN (wdOf S) (imageF R) N).evs) :=
  tape_own h1 h2 (by have := imageF_len R; omega) (recFine R S hN).bytes

end Go.Proofs.YtecpblabaelopaaDoor

/- Events whose memory lies below lo. -/

namespace Go.Proofs.YtecpblabaelopaaDoor
open Go.RowKit
set_option maxRecDepth 100000

/-- Events whose memory lies below lo. -/
structure EvsOld (lo : Nat) (w : World) (v : Value) (L : List Ev) : Prop where
  shape : ∃ A c, v = .slice A L.length c
  bound : L.length * 40 ≤ 140737488351232
  each : ∀ A c, v = .slice A L.length c → 0 < L.length → ∃ b off, A = some ⟨b, off, none⟩ ∧ b < lo ∧ ∀ j, j < L.length → w.cell? ⟨b, off + j * 3, none⟩ = some (.int .i64 (L.getD j noEv).at_) ∧ w.cell? ⟨b, off + j * 3 + 1, none⟩ = some (.int .i64 (L.getD j noEv).kind) ∧ ∃ u, w.cell? ⟨b, off + j * 3 + 2, none⟩ = some u ∧ IntsOld lo w u (L.getD j noEv).data
theorem EvsOld.below {lo : Nat} {w w' : World} {v : Value} {L : List Ev} (h : EvsOld lo w v L) (hb : Below lo w w') : EvsOld lo w' v L := by
  refine ⟨h.shape, h.bound, fun A c e h0 => ?_⟩
  obtain ⟨b, off, rfl, hlt, hj⟩ := h.each A c e h0
  refine ⟨b, off, rfl, hlt, fun j hjl => ?_⟩
  obtain ⟨h1, h2, u, h3, h4⟩ := hj j hjl
  exact ⟨(hb.cell (p := ⟨b, off + j * 3, none⟩) hlt).trans h1, (hb.cell (p := ⟨b, off + j * 3 + 1, none⟩) hlt).trans h2, u, (hb.cell (p := ⟨b, off + j * 3 + 2, none⟩) hlt).trans h3, h4.below hb⟩
theorem IntsAt.oldT {w : World} {v : Value} {l : List Int} (h : IntsAt w v l) : IntsOld w.heap.size w v l := by
  obtain ⟨A, c, rfl, hl, hc⟩ := h
  refine ⟨A, c, rfl, hl, fun h0 => ?_⟩
  obtain ⟨b, off, rfl, hb, hj⟩ := hc h0
  exact ⟨b, off, rfl, hb, hj⟩
theorem EvsAt.old {w : World} {v : Value} {L : List Ev} (h : EvsAt w v L) : EvsOld w.heap.size w v L := by
  obtain ⟨A, c, rfl, hl, hc⟩ := h
  refine ⟨⟨A, c, rfl⟩, hl, fun A' c' e h0 => ?_⟩
  simp only [Value.slice.injEq, true_and] at e
  obtain ⟨rfl, rfl⟩ := e
  obtain ⟨b, off, rfl, hb, hj⟩ := hc h0
  refine ⟨b, off, rfl, hb, fun j hjl => ?_⟩
  obtain ⟨h1, h2, u, h3, h4⟩ := hj j hjl
  exact ⟨h1, h2, u, h3, h4.oldT⟩

end Go.Proofs.YtecpblabaelopaaDoor

/- Contract of run.Replay. -/

namespace Go.Proofs.YtecpblabaelopaaDoor
open Go.RowKit
set_option maxRecDepth 100000

theorem EvsOld.at {lo : Nat} {w : World} {v : Value} {L : List Ev} (h : EvsOld lo w v L) (hlo : lo ≤ w.heap.size) : EvsAt w v L := by
  obtain ⟨A, c, rfl⟩ := h.shape
  refine ⟨A, c, rfl, h.bound, fun h0 => ?_⟩
  obtain ⟨b, off, rfl, hb, hj⟩ := h.each A c rfl h0
  refine ⟨b, off, rfl, Nat.lt_of_lt_of_le hb hlo, fun j hjl => ?_⟩
  obtain ⟨h1, h2, u, h3, Au, cu, rfl, hl, hc⟩ := hj j hjl
  refine ⟨h1, h2, _, h3, Au, cu, rfl, hl, fun h0 => ?_⟩
  obtain ⟨b', off', rfl, hb', hj'⟩ := hc h0
  exact ⟨b', off', rfl, Nat.lt_of_lt_of_le hb' hlo, hj'⟩
theorem EvsOld.mono {lo lo' : Nat} {w : World} {v : Value} {L : List Ev} (h : EvsOld lo w v L) (hl : lo ≤ lo') : EvsOld lo' w v L := by
  refine ⟨h.shape, h.bound, fun A c e h0 => ?_⟩
  obtain ⟨b, off, rfl, hb, hj⟩ := h.each A c e h0
  refine ⟨b, off, rfl, by omega, fun j hjl => ?_⟩
  obtain ⟨h1, h2, u, h3, Au, cu, rfl, hl2, hc⟩ := hj j hjl
  refine ⟨h1, h2, _, h3, Au, cu, rfl, hl2, fun h0 => ?_⟩
  obtain ⟨b', off', rfl, hb', hj'⟩ := hc h0
  exact ⟨b', off', rfl, by omega, hj'⟩
/-- The events of a tape that may be, as a slice with room. -/
theorem DecQ.fits {w w' : World} {u : Value} {L : List Ev} (h : DecQ w w' u (0, L)) : ∃ A c, u = .slice A L.length c ∧ L.length ≤ c := by
  obtain ⟨R, hR, ho, hR1, hR2⟩ := h.ok rfl
  have hl : R.length = L.length := by
    have := congrArg List.length hR
    simpa using this
  rcases ho.row.2 with ⟨rfl, h0⟩ | ⟨g, cap, cur, rfl, _, hh, h1, _⟩
  · exact ⟨none, 0, by rw [← hl, h0], by omega⟩
  · exact ⟨_, cap, by rw [hl], by omega⟩
theorem stepNo_zero {m : Mach} (hm : MayP m) {t : Tl} (ht : TlMay t) (hc : m.count < 1099511627776) : stepNo m t.blk t.val = 0 := by
  have h1 : (m.count == 1099511627776) = false := by simp; omega
  unfold stepNo
  rw [mayP_iff.2 hm, ht.all, ht.val, h1]
  rcases ht.len with e | e <;> simp [e]

/-- What a replay answers. -/
def RepQ (w : World) (G : Mach × Int) (e : Ending) (w' : World) : Prop :=
  ∃ A1 d1 A2 d2 A3 d3, e = .returned (.tuple #[.agg (G.1.cells (.slice A1 G.1.regs.length d1) (.slice A2 G.1.mem.length d2) (.slice A3 G.1.out.length d3)), .int .i64 G.2]) ∧ MachAt w' (.slice A1 G.1.regs.length d1) (.slice A2 G.1.mem.length d2) (.slice A3 G.1.out.length d3) G.1 ∧ Below w.heap.size w w'
theorem repQ_no {w w' : World} {no : Int} (hb : Below w.heap.size w w') : RepQ w (noMach12, no) (.returned (.tuple #[.agg zeroM, .int .i64 no])) w' :=
  ⟨none, 0, none, 0, none, 0, rfl, ⟨⟨none, 0, rfl, by simp [noMach12], fun h => by simp [noMach12] at h⟩, ⟨none, 0, rfl, by simp [noMach12], fun h => by simp [noMach12] at h⟩, ⟨none, 0, rfl, by simp [noMach12], fun h => by simp [noMach12] at h⟩⟩, hb⟩

set_option maxHeartbeats 4000000 in
theorem Replay_any (iv ev : Value) (im bs : List Int) (cnt n : Int) (w : World) (h : TapeAt w iv ev im bs) (hL : Laid w) :
    Calls Tryd.prog 7 #[.agg #[iv, ev, .int .i64 cnt], .int .i64 n] w fun e w' => RepQ w (replayG im bs cnt n) e w' := by
  have h' := h
  obtain ⟨Ai, ci, rfl, -, -⟩ := h'.ims
  obtain ⟨Ae, ce, rfl, hfit⟩ := h'.fit
  obtain ⟨b0, b1, b2⟩ := two_boxes (Below.refl (((w.alloc (.cells #[.slice Ai im.length ci, .slice Ae bs.length ce, .int .i64 cnt] 26)).alloc (.cells zeroM 28)).heap.size) ((w.alloc (.cells #[.slice Ai im.length ci, .slice Ae bs.length ce, .int .i64 cnt] 26)).alloc (.cells zeroM 28)))
  obtain ⟨W, hW⟩ : ∃ W, W = (w.alloc (.cells #[.slice Ai im.length ci, .slice Ae bs.length ce, .int .i64 cnt] 26)).alloc (.cells zeroM 28) := ⟨_, rfl⟩
  rw [← hW] at b0 b1 b2
  have HW : Hid (W = (w.alloc (.cells #[.slice Ai im.length ci, .slice Ae bs.length ce, .int .i64 cnt] 26)).alloc (.cells zeroM 28)) := hW
  have HX : Hid (W.heap[w.heap.size]? = some (.cells #[.slice Ai im.length ci, .slice Ae bs.length ce, .int .i64 cnt] 26 (0, 0)) ∧ W.heap[w.heap.size + 1]? = some (.cells zeroM 28 (0, 0)) ∧ Below w.heap.size w W) := ⟨b0, b1, b2⟩
  have HC : Hid (Calls Tryd.prog 8 #[.agg #[.slice Ai im.length ci, .slice Ae bs.length ce, .int .i64 cnt]] W fun e w' => ∃ u, e = .returned (.tuple #[u, .int .i64 (tapeG im bs cnt).1]) ∧ DecQ W w' u (tapeG im bs cnt)) := RunCheck_any _ _ im bs cnt W (h.below b2) (hL.below b2)
  have HI : Hid (IntsAt w (.slice Ai im.length ci) im ∧ ∀ x ∈ bs, 0 ≤ x ∧ x ≤ 255) := ⟨h.ims, by
    obtain ⟨_, _, _, _, hy, _⟩ := h.evs
    exact hy⟩
  obtain ⟨G, hG⟩ : ∃ G, G = replayG im bs cnt n := ⟨_, rfl⟩
  rw [← hG]
  have HG : Hid (G = replayG im bs cnt n) := hG
  have HTO : Hid ((tapeG im bs cnt).1 = 0 → newNo im = 0 ∧ inB cnt 0 3000 = true ∧ (decD bs).1 = 0 ∧ (tapeG im bs cnt).2 = (decD bs).2) := tapeG_ok
  obtain ⟨⟨gn, GL⟩, hT⟩ : ∃ T, T = tapeG im bs cnt := ⟨_, rfl⟩
  have HT : Hid ((gn, GL) = tapeG im bs cnt) := hT
  rw [← hT] at HC HTO
  obtain ⟨x0, x1, x2, xf, xl⟩ := three_cells b0
  clear h h' hL hW b0 b1 b2 hG hT
  go_enter Tryd.func7, Tryd.ntmps7
  go_wp2_with fail
  rw [← HW.out]
  refine HC.out.mono ?_
  rintro e w1 ⟨u, rfl, hq⟩
  have H1 : Hid (w1.heap[w.heap.size]? = some (.cells #[.slice Ai im.length ci, .slice Ae bs.length ce, .int .i64 cnt] 26 (0, 0)) ∧ w1.heap[w.heap.size + 1]? = some (.cells zeroM 28 (0, 0)) ∧ Below w.heap.size w w1 ∧ DecQ W w1 u (gn, GL)) := ⟨(hq.old.block _ (lt_of_block HX.out.1)).trans HX.out.1, (hq.old.block _ (lt_of_block HX.out.2.1)).trans HX.out.2.1, HX.out.2.2.trans (hq.old.mono HX.out.2.2.size), hq⟩
  clear hq HC x0 x1 x2 xf xl HW
  obtain ⟨z0, z1, z2, zf, zl⟩ := three_cells H1.out.1
  by_cases hn : gn = 0
  case neg =>
    have HE : Hid (G = (noMach12, gn)) := by show _ = _; rw [HG.out, replayG, if_pos (by rw [← HT.out]; exact hn), ← HT.out]
    have d0 : (gn != 0) = true := by simpa using hn
    obtain ⟨⟨y0, y1, y2, y3, y4, y5, y6, y7, y8, y9, y10, y11⟩, yf, yl⟩ := twelve_cells H1.out.2.1
    clear hn
    dsimp only
    go_wp2_with fail
    refine bodyPost_ret (v := .tuple #[.agg zeroM, .int .i64 gn]) (by simp [results, Tryd.results7, go_sem, y0, y1, y2, y3, y4, y5, y6, y7, y8, y9, y10, y11]) rfl ?_
    rw [HE.out]
    exact repQ_no (below_set12 H1.out.2.2.1 (by omega) _ _ _ _ _ _ _ _ _ _ _ _)
  case pos =>
    subst hn
    obtain ⟨hni, -, hdz, hGL⟩ := HTO.out rfl
    have HCK : Hid (chkNo GL = 0 ∧ newNo im = 0) := ⟨by rw [show GL = (decD bs).2 from hGL]; exact (decD_back HI.out.2 hdz).2.1, hni⟩
    have HCN : Hid (cnt ≤ 3000) := by
      have h3 := (HTO.out rfl).2.1
      exact (inB_iff.1 h3).2
    obtain ⟨Au, cu, rfl, hcap⟩ := H1.out.2.2.2.fits
    have HCAP : Hid (GL.length ≤ cu) := hcap
    have HEO : Hid (EvsOld w1.heap.size w1 (.slice Au GL.length cu) GL) := (H1.out.2.2.2.look).old
    clear hni hdz hGL hcap HTO
    cases hin : inB n 0 cnt with
    | false =>
      have HE : Hid (G = (noMach12, 2)) := by show _ = _; rw [HG.out, replayG, if_neg (by rw [← HT.out]; simp), if_pos hin]
      dsimp only
      go_wp2_with fail
      refine (outsideR_any _ _ _).mono ?_
      rintro e w2 ⟨p, q, rfl, hc2, hb2⟩
      have HC2 : Hid (CloAtR w2 p q 0 cnt ∧ Below w.heap.size w w2) := ⟨hc2, H1.out.2.2.1.trans (hb2.mono H1.out.2.2.1.size)⟩
      obtain ⟨⟨y0, y1, y2, y3, y4, y5, y6, y7, y8, y9, y10, y11⟩, yf, yl⟩ := twelve_cells ((hb2.block _ (lt_of_block H1.out.2.1)).trans H1.out.2.1)
      clear hc2 hb2 z0 z1 z2 zf zl
      go_wp2_with (go_at_call 36; refine (cloR_any n 0 cnt p q _ HC2.out.1).mono ?_; rw [hin]; rintro e w' ⟨rfl, hw'⟩; rw [hw']; clear hw' w')
      refine bodyPost_ret (v := .tuple #[.agg zeroM, .int .i64 2]) (by simp [results, Tryd.results7, go_sem, y0, y1, y2, y3, y4, y5, y6, y7, y8, y9, y10, y11]) rfl ?_
      rw [HE.out]
      exact repQ_no (below_set12 HC2.out.2 (by omega) _ _ _ _ _ _ _ _ _ _ _ _)
    | true =>
      obtain ⟨N, hN⟩ : ∃ N : Nat, n = (N : Int) := ⟨n.toNat, by have := (inB_iff.1 hin).1; omega⟩
      subst hN
      have HN : Hid (N ≤ 3000) := by have := (inB_iff.1 hin).2; have := HCN.out; show N ≤ 3000; omega
      have HE : Hid (G = (replayM im GL N, 0)) := by show _ = _; rw [HG.out, replayG, if_neg (by rw [← HT.out]; simp), if_neg (by rw [hin]; simp), ← HT.out, Int.toNat_natCast]
      dsimp only
      go_wp2_with fail
      refine (outsideR_any _ _ _).mono ?_
      rintro e w2 ⟨p, q, rfl, hc2, hb2⟩
      have HC2 : Hid (CloAtR w2 p q 0 cnt ∧ Below w.heap.size w w2) := ⟨hc2, H1.out.2.2.1.trans (hb2.mono H1.out.2.2.1.size)⟩
      have H2 : Hid (w2.heap[w.heap.size]? = some (.cells #[.slice Ai im.length ci, .slice Ae bs.length ce, .int .i64 cnt] 26 (0, 0)) ∧ w2.heap[w.heap.size + 1]? = some (.cells zeroM 28 (0, 0)) ∧ EvsOld w2.heap.size w2 (.slice Au GL.length cu) GL) := ⟨(hb2.block _ (lt_of_block H1.out.1)).trans H1.out.1, (hb2.block _ (lt_of_block H1.out.2.1)).trans H1.out.2.1, (HEO.out.below hb2).mono hb2.size⟩
      clear hc2 hb2 z0 z1 z2 zf zl HEO H1 HX
      obtain ⟨z0, z1, z2, zf, zl⟩ := three_cells H2.out.1
      go_wp2_with (first
        | (go_at_call 36; refine (cloR_any (N : Int) 0 cnt p q _ HC2.out.1).mono ?_; rw [hin]; rintro e w' ⟨rfl, hw'⟩; rw [hw']; clear hw' w'))
      refine (New_ok _ im w2 (HI.out.1.below HC2.out.2) HCK.out.2).mono ?_
      rintro e w3 ⟨rv, mv, ov, rfl, ho3, hb3⟩
      obtain ⟨A1, d1, A2, d2, A3, d3, rfl, rfl, rfl⟩ := ho3.shape
      have H3 : Hid (OwnM w3 w2.heap.size (.slice A1 (newM im).regs.length d1) (.slice A2 (newM im).mem.length d2) (.slice A3 (newM im).out.length d3) (newM im) ∧ Below w.heap.size w w3 ∧ w3.heap[w.heap.size + 1]? = some (.cells zeroM 28 (0, 0)) ∧ EvsOld w3.heap.size w3 (.slice Au GL.length cu) GL ∧ w2.heap.size ≤ w3.heap.size) := ⟨ho3, HC2.out.2.trans (hb3.mono HC2.out.2.size), (hb3.block _ (lt_of_block H2.out.2.1)).trans H2.out.2.1, (H2.out.2.2.below hb3).mono hb3.size, hb3.size⟩
      have hml : (newM im).regs.length = (newM im).regs.length := rfl
      obtain ⟨M0, hM0⟩ : ∃ M0, M0 = newM im := ⟨_, rfl⟩
      rw [← hM0] at H3 ⊢
      have HM0 : Hid (M0 = newM im) := hM0
      clear ho3 hb3 z0 z1 z2 zf zl H2 HC2 hin hM0 hml
      simp only [Mach.cells]
      go_wp2_with fail
      go_loopw [7, 9] (fun ev i wr => ∃ (k : Nat) (M : Mach) (B1 : Option Addr) (e1 : Nat) (B2 : Option Addr) (e2 : Nat) (B3 : Option Addr) (e3 : Nat), k ≤ N ∧ ev = .int .i64 0 ∧ i = .int .i64 (k : Int) ∧ Hid (M = replayM im GL k ∧ wr.heap[w3.heap.size]? = some (.cells (M.cells (.slice B1 M.regs.length e1) (.slice B2 M.mem.length e2) (.slice B3 M.out.length e3)) 28 (0, 0)) ∧ OwnM wr w2.heap.size (.slice B1 M.regs.length e1) (.slice B2 M.mem.length e2) (.slice B3 M.out.length e3) M ∧ Below w3.heap.size w3 wr)) (fun _ i _ => N - (intOf i).toNat)
      case atStart => exact ⟨0, M0, A1, d1, A2, d2, A3, d3, Nat.zero_le _, rfl, rfl, HM0.out, Go.Deep.blk_alloc_new _ _, H3.out.1.below (below_alloc _ _), below_alloc _ _⟩
      case round =>
        obtain ⟨k, M, B1, e1, B2, e2, B3, e3, hk, rfl, rfl, HR⟩ := hrel
        obtain ⟨⟨z0, z1, z2, z3, z4, z5, z6, z7, z8, z9, z10, z11⟩, zf, zl⟩ := twelve_cells HR.out.2.1
        by_cases hlt : k < N
        · have hl : (k : Int) < (N : Int) := by omega
          have hw2 : IntKind.i64.wrap ((k : Int) + 1) = (k : Int) + 1 := IntWalk.i64_in _ (by have := HN.out; omega)
          have HMM : Hid (MayP M ∧ M.count < 1099511627776) := by
            have := replay_may HCK.out.2 HCK.out.1 k (by have := HN.out; omega)
            rw [← HR.out.1] at this
            exact ⟨this.1, by have := this.2; have := HN.out; omega⟩
          have HKL : Hid (k < N) := hlt
          clear z0 z1 z2 z3 z4 z5 z6 z7 z8 z9 z10 z11 zf zl hlt
          go_wp2_with fail
          refine (told_any Au cu GL (k : Int) wr ((H3.out.2.2.2.1.below HR.out.2.2.2).at HR.out.2.2.2.size) HCK.out.1 HCAP.out).mono ?_
          rintro e w5 ⟨B, cb, rfl, hi5, hb5⟩
          obtain ⟨T, hTT⟩ : ∃ T, T = toldL (k : Int) GL := ⟨_, rfl⟩
          rw [← hTT] at hi5 ⊢
          have HTL : Hid (T = toldL (k : Int) GL ∧ TlMay T) := ⟨hTT, by rw [hTT]; exact toldL_may HCK.out.1 _⟩
          have hx5 := (hb5.block _ (lt_of_block HR.out.2.1)).trans HR.out.2.1
          obtain ⟨⟨z0, z1, z2, z3, z4, z5, z6, z7, z8, z9, z10, z11⟩, zf, zl⟩ := twelve_cells hx5
          have hst := Step_ok M (.slice B1 M.regs.length e1) (.slice B2 M.mem.length e2) (.slice B3 M.out.length e3) T.irq B cb T.blk T.val w5 ((HR.out.2.2.1.below hb5).at HMM.out.1.fits) hi5 HMM.out.1 HTL.out.2.all HTL.out.2.len HMM.out.2 (stepNo_zero HMM.out.1 HTL.out.2 HMM.out.2)
          obtain ⟨R, hR⟩ : ∃ R, R = M.step T.irq T.blk T.val := ⟨_, rfl⟩
          rw [← hR] at hst
          have HST : Hid (Calls Tryd.prog 16 #[.agg (M.cells (.slice B1 M.regs.length e1) (.slice B2 M.mem.length e2) (.slice B3 M.out.length e3)), .bool T.irq, .slice B T.blk.length cb, .int .i64 T.val] w5 fun e w' => ∃ rv' mv' ov', e = .returned (.tuple #[.agg (R.1.cells rv' mv' ov'), .int .i64 R.2, .int .i64 0]) ∧ OwnM w' w5.heap.size rv' mv' ov' R.1 ∧ Below w5.heap.size w5 w') := hst
          have H5 : Hid (w5.heap[w3.heap.size]? = some (.cells (M.cells (.slice B1 M.regs.length e1) (.slice B2 M.mem.length e2) (.slice B3 M.out.length e3)) 28 (0, 0)) ∧ Below w3.heap.size w3 w5 ∧ w2.heap.size ≤ w5.heap.size ∧ R.1 = replayM im GL (k + 1)) := ⟨hx5, HR.out.2.2.2.trans (hb5.mono HR.out.2.2.2.size), by have := H3.out.2.2.2.2; have := HR.out.2.2.2.size; have := hb5.size; omega, by rw [hR, HTL.out.1, HR.out.1]; rfl⟩
          simp only [Mach.cells] at HST
          clear hst hR hi5 hb5 hx5 hTT
          dsimp only
          go_wp2_with fail
          refine HST.out.mono ?_
          rintro e w6 ⟨rv', mv', ov', rfl, ho6, hb6⟩
          obtain ⟨D1, f1, D2, f2, D3, f3, rfl, rfl, rfl⟩ := ho6.shape
          have hx6 := (hb6.block _ (lt_of_block H5.out.1)).trans H5.out.1
          clear z0 z1 z2 z3 z4 z5 z6 z7 z8 z9 z10 z11 zf zl HST
          obtain ⟨⟨z0, z1, z2, z3, z4, z5, z6, z7, z8, z9, z10, z11⟩, zf, zl⟩ := twelve_cells hx6
          have H6 : Hid (OwnM w6 w2.heap.size (.slice D1 R.1.regs.length f1) (.slice D2 R.1.mem.length f2) (.slice D3 R.1.out.length f3) R.1 ∧ w6.heap[w3.heap.size]? = some (.cells (M.cells (.slice B1 M.regs.length e1) (.slice B2 M.mem.length e2) (.slice B3 M.out.length e3)) 28 (0, 0)) ∧ Below w3.heap.size w3 w6) := ⟨ho6.mono H5.out.2.2.1, hx6, H5.out.2.1.trans (hb6.mono H5.out.2.1.size)⟩
          clear ho6 hb6 hx6
          simp only
          go_wp2_with fail
          refine ⟨⟨k + 1, R.1, D1, f1, D2, f2, D3, f3, HKL.out, rfl, by go_num, H5.out.2.2.2, box_set12 H6.out.2.1 rfl _ _ _ _ _ _ _ _ _ _ _ _, H6.out.1.set12 ⟨_, H6.out.2.1⟩ _ _ _ _ _ _ _ _ _ _ _ _, below_set12 H6.out.2.2 (Nat.le_refl _) _ _ _ _ _ _ _ _ _ _ _ _⟩, ?_⟩
          have := HKL.out
          simp [intOf]; omega
        · have e : k = N := by omega
          subst e
          have hl : ¬ (k : Int) < (k : Int) := by omega
          have hr : wr.heap[w.heap.size + 1]? = some (.cells zeroM 28 (0, 0)) := (HR.out.2.2.2.block _ (lt_of_block H3.out.2.2.1)).trans H3.out.2.2.1
          obtain ⟨⟨y0, y1, y2, y3, y4, y5, y6, y7, y8, y9, y10, y11⟩, yf, yl⟩ := twelve_cells hr
          have HEND : Hid (OwnM wr w2.heap.size (.slice B1 M.regs.length e1) (.slice B2 M.mem.length e2) (.slice B3 M.out.length e3) M ∧ IsBox wr (w.heap.size + 1) ∧ Below w.heap.size w wr ∧ MayP M ∧ M = replayM im GL k) := ⟨HR.out.2.2.1, ⟨_, hr⟩, H3.out.2.1.trans (HR.out.2.2.2.mono H3.out.2.1.size), by have := (replay_may HCK.out.2 HCK.out.1 k HN.out).1; rwa [← HR.out.1] at this, HR.out.1⟩
          clear hr hlt
          go_wp2_with fail
          refine bodyPost_ret (v := .tuple #[.agg #[.slice B1 M.regs.length e1, .int .i64 M.pc, .int .i64 M.back, .bool M.ints, .bool M.wait, .int .i64 M.table, .int .i64 M.count, .int .i64 M.fin, .slice B2 M.mem.length e2, .slice B3 M.out.length e3, .int .i64 M.ready, .int .i64 M.want], .int .i64 0]) (by simp [results, Tryd.results7, go_sem, y0, y1, y2, y3, y4, y5, y6, y7, y8, y9, y10, y11]) rfl ?_
          rw [HE.out, ← HEND.out.2.2.2.2]
          exact ⟨B1, e1, B2, e2, B3, e3, rfl, (HEND.out.1.set12 HEND.out.2.1 _ _ _ _ _ _ _ _ _ _ _ _).at HEND.out.2.2.2.1.fits, below_set12 HEND.out.2.2.1 (by omega) _ _ _ _ _ _ _ _ _ _ _ _⟩

end Go.Proofs.YtecpblabaelopaaDoor
