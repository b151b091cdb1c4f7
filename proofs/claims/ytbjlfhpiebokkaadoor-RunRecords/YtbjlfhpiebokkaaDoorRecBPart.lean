/- Contract of run.Record: what it answers; the boxes. -/
import Derived.Test.YtbjlfhpiebokkaaDoorRcSPart
import Derived.Test.YtbjlfhpiebokkaaDoorRCloPart
import Derived.Test.YtbjlfhpiebokkaaDoorMadeZPart
import Derived.Test.YtbjlfhpiebokkaaDoorBasePart
import Derived.Test.YtbjlfhpiebokkaaDoorGuestPart
namespace Go.Proofs.YtbjlfhpiebokkaaDoor
open Go.RowKit
set_option maxRecDepth 100000

def recNo (x : Wd) (im : List Int) (n : Int) : Int :=
  if newNo im ≠ 0 then newNo im else if worldNo x ≠ 0 then worldNo x else if inB n 0 3000 = false then 2 else chkNo (recN x im n.toNat).evs
structure RecA where
  no : Int
  im : List Int
  bs : List Int
  cnt : Int
  m : Mach
def recNone : Mach := ⟨[], 0, 0, false, false, 0, 0, 0, [], [], 0, 0⟩
def recA (x : Wd) (im : List Int) (n : Int) : RecA :=
  if recNo x im n ≠ 0 then ⟨recNo x im n, [], [], 0, recNone⟩ else ⟨0, im, fullB (recN x im n.toNat).evs, (recN x im n.toNat).m.count, (recN x im n.toNat).m⟩
theorem recA_no {x : Wd} {im : List Int} {n k : Int} (h : recNo x im n = k) (hk : k ≠ 0) : recA x im n = ⟨k, [], [], 0, recNone⟩ := by
  unfold recA
  rw [h, if_pos hk]
theorem recA_ok {x : Wd} {im : List Int} {n : Int} (h : recNo x im n = 0) : recA x im n = ⟨0, im, fullB (recN x im n.toNat).evs, (recN x im n.toNat).m.count, (recN x im n.toNat).m⟩ := by
  unfold recA
  rw [h, if_neg (by simp)]
def RecQ (w : World) (G : RecA) (e : Ending) (w' : World) : Prop :=
  ∃ ti te A1 d1 A2 d2 A3 d3, e = .returned (.tuple #[.agg #[ti, te, .int .i64 G.cnt], .agg (G.m.cells (.slice A1 G.m.regs.length d1) (.slice A2 G.m.mem.length d2) (.slice A3 G.m.out.length d3)), .int .i64 G.no]) ∧ OwnI w' w.heap.size ti G.im ∧ OwnB w' w.heap.size te G.bs ∧ OwnM w' w.heap.size (.slice A1 G.m.regs.length d1) (.slice A2 G.m.mem.length d2) (.slice A3 G.m.out.length d3) G.m ∧ Below w.heap.size w w'
theorem recQ_no {w w' : World} {k : Int} (hb : Below w.heap.size w w') : RecQ w ⟨k, [], [], 0, recNone⟩ (.returned (.tuple #[.agg #[.slice none 0 0, .slice none 0 0, .int .i64 0], .agg zeroM, .int .i64 k])) w' :=
  ⟨.slice none 0 0, .slice none 0 0, none, 0, none, 0, none, 0, rfl, World.ownsRow_nil _ _ _ _, OwnB.nil _ _, ⟨World.ownsRow_nil _ _ _ _, World.ownsRow_nil _ _ _ _, World.ownsRow_nil _ _ _ _, fun g e => by simp [Value.ownBlock] at e, fun g e => by simp [Value.ownBlock] at e, fun g e => by simp [Value.ownBlock] at e⟩, hb⟩

abbrev zeroT : Array Value := #[.slice none 0 0, .slice none 0 0, .int .i64 0]
structure RBox (w w' : World) (wv : Array Value) (b : Nat) (rv mv ov : Value) (M : Mach) : Prop where
  wb : w'.heap[w.heap.size]? = some (.cells wv 25 (0, 0))
  tb : w'.heap[w.heap.size + 1]? = some (.cells zeroT 28 (0, 0))
  rb : w'.heap[w.heap.size + 1 + 1]? = some (.cells zeroM 30 (0, 0))
  mb : w'.heap[b]? = some (.cells (M.cells rv mv ov) 30 (0, 0))
  own : OwnM w' w.heap.size rv mv ov M
  old : Below w.heap.size w w'
  hb : w.heap.size + 1 + 1 < b
theorem RBox.below {w w' w'' : World} {wv : Array Value} {b : Nat} {rv mv ov : Value} {M : Mach} (h : RBox w w' wv b rv mv ov M) (hb : Below w'.heap.size w' w'') : RBox w w'' wv b rv mv ov M :=
  ⟨(hb.block _ (lt_of_block h.wb)).trans h.wb, (hb.block _ (lt_of_block h.tb)).trans h.tb, (hb.block _ (lt_of_block h.rb)).trans h.rb, (hb.block _ (lt_of_block h.mb)).trans h.mb, h.own.below hb, h.old.trans (hb.mono h.old.size), h.hb⟩
theorem RBox.kp {w w' w'' : World} {wv : Array Value} {b : Nat} {rv mv ov : Value} {M : Mach} (h : RBox w w' wv b rv mv ov M) (hb : KpI w.heap.size w' w'') : RBox w w'' wv b rv mv ov M :=
  ⟨hb.kept _ _ _ mutW h.wb, hb.kept _ _ _ mutT h.tb, hb.kept _ _ _ mutM h.rb, hb.kept _ _ _ mutM h.mb, h.own.kp hb, h.old.trans hb.old, h.hb⟩
theorem RBox.put {w w' : World} {wv : Array Value} {b : Nat} {rv mv ov rv' mv' ov' : Value} {M N : Mach} (h : RBox w w' wv b rv mv ov M) (ho : OwnM w' w.heap.size rv' mv' ov' N) :
    RBox w (set12 w' b rv' (.int .i64 N.pc) (.int .i64 N.back) (.bool N.ints) (.bool N.wait) (.int .i64 N.table) (.int .i64 N.count) (.int .i64 N.fin) mv' ov' (.int .i64 N.ready) (.int .i64 N.want)) wv b rv' mv' ov' N := by
  have hb := h.hb
  refine ⟨(heap_set12 (by omega) _ _ _ _ _ _ _ _ _ _ _ _).trans h.wb, (heap_set12 (by omega) _ _ _ _ _ _ _ _ _ _ _ _).trans h.tb, (heap_set12 (by omega) _ _ _ _ _ _ _ _ _ _ _ _).trans h.rb, ?_, ho.set12 ⟨_, h.mb⟩ _ _ _ _ _ _ _ _ _ _ _ _, below_set12 h.old (by omega) _ _ _ _ _ _ _ _ _ _ _ _, hb⟩
  exact box_set12 h.mb rfl _ _ _ _ _ _ _ _ _ _ _ _
theorem three_boxes {w : World} {o1 o2 o3 : Obj} : (((w.alloc o1).alloc o2).alloc o3).heap[w.heap.size]? = (w.alloc o1).heap[w.heap.size]? ∧ (((w.alloc o1).alloc o2).alloc o3).heap[w.heap.size + 1]? = ((w.alloc o1).alloc o2).heap[w.heap.size + 1]? ∧ Below w.heap.size w (((w.alloc o1).alloc o2).alloc o3) := by
  refine ⟨?_, ?_, ((below_alloc w o1).alloc (by simp) o2).alloc (by simp; omega) o3⟩
  · rw [(below_alloc ((w.alloc o1).alloc o2) o3).block _ (by simp; omega), (below_alloc (w.alloc o1) o2).block _ (by simp)]
  · rw [(below_alloc ((w.alloc o1).alloc o2) o3).block _ (by simp)]

end Go.Proofs.YtbjlfhpiebokkaaDoor

/- Contract of In: is a number from low to high; and laws on callees met in a region that draws. -/

namespace Go.Proofs.YtbjlfhpiebokkaaDoor
open Go.RowKit
set_option maxRecDepth 100000
set_option linter.unusedVariables false

theorem In_any (n lo hi : Int) (w : World) : Calls Tryd.prog 32 #[.int .i64 n, .int .i64 lo, .int .i64 hi] w fun e w' => e = .returned (.bool (decide (lo ≤ n ∧ n ≤ hi))) ∧ w' = w := by
  by_cases h1 : lo ≤ n <;> by_cases h2 : n ≤ hi
  all_goals
    go_enter Tryd.func32, Tryd.ntmps32
    go_wp2
    go_ret
    simp [h1, h2]

theorem In_B (n lo hi : Int) (w : World) : Calls Tryd.prog 32 #[.int .i64 n, .int .i64 lo, .int .i64 hi] w fun e w' => e = .returned (.bool (inB n lo hi)) ∧ w' = w := In_any n lo hi w

end Go.Proofs.YtbjlfhpiebokkaaDoor

/- Contracts of hourglassref's meant and NextOf: the word that an address means; the instruction that comes next. -/

namespace Go.Proofs.YtbjlfhpiebokkaaDoor
open Go.RowKit

set_option maxHeartbeats 2000000 in
theorem meant_any (m : Mach) (rv mv ov : Value) (at' : Int) (write : Bool) (w : World) (ha : MachAt w rv mv ov m) (hl : m.mem.length = 256) (ht : -1 ≤ m.table ∧ m.table ≤ 15) :
    Calls Tryd.prog 66 #[.agg (m.cells rv mv ov), .int .i64 at', .bool write] w fun e w' => e = .returned (.tuple #[.int .i64 (m.meantK at' write), .int .i64 (m.meantE at' write)]) ∧ Below w.heap.size w w' := by
  cases g0 : inB at' 0 255 with
  | false =>
    have HE : Hid (3 = m.meantE at' write) := by show _ = _; simp [Mach.meantE, g0]
    have HK : Hid (0 = m.meantK at' write) := by show _ = _; simp [Mach.meantK, ← HE.out]
    obtain ⟨r, p, k, i, t, a, n, f, m, o, y, q⟩ := m
    simp only [Mach.cells]
    clear hl ht ha
    go_enter Tryd.func66, Tryd.ntmps66
    go_wp2_with (go_at_call 32; refine (In_B _ _ _ _).mono ?_; rintro e w' ⟨rfl, rfl⟩)
    go_ret2
    exact ⟨ret_two HK.out HE.out, below_alloc _ _⟩
  | true =>
  obtain ⟨a1, a2⟩ := inB_iff.1 g0
  cases g1 : m.table == -1 with
  | true =>
    have HE : Hid (0 = m.meantE at' write) := by show _ = _; simp only [Mach.meantE, g0, g1]; rfl
    have HK : Hid (at' = m.meantK at' write) := by show _ = _; simp only [Mach.meantK, ← HE.out, g1]; rfl
    obtain ⟨r, p, k, i, t, a, n, f, m, o, y, q⟩ := m
    simp only [Mach.cells] at g1 ⊢
    clear hl ht ha
    go_enter Tryd.func66, Tryd.ntmps66
    go_wp2_with (go_at_call 32; refine (In_B _ _ _ _).mono ?_; rintro e w' ⟨rfl, rfl⟩)
    go_ret2
    exact ⟨ret_two HK.out HE.out, below_alloc _ _⟩
  | false =>
  have t0 : 0 ≤ m.table := by
    have : m.table ≠ -1 := by simpa using g1
    omega
  obtain ⟨A, c, rfl, hl8, hc⟩ := ha.mem
  obtain ⟨b, off, rfl, hbs, hcell⟩ := hc (by omega)
  have h1 : w.cell? ⟨b, off + (16 * m.table + at' / 16).toNat, none⟩ = some (.int .i64 (m.page at')) := hcell (16 * m.table + at' / 16).toNat (by omega)
  have hE : m.meantE at' write = (if !inB (m.page at') 32 63 then 4 else if write && decide (m.page at' < 48) then 4 else 0) := by simp only [Mach.meantE, g0, g1]; rfl
  have hK : m.meantK at' write = (if m.meantE at' write = 0 then 16 * (m.page at' % 16) + at' % 16 else 0) := by simp only [Mach.meantK, g1]; rfl
  obtain ⟨E, eE⟩ : ∃ E, E = m.meantE at' write := ⟨_, rfl⟩
  obtain ⟨K, eK⟩ : ∃ K, K = m.meantK at' write := ⟨_, rfl⟩
  rw [← eE, ← eK]
  rw [← eE] at hE
  rw [← eK, ← eE] at hK
  have HE : Hid (E = (if !inB (m.page at') 32 63 then 4 else if write && decide (m.page at' < 48) then 4 else 0)) := hE
  have HK : Hid (K = (if E = 0 then 16 * (m.page at' % 16) + at' % 16 else 0)) := hK
  clear hK hE hcell hc ha eE eK
  revert h1 HE HK
  generalize m.page at' = x
  intro h1 HE HK
  have hj2 : 16 * m.table + at' / 16 < (m.mem.length : Int) := by omega
  have hj3 : 0 ≤ 16 * m.table + at' / 16 := by omega
  obtain ⟨-, t2⟩ := ht
  clear hl8 hl
  obtain ⟨r, p, k, i, t, a, n, f, m, o, y, q⟩ := m
  simp only [Mach.cells] at *
  cases g2 : inB x 32 63 with
  | false =>
    have FE : Hid (4 = E) := by show _ = _; rw [HE.out, g2]; rfl
    have FK : Hid (0 = K) := by show _ = _; rw [HK.out, ← FE.out]; rfl
    clear HE HK
    go_enter Tryd.func66, Tryd.ntmps66
    go_wp2_with (go_at_call 32; refine (In_B _ _ _ _).mono ?_; rintro e w' ⟨rfl, rfl⟩)
    go_ret2
    exact ⟨ret_two FK.out FE.out, below_alloc _ _⟩
  | true =>
  obtain ⟨x1, x2⟩ := inB_iff.1 g2
  cases write with
  | false =>
    have FE : Hid (0 = E) := by show _ = _; rw [HE.out, g2]; rfl
    have FK : Hid (16 * (x % 16) + at' % 16 = K) := by show _ = _; rw [HK.out, ← FE.out]; rfl
    clear HE HK
    go_enter Tryd.func66, Tryd.ntmps66
    go_wp2_with (go_at_call 32; refine (In_B _ _ _ _).mono ?_; rintro e w' ⟨rfl, rfl⟩)
    go_ret2
    exact ⟨ret_two FK.out FE.out, below_alloc _ _⟩
  | true =>
  by_cases g3 : x < 48
  · have d3 : decide (x < 48) = true := by simpa using g3
    have FE : Hid (4 = E) := by show _ = _; rw [HE.out, g2, d3]; rfl
    have FK : Hid (0 = K) := by show _ = _; rw [HK.out, ← FE.out]; rfl
    clear HE HK
    go_enter Tryd.func66, Tryd.ntmps66
    go_wp2_with (go_at_call 32; refine (In_B _ _ _ _).mono ?_; rintro e w' ⟨rfl, rfl⟩)
    go_ret2
    exact ⟨ret_two FK.out FE.out, below_alloc _ _⟩
  · have d3 : decide (x < 48) = false := by simpa using g3
    have FE : Hid (0 = E) := by show _ = _; rw [HE.out, g2, d3]; rfl
    have FK : Hid (16 * (x % 16) + at' % 16 = K) := by show _ = _; rw [HK.out, ← FE.out]; rfl
    clear HE HK
    go_enter Tryd.func66, Tryd.ntmps66
    go_wp2_with (go_at_call 32; refine (In_B _ _ _ _).mono ?_; rintro e w' ⟨rfl, rfl⟩)
    go_ret2
    exact ⟨ret_two FK.out FE.out, below_alloc _ _⟩

end Go.Proofs.YtbjlfhpiebokkaaDoor

/- Contracts of hourglassref's InstrFault, WordOf, floor and InstrOf: an instruction is a word. -/

namespace Go.Proofs.YtbjlfhpiebokkaaDoor
open Go.RowKit

set_option maxHeartbeats 1000000 in
theorem InstrFault_any (op a b n : Int) (w : World) :
    Calls Tryd.prog 118 #[.agg #[.int .i64 op, .int .i64 a, .int .i64 b, .int .i64 n]] w fun e w' => e = .returned (.int .i64 (instrNo op a b n)) ∧ Below w.heap.size w w' := by
  cases c0 : inB op 0 15 with
  | false =>
    have HN : Hid (3 = instrNo op a b n) := by show _ = _; simp [instrNo, c0]
    go_enter Tryd.func118, Tryd.ntmps118
    go_wp2_with (go_at_call 32; refine (In_B _ _ _ _).mono ?_; rintro e w' ⟨rfl, rfl⟩)
    go_ret
    exact ⟨ret_int HN.out, below_alloc _ _⟩
  | true =>
  cases c1 : inB a 0 7 with
  | false =>
    have HN : Hid (2 = instrNo op a b n) := by show _ = _; simp [instrNo, c0, c1]
    go_enter Tryd.func118, Tryd.ntmps118
    go_wp2_with (go_at_call 32; refine (In_B _ _ _ _).mono ?_; rintro e w' ⟨rfl, rfl⟩)
    go_ret
    exact ⟨ret_int HN.out, below_alloc _ _⟩
  | true =>
  cases c2 : inB b 0 7 with
  | false =>
    have HN : Hid (2 = instrNo op a b n) := by show _ = _; simp [instrNo, c0, c1, c2]
    go_enter Tryd.func118, Tryd.ntmps118
    go_wp2_with (go_at_call 32; refine (In_B _ _ _ _).mono ?_; rintro e w' ⟨rfl, rfl⟩)
    go_ret
    exact ⟨ret_int HN.out, below_alloc _ _⟩
  | true =>
  cases c3 : inB n (-1048576) 1048575 with
  | false =>
    have HN : Hid (2 = instrNo op a b n) := by show _ = _; simp [instrNo, c0, c1, c2, c3]
    go_enter Tryd.func118, Tryd.ntmps118
    go_wp2_with (go_at_call 32; refine (In_B _ _ _ _).mono ?_; rintro e w' ⟨rfl, rfl⟩)
    go_ret
    exact ⟨ret_int HN.out, below_alloc _ _⟩
  | true =>
  cases c4 : op == 2 with
  | true =>
    have c6 : (op == 12) = false := by simp at c4; simp [c4]
    cases c5 : inB n 0 7 with
    | false =>
      have HN : Hid (4 = instrNo op a b n) := by show _ = _; simp only [instrNo, c0, c1, c2, c3, c4, c5]; rfl
      go_enter Tryd.func118, Tryd.ntmps118
      go_wp2_with (go_at_call 32; refine (In_B _ _ _ _).mono ?_; rintro e w' ⟨rfl, rfl⟩)
      go_ret
      exact ⟨ret_int HN.out, below_alloc _ _⟩
    | true =>
      have HN : Hid (0 = instrNo op a b n) := by show _ = _; simp only [instrNo, c0, c1, c2, c3, c4, c5, c6]; rfl
      go_enter Tryd.func118, Tryd.ntmps118
      go_wp2_with (go_at_call 32; refine (In_B _ _ _ _).mono ?_; rintro e w' ⟨rfl, rfl⟩)
      go_ret
      exact ⟨ret_int HN.out, below_alloc _ _⟩
  | false =>
  cases c7 : op == 3 with
  | true =>
    have c6 : (op == 12) = false := by simp at c7; simp [c7]
    cases c5 : inB n 0 7 with
    | false =>
      have HN : Hid (4 = instrNo op a b n) := by show _ = _; simp only [instrNo, c0, c1, c2, c3, c4, c7, c5]; rfl
      go_enter Tryd.func118, Tryd.ntmps118
      go_wp2_with (go_at_call 32; refine (In_B _ _ _ _).mono ?_; rintro e w' ⟨rfl, rfl⟩)
      go_ret
      exact ⟨ret_int HN.out, below_alloc _ _⟩
    | true =>
      have HN : Hid (0 = instrNo op a b n) := by show _ = _; simp only [instrNo, c0, c1, c2, c3, c4, c5, c6, c7]; rfl
      go_enter Tryd.func118, Tryd.ntmps118
      go_wp2_with (go_at_call 32; refine (In_B _ _ _ _).mono ?_; rintro e w' ⟨rfl, rfl⟩)
      go_ret
      exact ⟨ret_int HN.out, below_alloc _ _⟩
  | false =>
  cases c6 : op == 12 with
  | true =>
    cases c5 : inB n 0 1 with
    | false =>
      have HN : Hid (4 = instrNo op a b n) := by show _ = _; simp only [instrNo, c0, c1, c2, c3, c4, c7, c5, c6]; rfl
      go_enter Tryd.func118, Tryd.ntmps118
      go_wp2_with (go_at_call 32; refine (In_B _ _ _ _).mono ?_; rintro e w' ⟨rfl, rfl⟩)
      go_ret
      exact ⟨ret_int HN.out, below_alloc _ _⟩
    | true =>
      have HN : Hid (0 = instrNo op a b n) := by show _ = _; simp only [instrNo, c0, c1, c2, c3, c4, c5, c6, c7]; rfl
      go_enter Tryd.func118, Tryd.ntmps118
      go_wp2_with (go_at_call 32; refine (In_B _ _ _ _).mono ?_; rintro e w' ⟨rfl, rfl⟩)
      go_ret
      exact ⟨ret_int HN.out, below_alloc _ _⟩
  | false =>
    have HN : Hid (0 = instrNo op a b n) := by show _ = _; simp only [instrNo, c0, c1, c2, c3, c4, c6, c7]; rfl
    go_enter Tryd.func118, Tryd.ntmps118
    go_wp2_with (go_at_call 32; refine (In_B _ _ _ _).mono ?_; rintro e w' ⟨rfl, rfl⟩)
    go_ret
    exact ⟨ret_int HN.out, below_alloc _ _⟩

end Go.Proofs.YtbjlfhpiebokkaaDoor

/- Contract of hourglassref.InstrOf: a word is an instruction. -/

namespace Go.Proofs.YtbjlfhpiebokkaaDoor
open Go.RowKit

set_option maxHeartbeats 400000 in
theorem floor_any (n : Int) (w : World) (hn : -9223372036854775808 ≤ n ∧ n ≤ 9223372036854775807) :
    Calls Tryd.prog 117 #[.int .i64 n, .int .i64 1024] w fun e w' => e = .returned (.int .i64 (n / 1024)) ∧ w' = w := by
  obtain ⟨n1, n2⟩ := hn
  have HD := tdiv_sign n 1024
  have HM := tmod_sign n 1024
  by_cases h : n.tmod 1024 < 0
  · have HE : Hid (n.tdiv 1024 - 1 = n / 1024) := by show _ = _; omega
    have h1 : n.tdiv 1024 ≤ 9007199254740992 := by omega
    have h2 : -9007199254740992 ≤ n.tdiv 1024 := by omega
    clear HD HM
    go_enter Tryd.func117, Tryd.ntmps117
    go_wp2
    go_ret
    exact ⟨ret_int HE.out, rfl⟩
  · have HE : Hid (n.tdiv 1024 = n / 1024) := by show _ = _; omega
    clear HD HM
    go_enter Tryd.func117, Tryd.ntmps117
    go_wp2
    go_ret
    exact ⟨ret_int HE.out, rfl⟩

set_option maxHeartbeats 400000 in
theorem InstrOf_any (x : Int) (w : World) (hx : -9223372036854775808 ≤ x ∧ x ≤ 9223372036854775807) :
    Calls Tryd.prog 102 #[.int .i64 x] w fun e w' => e = .returned (.tuple #[decI x, .int .i64 (decNo x)]) ∧ Below w.heap.size w w' := by
  obtain ⟨x1, x2⟩ := hx
  have y1 : -9007199254740992 ≤ x / 1024 := by omega
  have y2 : x / 1024 ≤ 9007199254740991 := by omega
  have y3 : x - 1024 * (x / 1024) ≤ 1023 := by omega
  have y4 : 0 ≤ x - 1024 * (x / 1024) := by omega
  obtain ⟨e1, e2, e3⟩ := low_parts x
  have HE : Hid ((x - 1024 * (x / 1024)) % 16 = x % 16 ∧ (x - 1024 * (x / 1024)) / 16 % 8 = x / 16 % 8 ∧ (x - 1024 * (x / 1024)) / 128 = x / 128 % 8) := ⟨e1, e2, e3⟩
  clear e1 e2 e3
  by_cases h : decNo x = 0
  · have HN : Hid (instrNo (x % 16) (x / 16 % 8) (x / 128 % 8) (x / 1024) = 0) := h
    have HI : Hid (decI x = .agg #[.int .i64 (x % 16), .int .i64 (x / 16 % 8), .int .i64 (x / 128 % 8), .int .i64 (x / 1024)]) := by show _ = _; simp [decI, h]
    have HD : Hid (decNo x = 0) := h
    clear h
    go_enter Tryd.func102, Tryd.ntmps102
    go_wp2_with (go_at_call 117; refine (floor_any _ _ ⟨x1, x2⟩).mono ?_; rintro e w' ⟨rfl, rfl⟩)
    rw [HE.out.1, HE.out.2.1, HE.out.2.2]
    refine (InstrFault_any _ _ _ _ _).mono ?_
    rw [HN.out]
    rintro e w1 ⟨rfl, hb1⟩
    obtain ⟨hz, hy, hb⟩ := two_boxes hb1
    obtain ⟨hz0, hz1, hz2, hz3, hzf, hzl⟩ := four_cells hz
    obtain ⟨hy0, hy1, hy2, hy3, hyf, hyl⟩ := four_cells hy
    clear hb1 hz hy
    go_wp2
    refine bodyPost_ret (v := .tuple #[.agg #[.int .i64 (x % 16), .int .i64 (x / 16 % 8), .int .i64 (x / 128 % 8), .int .i64 (x / 1024)], .int .i64 0]) (by simp [results, Tryd.results102, go_sem, hz0, hz1, hz2, hz3]) rfl ?_
    exact ⟨by rw [HI.out, HD.out], (((hb.setCell (by simp) _).setCell (by simp) _).setCell (by simp) _).setCell (by simp) _⟩
  · have HI : Hid (decI x = .agg #[.int .i64 0, .int .i64 0, .int .i64 0, .int .i64 0]) := by show _ = _; simp [decI, h]
    have hne : (decNo x != 0) = true := by simpa using h
    obtain ⟨y, hg⟩ : ∃ y, y = decNo x := ⟨_, rfl⟩
    rw [← hg] at hne
    have HD : Hid (y = decNo x) := hg
    have HN : Hid (instrNo (x % 16) (x / 16 % 8) (x / 128 % 8) (x / 1024) = y) := hg.symm
    clear h hg
    go_enter Tryd.func102, Tryd.ntmps102
    go_wp2_with (go_at_call 117; refine (floor_any _ _ ⟨x1, x2⟩).mono ?_; rintro e w' ⟨rfl, rfl⟩)
    rw [HE.out.1, HE.out.2.1, HE.out.2.2]
    refine (InstrFault_any _ _ _ _ _).mono ?_
    rw [HN.out]
    rintro e w1 ⟨rfl, hb1⟩
    obtain ⟨hz, hy, hb⟩ := two_boxes hb1
    obtain ⟨hz0, hz1, hz2, hz3, hzf, hzl⟩ := four_cells hz
    obtain ⟨hy0, hy1, hy2, hy3, hyf, hyl⟩ := four_cells hy
    clear hb1 hz hy
    go_wp2
    refine bodyPost_ret (v := .tuple #[.agg #[.int .i64 0, .int .i64 0, .int .i64 0, .int .i64 0], .int .i64 y]) (by simp [results, Tryd.results102, go_sem, hz0, hz1, hz2, hz3]) rfl ?_
    first
      | exact ⟨by rw [HI.out, ← HD.out], hb⟩
      | exact ⟨by rw [HI.out, ← HD.out], (((hb.setCell (by simp) _).setCell (by simp) _).setCell (by simp) _).setCell (by simp) _⟩

end Go.Proofs.YtbjlfhpiebokkaaDoor
