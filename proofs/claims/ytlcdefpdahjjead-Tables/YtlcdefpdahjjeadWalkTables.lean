/- The walk of the law Tables. -/
import Derived.Test.YtlcdefpdahjjeadKTables
namespace Go.Proofs.Ytlcdefpdahjjead
open Go.RowKit
set_option linter.unusedVariables false

theorem OwnI.set12 {w : World} {lo b : Nat} {v : Value} {l : List Int} (h : OwnI w lo v l) (hb : IsBox w b) (x0 x1 x2 x3 x4 x5 x6 x7 x8 x9 x10 x11 : Value) : OwnI ((((((((((((w.setCell ⟨b, 0, none⟩ x0).setCell ⟨b, 1, none⟩ x1).setCell ⟨b, 2, none⟩ x2).setCell ⟨b, 3, none⟩ x3).setCell ⟨b, 4, none⟩ x4).setCell ⟨b, 5, none⟩ x5).setCell ⟨b, 6, none⟩ x6).setCell ⟨b, 7, none⟩ x7).setCell ⟨b, 8, none⟩ x8).setCell ⟨b, 9, none⟩ x9).setCell ⟨b, 10, none⟩ x10).setCell ⟨b, 11, none⟩ x11) lo v l := by
  have st : ∀ {w : World} {i : Nat} {x : Value}, OwnI w lo v l → IsBox w b → OwnI (w.setCell ⟨b, i, none⟩ x) lo v l := fun {w i x} h hb => by
    obtain ⟨cur, hc⟩ := hb
    exact h.otherType (a := ⟨b, i, none⟩) hc (by decide) x
  have h0 := st (i := 0) (x := x0) h hb
  have b0 := hb.set 0 x0
  have h1 := st (i := 1) (x := x1) h0 b0
  have b1 := b0.set 1 x1
  have h2 := st (i := 2) (x := x2) h1 b1
  have b2 := b1.set 2 x2
  have h3 := st (i := 3) (x := x3) h2 b2
  have b3 := b2.set 3 x3
  have h4 := st (i := 4) (x := x4) h3 b3
  have b4 := b3.set 4 x4
  have h5 := st (i := 5) (x := x5) h4 b4
  have b5 := b4.set 5 x5
  have h6 := st (i := 6) (x := x6) h5 b5
  have b6 := b5.set 6 x6
  have h7 := st (i := 7) (x := x7) h6 b6
  have b7 := b6.set 7 x7
  have h8 := st (i := 8) (x := x8) h7 b7
  have b8 := b7.set 8 x8
  have h9 := st (i := 9) (x := x9) h8 b8
  have b9 := b8.set 9 x9
  have h10 := st (i := 10) (x := x10) h9 b9
  have b10 := b9.set 10 x10
  exact st (i := 11) (x := x11) h10 b10

/-- The guest as the law makes it, ahead of its table. -/
def tabG (a : Int) : Mach := ⟨[1, a * 16 + 5, 77, 0, 0, 0, 0, 0], 0, 0, false, false, -1, 0, 0, tabBase, [], 0, -1⟩
theorem tabG_0 (a : Int) (h0 : 2 ≤ a) (h9 : a ≤ 9) : guestM [1, a * 16 + 5, 77] (tabL.map insWord) 3 = tabG a := by
  have : guestM [1, a * 16 + 5, 77] (tabL.map insWord) 3 = ⟨[regF 1, regF (a * 16 + 5), regF 77, 0, 0, 0, 0, 0], 0, 0, false, false, -1, 0, 0, tabBase, [], 0, -1⟩ := by rw [tabL_words]; rfl
  rw [this, regF_small (by decide) (by decide), regF_small (x := a * 16 + 5) (by omega) (by omega), regF_small (by decide) (by decide)]
  rfl
/-- The guest behind so many steps. -/
def tabK (a b : Int) (may : Bool) : Nat → Mach
  | 0 => tabM a (if may then 48 + b else 32 + b)
  | 1 => tabM1 a (if may then 48 + b else 32 + b)
  | 2 => if may then tabM2 a (48 + b) b else tabM2n a (32 + b)
  | _ => if may then tabM3 a (48 + b) b else tabM2n a (32 + b)
/-- The words that were written. -/
def tabW (b : Int) (may : Bool) : List Int := [-1, if may then 16 * b + 5 else -1, -1]
theorem tab_step (a b : Int) (may : Bool) (h0 : 2 ≤ a) (h9 : a ≤ 9) (b0 : 2 ≤ b) (b9 : b ≤ 9) (k : Nat) (hk : k < 3) : (tabK a b may k).step false [] 0 = (tabK a b may (k + 1), (tabW b may).getD k 0) := by
  cases may with
  | true =>
    rcases k with _ | _ | _ | k
    · exact tab_1 a _ h0 h9
    · exact tab_2 a b h0 h9 b0 b9
    · exact tab_3 a b h0 h9 b0 b9
    · omega
  | false =>
    rcases k with _ | _ | _ | k
    · exact tab_1 a _ h0 h9
    · exact tab_2n a b h0 h9 b0 b9
    · exact tab_3n a _
    · omega
theorem tab_count (a b : Int) (may : Bool) (k : Nat) (hk : k ≤ 3) : (tabK a b may k).count ≤ 3 := by
  cases may with
  | true =>
    rcases k with _ | _ | _ | k
    · show (0 : Int) ≤ 3; decide
    · show (1 : Int) ≤ 3; decide
    · show (2 : Int) ≤ 3; decide
    · show (3 : Int) ≤ 3; decide
  | false =>
    rcases k with _ | _ | _ | k
    · show (0 : Int) ≤ 3; decide
    · show (1 : Int) ≤ 3; decide
    · show (2 : Int) ≤ 3; decide
    · show (2 : Int) ≤ 3; decide
theorem tabK_may (a b : Int) (may : Bool) (h0 : 2 ≤ a) (h9 : a ≤ 9) (b0 : 2 ≤ b) (b9 : b ≤ 9) (k : Nat) (hk : k ≤ 3) : MayP (tabK a b may k) := by
  induction k with
  | zero => exact tab_may a b _ h0 h9 (by cases may <;> exact wordB_iff.2 ⟨by simp; omega, by simp; omega⟩)
  | succ k ih =>
    have e := tab_step a b may h0 h9 b0 b9 k (by omega)
    have := (ih (by omega)).step false (blk := []) rfl (Or.inl rfl) (v := 0) (by decide) (by have := tab_count a b may k (by omega); omega)
    rwa [e] at this

theorem wf_three {a b c : Int} (ha : -9223372036854775808 ≤ a ∧ a ≤ 9223372036854775807) (hb : -9223372036854775808 ≤ b ∧ b ≤ 9223372036854775807) (hc : -9223372036854775808 ≤ c ∧ c ≤ 9223372036854775807) : ∀ i, i < [a, b, c].length → -9223372036854775808 ≤ [a, b, c].getD i 0 ∧ [a, b, c].getD i 0 ≤ 9223372036854775807 := fun i hi => by
  rcases i with _ | _ | _ | i
  · exact ha
  · exact hb
  · exact hc
  · simp at hi; omega

/-- The table is laid: what the guest is then. -/
theorem tab_laid {w : World} {lo g c : Nat} {rv ov : Value} {a b : Int} (may : Bool) (h : OwnM w lo rv (.slice (some ⟨g, 0, none⟩) 256 c) ov (tabG a)) (h0 : 2 ≤ a) (h9 : a ≤ 9) :
    OwnM ((w.setCell ⟨g, 16, none⟩ (.int .i64 32)).setCell ⟨g, (16 + a).toNat, none⟩ (.int .i64 (32 + b))) lo rv (.slice (some ⟨g, 0, none⟩) 256 c) ov (tabM a (32 + b)) ∧
    OwnM (((w.setCell ⟨g, 16, none⟩ (.int .i64 32)).setCell ⟨g, (16 + a).toNat, none⟩ (.int .i64 (32 + b))).setCell ⟨g, (16 + a).toNat, none⟩ (.int .i64 (48 + b))) lo rv (.slice (some ⟨g, 0, none⟩) 256 c) ov (tabM a (48 + b)) := by
  have h1 := (h.putMem (i := 16) 32).putMem (i := (16 + a).toNat) (32 + b)
  refine ⟨h1, ?_⟩
  have h2 := h1.putMem (i := (16 + a).toNat) (48 + b)
  refine h2.of rfl ?_ rfl
  show tabMem a (48 + b) = ((tabBase.set 16 32).set (16 + a).toNat (32 + b)).set (16 + a).toNat (48 + b)
  rw [List.set_set]; rfl

theorem BoxM.new' {w : World} {lo b : Nat} {rv mv ov : Value} {m : Mach} (h : OwnM w lo rv mv ov m) (hm : MayP m) (hb : w.heap.size = b) : BoxM (w.alloc (.cells (m.cells rv mv ov) 24)) b rv mv ov m := by subst hb; exact BoxM.new h hm
theorem cell_one_at {W : World} {n : Nat} (x : Value) (t : TypeId) (hn : W.heap.size = n) : ∀ j u, [x][j]? = some u → (W.alloc (.cells #[x] t)).cell? ((⟨n, 0, none⟩ : Addr).add j) = some u := by subst hn; exact cell_one_new W x t
/-- A guest in a variable, while another slice of the call's own grows. -/
theorem box_grown {W w6 : World} {lo lo' b : Nat} {rv mv ov u : Value} {m : Mach} {l : List Int} {o : Obj} (hbox : W.heap[b]? = some (.cells (m.cells rv mv ov) 24 (0, 0))) (ho : OwnM W lo rv mv ov m) (hm : MayP m) (hu : OwnI W lo' u l) (hlt : ∀ g, u.ownBlock = some g → g < lo) (hg : (W.alloc o).grownBy w6 u.ownBlock) : BoxM w6 b rv mv ov m := by
  have hbA : (W.alloc o).heap[b]? = some (.cells (m.cells rv mv ov) 24 (0, 0)) := by rw [Go.Deep.blk_alloc_lt _ _ _ (lt_of_block hbox)]; exact hbox
  have hne : u.ownBlock ≠ some b := own_ne hu hbox (by decide)
  have ap : ∀ {v : Value} {l' : List Int}, OwnI W lo v l' → Apart v u := fun {v l'} hv g e e2 => by
    have := (World.ownsRow.lt hv g e).1
    have := hlt g e2
    omega
  have hA := below_alloc W o
  refine ⟨by rw [hg.block b (lt_of_block hbA) (fun e => hne e.symm)]; exact hbA, ?_⟩
  have : OwnM w6 lo rv mv ov m := ⟨(ho.regs.below hA).grown hg (ap ho.regs), (ho.mem.below hA).grown hg (ap ho.mem), (ho.out.below hA).grown hg (ap ho.out), ho.rm, ho.ro, ho.mo⟩
  exact this.at hm.fits

set_option maxRecDepth 100000 in
set_option maxHeartbeats 8000000 in
theorem Tables_any (p q : Int) (may : Bool) (w : World) (hp : (Lit.int .i64 p).wf = true) (hq : (Lit.int .i64 q).wf = true) :
    Calls Try.prog 8 #[.int .i64 p, .int .i64 q, .bool may] w fun e w' => e = .returned (.bool true) ∧ Below w.heap.size w w' := by
  obtain ⟨a, a0, a9, HPA⟩ : ∃ a : Int, 2 ≤ a ∧ a ≤ 9 ∧ Hid (∀ W, Calls Try.prog 19 #[.int .i64 p, .int .i64 8] W fun e w' => e = .returned (.int .i64 (a - 2)) ∧ w' = W) := by
    have hb := pickF_bd p (m := 8) (by decide)
    exact ⟨pickF p 8 + 2, by omega, by omega, fun W => by rw [show pickF p 8 + 2 - 2 = pickF p 8 by omega]; exact picked_any p 8 W hp (by decide) (by decide)⟩
  obtain ⟨b, b0, b9, HPB⟩ : ∃ b : Int, 2 ≤ b ∧ b ≤ 9 ∧ Hid (∀ W, Calls Try.prog 19 #[.int .i64 q, .int .i64 8] W fun e w' => e = .returned (.int .i64 (b - 2)) ∧ w' = W) := by
    have hb := pickF_bd q (m := 8) (by decide)
    exact ⟨pickF q 8 + 2, by omega, by omega, fun W => by rw [show pickF q 8 + 2 - 2 = pickF q 8 by omega]; exact picked_any q 8 W hq (by decide) (by decide)⟩
  have HG : Hid (guestM [1, a * 16 + 5, 77] (tabL.map insWord) [1, a * 16 + 5, 77].length = tabG a) := tabG_0 a a0 a9
  have HWF : Hid (∀ i, i < [1, a * 16 + 5, 77].length → -9223372036854775808 ≤ [1, a * 16 + 5, 77].getD i 0 ∧ [1, a * 16 + 5, 77].getD i 0 ≤ 9223372036854775807) := wf_three ⟨by decide, by decide⟩ ⟨by omega, by omega⟩ ⟨by decide, by decide⟩
  have HM : Hid (∀ k, k ≤ 3 → MayP (tabK a b may k)) := fun k hk => tabK_may a b may a0 a9 b0 b9 k hk
  have HS : Hid (∀ k, k < 3 → (tabK a b may k).step false [] 0 = (tabK a b may (k + 1), (tabW b may).getD k 0)) := fun k hk => tab_step a b may a0 a9 b0 b9 k hk
  have sa : 2 + (a - 2) = a := by omega
  have sb : 2 + (b - 2) = b := by omega
  clear hp hq
  go_enter Try.func8, Try.ntmps8
  go_wp2_with fail
  refine (cpuTells_any _).mono ?_
  rintro e w0 ⟨rfl, hb0⟩
  have HB0 : Hid (Below w.heap.size w w0) := hb0
  clear hb0
  go_wp2_with fail
  refine (HPA.out _).mono ?_
  rintro e w0 ⟨rfl, rfl⟩
  clear HPA
  go_wp2_with fail
  refine (HPB.out _).mono ?_
  rintro e w0 ⟨rfl, rfl⟩
  clear HPB
  go_wp2_with fail
  clear sa sb
  have hbx := two_boxes (Below.refl (((w0.alloc (.cells ([1, a * 16 + 5, 77].map (Value.int .i64)).toArray 3)).alloc (.cells (insCells tabL).toArray 34)).heap.size) ((w0.alloc (.cells ([1, a * 16 + 5, 77].map (Value.int .i64)).toArray 3)).alloc (.cells (insCells tabL).toArray 34)))
  refine (guest_any _ _ [1, a * 16 + 5, 77] tabL _ (IntsAt.of [1, a * 16 + 5, 77] hbx.1 (by simp)) (InsAt.of tabL hbx.2.1 (by decide)) (by simp) HWF.out (by rw [tabL_words]; decide)).mono ?_
  rw [HG.out]
  rintro e w1 ⟨rv, mv, ov, rfl, ho, hb1⟩
  have hbb : Below w.heap.size w w1 := HB0.out.trans ((hbx.2.2.trans (hb1.mono hbx.2.2.size)).mono HB0.out.size)
  obtain ⟨A1, c1, rfl⟩ := ho.regs.shape
  obtain ⟨g, c2, rfl, hglo, hgl, hgc, hgf⟩ := ho.mem.opened (by show 0 < tabBase.length; rw [tabBase_len]; decide)
  obtain ⟨A3, c3, rfl⟩ := ho.out.shape
  rw [show (tabG a).regs.length = 8 from rfl, show (tabG a).mem.length = 256 from tabBase_len, show (tabG a).out.length = 0 from rfl] at ho ⊢
  have g16 : w1.cell? ⟨g, 16, none⟩ = some (.int .i64 0) := (hgc 16 (by show 16 < tabBase.length; rw [tabBase_len]; decide)).trans rfl
  have ga : ∃ y, w1.cell? ⟨g, (16 + a).toNat, none⟩ = some (.int .i64 y) := ⟨_, hgc _ (by show _ < tabBase.length; rw [tabBase_len]; omega)⟩
  obtain ⟨y, ga⟩ := ga
  have HO : Hid (OwnM w1 _ (.slice A1 8 c1) (.slice (some ⟨g, 0, none⟩) 256 c2) (.slice A3 0 c3) (tabG a) ∧ Below w.heap.size w w1 ∧ w.heap.size ≤ g) := ⟨ho, hbb, by have := HB0.out.size; have := hbx.2.2.size; omega⟩
  have gne : ¬ g = w1.heap.size := by omega
  have i16 : ¬ (16 : Nat) = (16 + a).toNat := by omega
  clear hbx ho hb1 hbb hgc HB0 HWF HG hglo
  simp only [Mach.cells, tabG]
  have HI : Hid (∃ lo, OwnM w1 lo (.slice A1 8 c1) (.slice (some ⟨g, 0, none⟩) 256 c2) (.slice A3 0 c3) (tabG a)) := ⟨_, HO.out.1⟩
  go_upto_if 45 with fail
  go_cut [45] (fun c wc => c = .bool may ∧ BoxM wc w1.heap.size (.slice A1 8 c1) (.slice (some ⟨g, 0, none⟩) 256 c2) (.slice A3 0 c3) (tabK a b may 0) ∧ Below w.heap.size w wc)
  case first =>
    obtain ⟨lo, hown⟩ := HI.out
    obtain ⟨t1, t2⟩ := tab_laid (b := b) may hown a0 a9
    have hB : ∀ (W : World) (j : Nat) (x : Value), Below w.heap.size w W → Below w.heap.size w (W.setCell ⟨g, j, none⟩ x) := fun W j x hw => hw.setCell (by simpa using HO.out.2.2) _
    cases may with
    | true =>
      have HT : Hid (BoxM _ w1.heap.size _ _ _ _) := BoxM.new' t2 (HM.out 0 (by omega)) (by simp)
      have HBB : Hid (∀ (W : World) (j : Nat) (x : Value), Below w.heap.size w W → Below w.heap.size w (W.setCell ⟨g, j, none⟩ x)) := hB
      have s48 : 32 + b + 16 = 48 + b := by omega
      clear t1 t2 hown hB
      go_wp2_with fail
      go_meet
      exact ⟨rfl, HT.out, (HBB.out _ _ _ (HBB.out _ _ _ (HBB.out _ _ _ HO.out.2.1))).alloc (by simpa using HO.out.2.1.size) _⟩
    | false =>
      have HT : Hid (BoxM _ w1.heap.size _ _ _ _) := BoxM.new' t1 (HM.out 0 (by omega)) (by simp)
      have HBB : Hid (∀ (W : World) (j : Nat) (x : Value), Below w.heap.size w W → Below w.heap.size w (W.setCell ⟨g, j, none⟩ x)) := hB
      clear t1 t2 hown hB
      go_wp2_with fail
      go_meet
      exact ⟨rfl, HT.out, (HBB.out _ _ _ (HBB.out _ _ _ HO.out.2.1)).alloc (by simpa using HO.out.2.1.size) _⟩
  case rest =>
    obtain ⟨hc, hbox, hbel⟩ := hcut
    subst hc
    have HN : Hid (BoxM wc w1.heap.size (.slice A1 8 c1) (.slice (some ⟨g, 0, none⟩) 256 c2) (.slice A3 0 c3) (tabK a b may 0) ∧ Below w.heap.size w wc) := ⟨hbox, hbel⟩
    have hlw : w.heap.size ≤ w1.heap.size := HO.out.2.1.size
    clear hbox hbel g16 ga gne i16 HI HO hgl hgf
    go_wp2_with fail
    obtain ⟨i0, hi0, hz0, hz1, hz2⟩ := info_parts infoInt
    go_loopw [11, 54] (fun o i wr => ∃ k : Nat, k ≤ 3 ∧ i = .int .i64 k ∧ (∃ rv mv ov, Hid (BoxM wr w1.heap.size rv mv ov (tabK a b may k))) ∧ Hid (OwnI wr w.heap.size o ((tabW b may).take k)) ∧ Hid (Below w.heap.size w wr)) (fun _ i _ => 3 - (intOf i).toNat)
    case atStart => exact ⟨0, by omega, rfl, ⟨_, _, _, HN.out.1⟩, World.ownsRow_nil _ _ _ _, HN.out.2⟩
    case round =>
      obtain ⟨k, hk, rfl, ⟨rv, mv, ov, hA⟩, hO, hB⟩ := hrel
      obtain ⟨A1, c1, A2, c2, A3, c3, rfl, rfl, rfl⟩ := hA.out.dat.shape
      by_cases hlt : k < 3
      · have hA' := hA.out
        obtain ⟨⟨z0, z1, z2, z3, z4, z5, z6, z7, z8, z9, z10, z11⟩, zf, zl⟩ := twelve_cells hA'.box
        clear hA'
        go_wp2_with fail
        refine (StepQ (tabK a b may k) (tabK a b may (k + 1)) false 0 ((tabW b may).getD k 0) _ _ _ wr hA.out.dat (HM.out k hk) (by decide) (by have := tab_count a b may k hk; omega) (HS.out k hlt)).mono ?_
        rintro e w5 ⟨D1, e1, D2, e2, D3, e3, rfl, ho, hb5⟩
        have hA5 := hA.out.below hb5
        have hne : ¬ w1.heap.size = w5.heap.size := by have := lt_of_block hA5.box; omega
        clear z0 z1 z2 z3 z4 z5 z6 z7 z8 z9 z10 z11 zf zl
        obtain ⟨⟨z0, z1, z2, z3, z4, z5, z6, z7, z8, z9, z10, z11⟩, zf, zl⟩ := twelve_cells hA5.box
        have HBX : Hid (IsBox w5 w1.heap.size ∧ OwnM w5 wr.heap.size (.slice D1 (tabK a b may (k + 1)).regs.length e1) (.slice D2 (tabK a b may (k + 1)).mem.length e2) (.slice D3 (tabK a b may (k + 1)).out.length e3) (tabK a b may (k + 1)) ∧ MayP (tabK a b may (k + 1))) := ⟨⟨_, hA5.box⟩, ho, HM.out (k + 1) (by omega)⟩
        have HBS : Hid (∀ x0 x1 x2 x3 x4 x5 x6 x7 x8 x9 x10 x11, _) := fun x0 x1 x2 x3 x4 x5 x6 x7 x8 x9 x10 x11 => box_set12 hA5.box rfl x0 x1 x2 x3 x4 x5 x6 x7 x8 x9 x10 x11
        have HB5 : Hid (Below w.heap.size w w5) := hB.out.trans (hb5.mono hB.out.size)
        have how := hO.out.below hb5
        have hltO : ∀ g, _ = some g → g < wr.heap.size := fun g e => (World.ownsRow.lt hO.out g e).2
        have HLT : Hid (∀ g, _ = some g → g < wr.heap.size) := hltO
        have HOW : Hid (OwnI w5 w.heap.size _ ((tabW b may).take k)) := how
        have HT : Hid ((tabW b may).take (k + 1) = (tabW b may).take k ++ [(tabW b may).getD k 0]) := take_snoc _ k (by show k < 3; omega)
        have hlk : Hid (((tabW b may).take k).length = k) := by show _ = _; rw [List.length_take]; show min k 3 = k; omega
        have hs5 : w.heap.size ≤ w5.heap.size := HB5.out.size
        clear ho hb5 hA5 hA hB hO how hltO
        obtain ⟨lk, elk⟩ : ∃ lk, lk = (tabW b may).take k := ⟨_, rfl⟩
        rw [← elk] at HOW HT hlk
        clear elk
        revert HT
        generalize (tabW b may).getD k 0 = y
        intro HT
        simp only [Mach.cells]
        go_wp2_with (first
          | (at_builtin; refine wpList_append_own _ rfl _ _ 22 rfl w.heap.size 3 i0 (.int .i64 0) 1 8 Try.underlying22 hi0 hz0 hz1 hz2 rfl (by decide) _ _ _ rfl (((HOW.out.set12 HBX.out.1 _ _ _ _ _ _ _ _ _ _ _ _).alloc _).alloc _) ⟨w5.heap.size + 1, 0, none⟩ 1 1 [.int .i64 y] rfl rfl ?c1 ?c2 ?c3 ?c4 ?c5 ?_))
        case c1 => exact cell_one_at _ _ (by simp)
        case c2 => intro u hu; simp at hu; subst hu; rfl
        case c3 => have := hlk.out; unfold maxLen; omega
        case c4 => have := hlk.out; omega
        case c5 => simp; omega
        intro v' w6 hown' hgrow _
        have R1 : Hid (OwnI w6 w.heap.size v' ((tabW b may).take (k + 1))) := OwnI.snoc hown' HT.out
        have R2 : Hid (Below w.heap.size w w6) := grown_below ((below_set12 HB5.out hlw _ _ _ _ _ _ _ _ _ _ _ _).alloc (by simp; omega) _) ((HOW.out.set12 HBX.out.1 _ _ _ _ _ _ _ _ _ _ _ _).alloc _) (Nat.le_refl _) (by simp; omega) hgrow
        have R3 : Hid (BoxM w6 w1.heap.size _ _ _ (tabK a b may (k + 1))) := box_grown (m := tabK a b may (k + 1)) (by rw [Go.Deep.blk_alloc_lt _ _ _ (by simpa using lt_of_block HBX.out.1.choose_spec)]; exact HBS.out _ _ _ _ _ _ _ _ _ _ _ _) ((HBX.out.2.1.set12 HBX.out.1 _ _ _ _ _ _ _ _ _ _ _ _).below (below_alloc _ _)) HBX.out.2.2 ((HOW.out.set12 HBX.out.1 _ _ _ _ _ _ _ _ _ _ _ _).alloc _) HLT.out hgrow
        clear hown' hgrow HOW HBX HBS HLT HB5
        clear z0 z1 z2 z3 z4 z5 z6 z7 z8 z9 z10 z11 zf zl
        go_wp2
        refine ⟨⟨k + 1, by omega, by go_num, ⟨_, _, _, R3⟩, R1, R2⟩, ?_⟩
        simp [intOf]; omega
      · obtain rfl : k = 3 := by omega
        obtain ⟨⟨z0, z1, z2, z3, z4, z5, z6, z7, z8, z9, z10, z11⟩, zf, zl⟩ := twelve_cells hA.out.box
        have hOI := hO.out
        rw [List.take_of_length_le (show (tabW b may).length ≤ 3 by show 3 ≤ 3; omega)] at hOI
        obtain ⟨gw, cw, ew, -, -, hgw, -⟩ := hOI.opened (by show 0 < 3; decide)
        subst ew
        have u1 : wr.cell? ⟨gw, 1, none⟩ = some (.int .i64 (if may then 16 * b + 5 else -1)) := hgw 1 (by show 1 < 3; decide)
        rw [show (tabW b may).length = 3 from rfl]
        cases may with
        | false =>
          have z7' : wr.cell? ⟨w1.heap.size, 7, none⟩ = some (.int .i64 4) := z7
          have u1' : wr.cell? ⟨gw, 1, none⟩ = some (.int .i64 (-1)) := u1
          clear hA hO hOI hgw z0 z1 z2 z3 z4 z5 z6 z7 z8 z9 z10 z11 u1
          go_wp2_with fail
          go_ret
          exact ⟨rfl, hB.out⟩
        | true =>
          have z7' : wr.cell? ⟨w1.heap.size, 7, none⟩ = some (.int .i64 0) := z7
          have u1' : wr.cell? ⟨gw, 1, none⟩ = some (.int .i64 (16 * b + 5)) := u1
          obtain ⟨A1', c1', q1, -, hcell⟩ := hA.out.dat.regs
          simp only [Value.slice.injEq] at q1
          obtain ⟨rfl, -, rfl⟩ := q1
          obtain ⟨gb, go, rfl, hgb, hcc⟩ := hcell (by show 0 < 8; decide)
          have s3 : wr.cell? ⟨gb, go + 3, none⟩ = some (.int .i64 77) := hcc 3 (by show 3 < 8; decide)
          obtain ⟨A2', c2', q2, -, hcell2⟩ := hA.out.dat.mem
          simp only [Value.slice.injEq] at q2
          obtain ⟨rfl, -, rfl⟩ := q2
          have hml := (HM.out 3 (by omega)).mem
          obtain ⟨gm, gmo, rfl, hgm, hcc2⟩ := hcell2 (by rw [hml]; decide)
          have s4 : wr.cell? ⟨gm, gmo + (b * 16 + 5).toNat, none⟩ = some (.int .i64 77) := by
            rw [hcc2 _ (by rw [hml]; omega), show (b * 16 + 5).toNat = (16 * b + 5).toNat by omega]
            show some (Value.int .i64 (((tabMem a (48 + b)).set (16 * b + 5).toNat 77).getD (16 * b + 5).toNat 0)) = _
            rw [getD_set _ _ _ _ _ (by rw [tabMem_len]; omega), if_pos rfl]
          rw [show (tabK a b true 3).regs.length = 8 from rfl] at z0
          rw [hml] at z8
          have cb : b * 16 + 5 = 16 * b + 5 := by omega
          rw [← cb] at u1'
          clear hA hO hOI hgw hcc hcell hcc2 hcell2 z1 z2 z3 z4 z5 z6 z7 z9 z10 z11 u1 cb hml
          go_wp2_with fail
          go_ret
          exact ⟨rfl, hB.out⟩

end Go.Proofs.Ytlcdefpdahjjead
