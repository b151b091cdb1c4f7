/- Contract of evlog.Encode. -/
import Derived.Test.YtecpblabaelopaaGreatDoorECloPart
import Derived.Test.YtecpblabaelopaaGreatDoorAsksPart
import Derived.Test.YtecpblabaelopaaGreatDoorCpuMPart
import Derived.Test.YtecpblabaelopaaGreatDoorRepPPart
import Derived.Test.YtecpblabaelopaaGreatDoorByFPart
namespace Go.Proofs.YtecpblabaelopaaGreatDoor
open Go.RowKit
set_option maxRecDepth 100000

theorem Encode_no (v : Value) (L : List Ev) (w : World) (h : EvsAt w v L) (hL : Laid w) (hn : chkNo L ≠ 0) :
    Calls Tryz.prog 31 #[v] w fun e w' => e = .returned (.tuple #[.slice none 0 0, .int .i64 (chkNo L)]) ∧ Below w.heap.size w w' := by
  have HF : Hid (Calls Tryz.prog 57 #[v] w fun e w' => e = .returned (.int .i64 (chkNo L)) ∧ Below w.heap.size w w') := Check_any v L w h hL
  clear h hL
  revert HF hn
  generalize chkNo L = en
  intro hn HF
  go_enter Tryz.func31, Tryz.ntmps31
  go_wp2_with fail
  refine HF.out.mono ?_
  rintro e w1 ⟨rfl, hb⟩
  have HB : Hid (Below w.heap.size w w1) := hb
  clear hb HF
  go_wp2_with fail
  go_ret2
  exact ⟨rfl, HB.out⟩

set_option maxRecDepth 20000 in
set_option maxHeartbeats 4000000 in
theorem Encode_ok (v : Value) (L : List Ev) (w : World) (h : EvsF w v L) (hL : Laid w) (hn : chkNo L = 0) :
    Calls Tryz.prog 31 #[v] w fun e w' => ∃ v', e = .returned (.tuple #[v', .int .i64 0]) ∧ OwnB w' w.heap.size v' (fullB L) ∧ Below w.heap.size w w' := by
  have HF : Hid (Calls Tryz.prog 57 #[v] w fun e w' => e = .returned (.int .i64 (chkNo L)) ∧ Below w.heap.size w w') := Check_any v L w h.at_ hL
  rw [hn] at HF
  have HL : Hid ((encB L).length ≤ 231007 ∧ L.length ≤ 1000) := ⟨encB_len hn, (chk_zero hn).1⟩
  have HK : Hid (∀ k, k < L.length → evNo (L.getD k noEv) = 0 ∧ 0 ≤ prevAt L k ∧ prevAt L k ≤ (L.getD k noEv).at_) := ok_at hn
  have HV : Hid (EvsF w v L) := h
  obtain ⟨A, c, rfl, hl, hc⟩ := h.at_
  have hln := HL.out.2
  have HN : Hid (∀ W v1 (l1 : List Int) (n lo : Nat), OwnB W lo v1 l1 → lo ≤ W.heap.size → n < 100000 → l1.length ≤ 1000000 → Calls Tryz.prog 58 #[v1, .int .i64 n] W fun e w' => ∃ v', e = .returned v' ∧ Appd lo W w' v1 v' (l1 ++ sevens n)) := fun W v1 l1 n lo ho hlo hn hl => appendNumber_any v1 l1 n lo W ho hlo (by omega) (by have := sevens_len7 (n := n) (by omega); omega)
  clear h hL hn
  obtain ⟨i0, hi, hz0, hz1, hz2⟩ := info_parts infoByte
  go_enter Tryz.func31, Tryz.ntmps31
  go_wp2_with fail
  refine HF.out.mono ?_
  rintro e w1 ⟨rfl, hb⟩
  have HB1 : Hid (Below w.heap.size w w1) := hb
  have hs1 := hb.size
  clear hb HF
  go_wp2_with fail
  refine (HN.out _ _ [] L.length w1.heap.size (OwnB.nil _ _) (Nat.le_refl _) (by omega) (by simp)).mono ?_
  rintro e w2 ⟨v1, rfl, ha⟩
  have HA0 : Hid (Appd w1.heap.size w1 w2 (.slice none 0 0) v1 (sevens L.length)) := ha
  clear ha
  go_wp2_with fail
  go_loopw [5, 6, 19] (fun o t i wr => ∃ (k : Nat) (bs' : List Int), k ≤ L.length ∧ i = .int .i64 k ∧ t = .int .i64 (prevAt L k) ∧ Hid (encB L = bs' ++ encFrom (prevAt L k) (L.drop k)) ∧ Hid (Appd w1.heap.size w1 wr (.slice none 0 0) o bs')) (fun _ _ i _ => L.length - (intOf i).toNat)
  case atStart => exact ⟨0, sevens L.length, Nat.zero_le _, rfl, rfl, rfl, HA0⟩
  case round =>
    obtain ⟨k, bs', hk, rfl, rfl, hE, hA⟩ := hrel
    have hsz := hA.out.old.size
    have hbl : bs'.length ≤ 231007 := by
      have h1 := congrArg List.length hE.out
      have h2 := HL.out.1
      simp at h1
      omega
    by_cases hlt : k < L.length
    · obtain ⟨b, off, rfl, hbs, hcell⟩ := hc (by omega)
      obtain ⟨x0, x1, vx, x2, xi⟩ := hcell k hlt
      obtain ⟨he, hp0, hp1⟩ := HK.out k hlt
      have hfit := HV.out.fit b off c rfl k hlt vx x2
      have HE : Hid (encB L = (bs' ++ sevens (4 * ((L.getD k noEv).at_ - prevAt L k) + (L.getD k noEv).kind).toNat ++ dataB (L.getD k noEv)) ++ encFrom (prevAt L (k + 1)) (L.drop (k + 1))) := by
        show _ = _
        rw [hE.out, enc_step hlt, prevAt_succ]
        simp [List.append_assoc]
      have HP : Hid (prevAt L (k + 1) = (L.getD k noEv).at_) := prevAt_succ L k
      clear hE hc hcell HK HV
      revert x0 x1 xi he hp0 hp1 HE HP
      generalize L.getD k noEv = x
      generalize prevAt L k = last
      intro x0 x1 xi he hp0 hp1 HE HP
      obtain ⟨xa, xk, xd⟩ := x
      simp only at x0 x1 xi hp1 HE HP
      obtain ⟨hkk, haa, -, -⟩ := evNo_bd he
      simp only at hkk haa
      have HXI : Hid (IntsAt w vx xd) := xi
      have HHB : Hid (∀ b off n c, 0 < xd.length → vx = .slice (some ⟨b, off, none⟩) n c → b < w1.heap.size) := fun b' off' n' c' h0 e => by
        obtain ⟨A2, c2, e2, _, hcc⟩ := xi
        obtain ⟨b3, off3, e3, hlt3, _⟩ := hcc h0
        rw [e] at e2
        simp only [Value.slice.injEq] at e2
        have e4 := e2.1.trans e3
        simp only [Option.some.injEq, Addr.mk.injEq] at e4
        omega
      have HFT : Hid (Fits vx) := hfit
      obtain ⟨A1, c1, rfl, hl1, -⟩ := xi
      have hB : Below w.heap.size w wr := HB1.out.trans (hA.out.old.mono hs1)
      have y0 := (hB.cell (p := ⟨b, off + k * 3, none⟩) hbs).trans x0
      have y1 := (hB.cell (p := ⟨b, off + k * 3 + 1, none⟩) hbs).trans x1
      have y2 := (hB.cell (p := ⟨b, off + k * 3 + 2, none⟩) hbs).trans x2
      have HB : Hid (Below w.heap.size w wr) := hB
      have hw1 : IntKind.i64.wrap (xa - last) = xa - last := IntWalk.i64_in _ (by omega)
      have hw2 : IntKind.i64.wrap (4 * (xa - last)) = 4 * (xa - last) := IntWalk.i64_in _ (by omega)
      have hw3 : IntKind.i64.wrap (4 * (xa - last) + xk) = 4 * (xa - last) + xk := IntWalk.i64_in _ (by omega)
      obtain ⟨n, hnn⟩ : ∃ n : Nat, (n : Int) = 4 * (xa - last) + xk := ⟨(4 * (xa - last) + xk).toNat, by omega⟩
      have hn100 : n < 100000 := by omega
      have HNN : Hid ((n : Int) = 4 * (xa - last) + xk) := hnn
      rw [show (4 * (xa - last) + xk).toNat = n by omega] at HE
      have HD : Hid (∀ W v1 (l1 : List Int), Below w.heap.size w W → OwnB W w1.heap.size v1 l1 → w1.heap.size ≤ W.heap.size → l1.length ≤ 1000000 → Calls Tryz.prog 59 #[v1, .agg #[.int .i64 xa, .int .i64 xk, .slice A1 xd.length c1]] W fun e w' => ∃ v', e = .returned v' ∧ Appd w1.heap.size W w' v1 v' (l1 ++ dataB ⟨xa, xk, xd⟩)) := fun W v1 l1 hB ho hlo hl => appendData_any v1 _ l1 xa xk xd w1.heap.size W ho hlo he (HXI.out.below hB) HFT.out HHB.out hl
      clear x0 x1 x2 hfit hB he HXI HHB HFT hnn hp0 hp1 hkk haa
      go_wp2_with fail
      rw [← HNN.out]
      refine (HN.out _ _ bs' n w1.heap.size (OwnB.below hA.out.own (below_alloc _ _)) (by simp; omega) hn100 (by omega)).mono ?_
      rintro e w3 ⟨v3, rfl, ha3⟩
      have hne : u5.ownBlock ≠ some wr.heap.size := own_ne (e' := 62) (OwnB.below hA.out.own (below_alloc _ (.cells #[.int .i64 xa, .int .i64 xk, .slice A1 xd.length c1] 62))) (Go.Deep.blk_alloc_new _ _) (by decide)
      have hbox : w3.heap[wr.heap.size]? = some (.cells #[.int .i64 xa, .int .i64 xk, .slice A1 xd.length c1] 62 (0, 0)) := by rw [ha3.grown.block _ (by simp) hne]; exact Go.Deep.blk_alloc_new _ _
      obtain ⟨z0, z1, z2, zf, zl⟩ := three_cells hbox
      have HBX : Hid (w3.heap[wr.heap.size]? = some (.cells #[.int .i64 xa, .int .i64 xk, .slice A1 xd.length c1] 62 (0, 0))) := hbox
      have HA3 : Hid (Appd w1.heap.size w1 w3 (.slice none 0 0) v3 (bs' ++ sevens n)) := hA.out.trans (ha3.pre (below_alloc _ _) (by omega))
      have hl3 : (bs' ++ sevens n).length ≤ 1000000 := by
        have := sevens_len7 (n := n) (by omega)
        simp
        omega
      have hs3 := HA3.out.old.size
      clear ha3 hne hbox y0 y1 y2 hA
      go_wp2_with fail
      refine (HD.out _ _ _ (HB1.out.trans (HA3.out.old.mono hs1)) HA3.out.own hs3 hl3).mono ?_
      rintro e w4 ⟨v4, rfl, ha4⟩
      have hne : v3.ownBlock ≠ some wr.heap.size := own_ne HA3.out.own HBX.out (by decide)
      have hbox : w4.heap[wr.heap.size]? = some (.cells #[.int .i64 xa, .int .i64 xk, .slice A1 xd.length c1] 62 (0, 0)) := by rw [ha4.grown.block _ zl hne]; exact HBX.out
      have HA4 : Hid (Appd w1.heap.size w1 w4 (.slice none 0 0) v4 (bs' ++ sevens n ++ dataB ⟨xa, xk, xd⟩)) := HA3.out.trans ha4
      clear ha4 hne HA3 HD HBX z0 z1 z2 zf zl
      obtain ⟨z0, z1, z2, zf, zl⟩ := three_cells hbox
      clear hbox
      go_wp2_with fail
      refine ⟨⟨k + 1, _, by omega, by go_num, by rw [HP.out], HE, HA4⟩, ?_⟩
      simp [intOf]; omega
    · have HS : Hid (bs' = encB L) := by
        show _ = _
        rw [hE.out, List.drop_eq_nil_of_le (by omega)]
        simp [encFrom]
      have HA : Hid (Appd w1.heap.size w1 wr (.slice none 0 0) u5 (encB L)) := HS.out ▸ hA.out
      have HFB : Hid (fullB L = encB L ++ sumB (encB L)) := rfl
      have HLL : Hid ((encB L).length ≤ 231007) := HL.out.1
      have HBY : Hid (∀ x ∈ encB L, 0 ≤ x ∧ x ≤ 255) := encB_byte L
      clear hE hA HS hc HK HV HN HL
      revert HA HFB HLL HBY
      generalize hfl : fullB L = fl
      generalize encB L = el
      intro HA HFB HLL HBY
      have HQ : Hid (fullB L = fl) := hfl
      clear hfl
      have hsz' := HA.out.old.size
      go_wp2_with fail
      refine (sum_any _ el _ (HA.out.own.read (by have := HLL.out; omega) HBY.out)).mono ?_
      rintro e w3 ⟨g, rfl, ho3, hb3⟩
      obtain ⟨g', cap', hv', hlo', hlt', hcc⟩ := ho3.at (by simp [sumB])
      simp only [Value.slice.injEq, Option.some.injEq, Addr.mk.injEq] at hv'
      obtain ⟨⟨rfl, -, -⟩, -, rfl⟩ := hv'
      have HC : Hid (∀ j u, ((sumB el).map (Value.int .u8))[j]? = some u → w3.cell? ((⟨g, 0, none⟩ : Addr).add j) = some u) := hcc
      have HO : Hid (OwnB w3 w1.heap.size u5 el) := HA.out.own.below hb3
      have HB3 : Hid (Below w1.heap.size w1 w3) := HA.out.old.trans (hb3.mono hsz')
      have HS4 : Hid ((sumB el).length = 4) := rfl
      clear ho3 hb3 hcc
      revert HC HS4 HFB
      generalize sumB el = sl
      intro HFB HC HS4
      go_wp2_with (first
        | (at_builtin; refine wpList_append_own_at _ rfl _ _ 25 rfl w1.heap.size 5 i0 (.int .u8 0) 1 1 Tryz.underlying25 hi hz0 hz1 hz2 rfl (by decide) u5 el.length (el.map (Value.int .u8)) rfl HO.out ⟨g, 0, none⟩ 4 4 (sl.map (Value.int .u8)) rfl (by simp [HS4.out]) HC.out (bytes_oneCell _) ?c3 ?c4 ?c5 ?_))
      case c3 => have := HLL.out; unfold maxLen; omega
      case c4 => have := HLL.out; omega
      case c5 => exact HB3.out.size
      intro v' w4 hown' hgrow _ _
      have HR : Hid (OwnB w4 w.heap.size v' fl ∧ Below w.heap.size w w4) := ⟨OwnB.mono (OwnB.of (l := el) (m := sl) hown' rfl HS4.out.symm HFB.out) hs1, HB1.out.trans ((HB3.out.grown hgrow HB3.out.size (fun k hk => (World.ownsRow.lt HO.out k hk).1)).mono hs1)⟩
      clear hown' hgrow
      go_wp2_with fail
      go_ret2
      exact ⟨v', rfl, by rw [HQ.out]; exact HR.out.1, HR.out.2⟩

end Go.Proofs.YtecpblabaelopaaGreatDoor

/- Contract of run.Record: what it answers; the boxes. -/

namespace Go.Proofs.YtecpblabaelopaaGreatDoor
open Go.RowKit
set_option maxRecDepth 100000

def recNo (x : Wd) (im : List Int) (n : Int) : Int :=
  if newNo im ≠ 0 then newNo im else if worldNo x ≠ 0 then worldNo x else if inB n 0 3000 = false then 2 else chkNo (recN x im n.toNat).evs
structure RecA where
  no : Int
  im : List Int
  bs : List Int
  cnt : Int
  m : Mach
def recNone : Mach := ⟨[], 0, 0, false, false, 0, 0, 0, [], [], 0, 0⟩
def recA (x : Wd) (im : List Int) (n : Int) : RecA :=
  if recNo x im n ≠ 0 then ⟨recNo x im n, [], [], 0, recNone⟩ else ⟨0, im, fullB (recN x im n.toNat).evs, (recN x im n.toNat).m.count, (recN x im n.toNat).m⟩
theorem recA_no {x : Wd} {im : List Int} {n k : Int} (h : recNo x im n = k) (hk : k ≠ 0) : recA x im n = ⟨k, [], [], 0, recNone⟩ := by
  unfold recA
  rw [h, if_pos hk]
theorem recA_ok {x : Wd} {im : List Int} {n : Int} (h : recNo x im n = 0) : recA x im n = ⟨0, im, fullB (recN x im n.toNat).evs, (recN x im n.toNat).m.count, (recN x im n.toNat).m⟩ := by
  unfold recA
  rw [h, if_neg (by simp)]
def RecQ (w : World) (G : RecA) (e : Ending) (w' : World) : Prop :=
  ∃ ti te A1 d1 A2 d2 A3 d3, e = .returned (.tuple #[.agg #[ti, te, .int .i64 G.cnt], .agg (G.m.cells (.slice A1 G.m.regs.length d1) (.slice A2 G.m.mem.length d2) (.slice A3 G.m.out.length d3)), .int .i64 G.no]) ∧ OwnI w' w.heap.size ti G.im ∧ OwnB w' w.heap.size te G.bs ∧ OwnM w' w.heap.size (.slice A1 G.m.regs.length d1) (.slice A2 G.m.mem.length d2) (.slice A3 G.m.out.length d3) G.m ∧ Below w.heap.size w w'
theorem recQ_no {w w' : World} {k : Int} (hb : Below w.heap.size w w') : RecQ w ⟨k, [], [], 0, recNone⟩ (.returned (.tuple #[.agg #[.slice none 0 0, .slice none 0 0, .int .i64 0], .agg zeroM, .int .i64 k])) w' :=
  ⟨.slice none 0 0, .slice none 0 0, none, 0, none, 0, none, 0, rfl, World.ownsRow_nil _ _ _ _, OwnB.nil _ _, ⟨World.ownsRow_nil _ _ _ _, World.ownsRow_nil _ _ _ _, World.ownsRow_nil _ _ _ _, fun g e => by simp [Value.ownBlock] at e, fun g e => by simp [Value.ownBlock] at e, fun g e => by simp [Value.ownBlock] at e⟩, hb⟩

abbrev zeroT : Array Value := #[.slice none 0 0, .slice none 0 0, .int .i64 0]
structure RBox (w w' : World) (wv : Array Value) (b : Nat) (rv mv ov : Value) (M : Mach) : Prop where
  wb : w'.heap[w.heap.size]? = some (.cells wv 53 (0, 0))
  tb : w'.heap[w.heap.size + 1]? = some (.cells zeroT 27 (0, 0))
  rb : w'.heap[w.heap.size + 1 + 1]? = some (.cells zeroM 37 (0, 0))
  mb : w'.heap[b]? = some (.cells (M.cells rv mv ov) 37 (0, 0))
  own : OwnM w' w.heap.size rv mv ov M
  old : Below w.heap.size w w'
  hb : w.heap.size + 1 + 1 < b
theorem RBox.below {w w' w'' : World} {wv : Array Value} {b : Nat} {rv mv ov : Value} {M : Mach} (h : RBox w w' wv b rv mv ov M) (hb : Below w'.heap.size w' w'') : RBox w w'' wv b rv mv ov M :=
  ⟨(hb.block _ (lt_of_block h.wb)).trans h.wb, (hb.block _ (lt_of_block h.tb)).trans h.tb, (hb.block _ (lt_of_block h.rb)).trans h.rb, (hb.block _ (lt_of_block h.mb)).trans h.mb, h.own.below hb, h.old.trans (hb.mono h.old.size), h.hb⟩
theorem RBox.kp {w w' w'' : World} {wv : Array Value} {b : Nat} {rv mv ov : Value} {M : Mach} (h : RBox w w' wv b rv mv ov M) (hb : KpI w.heap.size w' w'') : RBox w w'' wv b rv mv ov M :=
  ⟨hb.kept _ _ _ mutW h.wb, hb.kept _ _ _ mutT h.tb, hb.kept _ _ _ mutM h.rb, hb.kept _ _ _ mutM h.mb, h.own.kp hb, h.old.trans hb.old, h.hb⟩
theorem RBox.put {w w' : World} {wv : Array Value} {b : Nat} {rv mv ov rv' mv' ov' : Value} {M N : Mach} (h : RBox w w' wv b rv mv ov M) (ho : OwnM w' w.heap.size rv' mv' ov' N) :
    RBox w (set12 w' b rv' (.int .i64 N.pc) (.int .i64 N.back) (.bool N.ints) (.bool N.wait) (.int .i64 N.table) (.int .i64 N.count) (.int .i64 N.fin) mv' ov' (.int .i64 N.ready) (.int .i64 N.want)) wv b rv' mv' ov' N := by
  have hb := h.hb
  refine ⟨(heap_set12 (by omega) _ _ _ _ _ _ _ _ _ _ _ _).trans h.wb, (heap_set12 (by omega) _ _ _ _ _ _ _ _ _ _ _ _).trans h.tb, (heap_set12 (by omega) _ _ _ _ _ _ _ _ _ _ _ _).trans h.rb, ?_, ho.set12 ⟨_, h.mb⟩ _ _ _ _ _ _ _ _ _ _ _ _, below_set12 h.old (by omega) _ _ _ _ _ _ _ _ _ _ _ _, hb⟩
  exact box_set12 h.mb rfl _ _ _ _ _ _ _ _ _ _ _ _
theorem three_boxes {w : World} {o1 o2 o3 : Obj} : (((w.alloc o1).alloc o2).alloc o3).heap[w.heap.size]? = (w.alloc o1).heap[w.heap.size]? ∧ (((w.alloc o1).alloc o2).alloc o3).heap[w.heap.size + 1]? = ((w.alloc o1).alloc o2).heap[w.heap.size + 1]? ∧ Below w.heap.size w (((w.alloc o1).alloc o2).alloc o3) := by
  refine ⟨?_, ?_, ((below_alloc w o1).alloc (by simp) o2).alloc (by simp; omega) o3⟩
  · rw [(below_alloc ((w.alloc o1).alloc o2) o3).block _ (by simp; omega), (below_alloc (w.alloc o1) o2).block _ (by simp)]
  · rw [(below_alloc ((w.alloc o1).alloc o2) o3).block _ (by simp)]

end Go.Proofs.YtecpblabaelopaaGreatDoor

/- What was recorded is replayed, plainly: the events of a recording tell each step what it was told. -/

namespace Go.Proofs.YtecpblabaelopaaGreatDoor
open Go.RowKit
set_option maxRecDepth 100000

theorem toldL_append (k : Int) (A B : List Ev) : toldL k (A ++ B) = B.foldl (tellE k) (toldL k A) := by
  unfold toldL
  rw [List.foldl_append]
theorem fold_other {k : Int} : ∀ (B : List Ev) (t : Tl), (∀ e ∈ B, e.at_ ≠ k) → B.foldl (tellE k) t = t
  | [], _, _ => rfl
  | e :: B, t, h => by
    rw [List.foldl_cons, tell_other (h e (by simp))]
    exact fold_other B t fun x hx => h x (by simp [hx])
def RecS.more (s : RecS) (x : Wd) (k : Int) : List Ev := s.evI x k ++ s.evB x k ++ s.evV x k
theorem RecS.next_evs (s : RecS) (x : Wd) (k : Int) : (s.next x k).evs = s.evs ++ s.more x k := by
  show s.evs ++ s.evI x k ++ s.evB x k ++ s.evV x k = _
  unfold RecS.more
  simp [List.append_assoc]
theorem RecS.more_at (s : RecS) (x : Wd) (k : Int) : ∀ e ∈ s.more x k, e.at_ = k := by
  intro e he
  unfold RecS.more RecS.evI RecS.evB RecS.evV at he
  simp only [List.mem_append] at he
  rcases he with (he | he) | he
  all_goals
    split at he
    · simp at he
      rw [he]
    · simp at he
theorem rec_evs_step {x : Wd} {im : List Int} (k : Nat) : ∃ B, (recN x im (k + 1)).evs = (recN x im k).evs ++ B ∧ ∀ e ∈ B, e.at_ = (k : Int) := by
  rw [recN]
  split
  · exact ⟨_, RecS.next_evs _ _ _, RecS.more_at _ _ _⟩
  · exact ⟨[], by simp, by simp⟩
theorem rec_before {x : Wd} {im : List Int} : ∀ k, ∀ e ∈ (recN x im k).evs, e.at_ < (k : Int)
  | 0, e, he => by simp [recN] at he
  | k + 1, e, he => by
    obtain ⟨B, hB, hat⟩ := rec_evs_step (x := x) (im := im) k
    rw [hB, List.mem_append] at he
    rcases he with he | he
    · have := rec_before k e he
      omega
    · have := hat e he
      omega
theorem rec_behind {x : Wd} {im : List Int} (k : Nat) : ∀ d, ∃ B, (recN x im (k + d)).evs = (recN x im k).evs ++ B ∧ ∀ e ∈ B, (k : Int) ≤ e.at_
  | 0 => ⟨[], by simp, by simp⟩
  | d + 1 => by
    obtain ⟨B, hB, hat⟩ := rec_behind k d
    obtain ⟨C, hC, hct⟩ := rec_evs_step (x := x) (im := im) (k + d)
    refine ⟨B ++ C, ?_, ?_⟩
    · rw [← Nat.add_assoc, hC, hB, List.append_assoc]
    · intro e he
      rw [List.mem_append] at he
      rcases he with he | he
      · exact hat e he
      · have := hct e he
        omega
theorem told_none {k : Int} {A : List Ev} (h : ∀ e ∈ A, e.at_ ≠ k) : toldL k A = noTl := fold_other A noTl h
theorem RecS.told (s : RecS) (x : Wd) (k : Int) : (s.more x k).foldl (tellE k) noTl = ⟨s.irq x k, s.blk x k, s.val x k⟩ := by
  unfold RecS.more
  rw [List.foldl_append, List.foldl_append]
  have h1 : (s.evI x k).foldl (tellE k) noTl = ⟨s.irq x k, [], 0⟩ := by
    unfold RecS.evI
    cases e : s.irq x k
    · rw [if_neg (by simp)]; rfl
    · rw [if_pos rfl]; simp [tellE, noTl]
  have h2 : (s.evB x k).foldl (tellE k) ⟨s.irq x k, [], 0⟩ = ⟨s.irq x k, s.blk x k, 0⟩ := by
    unfold RecS.evB
    by_cases e : s.due = k
    · rw [if_pos e]; simp [tellE]
    · rw [if_neg e]
      have : s.blk x k = [] := by unfold RecS.blk; rw [if_neg e]
      rw [this]; rfl
  have h3 : (s.evV x k).foldl (tellE k) ⟨s.irq x k, s.blk x k, 0⟩ = ⟨s.irq x k, s.blk x k, s.val x k⟩ := by
    unfold RecS.evV
    by_cases e : s.ask x k = true
    · rw [if_pos e]; simp [tellE]
    · rw [if_neg e]
      have : s.val x k = 0 := by unfold RecS.val; rw [if_neg e]
      rw [this]; rfl
  rw [h1, h2, h3]
theorem rec_told {x : Wd} {im : List Int} {k n : Nat} (hf : (recN x im k).m.fin = 0) (hk : k < n) :
    toldL k (recN x im n).evs = ⟨(recN x im k).irq x k, (recN x im k).blk x k, (recN x im k).val x k⟩ := by
  obtain ⟨B, hB, hat⟩ := rec_behind (x := x) (im := im) (k + 1) (n - (k + 1))
  rw [show k + 1 + (n - (k + 1)) = n by omega] at hB
  rw [hB, rec_step hf, RecS.next_evs, List.append_assoc, toldL_append, List.foldl_append, told_none (fun e he => by have := rec_before k e he; omega), RecS.told, fold_other B _ (fun e he => by have := hat e he; omega)]
theorem rec_replay {x : Wd} {im : List Int} {n : Nat} : ∀ k, k ≤ n → (∀ j, j < k → (recN x im j).m.fin = 0) → replayM im (recN x im n).evs k = (recN x im k).m
  | 0, _, _ => rfl
  | k + 1, hk, h => by
    have hf := h k (by omega)
    have ih := rec_replay (x := x) (im := im) (n := n) k (by omega) (fun j hj => h j (by omega))
    have ht := rec_told (n := n) hf (by omega : k < n)
    show ((replayM im (recN x im n).evs k).step (toldL k (recN x im n).evs).irq (toldL k (recN x im n).evs).blk (toldL k (recN x im n).evs).val).1 = _
    rw [ih, ht, rec_step hf]
    rfl
theorem rec_fix {x : Wd} {im : List Int} (hx : WdMay x) (hi : newNo im = 0) : ∀ n, n ≤ 3000 → recN x im (recN x im n).m.count.toNat = recN x im n
  | 0, _ => by
    have h := (rec_ok hx hi 0 (by omega)).cle
    rw [show (recN x im 0).m.count.toNat = 0 by omega]
  | n + 1, hn => by
    have h := rec_ok hx hi n (by omega)
    by_cases hf : (recN x im n).m.fin = 0
    · have e : (recN x im (n + 1)).m.count = ((n + 1 : Nat) : Int) := by
        rw [rec_step hf]
        show ((recN x im n).m.step _ _ _).1.count = _
        rw [step_going _ _ _ hf, h.cnt hf]
        omega
      rw [e]
      rfl
    · have e : recN x im (n + 1) = recN x im n := rec_stays hf 1
      rw [e]
      exact rec_fix hx hi n (by omega)
theorem rec_going {x : Wd} {im : List Int} (hx : WdMay x) (hi : newNo im = 0) {n j : Nat} (hn : n ≤ 3000) (hj : j < (recN x im n).m.count.toNat) : (recN x im j).m.fin = 0 := by
  by_cases hf : (recN x im j).m.fin = 0
  · exact hf
  · have hc := (rec_ok hx hi n hn).cle
    have hjn : j < n := by omega
    have e := rec_stays hf (n - j)
    rw [show j + (n - j) = n by omega] at e
    rw [e] at hj
    have := (rec_ok hx hi j (by omega)).cle
    omega
theorem chkNo_of {L : List Ev} (hl : L.length ≤ 1000) (h : ∀ k, k < L.length → verdict L k = 0) : chkNo L = 0 := by
  have : ∀ d k, k + d = L.length → chk L k = 0 := by
    intro d
    induction d with
    | zero => exact fun k e => chk_end (by omega)
    | succ d ih => exact fun k e => (chk_ok (by omega) (h k (by omega))).trans (ih (k + 1) (by omega))
  unfold chkNo
  rw [if_neg (by omega)]
  exact this L.length 0 (by omega)
def Ev.key (e : Ev) : Int := 4 * e.at_ + e.kind
theorem verdict_of {L : List Ev} (h0 : ∀ e ∈ L, evNo e = 0) (hp : L.Pairwise fun a b => a.key < b.key) (k : Nat) (hk : k < L.length) : verdict L k = 0 := by
  have e1 : L.getD k noEv = L[k] := by simp [List.getD, hk]
  unfold verdict
  rw [e1, if_pos (h0 _ (List.getElem_mem hk))]
  by_cases hz : k = 0
  · rw [if_pos hz]
  · have hk1 : k - 1 < L.length := by omega
    have e2 : L.getD (k - 1) noEv = L[k - 1] := by simp [List.getD, hk1]
    have := (List.pairwise_iff_getElem.1 hp) (k - 1) k hk1 hk (by omega)
    rw [if_neg hz, e2, if_pos (by unfold behind; exact decide_eq_true this)]
theorem evNo_of {k kind : Int} {d : List Int} (hk : 0 ≤ k ∧ k ≤ 2999) (h1 : 1 ≤ kind ∧ kind ≤ 3) (hd : allB d = true) (hl : (d.length : Int) = wordsN kind) : evNo ⟨k, kind, d⟩ = 0 := by
  unfold evNo
  have a : inB kind 1 3 = true := inB_iff.2 h1
  have b : inB k 0 2999 = true := inB_iff.2 hk
  simp [a, b, hd, hl]
theorem RecS.more_ok {x : Wd} (hx : WdMay x) (s : RecS) (k : Int) (hk : 0 ≤ k ∧ k ≤ 2999) : ∀ e ∈ s.more x k, evNo e = 0 := by
  intro e he
  unfold RecS.more RecS.evI RecS.evB RecS.evV at he
  simp only [List.mem_append] at he
  rcases he with (he | he) | he
  · split at he
    · simp at he
      rw [he]
      exact evNo_of hk (by omega) rfl rfl
    · simp at he
  · split at he
    · rename_i hd
      simp at he
      rw [he]
      exact evNo_of hk (by omega) (RecS.blk_may hx s k).2 (by rw [RecS.blk_at hx hd]; rfl)
    · simp at he
  · split at he
    · simp at he
      rw [he]
      exact evNo_of hk (by omega) (by have := RecS.val_may hx s k; simpa [allB] using this) rfl
    · simp at he
theorem RecS.more_keys (s : RecS) (x : Wd) (k : Int) : (s.more x k).Pairwise fun a b => a.key < b.key := by
  unfold RecS.more RecS.evI RecS.evB RecS.evV
  by_cases h1 : s.irq x k = true
  all_goals by_cases h2 : s.due = k
  all_goals by_cases h3 : s.ask x k = true
  all_goals simp [h1, h2, h3, Ev.key]
theorem rec_may {x : Wd} (hx : WdMay x) {im : List Int} : ∀ k, k ≤ 3000 → ∀ e ∈ (recN x im k).evs, evNo e = 0
  | 0, _, e, he => by simp [recN] at he
  | k + 1, hk, e, he => by
    have ih := rec_may hx (im := im) k (by omega)
    rw [recN] at he
    split at he
    · rw [RecS.next_evs, List.mem_append] at he
      rcases he with he | he
      · exact ih e he
      · exact RecS.more_ok hx _ _ (by omega) e he
    · exact ih e he
theorem rec_keys {x : Wd} (hx : WdMay x) {im : List Int} : ∀ k, k ≤ 3000 → (recN x im k).evs.Pairwise fun a b => a.key < b.key
  | 0, _ => by simp [recN]
  | k + 1, hk => by
    have ih := rec_keys hx (im := im) k (by omega)
    rw [recN]
    split
    · rw [RecS.next_evs, List.pairwise_append]
      refine ⟨ih, RecS.more_keys _ _ _, fun a ha b hb => ?_⟩
      have h1 := rec_before k a ha
      have h2 := RecS.more_at _ _ _ b hb
      have h3 := (evNo_bd (rec_may hx (im := im) k (by omega) a ha)).1
      have h4 := (evNo_bd (RecS.more_ok hx _ (k : Int) (by omega) b hb)).1
      unfold Ev.key
      omega
    · exact ih
theorem rec_chk {x : Wd} (hx : WdMay x) {im : List Int} {n : Nat} (hn : n ≤ 3000) (hl : (recN x im n).evs.length ≤ 1000) : chkNo (recN x im n).evs = 0 :=
  chkNo_of hl (verdict_of (rec_may hx n hn) (rec_keys hx n hn))
end Go.Proofs.YtecpblabaelopaaGreatDoor

/- A recording has few events: at most one a step beside the interrupts. -/

namespace Go.Proofs.YtecpblabaelopaaGreatDoor
open Go.RowKit
set_option maxRecDepth 100000

theorem ask_want {m : Mach} {irq : Bool} {blk : List Int} (v : Int) (h : m.asks irq blk = true) : (m.step irq blk v).1.want = (m.ahead irq blk).want := by
  unfold Mach.asks at h
  obtain ⟨hf, he, ho, hn⟩ := of_decide_eq_true h
  have he' : ((m.told irq blk).enter.counted).nextE = 0 := he
  have ho' : ((m.told irq blk).enter.counted).nextX % 16 = 10 := ho
  have hn' : ((m.told irq blk).enter.counted).nextX / 1024 = 0 ∨ ((m.told irq blk).enter.counted).nextX / 1024 = 1 := hn
  unfold Mach.step
  rw [if_pos hf]
  unfold Mach.run1
  rw [if_pos he', ho']
  unfold Mach.exec
  rw [if_neg (by decide), if_neg (by decide), if_neg (by decide), if_neg (by decide), if_neg (by decide), if_neg (by decide), if_neg (by decide), if_neg (by decide), if_neg (by decide), if_neg (by decide), if_pos rfl, if_pos hn']
  rfl
theorem ask_new {x : Wd} {k : Nat} {s : RecS} (hx : WdMay x) (h : RecOk k s) (hf : s.m.fin = 0) (ha : s.ask x k = true) : s.new x k = false := by
  have hw : (s.then_ x k).want = (s.m.ahead (s.irq x k) (s.blk x k)).want := ask_want _ ha
  have e : (s.m.ahead (s.irq x k) (s.blk x k)).want = (s.m.told (s.irq x k) (s.blk x k)).want := enter_want _
  unfold RecS.new
  apply decide_eq_false
  rintro ⟨h1, h2⟩
  rw [hw, e] at h2
  unfold Mach.told at h2
  by_cases hd : s.due = (k : Int)
  · have hb := RecS.blk_at hx hd
    rcases h.due hf with ⟨a, b⟩ | ⟨a, b, c⟩
    · omega
    · rw [if_pos ⟨by omega, b⟩] at h2
      simp at h2
  · have hb : s.blk x k = [] := by unfold RecS.blk; rw [if_neg hd]
    rw [if_neg (by rw [hb]; simp)] at h2
    have h3 : 0 ≤ s.m.want := h2
    omega
def irqsTo (x : Wd) (k : Nat) : Nat := (x.irqs.filter fun y => decide (y < (k : Int))).length
theorem filter_more {k : Int} : ∀ l : List Int, (l.filter fun y => decide (y < k)).length + (if hasI l k = true then 1 else 0) ≤ (l.filter fun y => decide (y < k + 1)).length
  | [] => by simp [hasI]
  | y :: l => by
    have ih := filter_more (k := k) l
    have hc : hasI (y :: l) k = (decide (y = k) || hasI l k) := rfl
    rw [hc, List.filter_cons, List.filter_cons]
    by_cases h1 : y < k
    · have h2 : y < k + 1 := by omega
      have h3 : ¬ y = k := by omega
      simp only [h1, h2, h3, decide_true, decide_false, if_true, List.length_cons, Bool.false_or]
      omega
    · by_cases h3 : y = k
      · subst h3
        have h2 : y < y + 1 := by omega
        simp only [h1, h2, decide_true, decide_false, if_true, if_false, List.length_cons, Bool.true_or, Bool.false_eq_true]
        omega
      · have h2 : ¬ y < k + 1 := by omega
        simp only [h1, h2, h3, decide_false, Bool.false_or]
        simpa using ih
structure RecFewAt (x : Wd) (k : Nat) (s : RecS) (i b : Nat) : Prop where
  len : s.evs.length = i + b + s.va
  irq : i ≤ irqsTo x k
  blk : b + (if s.due = -1 then 0 else 1) ≤ s.bl
  sum : s.va + s.bl ≤ k
theorem irqs_more (x : Wd) (k : Nat) : irqsTo x k + (if hasI x.irqs k = true then 1 else 0) ≤ irqsTo x (k + 1) := by
  have := filter_more (k := (k : Int)) x.irqs
  unfold irqsTo
  have e : ((k + 1 : Nat) : Int) = (k : Int) + 1 := by omega
  rw [e]
  exact this
theorem rec_few {x : Wd} (hx : WdMay x) {im : List Int} (hi : newNo im = 0) : ∀ k, k ≤ 3000 → ∃ i b, RecFewAt x k (recN x im k) i b
  | 0, _ => ⟨0, 0, by simp [recN], by omega, by simp [recN], by simp [recN]⟩
  | k + 1, hk => by
    obtain ⟨i, b, h⟩ := rec_few hx hi k (by omega)
    have ho := rec_ok hx hi k (by omega)
    have hm := irqs_more x k
    by_cases hf : (recN x im k).m.fin = 0
    · rw [rec_step hf]
      generalize recN x im k = s at h ho hf
      have h1 := h.len
      have h2 := h.irq
      have h3 := h.blk
      have h4 := h.sum
      refine ⟨i + (if s.irq x k = true then 1 else 0), b + (if s.due = (k : Int) then 1 else 0), ?_, ?_, ?_, ?_⟩
      · show (s.evs ++ s.evI x k ++ s.evB x k ++ s.evV x k).length = _ + _ + (if s.ask x k = true then s.va + 1 else s.va)
        unfold RecS.evI RecS.evB RecS.evV
        simp only [List.length_append]
        by_cases c1 : s.irq x k = true
        all_goals by_cases c2 : s.due = (k : Int)
        all_goals by_cases c3 : s.ask x k = true
        all_goals simp only [c1, c2, c3, if_true, if_false, List.length_cons, List.length_nil, Bool.false_eq_true]
        all_goals omega
      · show i + (if hasI x.irqs k = true then 1 else 0) ≤ _
        omega
      · show b + _ + (if (if s.new x k = true then (k : Int) + 1 + x.delays.getD s.bl 0 else if s.due = (k : Int) then -1 else s.due) = -1 then 0 else 1) ≤ (if s.new x k = true then s.bl + 1 else s.bl)
        have hd0 : s.due = (k : Int) → ¬ s.due = -1 := by omega
        by_cases c1 : s.new x k = true
        all_goals by_cases c2 : s.due = (k : Int)
        all_goals by_cases c3 : s.due = -1
        all_goals simp only [c1, c2, c3, if_true, if_false, Bool.false_eq_true] at h3 ⊢
        all_goals repeat' (first | split | split at h3)
        all_goals omega
      · show (if s.ask x k = true then s.va + 1 else s.va) + (if s.new x k = true then s.bl + 1 else s.bl) ≤ k + 1
        by_cases c1 : s.ask x k = true
        · have c2 := ask_new hx ho hf c1
          simp only [c1, c2, if_true, if_false, Bool.false_eq_true]
          omega
        · simp only [c1, if_false, Bool.false_eq_true]
          split <;> omega
    · have e : recN x im (k + 1) = recN x im k := rec_stays hf 1
      rw [e]
      exact ⟨i, b, h.len, by have := h.irq; omega, h.blk, by have := h.sum; omega⟩
theorem rec_len_few {x : Wd} (hx : WdMay x) {im : List Int} (hi : newNo im = 0) {k : Nat} (hk : k ≤ 3000) : (recN x im k).evs.length ≤ x.irqs.length + k := by
  obtain ⟨i, b, h⟩ := rec_few hx hi k hk
  have h1 := h.len
  have h2 := h.irq
  have h3 := h.blk
  have h4 := h.sum
  have h5 : irqsTo x k ≤ x.irqs.length := List.length_filter_le _ _
  omega

end Go.Proofs.YtecpblabaelopaaGreatDoor

/- A recording in a world of small words: its bytes are few, its tape may be, and is replayed. Plain. -/

namespace Go.Proofs.YtecpblabaelopaaGreatDoor
open Go.RowKit
set_option maxRecDepth 100000

def small8 (l : List Int) : Prop := ∀ x ∈ l, 0 ≤ x ∧ x ≤ 8
theorem zero16_small : small8 zero16 := fun x hx => by
  have : x = 0 := by unfold zero16 at hx; exact List.eq_of_mem_replicate hx
  omega
structure WdSmall (x : Wd) : Prop where
  may : WdMay x
  blk : ∀ b ∈ x.blocks, small8 b
  few : x.irqs.length ≤ 21
theorem WdSmall.at {x : Wd} (h : WdSmall x) (i : Nat) : small8 (x.blocks.getD i zero16) := by
  by_cases hi : i < x.blocks.length
  · have e : x.blocks.getD i zero16 = x.blocks[i] := by simp [List.getD, hi]
    rw [e]
    exact h.blk _ (List.getElem_mem hi)
  · have e : x.blocks.getD i zero16 = zero16 := by simp [List.getD, hi]
    rw [e]
    exact zero16_small
theorem sevens_len1 {n : Nat} (h : n < 128) : (sevens n).length = 1 := by rw [sevens_small h]; rfl
theorem zigs_len1 {z : Int} (h : -9 ≤ z ∧ z ≤ 9) : (zigs z).length = 1 := by
  unfold zigs
  split
  · exact sevens_len1 (by omega)
  · exact sevens_len1 (by omega)
theorem runsB_small : ∀ (l : List Int) (last : Int) (run : Nat), run + l.length ≤ 100 → (0 ≤ last ∧ last ≤ 8) → small8 l → (runsB last run l).length ≤ 2 * l.length
  | [], _, _, _, _, _ => by simp [runsB]
  | [x], last, run, hr, hl, hx => by
    have h1 := sevens_len1 (n := run + 1) (by simp at hr; omega)
    have hx0 := hx x (by simp)
    have h2 := zigs_len1 (z := x - last) (by omega)
    simp [runsB]
    omega
  | x :: y :: t, last, run, hr, hl, hx => by
    have hx0 := hx x (by simp)
    have h1 := sevens_len1 (n := run + 1) (by simp at hr; omega)
    have h2 := zigs_len1 (z := x - last) (by omega)
    by_cases h : y = x
    · have := runsB_small (y :: t) last (run + 1) (by simp at hr ⊢; omega) hl (fun z hz => hx z (List.mem_cons_of_mem _ hz))
      simp [runsB, h] at this ⊢
      omega
    · have := runsB_small (y :: t) x 0 (by simp at hr ⊢; omega) hx0 (fun z hz => hx z (List.mem_cons_of_mem _ hz))
      simp [runsB, h] at this ⊢
      omega
def EvSmall (e : Ev) : Prop := e.kind = 2 → small8 e.data
theorem dataB_small {e : Ev} (h : evNo e = 0) (hs : EvSmall e) : (dataB e).length ≤ 32 := by
  obtain ⟨hk, ha, hw, hl⟩ := evNo_bd h
  unfold dataB
  split
  · rename_i e2
    have h16 : e.data.length = 16 := by simp [wordsN, e2] at hl; omega
    have := runsB_small e.data 0 0 (by omega) (by simp) (hs e2)
    omega
  · split
    · rename_i e2 e3
      have h1 : e.data.length = 1 := by simp [wordsN, e3] at hl; omega
      have hm := allB_mem hw (e.data.getD 0 0) (by
        match e.data, h1 with
        | [a], _ => simp)
      have := zigs_len7 (z := e.data.getD 0 0) (by omega)
      omega
    · simp
theorem encFrom_small : ∀ (L : List Ev) (last : Int), 0 ≤ last → (∀ e ∈ L, evNo e = 0 ∧ EvSmall e) → (encFrom last L).length ≤ 39 * L.length
  | [], _, _, _ => by simp [encFrom]
  | e :: L, last, h0, h => by
    obtain ⟨h1, h2⟩ := h e (by simp)
    obtain ⟨hk, ha, hw, hl⟩ := evNo_bd h1
    have h3 := dataB_small h1 h2
    have h4 := sevens_len7 (n := (4 * (e.at_ - last) + e.kind).toNat) (by omega)
    have ih := encFrom_small L e.at_ (by omega) (fun x hx => h x (List.mem_cons_of_mem _ hx))
    simp only [encFrom, evB, List.length_append, List.length_cons]
    omega
theorem fullB_small {L : List Ev} (hl : L.length ≤ 1000) (h : ∀ e ∈ L, evNo e = 0 ∧ EvSmall e) : (fullB L).length ≤ 60000 := by
  have h1 := encFrom_small L 0 (by omega) h
  have h2 := sevens_len7 (n := L.length) (by omega)
  simp only [fullB, encB, sumB, List.length_append, List.length_cons, List.length_nil]
  omega
theorem rec_small {x : Wd} (hx : WdSmall x) {im : List Int} : ∀ k, ∀ e ∈ (recN x im k).evs, EvSmall e
  | 0, e, he => by simp [recN] at he
  | k + 1, e, he => by
    have ih := rec_small hx (im := im) k
    rw [recN] at he
    split at he
    · rw [RecS.next_evs, List.mem_append] at he
      rcases he with he | he
      · exact ih e he
      · unfold RecS.more RecS.evI RecS.evB RecS.evV at he
        simp only [List.mem_append] at he
        rcases he with (he | he) | he
        · split at he
          · simp at he
            subst he
            intro h2
            cases h2
          · simp at he
        · split at he
          · rename_i hd
            simp at he
            subst he
            intro _
            show small8 (RecS.blk _ _ _)
            unfold RecS.blk
            rw [if_pos hd]
            exact hx.at _
          · simp at he
        · split at he
          · simp at he
            subst he
            intro h2
            cases h2
          · simp at he
    · exact ih e he
structure RecFine (x : Wd) (im : List Int) (n : Nat) : Prop where
  small : WdSmall x
  im : newNo im = 0
  le : n ≤ 900
theorem RecFine.chk {x : Wd} {im : List Int} {n : Nat} (h : RecFine x im n) : chkNo (recN x im n).evs = 0 := by
  have h1 := rec_len_few h.small.may h.im (k := n) (by have := h.le; omega)
  have h2 := h.small.few
  have h3 := h.le
  exact rec_chk h.small.may (by omega) (by omega)
theorem RecFine.bytes {x : Wd} {im : List Int} {n : Nat} (h : RecFine x im n) : (fullB (recN x im n).evs).length ≤ 60000 := by
  have h1 := rec_len_few h.small.may h.im (k := n) (by have := h.le; omega)
  have h2 := h.small.few
  have h3 := h.le
  exact fullB_small (by omega) (fun e he => ⟨rec_may h.small.may n (by omega) e he, rec_small h.small n e he⟩)
def recC (x : Wd) (im : List Int) (n : Nat) : Nat := (recN x im n).m.count.toNat
theorem RecFine.ok {x : Wd} {im : List Int} {n : Nat} (h : RecFine x im n) : RecOk n (recN x im n) := rec_ok h.small.may h.im n (by have := h.le; omega)
theorem RecFine.cnt {x : Wd} {im : List Int} {n : Nat} (h : RecFine x im n) : (recN x im n).m.count = (recC x im n : Int) ∧ recC x im n ≤ n := by
  have h1 := h.ok.cle
  have h2 := h.ok.may.count
  unfold recC
  omega
theorem RecFine.fix {x : Wd} {im : List Int} {n : Nat} (h : RecFine x im n) : recN x im (recC x im n) = recN x im n := rec_fix h.small.may h.im n (by have := h.le; omega)
theorem RecFine.dec {x : Wd} {im : List Int} {n : Nat} (h : RecFine x im n) : decD (fullB (recN x im n).evs) = (0, (recN x im n).evs) := decD_full h.chk h.bytes
theorem RecFine.late {x : Wd} {im : List Int} {n : Nat} (h : RecFine x im n) : lateB (recC x im n) (recN x im n).evs = false := by
  refine late_all fun j hj hl => ?_
  have e : (recN x im n).evs = (recN x im (recC x im n)).evs := by rw [h.fix]
  have hm : (recN x im n).evs.getD j noEv ∈ (recN x im (recC x im n)).evs := by
    rw [← e]
    simp [List.getD, hj]
  have := rec_before _ _ hm
  omega
theorem RecFine.tape {x : Wd} {im : List Int} {n : Nat} (h : RecFine x im n) : tapeG im (fullB (recN x im n).evs) (recC x im n) = (0, (recN x im n).evs) := by
  have h1 := h.cnt
  have h2 := h.le
  have h3 : inB (recC x im n : Int) 0 3000 = true := inB_iff.2 (by omega)
  have h4 := h.late
  unfold tapeG
  rw [h.dec, if_neg (by rw [h.im]; simp), if_neg (by rw [h3]; simp), if_neg (by simp), if_neg (by simp [h4])]
theorem RecFine.at_ {x : Wd} {im : List Int} {n k : Nat} (h : RecFine x im n) (hk : k ≤ recC x im n) : replayM im (recN x im n).evs k = (recN x im k).m := by
  have h1 := h.cnt
  exact rec_replay _ (by omega) (fun j hj => rec_going h.small.may h.im (n := n) (by have := h.le; omega) (by show j < recC x im n; omega))
theorem RecFine.ends {x : Wd} {im : List Int} {n : Nat} (h : RecFine x im n) : replayM im (recN x im n).evs (recC x im n) = (recN x im n).m := by
  rw [h.at_ (Nat.le_refl _), h.fix]
theorem RecFine.replay {x : Wd} {im : List Int} {n k : Nat} (h : RecFine x im n) (hk : k ≤ recC x im n) : replayG im (fullB (recN x im n).evs) (recC x im n) k = (replayM im (recN x im n).evs k, 0) := by
  have h1 : inB (k : Int) 0 (recC x im n) = true := inB_iff.2 (by omega)
  unfold replayG
  rw [h.tape, if_neg (by simp), if_neg (by rw [h1]; simp)]
  rfl
theorem RecFine.far {x : Wd} {im : List Int} {n : Nat} (h : RecFine x im n) : replayG im (fullB (recN x im n).evs) (recC x im n) ((recC x im n : Int) + 1) = (noMach12, 2) := by
  have h1 : inB ((recC x im n : Int) + 1) 0 (recC x im n) = false := by
    cases e : inB ((recC x im n : Int) + 1) 0 (recC x im n) with
    | false => rfl
    | true => have := inB_iff.1 e; omega
  unfold replayG
  rw [h.tape, if_neg (by simp), if_pos h1]
theorem RecFine.ans {x : Wd} {im : List Int} {n : Nat} (h : RecFine x im n) (hw : worldNo x = 0) : recA x im n = ⟨0, im, fullB (recN x im n).evs, (recC x im n : Int), (recN x im n).m⟩ := by
  have h0 : recNo x im n = 0 := by
    unfold recNo
    have h2 := h.le
    have h3 : inB (n : Int) 0 3000 = true := inB_iff.2 (by omega)
    rw [if_neg (by rw [h.im]; simp), if_neg (by rw [hw]; simp), if_neg (by rw [h3]; simp)]
    exact h.chk
  rw [recA_ok h0, Int.toNat_natCast, h.cnt.1]

end Go.Proofs.YtecpblabaelopaaGreatDoor
