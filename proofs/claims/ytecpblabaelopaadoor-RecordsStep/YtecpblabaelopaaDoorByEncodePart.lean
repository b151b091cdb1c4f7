/- Contract of evlog.Encode. -/
import Derived.Test.YtecpblabaelopaaDoorEvCheckPart
import Derived.Test.YtecpblabaelopaaDoorSlCPart
import Derived.Test.YtecpblabaelopaaDoorRcNPart
import Derived.Test.YtecpblabaelopaaDoorMaySPart
namespace Go.Proofs.YtecpblabaelopaaDoor
open Go.RowKit
set_option maxRecDepth 100000

theorem Encode_no (v : Value) (L : List Ev) (w : World) (h : EvsAt w v L) (hL : Laid w) (hn : chkNo L ≠ 0) :
    Calls Tryd.prog 28 #[v] w fun e w' => e = .returned (.tuple #[.slice none 0 0, .int .i64 (chkNo L)]) ∧ Below w.heap.size w w' := by
  have HF : Hid (Calls Tryd.prog 42 #[v] w fun e w' => e = .returned (.int .i64 (chkNo L)) ∧ Below w.heap.size w w') := Check_any v L w h hL
  clear h hL
  revert HF hn
  generalize chkNo L = en
  intro hn HF
  go_enter Tryd.func28, Tryd.ntmps28
  go_wp2_with fail
  refine HF.out.mono ?_
  rintro e w1 ⟨rfl, hb⟩
  have HB : Hid (Below w.heap.size w w1) := hb
  clear hb HF
  go_wp2_with fail
  go_ret2
  exact ⟨rfl, HB.out⟩

set_option maxRecDepth 20000 in
set_option maxHeartbeats 4000000 in
theorem Encode_ok (v : Value) (L : List Ev) (w : World) (h : EvsF w v L) (hL : Laid w) (hn : chkNo L = 0) :
    Calls Tryd.prog 28 #[v] w fun e w' => ∃ v', e = .returned (.tuple #[v', .int .i64 0]) ∧ OwnB w' w.heap.size v' (fullB L) ∧ Below w.heap.size w w' := by
  have HF : Hid (Calls Tryd.prog 42 #[v] w fun e w' => e = .returned (.int .i64 (chkNo L)) ∧ Below w.heap.size w w') := Check_any v L w h.at_ hL
  rw [hn] at HF
  have HL : Hid ((encB L).length ≤ 231007 ∧ L.length ≤ 1000) := ⟨encB_len hn, (chk_zero hn).1⟩
  have HK : Hid (∀ k, k < L.length → evNo (L.getD k noEv) = 0 ∧ 0 ≤ prevAt L k ∧ prevAt L k ≤ (L.getD k noEv).at_) := ok_at hn
  have HV : Hid (EvsF w v L) := h
  obtain ⟨A, c, rfl, hl, hc⟩ := h.at_
  have hln := HL.out.2
  have HN : Hid (∀ W v1 (l1 : List Int) (n lo : Nat), OwnB W lo v1 l1 → lo ≤ W.heap.size → n < 100000 → l1.length ≤ 1000000 → Calls Tryd.prog 52 #[v1, .int .i64 n] W fun e w' => ∃ v', e = .returned v' ∧ Appd lo W w' v1 v' (l1 ++ sevens n)) := fun W v1 l1 n lo ho hlo hn hl => appendNumber_any v1 l1 n lo W ho hlo (by omega) (by have := sevens_len7 (n := n) (by omega); omega)
  clear h hL hn
  obtain ⟨i0, hi, hz0, hz1, hz2⟩ := info_parts infoByte
  go_enter Tryd.func28, Tryd.ntmps28
  go_wp2_with fail
  refine HF.out.mono ?_
  rintro e w1 ⟨rfl, hb⟩
  have HB1 : Hid (Below w.heap.size w w1) := hb
  have hs1 := hb.size
  clear hb HF
  go_wp2_with fail
  refine (HN.out _ _ [] L.length w1.heap.size (OwnB.nil _ _) (Nat.le_refl _) (by omega) (by simp)).mono ?_
  rintro e w2 ⟨v1, rfl, ha⟩
  have HA0 : Hid (Appd w1.heap.size w1 w2 (.slice none 0 0) v1 (sevens L.length)) := ha
  clear ha
  go_wp2_with fail
  go_loopw [5, 6, 19] (fun o t i wr => ∃ (k : Nat) (bs' : List Int), k ≤ L.length ∧ i = .int .i64 k ∧ t = .int .i64 (prevAt L k) ∧ Hid (encB L = bs' ++ encFrom (prevAt L k) (L.drop k)) ∧ Hid (Appd w1.heap.size w1 wr (.slice none 0 0) o bs')) (fun _ _ i _ => L.length - (intOf i).toNat)
  case atStart => exact ⟨0, sevens L.length, Nat.zero_le _, rfl, rfl, rfl, HA0⟩
  case round =>
    obtain ⟨k, bs', hk, rfl, rfl, hE, hA⟩ := hrel
    have hsz := hA.out.old.size
    have hbl : bs'.length ≤ 231007 := by
      have h1 := congrArg List.length hE.out
      have h2 := HL.out.1
      simp at h1
      omega
    by_cases hlt : k < L.length
    · obtain ⟨b, off, rfl, hbs, hcell⟩ := hc (by omega)
      obtain ⟨x0, x1, vx, x2, xi⟩ := hcell k hlt
      obtain ⟨he, hp0, hp1⟩ := HK.out k hlt
      have hfit := HV.out.fit b off c rfl k hlt vx x2
      have HE : Hid (encB L = (bs' ++ sevens (4 * ((L.getD k noEv).at_ - prevAt L k) + (L.getD k noEv).kind).toNat ++ dataB (L.getD k noEv)) ++ encFrom (prevAt L (k + 1)) (L.drop (k + 1))) := by
        show _ = _
        rw [hE.out, enc_step hlt, prevAt_succ]
        simp [List.append_assoc]
      have HP : Hid (prevAt L (k + 1) = (L.getD k noEv).at_) := prevAt_succ L k
      clear hE hc hcell HK HV
      revert x0 x1 xi he hp0 hp1 HE HP
      generalize L.getD k noEv = x
      generalize prevAt L k = last
      intro x0 x1 xi he hp0 hp1 HE HP
      obtain ⟨xa, xk, xd⟩ := x
      simp only at x0 x1 xi hp1 HE HP
      obtain ⟨hkk, haa, -, -⟩ := evNo_bd he
      simp only at hkk haa
      have HXI : Hid (IntsAt w vx xd) := xi
      have HHB : Hid (∀ b off n c, 0 < xd.length → vx = .slice (some ⟨b, off, none⟩) n c → b < w1.heap.size) := fun b' off' n' c' h0 e => by
        obtain ⟨A2, c2, e2, _, hcc⟩ := xi
        obtain ⟨b3, off3, e3, hlt3, _⟩ := hcc h0
        rw [e] at e2
        simp only [Value.slice.injEq] at e2
        have e4 := e2.1.trans e3
        simp only [Option.some.injEq, Addr.mk.injEq] at e4
        omega
      have HFT : Hid (Fits vx) := hfit
      obtain ⟨A1, c1, rfl, hl1, -⟩ := xi
      have hB : Below w.heap.size w wr := HB1.out.trans (hA.out.old.mono hs1)
      have y0 := (hB.cell (p := ⟨b, off + k * 3, none⟩) hbs).trans x0
      have y1 := (hB.cell (p := ⟨b, off + k * 3 + 1, none⟩) hbs).trans x1
      have y2 := (hB.cell (p := ⟨b, off + k * 3 + 2, none⟩) hbs).trans x2
      have HB : Hid (Below w.heap.size w wr) := hB
      have hw1 : IntKind.i64.wrap (xa - last) = xa - last := IntWalk.i64_in _ (by omega)
      have hw2 : IntKind.i64.wrap (4 * (xa - last)) = 4 * (xa - last) := IntWalk.i64_in _ (by omega)
      have hw3 : IntKind.i64.wrap (4 * (xa - last) + xk) = 4 * (xa - last) + xk := IntWalk.i64_in _ (by omega)
      obtain ⟨n, hnn⟩ : ∃ n : Nat, (n : Int) = 4 * (xa - last) + xk := ⟨(4 * (xa - last) + xk).toNat, by omega⟩
      have hn100 : n < 100000 := by omega
      have HNN : Hid ((n : Int) = 4 * (xa - last) + xk) := hnn
      rw [show (4 * (xa - last) + xk).toNat = n by omega] at HE
      have HD : Hid (∀ W v1 (l1 : List Int), Below w.heap.size w W → OwnB W w1.heap.size v1 l1 → w1.heap.size ≤ W.heap.size → l1.length ≤ 1000000 → Calls Tryd.prog 53 #[v1, .agg #[.int .i64 xa, .int .i64 xk, .slice A1 xd.length c1]] W fun e w' => ∃ v', e = .returned v' ∧ Appd w1.heap.size W w' v1 v' (l1 ++ dataB ⟨xa, xk, xd⟩)) := fun W v1 l1 hB ho hlo hl => appendData_any v1 _ l1 xa xk xd w1.heap.size W ho hlo he (HXI.out.below hB) HFT.out HHB.out hl
      clear x0 x1 x2 hfit hB he HXI HHB HFT hnn hp0 hp1 hkk haa
      go_wp2_with fail
      rw [← HNN.out]
      refine (HN.out _ _ bs' n w1.heap.size (OwnB.below hA.out.own (below_alloc _ _)) (by simp; omega) hn100 (by omega)).mono ?_
      rintro e w3 ⟨v3, rfl, ha3⟩
      have hne : u5.ownBlock ≠ some wr.heap.size := own_ne (e' := 51) (OwnB.below hA.out.own (below_alloc _ (.cells #[.int .i64 xa, .int .i64 xk, .slice A1 xd.length c1] 51))) (Go.Deep.blk_alloc_new _ _) (by decide)
      have hbox : w3.heap[wr.heap.size]? = some (.cells #[.int .i64 xa, .int .i64 xk, .slice A1 xd.length c1] 51 (0, 0)) := by rw [ha3.grown.block _ (by simp) hne]; exact Go.Deep.blk_alloc_new _ _
      obtain ⟨z0, z1, z2, zf, zl⟩ := three_cells hbox
      have HBX : Hid (w3.heap[wr.heap.size]? = some (.cells #[.int .i64 xa, .int .i64 xk, .slice A1 xd.length c1] 51 (0, 0))) := hbox
      have HA3 : Hid (Appd w1.heap.size w1 w3 (.slice none 0 0) v3 (bs' ++ sevens n)) := hA.out.trans (ha3.pre (below_alloc _ _) (by omega))
      have hl3 : (bs' ++ sevens n).length ≤ 1000000 := by
        have := sevens_len7 (n := n) (by omega)
        simp
        omega
      have hs3 := HA3.out.old.size
      clear ha3 hne hbox y0 y1 y2 hA
      go_wp2_with fail
      refine (HD.out _ _ _ (HB1.out.trans (HA3.out.old.mono hs1)) HA3.out.own hs3 hl3).mono ?_
      rintro e w4 ⟨v4, rfl, ha4⟩
      have hne : v3.ownBlock ≠ some wr.heap.size := own_ne HA3.out.own HBX.out (by decide)
      have hbox : w4.heap[wr.heap.size]? = some (.cells #[.int .i64 xa, .int .i64 xk, .slice A1 xd.length c1] 51 (0, 0)) := by rw [ha4.grown.block _ zl hne]; exact HBX.out
      have HA4 : Hid (Appd w1.heap.size w1 w4 (.slice none 0 0) v4 (bs' ++ sevens n ++ dataB ⟨xa, xk, xd⟩)) := HA3.out.trans ha4
      clear ha4 hne HA3 HD HBX z0 z1 z2 zf zl
      obtain ⟨z0, z1, z2, zf, zl⟩ := three_cells hbox
      clear hbox
      go_wp2_with fail
      refine ⟨⟨k + 1, _, by omega, by go_num, by rw [HP.out], HE, HA4⟩, ?_⟩
      simp [intOf]; omega
    · have HS : Hid (bs' = encB L) := by
        show _ = _
        rw [hE.out, List.drop_eq_nil_of_le (by omega)]
        simp [encFrom]
      have HA : Hid (Appd w1.heap.size w1 wr (.slice none 0 0) u5 (encB L)) := HS.out ▸ hA.out
      have HFB : Hid (fullB L = encB L ++ sumB (encB L)) := rfl
      have HLL : Hid ((encB L).length ≤ 231007) := HL.out.1
      have HBY : Hid (∀ x ∈ encB L, 0 ≤ x ∧ x ≤ 255) := encB_byte L
      clear hE hA HS hc HK HV HN HL
      revert HA HFB HLL HBY
      generalize hfl : fullB L = fl
      generalize encB L = el
      intro HA HFB HLL HBY
      have HQ : Hid (fullB L = fl) := hfl
      clear hfl
      have hsz' := HA.out.old.size
      go_wp2_with fail
      refine (sum_any _ el _ (HA.out.own.read (by have := HLL.out; omega) HBY.out)).mono ?_
      rintro e w3 ⟨g, rfl, ho3, hb3⟩
      obtain ⟨g', cap', hv', hlo', hlt', hcc⟩ := ho3.at (by simp [sumB])
      simp only [Value.slice.injEq, Option.some.injEq, Addr.mk.injEq] at hv'
      obtain ⟨⟨rfl, -, -⟩, -, rfl⟩ := hv'
      have HC : Hid (∀ j u, ((sumB el).map (Value.int .u8))[j]? = some u → w3.cell? ((⟨g, 0, none⟩ : Addr).add j) = some u) := hcc
      have HO : Hid (OwnB w3 w1.heap.size u5 el) := HA.out.own.below hb3
      have HB3 : Hid (Below w1.heap.size w1 w3) := HA.out.old.trans (hb3.mono hsz')
      have HS4 : Hid ((sumB el).length = 4) := rfl
      clear ho3 hb3 hcc
      revert HC HS4 HFB
      generalize sumB el = sl
      intro HFB HC HS4
      go_wp2_with (first
        | (at_builtin; refine wpList_append_own_at _ rfl _ _ 24 rfl w1.heap.size 5 i0 (.int .u8 0) 1 1 Tryd.underlying24 hi hz0 hz1 hz2 rfl (by decide) u5 el.length (el.map (Value.int .u8)) rfl HO.out ⟨g, 0, none⟩ 4 4 (sl.map (Value.int .u8)) rfl (by simp [HS4.out]) HC.out (bytes_oneCell _) ?c3 ?c4 ?c5 ?_))
      case c3 => have := HLL.out; unfold maxLen; omega
      case c4 => have := HLL.out; omega
      case c5 => exact HB3.out.size
      intro v' w4 hown' hgrow _ _
      have HR : Hid (OwnB w4 w.heap.size v' fl ∧ Below w.heap.size w w4) := ⟨OwnB.mono (OwnB.of (l := el) (m := sl) hown' rfl HS4.out.symm HFB.out) hs1, HB1.out.trans ((HB3.out.grown hgrow HB3.out.size (fun k hk => (World.ownsRow.lt HO.out k hk).1)).mono hs1)⟩
      clear hown' hgrow
      go_wp2_with fail
      go_ret2
      exact ⟨v', rfl, by rw [HQ.out]; exact HR.out.1, HR.out.2⟩

end Go.Proofs.YtecpblabaelopaaDoor

/- Contract of run.Record: what it answers; the boxes. -/

namespace Go.Proofs.YtecpblabaelopaaDoor
open Go.RowKit
set_option maxRecDepth 100000

/-- What is refused, and by what number. -/
def recNo (x : Wd) (im : List Int) (n : Int) : Int :=
  if newNo im ≠ 0 then newNo im else if worldNo x ≠ 0 then worldNo x else if inB n 0 3000 = false then 2 else chkNo (recN x im n.toNat).evs
/-- What a recording answers: the number, the image, the bytes, the count, the guest. -/
structure RecA where
  no : Int
  im : List Int
  bs : List Int
  cnt : Int
  m : Mach
def recNone : Mach := ⟨[], 0, 0, false, false, 0, 0, 0, [], [], 0, 0⟩
def recA (x : Wd) (im : List Int) (n : Int) : RecA :=
  if recNo x im n ≠ 0 then ⟨recNo x im n, [], [], 0, recNone⟩ else ⟨0, im, fullB (recN x im n.toNat).evs, (recN x im n.toNat).m.count, (recN x im n.toNat).m⟩
theorem recA_no {x : Wd} {im : List Int} {n k : Int} (h : recNo x im n = k) (hk : k ≠ 0) : recA x im n = ⟨k, [], [], 0, recNone⟩ := by
  unfold recA
  rw [h, if_pos hk]
theorem recA_ok {x : Wd} {im : List Int} {n : Int} (h : recNo x im n = 0) : recA x im n = ⟨0, im, fullB (recN x im n.toNat).evs, (recN x im n.toNat).m.count, (recN x im n.toNat).m⟩ := by
  unfold recA
  rw [h, if_neg (by simp)]
/-- The answer in memory: of the call's own. -/
def RecQ (w : World) (G : RecA) (e : Ending) (w' : World) : Prop :=
  ∃ ti te A1 d1 A2 d2 A3 d3, e = .returned (.tuple #[.agg #[ti, te, .int .i64 G.cnt], .agg (G.m.cells (.slice A1 G.m.regs.length d1) (.slice A2 G.m.mem.length d2) (.slice A3 G.m.out.length d3)), .int .i64 G.no]) ∧ OwnI w' w.heap.size ti G.im ∧ OwnB w' w.heap.size te G.bs ∧ OwnM w' w.heap.size (.slice A1 G.m.regs.length d1) (.slice A2 G.m.mem.length d2) (.slice A3 G.m.out.length d3) G.m ∧ Below w.heap.size w w'
theorem recQ_no {w w' : World} {k : Int} (hb : Below w.heap.size w w') : RecQ w ⟨k, [], [], 0, recNone⟩ (.returned (.tuple #[.agg #[.slice none 0 0, .slice none 0 0, .int .i64 0], .agg zeroM, .int .i64 k])) w' :=
  ⟨.slice none 0 0, .slice none 0 0, none, 0, none, 0, none, 0, rfl, World.ownsRow_nil _ _ _ _, OwnB.nil _ _, ⟨World.ownsRow_nil _ _ _ _, World.ownsRow_nil _ _ _ _, World.ownsRow_nil _ _ _ _, fun g e => by simp [Value.ownBlock] at e, fun g e => by simp [Value.ownBlock] at e, fun g e => by simp [Value.ownBlock] at e⟩, hb⟩

abbrev zeroT : Array Value := #[.slice none 0 0, .slice none 0 0, .int .i64 0]
/-- The boxes of a call of Record, with the guest in one of them. -/
structure RBox (w w' : World) (wv : Array Value) (b : Nat) (rv mv ov : Value) (M : Mach) : Prop where
  wb : w'.heap[w.heap.size]? = some (.cells wv 47 (0, 0))
  tb : w'.heap[w.heap.size + 1]? = some (.cells zeroT 26 (0, 0))
  rb : w'.heap[w.heap.size + 1 + 1]? = some (.cells zeroM 28 (0, 0))
  mb : w'.heap[b]? = some (.cells (M.cells rv mv ov) 28 (0, 0))
  own : OwnM w' w.heap.size rv mv ov M
  old : Below w.heap.size w w'
  hb : w.heap.size + 1 + 1 < b
theorem RBox.below {w w' w'' : World} {wv : Array Value} {b : Nat} {rv mv ov : Value} {M : Mach} (h : RBox w w' wv b rv mv ov M) (hb : Below w'.heap.size w' w'') : RBox w w'' wv b rv mv ov M :=
  ⟨(hb.block _ (lt_of_block h.wb)).trans h.wb, (hb.block _ (lt_of_block h.tb)).trans h.tb, (hb.block _ (lt_of_block h.rb)).trans h.rb, (hb.block _ (lt_of_block h.mb)).trans h.mb, h.own.below hb, h.old.trans (hb.mono h.old.size), h.hb⟩
theorem RBox.kp {w w' w'' : World} {wv : Array Value} {b : Nat} {rv mv ov : Value} {M : Mach} (h : RBox w w' wv b rv mv ov M) (hb : KpI w.heap.size w' w'') : RBox w w'' wv b rv mv ov M :=
  ⟨hb.kept _ _ _ mutW h.wb, hb.kept _ _ _ mutT h.tb, hb.kept _ _ _ mutM h.rb, hb.kept _ _ _ mutM h.mb, h.own.kp hb, h.old.trans hb.old, h.hb⟩
theorem RBox.put {w w' : World} {wv : Array Value} {b : Nat} {rv mv ov rv' mv' ov' : Value} {M N : Mach} (h : RBox w w' wv b rv mv ov M) (ho : OwnM w' w.heap.size rv' mv' ov' N) :
    RBox w (set12 w' b rv' (.int .i64 N.pc) (.int .i64 N.back) (.bool N.ints) (.bool N.wait) (.int .i64 N.table) (.int .i64 N.count) (.int .i64 N.fin) mv' ov' (.int .i64 N.ready) (.int .i64 N.want)) wv b rv' mv' ov' N := by
  have hb := h.hb
  refine ⟨(heap_set12 (by omega) _ _ _ _ _ _ _ _ _ _ _ _).trans h.wb, (heap_set12 (by omega) _ _ _ _ _ _ _ _ _ _ _ _).trans h.tb, (heap_set12 (by omega) _ _ _ _ _ _ _ _ _ _ _ _).trans h.rb, ?_, ho.set12 ⟨_, h.mb⟩ _ _ _ _ _ _ _ _ _ _ _ _, below_set12 h.old (by omega) _ _ _ _ _ _ _ _ _ _ _ _, hb⟩
  exact box_set12 h.mb rfl _ _ _ _ _ _ _ _ _ _ _ _
theorem three_boxes {w : World} {o1 o2 o3 : Obj} : (((w.alloc o1).alloc o2).alloc o3).heap[w.heap.size]? = (w.alloc o1).heap[w.heap.size]? ∧ (((w.alloc o1).alloc o2).alloc o3).heap[w.heap.size + 1]? = ((w.alloc o1).alloc o2).heap[w.heap.size + 1]? ∧ Below w.heap.size w (((w.alloc o1).alloc o2).alloc o3) := by
  refine ⟨?_, ?_, ((below_alloc w o1).alloc (by simp) o2).alloc (by simp; omega) o3⟩
  · rw [(below_alloc ((w.alloc o1).alloc o2) o3).block _ (by simp; omega), (below_alloc (w.alloc o1) o2).block _ (by simp)]
  · rw [(below_alloc ((w.alloc o1).alloc o2) o3).block _ (by simp)]

end Go.Proofs.YtecpblabaelopaaDoor

/- One byte that is another one is told by the sum. -/

namespace Go.Proofs.YtecpblabaelopaaDoor
open Go.RowKit
set_option maxRecDepth 100000

theorem sumP_fst (l : List Int) : (sumP l).1 = (1 + l.sum) % 65521 := by
  have key : ∀ (l : List Int) (s : Int × Int), 0 ≤ s.1 ∧ s.1 < 65521 → (l.foldl sumStep s).1 = (s.1 + l.sum) % 65521 := by
    intro l
    induction l with
    | nil => intro s h; simp; omega
    | cons b l ih =>
      intro s h
      rw [List.foldl_cons, ih _ (by simp only [sumStep]; omega), List.sum_cons]
      simp only [sumStep]
      omega
  exact key l (1, 0) (by simp)

theorem sum_set {l : List Int} {k : Nat} (hk : k < l.length) (z : Int) : (l.set k z).sum = l.sum - l.getD k 0 + z := by
  induction l generalizing k with
  | nil => simp at hk
  | cons a l ih =>
    cases k with
    | zero => simp; omega
    | succ k =>
      simp at hk
      have := ih hk
      simp only [List.set_cons_succ, List.sum_cons, List.getD_cons_succ]
      omega

theorem sumB_inj {l m : List Int} (h : sumB l = sumB m) : (sumP l).1 = (sumP m).1 := by
  simp only [sumB, List.cons.injEq] at h
  omega

theorem spoilt {l : List Int} {k : Nat} (hl : ∀ x ∈ l, 0 ≤ x ∧ x ≤ 255) (hk : k < (l ++ sumB l).length) {z : Int} (hz : 0 ≤ z ∧ z ≤ 255) (hne : z ≠ (l ++ sumB l).getD k 0) :
    ((l ++ sumB l).set k z).drop l.length ≠ sumB (((l ++ sumB l).set k z).take l.length) := by
  by_cases h : k < l.length
  · rw [List.set_append_left _ _ h]
    have e1 : (l.set k z ++ sumB l).drop l.length = sumB l := List.drop_left' (by simp)
    have e2 : (l.set k z ++ sumB l).take l.length = l.set k z := List.take_left' (by simp)
    rw [e1, e2]
    intro e
    have hp := sumB_inj e
    rw [sumP_fst, sumP_fst, sum_set h] at hp
    have hg : (l ++ sumB l).getD k 0 = l.getD k 0 := by simp [List.getD, List.getElem?_append_left h]
    rw [hg] at hne
    have hb := hl (l.getD k 0) (by simp [List.getD, h])
    omega
  · rw [List.set_append_right _ _ (by omega), List.drop_left, List.take_left]
    intro e
    have hk4 : k - l.length < (sumB l).length := by simp at hk; omega
    have := congrArg (fun m => m.getD (k - l.length) 0) e
    simp [List.getD, hk4] at this
    apply hne
    rw [this]
    simp [List.getD, List.getElem?_append_right (show l.length ≤ k by omega)]
    rw [List.getElem?_eq_getElem hk4]
    simp

theorem encB_len30 {L : List Ev} (h : chkNo L = 0) (h30 : L.length ≤ 30) : (encB L).length ≤ 6937 := by
  have h1 := encFrom_len L 0 (by simp) (ok_mem h)
  have h2 := sevens_len7 (n := L.length) (by omega)
  simp [encB]
  omega

theorem fullB_byte (L : List Ev) : ∀ x ∈ fullB L, 0 ≤ x ∧ x ≤ 255 := fun x hx => by
  rcases List.mem_append.1 hx with h | h
  · exact encB_byte L x h
  · exact sumB_byte _ x h

end Go.Proofs.YtecpblabaelopaaDoor

/- Bytes read as events: plain notions, and that reading is the other way round of writing. -/

namespace Go.Proofs.YtecpblabaelopaaDoor
open Go.RowKit
set_option maxRecDepth 100000

/-- What was read: what is wrong (0: nothing), it, and what is left. -/
structure Got (α : Type) where
  no : Int
  val : α
  rest : List Int
/-- A number, from its byte i on. -/
def numG : Nat → Int → Int → List Int → Got Int
  | _, _, _, [] => ⟨5, 0, []⟩
  | i, n, u, b :: t => if i = 7 then ⟨4, 0, []⟩ else if 128 ≤ b then numG (i + 1) (n + b % 128 * u) (u * 128) t else if b = 0 ∧ 0 < i then ⟨4, 0, []⟩ else ⟨0, n + b % 128 * u, t⟩
def numD (l : List Int) : Got Int := numG 0 0 1 l
/-- The number of any kind that stands there as n. -/
def anyK (n : Int) : Int := if n % 2 = 1 then -((n + 1) / 2) else n / 2
def runsD : Nat → List Int → Int → List Int → Got (List Int)
  | 0, got, _, l => ⟨0, got, l⟩
  | f + 1, got, last, l =>
    if got.length < 16 then
      if (numD l).no ≠ 0 then ⟨(numD l).no, [], []⟩ else
      if (numD (numD l).rest).no ≠ 0 then ⟨(numD (numD l).rest).no, [], []⟩ else
      if (numD l).val < 1 ∨ 16 - (got.length : Int) < (numD l).val ∨ ((numD (numD l).rest).val = 0 ∧ 0 < got.length) then ⟨4, [], []⟩ else
      runsD f (got ++ List.replicate (numD l).val.toNat (last + anyK (numD (numD l).rest).val)) (last + anyK (numD (numD l).rest).val) (numD (numD l).rest).rest
    else ⟨0, got, l⟩
def eventD (last : Int) (l : List Int) : Got Ev :=
  if (numD l).no ≠ 0 then ⟨(numD l).no, noEv, []⟩ else
  if (numD l).val % 4 = 1 then ⟨0, ⟨last + (numD l).val / 4, 1, []⟩, (numD l).rest⟩ else
  if (numD l).val % 4 = 2 then
    if (runsD 16 [] 0 (numD l).rest).no ≠ 0 then ⟨(runsD 16 [] 0 (numD l).rest).no, noEv, []⟩ else ⟨0, ⟨last + (numD l).val / 4, 2, (runsD 16 [] 0 (numD l).rest).val⟩, (runsD 16 [] 0 (numD l).rest).rest⟩ else
  if (numD l).val % 4 = 3 then
    if (numD (numD l).rest).no ≠ 0 then ⟨(numD (numD l).rest).no, noEv, []⟩ else ⟨0, ⟨last + (numD l).val / 4, 3, [anyK (numD (numD l).rest).val]⟩, (numD (numD l).rest).rest⟩ else
  ⟨3, noEv, []⟩
def eventsD : Nat → Int → List Ev → List Int → Got (List Ev)
  | 0, _, got, l => ⟨0, got, l⟩
  | n + 1, last, got, l => if (eventD last l).no ≠ 0 then ⟨(eventD last l).no, [], []⟩ else eventsD n (eventD last l).val.at_ (got ++ [(eventD last l).val]) (eventD last l).rest
def allD (l : List Int) : Got (List Ev) :=
  if (numD l).no ≠ 0 then ⟨(numD l).no, [], []⟩ else
  if 1000 < (numD l).val then ⟨1, [], []⟩ else
  if (eventsD (numD l).val.toNat 0 [] (numD l).rest).no ≠ 0 then ⟨(eventsD (numD l).val.toNat 0 [] (numD l).rest).no, [], []⟩ else
  if 0 < (eventsD (numD l).val.toNat 0 [] (numD l).rest).rest.length then ⟨4, [], []⟩ else eventsD (numD l).val.toNat 0 [] (numD l).rest
def decD (l : List Int) : Int × List Ev :=
  if 60000 < l.length then (1, []) else
  if l.length ≤ 4 then (5, []) else
  if l.drop (l.length - 4) ≠ sumB (l.take (l.length - 4)) then (10, []) else
  if (allD (l.take (l.length - 4))).no ≠ 0 then ((allD (l.take (l.length - 4))).no, []) else
  if chkNo (allD (l.take (l.length - 4))).val ≠ 0 then (chkNo (allD (l.take (l.length - 4))).val, []) else (0, (allD (l.take (l.length - 4))).val)

/-- Numbers. -/
theorem numG_sevens : ∀ (k i n : Nat) (m u : Int) (t : List Int), i + k = 7 → n < 128 ^ k → (n = 0 → i = 0) → numG i m u (sevens n ++ t) = ⟨0, m + n * u, t⟩
  | 0, i, n, m, u, t, hk, hn, h0 => by
    simp at hn
    have := h0 hn
    omega
  | k + 1, i, n, m, u, t, hk, hn, h0 => by
    have h7 : ¬ i = 7 := by omega
    by_cases h1 : n < 128
    · rw [sevens_small h1, List.singleton_append, numG, if_neg h7, if_neg (by omega), if_neg (by omega)]
      rw [show (n : Int) % 128 = n by omega]
    · rw [sevens_more h1, List.cons_append, numG, if_neg h7, if_pos (by omega)]
      have hd : n / 128 < 128 ^ k := Nat.div_lt_of_lt_mul (by rw [Nat.pow_succ] at hn; omega)
      rw [numG_sevens k (i + 1) (n / 128) _ _ t (by omega) hd (by omega)]
      have e : (((128 + n % 128 : Nat) : Int) % 128) * u + ((n / 128 : Nat) : Int) * (u * 128) = (n : Int) * u := by
        rw [Int.mul_comm u 128, ← Int.mul_assoc, ← Int.add_mul]
        congr 1
        omega
      rw [Int.add_assoc, e]
theorem numD_sevens {n : Nat} (t : List Int) (hn : n < 562949953421312) : numD (sevens n ++ t) = ⟨0, n, t⟩ := by
  rw [numD, numG_sevens 7 0 n 0 1 t rfl (by simpa using hn) (fun _ => rfl)]
  simp
theorem numG_back : ∀ (l : List Int) (i : Nat) (m u : Int), (∀ x ∈ l, 0 ≤ x ∧ x ≤ 255) → i ≤ 7 → (numG i m u l).no = 0 → ∃ n : Nat, l = sevens n ++ (numG i m u l).rest ∧ (numG i m u l).val = m + n * u ∧ n < 128 ^ (7 - i) ∧ (n = 0 → i = 0)
  | [], i, m, u, hb, hi, h => by simp [numG] at h
  | b :: l, i, m, u, hb, hi, h => by
    have hb0 := hb b (by simp)
    rw [numG] at h ⊢
    split at h
    · simp at h
    · rename_i h7
      rw [if_neg h7]
      split at h
      · rename_i h1
        rw [if_pos h1]
        obtain ⟨n, e1, e2, e3, e4⟩ := numG_back l (i + 1) (m + b % 128 * u) (u * 128) (fun x hx => hb x (List.mem_cons_of_mem _ hx)) (by omega) h
        have hn : n ≠ 0 := fun e => by have := e4 e; omega
        refine ⟨b.toNat % 128 + 128 * n, ?_, ?_, ?_, by omega⟩
        · rw [sevens_more (by omega), List.cons_append]
          rw [show (b.toNat % 128 + 128 * n) / 128 = n by omega, ← e1]
          congr 1
          omega
        · rw [e2]
          have e : b % 128 * u + (n : Int) * (u * 128) = ((b.toNat % 128 + 128 * n : Nat) : Int) * u := by
            rw [Int.mul_comm u 128, ← Int.mul_assoc, ← Int.add_mul]
            congr 1
            omega
          rw [Int.add_assoc, e]
        · rw [show 7 - i = (7 - (i + 1)) + 1 by omega, Nat.pow_succ]
          omega
      · rename_i h1
        rw [if_neg h1]
        split at h
        · simp at h
        · rename_i h2
          rw [if_neg h2]
          refine ⟨b.toNat, ?_, ?_, ?_, fun e => ?_⟩
          · rw [sevens_small (by omega), List.singleton_append]
            congr 1
            omega
          · show m + b % 128 * u = _
            rw [show b % 128 = (b.toNat : Int) by omega]
          · rw [show 7 - i = (6 - i) + 1 by omega, Nat.pow_succ]
            have : 0 < 128 ^ (6 - i) := Nat.pow_pos (by omega)
            omega
          · by_cases hi0 : i = 0
            · exact hi0
            · exact absurd ⟨by omega, by omega⟩ h2
theorem numD_back {l : List Int} (hb : ∀ x ∈ l, 0 ≤ x ∧ x ≤ 255) (h : (numD l).no = 0) : ∃ n : Nat, l = sevens n ++ (numD l).rest ∧ (numD l).val = n ∧ n < 562949953421312 := by
  obtain ⟨n, h1, h2, h3, _⟩ := numG_back l 0 0 1 hb (by omega) h
  exact ⟨n, h1, by rw [numD, h2]; omega, by simpa using h3⟩
theorem rest_byte {l a r : List Int} (hb : ∀ x ∈ l, 0 ≤ x ∧ x ≤ 255) (h : l = a ++ r) : ∀ x ∈ r, 0 ≤ x ∧ x ≤ 255 := fun x hx => hb x (by rw [h]; exact List.mem_append_right _ hx)

/-- Numbers of any kind. -/
theorem zigs_of {z : Int} : ∃ n : Nat, zigs z = sevens n ∧ anyK n = z ∧ (-281474976710656 < z → z < 281474976710656 → n < 562949953421312) ∧ (n = 0 → z = 0) := by
  unfold zigs
  split
  · exact ⟨_, rfl, by unfold anyK; split <;> omega, by omega, by omega⟩
  · exact ⟨_, rfl, by unfold anyK; split <;> omega, by omega, by omega⟩
theorem zigs_anyK (n : Nat) : zigs (anyK n) = sevens n := by
  unfold zigs anyK
  split <;> split <;> congr 1 <;> omega
theorem anyK_zero {n : Nat} : anyK n = 0 ↔ n = 0 := by
  unfold anyK
  split <;> omega

/-- Runs. -/
theorem runsB_rep (x : Int) (e : List Int) (he : e.head? ≠ some x) : ∀ (a : Nat) (last : Int) (run : Nat), runsB last run (List.replicate (a + 1) x ++ e) = sevens (run + a + 1) ++ zigs (x - last) ++ runsB x 0 e
  | 0, last, run => by
    cases e with
    | nil => simp [runsB]
    | cons y t =>
      have : ¬ y = x := fun h => he (by simp [h])
      simp [runsB, this]
  | a + 1, last, run => by
    rw [List.replicate_succ, List.replicate_succ, List.cons_append, List.cons_append]
    rw [show runsB last run (x :: x :: (List.replicate a x ++ e)) = runsB last (run + 1) (x :: (List.replicate a x ++ e)) by simp [runsB]]
    rw [← List.cons_append, ← List.replicate_succ, runsB_rep x e he a last (run + 1)]
    rw [show run + 1 + a + 1 = run + (a + 1) + 1 by omega]
theorem split_rep (x : Int) : ∀ t : List Int, ∃ a e, x :: t = List.replicate (a + 1) x ++ e ∧ e.head? ≠ some x
  | [] => ⟨0, [], by simp, by simp⟩
  | y :: t => by
    by_cases h : y = x
    · subst h
      obtain ⟨a, e, h1, h2⟩ := split_rep y t
      exact ⟨a + 1, e, by rw [List.replicate_succ, List.cons_append, ← h1], h2⟩
    · exact ⟨0, y :: t, by simp, by simp [h]⟩
theorem runsD_runsB : ∀ (f : Nat) (got : List Int) (last : Int) (d t : List Int), got.length + d.length = 16 → d.length ≤ f → (-1099511627776 ≤ last ∧ last ≤ 1099511627776) → (∀ x ∈ d, -1099511627776 ≤ x ∧ x ≤ 1099511627776) → (0 < got.length → d.head? ≠ some last) → runsD f got last (runsB last 0 d ++ t) = ⟨0, got ++ d, t⟩
  | 0, got, last, d, t, h1, h2, _, _, _ => by
    obtain rfl : d = [] := List.length_eq_zero_iff.1 (by omega)
    simp [runsD, runsB]
  | f + 1, got, last, [], t, h1, h2, _, _, _ => by
    simp at h1
    simp [runsD, runsB, h1]
  | f + 1, got, last, x :: d, t, h1, h2, hl, hw, hh => by
    obtain ⟨a, e, h3, h4⟩ := split_rep x d
    rw [h3] at h1 h2 hw
    have hx := hw x (by simp)
    rw [h3, runsB_rep x e h4]
    simp at h1 h2
    obtain ⟨n, z1, z2, z3, z4⟩ := zigs_of (z := x - last)
    have z3' := z3 (by omega) (by omega)
    have n1 : numD (sevens (0 + a + 1) ++ zigs (x - last) ++ runsB x 0 e ++ t) = ⟨0, ((0 + a + 1 : Nat) : Int), zigs (x - last) ++ runsB x 0 e ++ t⟩ := by
      rw [List.append_assoc, List.append_assoc, numD_sevens _ (by omega), List.append_assoc]
    have n2 : numD (zigs (x - last) ++ runsB x 0 e ++ t) = ⟨0, (n : Int), runsB x 0 e ++ t⟩ := by
      rw [z1, List.append_assoc, numD_sevens _ z3']
    rw [runsD, if_pos (by omega), n1]
    simp only [n2]
    rw [if_neg (by simp), if_neg (by simp), if_neg, z2]
    · rw [show last + (x - last) = x by omega, show ((0 + a + 1 : Nat) : Int).toNat = a + 1 by omega]
      rw [runsD_runsB f _ x e t (by simp; omega) (by omega) hx (fun y hy => hw y (by simp [hy])) (fun _ => h4), List.append_assoc]
    · rintro (h | h | h)
      · omega
      · omega
      · have := z4 (by omega)
        exact hh h.2 (by simp; omega)
theorem runsD_back : ∀ (f : Nat) (got : List Int) (last : Int) (l : List Int), (∀ x ∈ l, 0 ≤ x ∧ x ≤ 255) → got.length ≤ 16 → 16 - got.length ≤ f → (runsD f got last l).no = 0 → ∃ e, (runsD f got last l).val = got ++ e ∧ got.length + e.length = 16 ∧ l = runsB last 0 e ++ (runsD f got last l).rest ∧ (0 < got.length → e.head? ≠ some last)
  | 0, got, last, l, hb, h1, h2, h => ⟨[], by simp [runsD], by simp; omega, by simp [runsD, runsB], by simp⟩
  | f + 1, got, last, l, hb, h1, h2, h => by
    rw [runsD] at h ⊢
    split at h
    · rename_i hlt
      rw [if_pos hlt]
      split at h
      · rename_i h3
        exact absurd h h3
      · rename_i h3
        rw [if_neg h3]
        simp only [ne_eq, Decidable.not_not] at h3
        obtain ⟨n, a1, a2, a3⟩ := numD_back hb h3
        split at h
        · rename_i h4
          exact absurd h h4
        · rename_i h4
          rw [if_neg h4]
          simp only [ne_eq, Decidable.not_not] at h4
          obtain ⟨m, b1, b2, b3⟩ := numD_back (rest_byte hb a1) h4
          split at h
          · simp at h
          · rename_i h5
            rw [if_neg h5]
            rw [a2, b2] at h5 h ⊢
            have hn1 : 1 ≤ n ∧ n ≤ 16 - got.length ∧ (m = 0 → ¬ 0 < got.length) := ⟨by omega, by omega, fun hm h0 => h5 (Or.inr (Or.inr ⟨by omega, h0⟩))⟩
            clear h5
            obtain ⟨e, c1, c2, c3, c4⟩ := runsD_back f (got ++ List.replicate (n : Int).toNat (last + anyK m)) (last + anyK m) _ (rest_byte (rest_byte hb a1) b1) (by simp; omega) (by simp; omega) h
            simp at c2 c4
            obtain ⟨k, rfl⟩ : ∃ k, n = k + 1 := ⟨n - 1, by omega⟩
            refine ⟨List.replicate (k + 1) (last + anyK m) ++ e, ?_, ?_, ?_, fun h0 => ?_⟩
            · rw [c1, List.append_assoc]
              simp
            · simp
              omega
            · rw [runsB_rep _ e (c4 (by omega)), show last + anyK m - last = anyK m by omega, zigs_anyK, show 0 + k + 1 = k + 1 by omega]
              rw [List.append_assoc, List.append_assoc, ← c3, ← b1, ← a1]
            · rw [List.replicate_succ]
              simp
              intro e0
              exact hn1.2.2 (anyK_zero.1 (by omega)) h0
    · rename_i hlt
      rw [if_neg hlt]
      exact ⟨[], by simp, by simp; omega, by simp [runsB], by simp⟩

end Go.Proofs.YtecpblabaelopaaDoor
