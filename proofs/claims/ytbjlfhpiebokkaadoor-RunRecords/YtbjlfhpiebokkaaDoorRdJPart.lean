/- Contract of the document's RecordedOf. (Written by tools/gen_rd.py.) -/
import Derived.Test.YtbjlfhpiebokkaaDoorRdIPart
import Derived.Test.YtbjlfhpiebokkaaDoorRecPart
import Derived.Test.YtbjlfhpiebokkaaDoorMayPart
import Derived.Test.YtbjlfhpiebokkaaDoorEvRefPart
import Derived.Test.YtbjlfhpiebokkaaDoorRecBPart
namespace Go.Proofs.YtbjlfhpiebokkaaDoor
open Go.RowKit

set_option maxRecDepth 1000000

theorem evI_evs {w W : World} {KK : Nat → Prop} {v : Value} {L : List Ev} (h : EvI W w.heap.size KK v L) (hlo : w.heap.size ≤ W.heap.size) (hl : L.length ≤ 1003) (hd : ∀ y ∈ L, y.data.length ≤ 1000) : EvsF W v L := by
  obtain ⟨R, h1, h2, -⟩ := h
  have := h1.evs hlo (by rw [show R.length = L.length by rw [← h2, List.length_map]]; omega) (fun p hp => hd p.1 (by rw [← h2]; exact List.mem_map_of_mem hp))
  rw [h2] at this
  exact this

set_option maxHeartbeats 4000000 in
theorem RecordedOf_any (A : Option Addr) (ca : Nat) (im : List Int) (a b c d : Value) (x : Wd) (n : Int) (w : World) (hi : IntsAt w (.slice A im.length ca) im) (hw : WdAt w a b c d x) :
    Calls Tryd.prog 9 #[.slice A im.length ca, .agg #[a, b, c, d], .int .i64 n] w fun e w' => RecQ w (recA x im n) e w' := by
  have HWT : Hid (WdAt w a b c d x) := hw
  obtain ⟨A0, k0, rfl, -, -⟩ := hw.irqs
  obtain ⟨A1, k1, rfl, -, -⟩ := hw.values
  obtain ⟨A2, k2, rfl, -, -⟩ := hw.blocks
  obtain ⟨A3, k3, rfl, -, -⟩ := hw.delays
  obtain ⟨b0, b1, b2⟩ := three_boxes (w := w) (o1 := .cells #[.slice A0 x.irqs.length k0, .slice A1 x.values.length k1, .slice A2 x.blocks.length k2, .slice A3 x.delays.length k3] 25) (o2 := .cells zeroT 28) (o3 := .cells zeroM 30)
  obtain ⟨W, hW⟩ : ∃ W, W = ((w.alloc (.cells #[.slice A0 x.irqs.length k0, .slice A1 x.values.length k1, .slice A2 x.blocks.length k2, .slice A3 x.delays.length k3] 25)).alloc (.cells zeroT 28)).alloc (.cells zeroM 30) := ⟨_, rfl⟩
  rw [← hW] at b0 b1 b2
  have HW : Hid (W = ((w.alloc (.cells #[.slice A0 x.irqs.length k0, .slice A1 x.values.length k1, .slice A2 x.blocks.length k2, .slice A3 x.delays.length k3] 25)).alloc (.cells zeroT 28)).alloc (.cells zeroM 30)) := hW
  have HX : Hid (W.heap[w.heap.size]? = some (.cells #[.slice A0 x.irqs.length k0, .slice A1 x.values.length k1, .slice A2 x.blocks.length k2, .slice A3 x.delays.length k3] 25 (0, 0)) ∧ W.heap[w.heap.size + 1]? = some (.cells zeroT 28 (0, 0)) ∧ W.heap[w.heap.size + 1 + 1]? = some (.cells zeroM 30 (0, 0)) ∧ Below w.heap.size w W ∧ w.heap.size + 1 + 1 < W.heap.size) := ⟨b0.trans (Go.Deep.blk_alloc_new _ _), by
    rw [b1]
    have := Go.Deep.blk_alloc_new (w.alloc (.cells #[.slice A0 x.irqs.length k0, .slice A1 x.values.length k1, .slice A2 x.blocks.length k2, .slice A3 x.delays.length k3] 25)) (.cells zeroT 28)
    simpa using this, by
    rw [hW]
    have := Go.Deep.blk_alloc_new ((w.alloc (.cells #[.slice A0 x.irqs.length k0, .slice A1 x.values.length k1, .slice A2 x.blocks.length k2, .slice A3 x.delays.length k3] 25)).alloc (.cells zeroT 28)) (.cells zeroM 30)
    simpa using this, b2, by rw [hW]; simp⟩
  have HI : Hid (IntsAt w (.slice A im.length ca) im) := hi
  obtain ⟨G, hG⟩ : ∃ G, G = recA x im n := ⟨_, rfl⟩
  rw [← hG]
  have HG : Hid (G = recA x im n) := hG
  clear hi hw b0 b1 b2 hW hG
  by_cases hn : newNo im = 0
  case neg =>
    have HE : Hid (G = ⟨newNo im, [], [], 0, recNone⟩) := HG.out.trans (recA_no (by unfold recNo; rw [if_pos hn]) hn)
    have HNN : Hid (Calls Tryd.prog 30 #[.slice A im.length ca] W fun e w' => e = .returned (.tuple #[.agg zeroM, .int .i64 (newNo im)]) ∧ Below W.heap.size W w') := GuestNew_no _ im W (HI.out.below HX.out.2.2.2.1) hn
    have d0 : (newNo im != 0) = true := by simpa using hn
    have d1 : (newNo im == 0) = false := by simpa using hn
    clear hn
    revert HE HNN d0 d1
    generalize newNo im = kn
    intro HE HNN d0 d1
    go_enter Tryd.func9, Tryd.ntmps9
    go_wp2_with fail
    rw [← HW.out]
    refine HNN.out.mono ?_
    rintro e w1 ⟨rfl, hb1⟩
    have HB : Hid (Below w.heap.size w w1) := HX.out.2.2.2.1.trans (hb1.mono HX.out.2.2.2.1.size)
    obtain ⟨t0, t1, t2, tf, tl⟩ := three_cells ((hb1.block _ (lt_of_block HX.out.2.1)).trans HX.out.2.1)
    obtain ⟨⟨y0, y1, y2, y3, y4, y5, y6, y7, y8, y9, y10, y11⟩, yf, yl⟩ := twelve_cells ((hb1.block _ (lt_of_block HX.out.2.2.1)).trans HX.out.2.2.1)
    clear hb1 HNN
    dsimp only
    go_wp2_with fail
    refine bodyPost_ret (v := .tuple #[.agg #[.slice none 0 0, .slice none 0 0, .int .i64 0], .agg zeroM, .int .i64 kn]) (by simp [results, Tryd.results9, go_sem, tl, yl, t0, t1, t2, y0, y1, y2, y3, y4, y5, y6, y7, y8, y9, y10, y11]) rfl ?_
    rw [HE.out]
    refine recQ_no ?_
    have HBS := HB.out.size
    refine Below.alloc ?_ (by simp; omega) _
    repeat (refine Below.setCell ?_ (by first | (simp; done) | (simp; omega)) _)
    exact HB.out
  case pos =>
    go_enter Tryd.func9, Tryd.ntmps9
    go_wp2_with fail
    rw [← HW.out]
    refine (GuestNew_ok _ im W (HI.out.below HX.out.2.2.2.1) hn).mono ?_
    rintro e w1 ⟨rv, mv, ov, rfl, ho1, hb1⟩
    obtain ⟨D1, f1, D2, f2, D3, f3, rfl, rfl, rfl⟩ := ho1.shape
    have hB1 : Below w.heap.size w w1 := HX.out.2.2.2.1.trans (hb1.mono HX.out.2.2.2.1.size)
    obtain ⟨M0, hM0⟩ : ∃ M0, M0 = newM im := ⟨_, rfl⟩
    rw [← hM0] at ho1 ⊢
    have HM0 : Hid (M0 = newM im) := hM0
    have hA := below_alloc w1 (.cells (M0.cells (.slice D1 M0.regs.length f1) (.slice D2 M0.mem.length f2) (.slice D3 M0.out.length f3)) 30)
    have hbw := HX.out.2.2.2.1.size
    have hbx := HX.out.2.2.2.2
    have hb1s := hb1.size
    have hbox : RoAt w (w1.alloc (.cells (M0.cells (.slice D1 M0.regs.length f1) (.slice D2 M0.mem.length f2) (.slice D3 M0.out.length f3)) 30)) #[.slice A0 x.irqs.length k0, .slice A1 x.values.length k1, .slice A2 x.blocks.length k2, .slice A3 x.delays.length k3] w1.heap.size (.slice D1 M0.regs.length f1) (.slice D2 M0.mem.length f2) (.slice D3 M0.out.length f3) M0 (.slice none 0 0) [] :=
      ⟨(hA.block _ (by omega)).trans ((hb1.block _ (by omega)).trans HX.out.1), (hA.block _ (by omega)).trans ((hb1.block _ (by omega)).trans HX.out.2.1), (hA.block _ (by omega)).trans ((hb1.block _ (by omega)).trans HX.out.2.2.1), Go.Deep.blk_alloc_new _ _, (ho1.mono hbw).below hA, EvI.nil _ _ _, hB1.alloc hB1.size _, by omega⟩
    obtain ⟨bM, hbM⟩ : ∃ bM, bM = w1.heap.size := ⟨_, rfl⟩
    obtain ⟨W2, hW2⟩ : ∃ W2, W2 = w1.alloc (.cells (M0.cells (.slice D1 M0.regs.length f1) (.slice D2 M0.mem.length f2) (.slice D3 M0.out.length f3)) 30) := ⟨_, rfl⟩
    rw [← hbM, ← hW2] at hbox
    have HB2 : Hid (RoAt w W2 #[.slice A0 x.irqs.length k0, .slice A1 x.values.length k1, .slice A2 x.blocks.length k2, .slice A3 x.delays.length k3] bM (.slice D1 M0.regs.length f1) (.slice D2 M0.mem.length f2) (.slice D3 M0.out.length f3) M0 (.slice none 0 0) []) := hbox
    have HW2 : Hid (W2 = w1.alloc (.cells (M0.cells (.slice D1 M0.regs.length f1) (.slice D2 M0.mem.length f2) (.slice D3 M0.out.length f3)) 30)) := hW2
    have HNI : Hid (newNo im = 0) := hn
    simp only [Mach.cells] at HW2 ⊢
    obtain ⟨z0, z1, z2, z3, zf, zl⟩ := four_cells ((hb1.block _ (by omega)).trans HX.out.1)
    clear ho1 hb1 hB1 hA hbw hbx hb1s hbox hW2 hM0 hn HX HW
    go_wp2_with fail
    rw [← HW2.out, ← hbM]
    clear z0 z1 z2 z3 zf zl HW2 hbM
    refine (WorldFault_any _ _ _ _ x W2 (HWT.out.below HB2.out.old)).mono ?_
    rintro e w3 ⟨rfl, hb3⟩
    have HB3 : Hid (RoAt w w3 #[.slice A0 x.irqs.length k0, .slice A1 x.values.length k1, .slice A2 x.blocks.length k2, .slice A3 x.delays.length k3] bM (.slice D1 M0.regs.length f1) (.slice D2 M0.mem.length f2) (.slice D3 M0.out.length f3) M0 (.slice none 0 0) []) := HB2.out.below hb3
    clear hb3 HB2
    by_cases hwn : worldNo x = 0
    case neg =>
      have HE : Hid (G = ⟨worldNo x, [], [], 0, recNone⟩) := HG.out.trans (recA_no (by unfold recNo; rw [if_neg (by rw [HNI.out]; simp), if_pos hwn]) hwn)
      have d0 : (worldNo x != 0) = true := by simpa using hwn
      have d1 : (worldNo x == 0) = false := by simpa using hwn
      clear hwn
      revert HE d0 d1
      generalize worldNo x = kn
      intro HE d0 d1
      obtain ⟨t0, t1, t2, tf, tl⟩ := three_cells HB3.out.tb
      obtain ⟨⟨y0, y1, y2, y3, y4, y5, y6, y7, y8, y9, y10, y11⟩, yf, yl⟩ := twelve_cells HB3.out.rb
      go_wp2_with fail
      refine bodyPost_ret (v := .tuple #[.agg #[.slice none 0 0, .slice none 0 0, .int .i64 0], .agg zeroM, .int .i64 kn]) (by simp [results, Tryd.results9, go_sem, t0, t1, t2, y0, y1, y2, y3, y4, y5, y6, y7, y8, y9, y10, y11]) rfl ?_
      rw [HE.out]
      refine recQ_no ?_
      have HBS := HB3.out.old.size
      repeat (refine Below.setCell ?_ (by first | (simp; done) | (simp; omega)) _)
      exact HB3.out.old
    case pos =>
    have HWM : Hid (WdMay x ∧ worldNo x = 0) := ⟨worldNo_may hwn, hwn⟩
    rw [hwn]
    clear hwn
    by_cases hin : 0 ≤ n ∧ n ≤ 3000
    case neg =>
      have HE : Hid (G = ⟨2, [], [], 0, recNone⟩) := HG.out.trans (recA_no (by unfold recNo; rw [if_neg (by rw [HNI.out]; simp), if_neg (by rw [HWM.out.2]; simp), if_pos (inB_no hin)]) (by decide))
      have HIN : Hid (∀ V, Calls Tryd.prog 32 #[.int .i64 n, .int .i64 0, .int .i64 3000] V fun e w' => e = .returned (.bool false) ∧ w' = V) := fun V => inB_no hin ▸ In_B n 0 3000 V
      obtain ⟨t0, t1, t2, tf, tl⟩ := three_cells HB3.out.tb
      obtain ⟨⟨y0, y1, y2, y3, y4, y5, y6, y7, y8, y9, y10, y11⟩, yf, yl⟩ := twelve_cells HB3.out.rb
      clear hin
      go_wp2_with (go_at_call 32; refine (HIN.out _).mono ?_; rintro e w4 ⟨rfl, hw4⟩; rw [hw4]; clear hw4 w4)
      refine bodyPost_ret (v := .tuple #[.agg #[.slice none 0 0, .slice none 0 0, .int .i64 0], .agg zeroM, .int .i64 2]) (by simp [results, Tryd.results9, go_sem, t0, t1, t2, y0, y1, y2, y3, y4, y5, y6, y7, y8, y9, y10, y11]) rfl ?_
      rw [HE.out]
      refine recQ_no ?_
      have HBS := HB3.out.old.size
      repeat (refine Below.setCell ?_ (by first | (simp; done) | (simp; omega)) _)
      exact HB3.out.old
    case pos =>
    have HIN : Hid (∀ V, Calls Tryd.prog 32 #[.int .i64 n, .int .i64 0, .int .i64 3000] V fun e w' => e = .returned (.bool true) ∧ w' = V) := fun V => inB_yes hin.1 hin.2 ▸ In_B n 0 3000 V
    have HNN : Hid (inB n 0 3000 = true) := inB_yes hin.1 hin.2
    obtain ⟨Nn, rfl⟩ : ∃ Nn : Nat, n = (Nn : Int) := ⟨n.toNat, by omega⟩
    have hN : Nn ≤ 3000 := by omega
    clear hin
    go_wp2_with (go_at_call 32; refine (HIN.out _).mono ?_; rintro e w4 ⟨rfl, hw4⟩; rw [hw4]; clear hw4 w4)
    clear HIN
    go_loopw [11, 12, 13, 14, 15] (fun ev va bl due kv wr => ∃ (k : Nat) (rv mv ov : Value) (Ae : Option Addr) (ce : Nat) (s : RecS), k ≤ Nn ∧ kv = .int .i64 (k : Int) ∧ ev = .slice Ae s.evs.length ce ∧ va = .int .i64 (s.va : Int) ∧ bl = .int .i64 (s.bl : Int) ∧ due = .int .i64 s.due ∧ Hid (s = recN x im k ∧ RoAt w wr #[.slice A0 x.irqs.length k0, .slice A1 x.values.length k1, .slice A2 x.blocks.length k2, .slice A3 x.delays.length k3] bM rv mv ov s.m (.slice Ae s.evs.length ce) s.evs ∧ s.evs.length ≤ 1000 ∧ s.va ≤ k ∧ s.bl ≤ k)) (fun _ _ _ _ kv _ => Nn - (intOf kv).toNat)
    case atStart => exact ⟨0, _, _, _, none, 0, recN x im 0, by omega, rfl, rfl, rfl, rfl, rfl, rfl, by rw [show (recN x im 0).m = M0 from HM0.out.symm]; exact HB3.out, by simp [recN], by simp [recN], by simp [recN]⟩
    case round =>
      obtain ⟨k, rv, mv, ov, Ae, ce, s, hk, rfl, rfl, rfl, rfl, rfl, HR⟩ := hrel
      have hok := rec_ok HWM.out.1 HNI.out k (by omega)
      rw [← HR.out.1] at hok
      have HOK : Hid (RecOk k s) := hok
      clear hok
      by_cases hgo : k < Nn ∧ s.m.fin = 0
      · obtain ⟨hlt, hf⟩ := hgo
        obtain ⟨⟨m0, m1, m2, m3, m4, m5, m6, m7, m8, m9, m10, m11⟩, mf, ml⟩ := twelve_cells HR.out.2.1.mb
        rw [hf] at m7
        have hlz : (k : Int) < (Nn : Int) := by omega
        clear m0 m1 m2 m3 m4 m5 m6 m8 m9 m10 m11
        go_upto_region 15 with fail
        refine rdRound _ _ _ _ _ _ _ _ _ _ _ _ _ _ _ _ _ _ _ _ _ _ _ _ _ _ _ _ _ _ _ _ _ _ _ _ _ _ _ _ _ _ _ _ _ _ _ _ _ _ _ _ _ _ _ _ _ _ _ _ _ _ _ _ _ _ _ _ _ _ _ _ _ _ _ _ _ _ _ _ _ _ _ _ _ _ _ _ _ _ _ _ _ _ _ _ _ _ _ _ _ _ _ _ _ _ _ _ _ _ _ _ _ _ _ _ _ _ _ _ _ _ _ _ _ _ _ _ _ _ _ _ _ _ _ _ _ _ _ _ _ _ _ _ _ _ _ _ _ _ _ _ _ _ _ _ _ _ _ _ _ _ _ _ _ _ _ _ _ _ _ _ _ _ _ _ _ _ _ _ _ _ _ _ _ _ _ _ _ _ _ _ _ _ _ _ _ _ _ _ _ _ _ _ _ _ _ _ _ A0 A1 A2 A3 k0 k1 k2 k3 x bM rv mv ov k s Ae ce w wr _ _ ?hcc HR.out.2.1 HWT.out HWM.out.1 HOK.out hf HR.out.2.2.1 (by omega) HR.out.2.2.2.1 HR.out.2.2.2.2 ?_
        case hcc => assumption
        intro _u16 _u17 _u18 _u19 _u20 _u21 _u22 _u23 _u24 _u25 _u26 _u59 _u60 _u61 _u62 _u63 _u64 _u65 _u66 _u67 _u68 _u69 _u70 _u71 _u72 _u73 _u74 _u75 _u76 _u77 _u78 _u79 _u80 _u81 _u82 _u83 _u84 _u85 _u86 _u87 _u88 _u89 _u90 _u91 _u92 _u93 _u94 _u95 _u96 _u97 _u98 _u99 _u100 _u101 _u102 _u103 _u104 _u105 _u106 _u107 _u108 _u109 _u110 _u111 _u112 _u113 _u114 _u115 _u116 _u117 _u118 _u119 _u120 _u121 _u122 _u123 _u124 _u125 _u126 _u127 _u128 _u129 _u130 _u131 _u132 _u133 _u134 _u135 _u136 _u137 _u138 _u139 _u140 _u141 _u142 _u143 _u144 _u145 _u146 _u147 _u148 _u149 _u150 _u151 _u152 _u153 _u154 _u155 _u156 _u157 _u158 _u159 _u160 _u161 _u162 _u163 _u164 _u165 _u166 _u167 _u168 _u169 _u170 _u171 _u172 _u173 _u174 _u175 _u176 _u177 _u178 _u179 _u180 _u181 _u182 _u183 _u184 _u185 _u186 _u187 _u188 _u189 _u190 _u191 _u192 _u193 rv' mv' ov' Ae' ce' W' K' ro' hc'
        conv => arg 2; whnf
        conv at hc' => intro a' w'; lhs; arg 2; whnf
        have hs1 : s.next x k = recN x im (k + 1) := by rw [HR.out.1] at hf ⊢; exact (rec_step hf).symm
        have hva : (s.next x k).va ≤ k + 1 := by
          have := HR.out.2.2.2.1
          show (if s.ask x k = true then s.va + 1 else s.va) ≤ k + 1
          split <;> omega
        have hbl : (s.next x k).bl ≤ k + 1 := by
          have := HR.out.2.2.2.2
          show (if s.new x k = true then s.bl + 1 else s.bl) ≤ k + 1
          split <;> omega
        have HS : Hid (s.next x k = recN x im (k + 1) ∧ (s.next x k).va ≤ k + 1 ∧ (s.next x k).bl ≤ k + 1) := ⟨hs1, hva, hbl⟩
        clear hs1 hva hbl m7 mf ml
        revert ro' HS
        generalize s.next x k = S
        intro ro' HS
        have HRO : Hid (RoAt w W' #[.slice A0 x.irqs.length k0, .slice A1 x.values.length k1, .slice A2 x.blocks.length k2, .slice A3 x.delays.length k3] bM rv' mv' ov' S.m (.slice Ae' S.evs.length ce') S.evs) := ro'
        by_cases h1000 : S.evs.length ≤ 1000
        · have hz : ¬ (1000 : Int) < (S.evs.length : Int) := by omega
          clear ro'
          go_wp2_with fail
          go_roundw
          case rel => exact ⟨k + 1, rv', mv', ov', Ae', ce', S, by omega, by go_num, rfl, rfl, rfl, rfl, HS.out.1, HRO.out, h1000, HS.out.2.1, HS.out.2.2⟩
          case measure => simp [intOf]; omega
        · have hz : (1000 : Int) < (S.evs.length : Int) := by omega
          have hck : chkNo (recN x im Nn).evs = 1 := by
            have := rec_more (x := x) (im := im) (k + 1) (Nn - (k + 1))
            rw [show k + 1 + (Nn - (k + 1)) = Nn by omega, ← HS.out.1] at this
            unfold chkNo
            rw [if_pos (by omega)]
          have HE : Hid (G = ⟨1, [], [], 0, recNone⟩) := HG.out.trans (recA_no (by unfold recNo; rw [if_neg (by rw [HNI.out]; simp), if_neg (by rw [HWM.out.2]; simp), if_neg (by rw [HNN.out]; simp), Int.toNat_natCast]; exact hck) (by decide))
          obtain ⟨t0, t1, t2, tf, tl⟩ := three_cells ro'.tb
          obtain ⟨⟨y0, y1, y2, y3, y4, y5, y6, y7, y8, y9, y10, y11⟩, yf, yl⟩ := twelve_cells ro'.rb
          clear ro' hck
          go_wp2_with fail
          refine bodyPost_ret (v := .tuple #[.agg #[.slice none 0 0, .slice none 0 0, .int .i64 0], .agg zeroM, .int .i64 1]) (by simp [results, Tryd.results9, go_sem, t0, t1, t2, y0, y1, y2, y3, y4, y5, y6, y7, y8, y9, y10, y11]) rfl ?_
          rw [HE.out]
          refine recQ_no ?_
          have HBS := HRO.out.old.size
          repeat (refine Below.setCell ?_ (by first | (simp; done) | (simp; omega)) _)
          exact HRO.out.old
      · have HEND : Hid (recN x im Nn = s) := by
          by_cases hlt : k < Nn
          · have hf : (recN x im k).m.fin ≠ 0 := fun e => hgo ⟨hlt, by rw [HR.out.1]; exact e⟩
            have := rec_stays hf (Nn - k)
            rw [show k + (Nn - k) = Nn by omega] at this
            show _ = _
            rw [this]
            exact HR.out.1.symm
          · have e : k = Nn := by omega
            show _ = _
            rw [← e]
            exact HR.out.1.symm
        have hx2 : (¬ (k : Int) < (Nn : Int)) ∨ ((k : Int) < (Nn : Int) ∧ (s.m.fin == 0) = false) := by
          by_cases hlt : k < Nn
          · exact Or.inr ⟨by omega, by simpa using fun e => hgo ⟨hlt, e⟩⟩
          · exact Or.inl (by omega)
        have HEV : Hid (EvsF wr (.slice Ae s.evs.length ce) s.evs) := evI_evs HR.out.2.1.evs HR.out.2.1.old.size (by have := HR.out.2.2.1; omega) (by rw [HR.out.1]; exact recs_data HWM.out.1 k)
        have HNO : Hid (recNo x im (Nn : Int) = chkNo s.evs) := by
          show _ = _
          unfold recNo
          rw [if_neg (by rw [HNI.out]; simp), if_neg (by rw [HWM.out.2]; simp), if_neg (by rw [HNN.out]; simp), Int.toNat_natCast, HEND.out]
        obtain ⟨M, hM⟩ : ∃ M, M = s.m := ⟨_, rfl⟩
        have HM : Hid (M = s.m) := hM
        have hmb := HR.out.2.1.mb
        rw [← hM] at hmb hx2
        obtain ⟨B1, e1, B2, e2, B3, e3, q1, q2, q3⟩ := HR.out.2.1.own.shape
        rw [← hM] at q1 q2 q3
        subst q1 q2 q3
        obtain ⟨⟨m0, m1, m2, m3, m4, m5, m6, m7, m8, m9, m10, m11⟩, mf, ml⟩ := twelve_cells hmb
        clear hgo hM hmb
        rcases hx2 with d0 | ⟨d0, d1⟩
        all_goals
          go_wp2_with fail
          by_cases hen : chkNo s.evs = 0
          case neg =>
            refine (EventBytes_no _ _ wr HEV.out.at_ hen).mono ?_
            rintro e w7 ⟨rfl, hb7⟩
            have HE : Hid (G = ⟨chkNo s.evs, [], [], 0, recNone⟩) := HG.out.trans (recA_no HNO.out hen)
            have d2 : (chkNo s.evs != 0) = true := by simpa using hen
            have HB7 := HR.out.2.1.below hb7
            have HBS := HB7.old.size
            have HBO : Hid (Below w.heap.size w w7) := HB7.old
            clear hen
            revert HE d2
            generalize chkNo s.evs = kn
            intro HE d2
            obtain ⟨t0, t1, t2, tf, tl⟩ := three_cells HB7.tb
            obtain ⟨⟨y0, y1, y2, y3, y4, y5, y6, y7, y8, y9, y10, y11⟩, yf, yl⟩ := twelve_cells HB7.rb
            clear hb7 HB7 m0 m1 m2 m3 m4 m5 m6 m7 m8 m9 m10 m11 mf ml
            try dsimp only
            go_wp2_with fail
            refine bodyPost_ret (v := .tuple #[.agg #[.slice none 0 0, .slice none 0 0, .int .i64 0], .agg zeroM, .int .i64 kn]) (by simp [results, Tryd.results9, go_sem, t0, t1, t2, y0, y1, y2, y3, y4, y5, y6, y7, y8, y9, y10, y11]) rfl ?_
            rw [HE.out]
            refine recQ_no ?_
            repeat (refine Below.setCell ?_ (by first | (simp; done) | (simp; omega)) _)
            exact HBO.out
          case pos =>
            refine (EventBytes_ok _ _ wr HEV.out hen).mono ?_
            rintro e w7 ⟨u, rfl, hu7, hb7⟩
            obtain ⟨Au, cu, rfl⟩ := hu7.shape
            obtain ⟨nu, hnu⟩ : ∃ nu, nu = (fullB s.evs).length := ⟨_, rfl⟩
            rw [← hnu] at hu7 ⊢
            clear hnu
            have HE : Hid (G = ⟨0, im, fullB s.evs, M.count, M⟩) := by
              show _ = _
              rw [HG.out, recA_ok (HNO.out.trans hen), Int.toNat_natCast, HEND.out, ← HM.out]
            have H7 : Hid (RoAt w w7 #[.slice A0 x.irqs.length k0, .slice A1 x.values.length k1, .slice A2 x.blocks.length k2, .slice A3 x.delays.length k3] bM (.slice B1 M.regs.length e1) (.slice B2 M.mem.length e2) (.slice B3 M.out.length e3) M (.slice Ae s.evs.length ce) s.evs ∧ OwnB w7 w.heap.size (.slice Au nu cu) (fullB s.evs) ∧ IntsAt w7 (.slice A im.length ca) im) := ⟨by rw [HM.out]; have := HR.out.2.1.below hb7; rw [← HM.out] at this ⊢; exact this, hu7.mono HR.out.2.1.old.size, HI.out.below (HR.out.2.1.below hb7).old⟩
            clear hen hu7 hb7 m0 m1 m2 m3 m4 m5 m6 m7 m8 m9 m10 m11 mf ml
            obtain ⟨⟨m0, m1, m2, m3, m4, m5, m6, m7, m8, m9, m10, m11⟩, mf, ml⟩ := twelve_cells H7.out.1.mb
            try dsimp only
            go_wp2_with fail
            have hbm := H7.out.1.hb
            have hn1 : ¬ w.heap.size + 1 = bM := by omega
            have hn2 : ¬ w.heap.size + 1 + 1 = bM := by omega
            have hn3 : ¬ bM = w.heap.size + 1 := by omega
            have hn4 : ¬ bM = w.heap.size + 1 + 1 := by omega
            go_region_held3 (fun w' => w'.cell? ⟨bM, 0, none⟩ = some (.slice B1 M.regs.length e1) ∧ w'.cell? ⟨bM, 1, none⟩ = some (.int .i64 M.pc) ∧ w'.cell? ⟨bM, 2, none⟩ = some (.int .i64 M.back) ∧ w'.cell? ⟨bM, 3, none⟩ = some (.bool M.ints) ∧ w'.cell? ⟨bM, 4, none⟩ = some (.bool M.wait) ∧ w'.cell? ⟨bM, 5, none⟩ = some (.int .i64 M.table) ∧ w'.cell? ⟨bM, 6, none⟩ = some (.int .i64 M.count) ∧ w'.cell? ⟨bM, 7, none⟩ = some (.int .i64 M.fin) ∧ w'.cell? ⟨bM, 8, none⟩ = some (.slice B2 M.mem.length e2) ∧ w'.cell? ⟨bM, 9, none⟩ = some (.slice B3 M.out.length e3) ∧ w'.cell? ⟨bM, 10, none⟩ = some (.int .i64 M.ready) ∧ w'.cell? ⟨bM, 11, none⟩ = some (.int .i64 M.want)) (go_keep)
              (first | (go_at_call 33; refine (words_any _ im _ (by first | exact H7.out.2.2 | exact H7.out.2.2.below ((Below.refl _ w7).drew))).mono ?_; rintro e w8 ⟨A8, c8, rfl, o8, b8⟩; have H8 : Hid (RoAt w w8 #[.slice A0 x.irqs.length k0, .slice A1 x.values.length k1, .slice A2 x.blocks.length k2, .slice A3 x.delays.length k3] bM (.slice B1 M.regs.length e1) (.slice B2 M.mem.length e2) (.slice B3 M.out.length e3) M (.slice Ae s.evs.length ce) s.evs ∧ OwnB w8 w.heap.size (.slice Au nu cu) (fullB s.evs) ∧ OwnI w8 w.heap.size (.slice A8 im.length c8) im) := (by first | exact ⟨H7.out.1.below b8, H7.out.2.1.below b8, ownsRow_mono o8 H7.out.1.old.size⟩ | exact ⟨(H7.out.1.below ((Below.refl _ w7).drew)).below b8, (H7.out.2.1.below ((Below.refl _ w7).drew)).below b8, ownsRow_mono o8 H7.out.1.old.size⟩); clear o8 b8 mf ml; obtain ⟨⟨n0, n1, n2, n3, n4, n5, n6, n7, n8, n9, n10, n11⟩, nf, nl⟩ := twelve_cells H8.out.1.mb; obtain ⟨t0, t1, t2, tf, tl⟩ := three_cells H8.out.1.tb; obtain ⟨⟨y0, y1, y2, y3, y4, y5, y6, y7, y8, y9, y10, y11⟩, yf, yl⟩ := twelve_cells H8.out.1.rb))
            go_wp2_with fail
            refine bodyPost_ret (v := .tuple #[.agg #[.slice A8 im.length c8, .slice Au nu cu, .int .i64 M.count], .agg #[.slice B1 M.regs.length e1, .int .i64 M.pc, .int .i64 M.back, .bool M.ints, .bool M.wait, .int .i64 M.table, .int .i64 M.count, .int .i64 M.fin, .slice B2 M.mem.length e2, .slice B3 M.out.length e3, .int .i64 M.ready, .int .i64 M.want], .int .i64 0]) (by simp [results, Tryd.results9, go_sem, t0, t1, t2, y0, y1, y2, y3, y4, y5, y6, y7, y8, y9, y10, y11]) rfl ?_
            rw [HE.out]
            have hT : IsBoxT w8 (w.heap.size + 1) 28 := ⟨_, H8.out.1.tb⟩
            have hM2 : IsBoxT w8 (w.heap.size + 1 + 1) 30 := ⟨_, H8.out.1.rb⟩
            exact ⟨_, _, B1, e1, B2, e2, B3, e3, rfl, final_own H8.out.2.2 hT hM2 (by decide) (by decide) _ _ _ _ _ _ _ _ _ _ _ _ _ _ _, final_own H8.out.2.1 hT hM2 (by decide) (by decide) _ _ _ _ _ _ _ _ _ _ _ _ _ _ _, ⟨final_own H8.out.1.own.regs hT hM2 (by decide) (by decide) _ _ _ _ _ _ _ _ _ _ _ _ _ _ _, final_own H8.out.1.own.mem hT hM2 (by decide) (by decide) _ _ _ _ _ _ _ _ _ _ _ _ _ _ _, final_own H8.out.1.own.out hT hM2 (by decide) (by decide) _ _ _ _ _ _ _ _ _ _ _ _ _ _ _, H8.out.1.own.rm, H8.out.1.own.ro, H8.out.1.own.mo⟩, final_below H8.out.1.old (by omega) (by omega) _ _ _ _ _ _ _ _ _ _ _ _ _ _ _⟩

end Go.Proofs.YtbjlfhpiebokkaaDoor
