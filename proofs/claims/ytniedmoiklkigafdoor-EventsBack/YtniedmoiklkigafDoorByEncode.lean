/- Contract of evlog.Encode. -/
import Derived.Test.YtniedmoiklkigafDoorByEnc
namespace Go.Proofs.YtniedmoiklkigafDoor
open Go.RowKit

theorem Encode_no (v : Value) (L : List Ev) (w : World) (h : EvsAt w v L) (hL : Laid w) (hn : chkNo L ≠ 0) :
    Calls Tryd.prog 8 #[v] w fun e w' => e = .returned (.tuple #[.slice none 0 0, .int .i64 (chkNo L)]) ∧ Below w.heap.size w w' := by
  have HF : Hid (Calls Tryd.prog 14 #[v] w fun e w' => e = .returned (.int .i64 (chkNo L)) ∧ Below w.heap.size w w') := Check_any v L w h hL
  clear h hL
  revert HF hn
  generalize chkNo L = en
  intro hn HF
  go_enter Tryd.func8, Tryd.ntmps8
  go_wp2_with fail
  refine HF.out.mono ?_
  rintro e w1 ⟨rfl, hb⟩
  have HB : Hid (Below w.heap.size w w1) := hb
  clear hb HF
  go_wp2_with fail
  go_ret2
  exact ⟨rfl, HB.out⟩

set_option maxRecDepth 20000 in
set_option maxHeartbeats 4000000 in
theorem Encode_ok (v : Value) (L : List Ev) (w : World) (h : EvsF w v L) (hL : Laid w) (hn : chkNo L = 0) :
    Calls Tryd.prog 8 #[v] w fun e w' => ∃ v', e = .returned (.tuple #[v', .int .i64 0]) ∧ OwnB w' w.heap.size v' (fullB L) ∧ Below w.heap.size w w' := by
  have HF : Hid (Calls Tryd.prog 14 #[v] w fun e w' => e = .returned (.int .i64 (chkNo L)) ∧ Below w.heap.size w w') := Check_any v L w h.at_ hL
  rw [hn] at HF
  have HL : Hid ((encB L).length ≤ 231007 ∧ L.length ≤ 1000) := ⟨encB_len hn, (chk_zero hn).1⟩
  have HK : Hid (∀ k, k < L.length → evNo (L.getD k noEv) = 0 ∧ 0 ≤ prevAt L k ∧ prevAt L k ≤ (L.getD k noEv).at_) := ok_at hn
  have HV : Hid (EvsF w v L) := h
  obtain ⟨A, c, rfl, hl, hc⟩ := h.at_
  have hln := HL.out.2
  have HN : Hid (∀ W v1 (l1 : List Int) (n lo : Nat), OwnB W lo v1 l1 → lo ≤ W.heap.size → n < 100000 → l1.length ≤ 1000000 → Calls Tryd.prog 15 #[v1, .int .i64 n] W fun e w' => ∃ v', e = .returned v' ∧ Appd lo W w' v1 v' (l1 ++ sevens n)) := fun W v1 l1 n lo ho hlo hn hl => appendNumber_any v1 l1 n lo W ho hlo (by omega) (by have := sevens_len7 (n := n) (by omega); omega)
  clear h hL hn
  obtain ⟨i0, hi, hz0, hz1, hz2⟩ := info_parts infoByte
  go_enter Tryd.func8, Tryd.ntmps8
  go_wp2_with fail
  refine HF.out.mono ?_
  rintro e w1 ⟨rfl, hb⟩
  have HB1 : Hid (Below w.heap.size w w1) := hb
  have hs1 := hb.size
  clear hb HF
  go_wp2_with fail
  refine (HN.out _ _ [] L.length w1.heap.size (OwnB.nil _ _) (Nat.le_refl _) (by omega) (by simp)).mono ?_
  rintro e w2 ⟨v1, rfl, ha⟩
  have HA0 : Hid (Appd w1.heap.size w1 w2 (.slice none 0 0) v1 (sevens L.length)) := ha
  clear ha
  go_wp2_with fail
  go_loopw [5, 6, 19] (fun o t i wr => ∃ (k : Nat) (bs' : List Int), k ≤ L.length ∧ i = .int .i64 k ∧ t = .int .i64 (prevAt L k) ∧ Hid (encB L = bs' ++ encFrom (prevAt L k) (L.drop k)) ∧ Hid (Appd w1.heap.size w1 wr (.slice none 0 0) o bs')) (fun _ _ i _ => L.length - (intOf i).toNat)
  case atStart => exact ⟨0, sevens L.length, Nat.zero_le _, rfl, rfl, rfl, HA0⟩
  case round =>
    obtain ⟨k, bs', hk, rfl, rfl, hE, hA⟩ := hrel
    have hsz := hA.out.old.size
    have hbl : bs'.length ≤ 231007 := by
      have h1 := congrArg List.length hE.out
      have h2 := HL.out.1
      simp at h1
      omega
    by_cases hlt : k < L.length
    · obtain ⟨b, off, rfl, hbs, hcell⟩ := hc (by omega)
      obtain ⟨x0, x1, vx, x2, xi⟩ := hcell k hlt
      obtain ⟨he, hp0, hp1⟩ := HK.out k hlt
      have hfit := HV.out.fit b off c rfl k hlt vx x2
      have HE : Hid (encB L = (bs' ++ sevens (4 * ((L.getD k noEv).at_ - prevAt L k) + (L.getD k noEv).kind).toNat ++ dataB (L.getD k noEv)) ++ encFrom (prevAt L (k + 1)) (L.drop (k + 1))) := by
        show _ = _
        rw [hE.out, enc_step hlt, prevAt_succ]
        simp [List.append_assoc]
      have HP : Hid (prevAt L (k + 1) = (L.getD k noEv).at_) := prevAt_succ L k
      clear hE hc hcell HK HV
      revert x0 x1 xi he hp0 hp1 HE HP
      generalize L.getD k noEv = x
      generalize prevAt L k = last
      intro x0 x1 xi he hp0 hp1 HE HP
      obtain ⟨xa, xk, xd⟩ := x
      simp only at x0 x1 xi hp1 HE HP
      obtain ⟨hkk, haa, -, -⟩ := evNo_bd he
      simp only at hkk haa
      have HXI : Hid (IntsAt w vx xd) := xi
      have HHB : Hid (∀ b off n c, 0 < xd.length → vx = .slice (some ⟨b, off, none⟩) n c → b < w1.heap.size) := fun b' off' n' c' h0 e => by
        obtain ⟨A2, c2, e2, _, hcc⟩ := xi
        obtain ⟨b3, off3, e3, hlt3, _⟩ := hcc h0
        rw [e] at e2
        simp only [Value.slice.injEq] at e2
        have e4 := e2.1.trans e3
        simp only [Option.some.injEq, Addr.mk.injEq] at e4
        omega
      have HFT : Hid (Fits vx) := hfit
      obtain ⟨A1, c1, rfl, hl1, -⟩ := xi
      have hB : Below w.heap.size w wr := HB1.out.trans (hA.out.old.mono hs1)
      have y0 := (hB.cell (p := ⟨b, off + k * 3, none⟩) hbs).trans x0
      have y1 := (hB.cell (p := ⟨b, off + k * 3 + 1, none⟩) hbs).trans x1
      have y2 := (hB.cell (p := ⟨b, off + k * 3 + 2, none⟩) hbs).trans x2
      have HB : Hid (Below w.heap.size w wr) := hB
      have hw1 : IntKind.i64.wrap (xa - last) = xa - last := IntWalk.i64_in _ (by omega)
      have hw2 : IntKind.i64.wrap (4 * (xa - last)) = 4 * (xa - last) := IntWalk.i64_in _ (by omega)
      have hw3 : IntKind.i64.wrap (4 * (xa - last) + xk) = 4 * (xa - last) + xk := IntWalk.i64_in _ (by omega)
      obtain ⟨n, hnn⟩ : ∃ n : Nat, (n : Int) = 4 * (xa - last) + xk := ⟨(4 * (xa - last) + xk).toNat, by omega⟩
      have hn100 : n < 100000 := by omega
      have HNN : Hid ((n : Int) = 4 * (xa - last) + xk) := hnn
      rw [show (4 * (xa - last) + xk).toNat = n by omega] at HE
      have HD : Hid (∀ W v1 (l1 : List Int), Below w.heap.size w W → OwnB W w1.heap.size v1 l1 → w1.heap.size ≤ W.heap.size → l1.length ≤ 1000000 → Calls Tryd.prog 16 #[v1, .agg #[.int .i64 xa, .int .i64 xk, .slice A1 xd.length c1]] W fun e w' => ∃ v', e = .returned v' ∧ Appd w1.heap.size W w' v1 v' (l1 ++ dataB ⟨xa, xk, xd⟩)) := fun W v1 l1 hB ho hlo hl => appendData_any v1 _ l1 xa xk xd w1.heap.size W ho hlo he (HXI.out.below hB) HFT.out HHB.out hl
      clear x0 x1 x2 hfit hB he HXI HHB HFT hnn hp0 hp1 hkk haa
      go_wp2_with fail
      rw [← HNN.out]
      refine (HN.out _ _ bs' n w1.heap.size (OwnB.below hA.out.own (below_alloc _ _)) (by simp; omega) hn100 (by omega)).mono ?_
      rintro e w3 ⟨v3, rfl, ha3⟩
      have hne : u5.ownBlock ≠ some wr.heap.size := own_ne (e' := 36) (OwnB.below hA.out.own (below_alloc _ (.cells #[.int .i64 xa, .int .i64 xk, .slice A1 xd.length c1] 36))) (Go.Deep.blk_alloc_new _ _) (by decide)
      have hbox : w3.heap[wr.heap.size]? = some (.cells #[.int .i64 xa, .int .i64 xk, .slice A1 xd.length c1] 36 (0, 0)) := by rw [ha3.grown.block _ (by simp) hne]; exact Go.Deep.blk_alloc_new _ _
      obtain ⟨z0, z1, z2, zf, zl⟩ := three_cells hbox
      have HBX : Hid (w3.heap[wr.heap.size]? = some (.cells #[.int .i64 xa, .int .i64 xk, .slice A1 xd.length c1] 36 (0, 0))) := hbox
      have HA3 : Hid (Appd w1.heap.size w1 w3 (.slice none 0 0) v3 (bs' ++ sevens n)) := hA.out.trans (ha3.pre (below_alloc _ _) (by omega))
      have hl3 : (bs' ++ sevens n).length ≤ 1000000 := by
        have := sevens_len7 (n := n) (by omega)
        simp
        omega
      have hs3 := HA3.out.old.size
      clear ha3 hne hbox y0 y1 y2 hA
      go_wp2_with fail
      refine (HD.out _ _ _ (HB1.out.trans (HA3.out.old.mono hs1)) HA3.out.own hs3 hl3).mono ?_
      rintro e w4 ⟨v4, rfl, ha4⟩
      have hne : v3.ownBlock ≠ some wr.heap.size := own_ne HA3.out.own HBX.out (by decide)
      have hbox : w4.heap[wr.heap.size]? = some (.cells #[.int .i64 xa, .int .i64 xk, .slice A1 xd.length c1] 36 (0, 0)) := by rw [ha4.grown.block _ zl hne]; exact HBX.out
      have HA4 : Hid (Appd w1.heap.size w1 w4 (.slice none 0 0) v4 (bs' ++ sevens n ++ dataB ⟨xa, xk, xd⟩)) := HA3.out.trans ha4
      clear ha4 hne HA3 HD HBX z0 z1 z2 zf zl
      obtain ⟨z0, z1, z2, zf, zl⟩ := three_cells hbox
      clear hbox
      go_wp2_with fail
      refine ⟨⟨k + 1, _, by omega, by go_num, by rw [HP.out], HE, HA4⟩, ?_⟩
      simp [intOf]; omega
    · have HS : Hid (bs' = encB L) := by
        show _ = _
        rw [hE.out, List.drop_eq_nil_of_le (by omega)]
        simp [encFrom]
      have HA : Hid (Appd w1.heap.size w1 wr (.slice none 0 0) u5 (encB L)) := HS.out ▸ hA.out
      have HFB : Hid (fullB L = encB L ++ sumB (encB L)) := rfl
      have HLL : Hid ((encB L).length ≤ 231007) := HL.out.1
      have HBY : Hid (∀ x ∈ encB L, 0 ≤ x ∧ x ≤ 255) := encB_byte L
      clear hE hA HS hc HK HV HN HL
      revert HA HFB HLL HBY
      generalize hfl : fullB L = fl
      generalize encB L = el
      intro HA HFB HLL HBY
      have HQ : Hid (fullB L = fl) := hfl
      clear hfl
      have hsz' := HA.out.old.size
      go_wp2_with fail
      refine (sum_any _ el _ (HA.out.own.read (by have := HLL.out; omega) HBY.out)).mono ?_
      rintro e w3 ⟨g, rfl, ho3, hb3⟩
      obtain ⟨g', cap', hv', hlo', hlt', hcc⟩ := ho3.at (by simp [sumB])
      simp only [Value.slice.injEq, Option.some.injEq, Addr.mk.injEq] at hv'
      obtain ⟨⟨rfl, -, -⟩, -, rfl⟩ := hv'
      have HC : Hid (∀ j u, ((sumB el).map (Value.int .u8))[j]? = some u → w3.cell? ((⟨g, 0, none⟩ : Addr).add j) = some u) := hcc
      have HO : Hid (OwnB w3 w1.heap.size u5 el) := HA.out.own.below hb3
      have HB3 : Hid (Below w1.heap.size w1 w3) := HA.out.old.trans (hb3.mono hsz')
      have HS4 : Hid ((sumB el).length = 4) := rfl
      clear ho3 hb3 hcc
      revert HC HS4 HFB
      generalize sumB el = sl
      intro HFB HC HS4
      go_wp2_with (first
        | (at_builtin; refine wpList_append_own_at _ rfl _ _ 26 rfl w1.heap.size 5 i0 (.int .u8 0) 1 1 Tryd.underlying26 hi hz0 hz1 hz2 rfl (by decide) u5 el.length (el.map (Value.int .u8)) rfl HO.out ⟨g, 0, none⟩ 4 4 (sl.map (Value.int .u8)) rfl (by simp [HS4.out]) HC.out (bytes_oneCell _) ?c3 ?c4 ?c5 ?_))
      case c3 => have := HLL.out; unfold maxLen; omega
      case c4 => have := HLL.out; omega
      case c5 => exact HB3.out.size
      intro v' w4 hown' hgrow _ _
      have HR : Hid (OwnB w4 w.heap.size v' fl ∧ Below w.heap.size w w4) := ⟨OwnB.mono (OwnB.of (l := el) (m := sl) hown' rfl HS4.out.symm HFB.out) hs1, HB1.out.trans ((HB3.out.grown hgrow HB3.out.size (fun k hk => (World.ownsRow.lt HO.out k hk).1)).mono hs1)⟩
      clear hown' hgrow
      go_wp2_with fail
      go_ret2
      exact ⟨v', rfl, by rw [HQ.out]; exact HR.out.1, HR.out.2⟩

end Go.Proofs.YtniedmoiklkigafDoor
