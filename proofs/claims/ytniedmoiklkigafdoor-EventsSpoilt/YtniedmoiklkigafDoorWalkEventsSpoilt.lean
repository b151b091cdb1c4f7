/- The walk of hourglasskeep.EventsSpoilt: one byte that is another one is told. -/
import Derived.Test.YtniedmoiklkigafDoorKEvTells
import Derived.Test.YtniedmoiklkigafDoorKEvents
import Derived.Test.YtniedmoiklkigafDoorByDecS
import Derived.Test.YtniedmoiklkigafDoorBySpoil
namespace Go.Proofs.YtniedmoiklkigafDoor
open Go.RowKit

theorem OwnB.stored {w : World} {lo g cap n i : Nat} {l : List Int} (h : OwnB w lo (.slice (some ⟨g, 0, none⟩) n cap) l) (x : Int) : OwnB (w.setCell ⟨g, i, none⟩ (.int .u8 x)) lo (.slice (some ⟨g, 0, none⟩) n cap) (l.set i x) := by
  obtain ⟨_, hn⟩ := own_block h
  subst hn
  have := (World.ownsRow.stored h i (.int .u8 x)).1
  simpa [OwnB, List.map_set] using this
theorem OwnB.room {w : World} {lo g cap n : Nat} {l : List Int} (h : OwnB w lo (.slice (some ⟨g, 0, none⟩) n cap) l) : n ≤ cap := by
  rcases h.2 with ⟨e, _⟩ | ⟨g', cap', cur, e, _, _, hn, _⟩
  · simp at e
  · simp only [Value.slice.injEq] at e
    omega

theorem getD_in {l : List Int} {k : Nat} (h : k < l.length) : l.getD k 0 ∈ l := by simp [List.getD, h]
theorem map_getD {l : List Int} {k : Nat} (h : k < l.length) : (l.map (Value.int .u8))[k]? = some (.int .u8 (l.getD k 0)) := by simp [List.getD, h]

/-- Bytes of which one is another one. -/
theorem Decode_spoilt (g c n k : Nat) (l : List Int) (z : Int) (lo : Nat) (w : World) (h : OwnB w lo (.slice (some ⟨g, 0, none⟩) n c) ((l ++ sumB l).set k z)) (hl : ∀ x ∈ l, 0 ≤ x ∧ x ≤ 255) (h0 : 0 < l.length) (h6 : l.length ≤ 50000) (hk : k < (l ++ sumB l).length) (hz : 0 ≤ z ∧ z ≤ 255) (hne : z ≠ (l ++ sumB l).getD k 0) :
    Calls Tryd.prog 9 #[.slice (some ⟨g, 0, none⟩) n c] w fun e w' => e = .returned (.tuple #[.slice none 0 0, .int .i64 10]) ∧ Below w.heap.size w w' := by
  have hlen : ((l ++ sumB l).set k z).length = l.length + 4 := by simp [sumB]
  have hby : ∀ x ∈ (l ++ sumB l).set k z, 0 ≤ x ∧ x ≤ 255 := fun x hx => by
    rcases List.mem_or_eq_of_mem_set hx with hx | rfl
    · rcases List.mem_append.1 hx with hx | hx
      · exact hl x hx
      · exact sumB_byte l x hx
    · exact hz
  have hs := spoilt hl hk hz hne
  obtain ⟨A, c', e⟩ := h.shape
  simp only [Value.slice.injEq] at e
  obtain ⟨-, rfl, rfl⟩ := e
  have hr := h.room
  refine Decode_early _ 10 w (by simp) ?_
  refine (withoutSum_sum g 0 c _ w (h.read (by omega) hby) (by omega) (by omega) (by omega) false ?_).mono ?_
  · rw [show ((l ++ sumB l).set k z).length - 4 = l.length by omega]
    simp [hs]
  · rintro e w' ⟨rfl, hb⟩
    exact ⟨by simp, hb⟩

set_option maxRecDepth 20000 in
set_option maxHeartbeats 2000000 in
theorem EventsSpoilt_any (v : Value) (n : Nat) (at_ by_ : Int) (w : World) (h : RawsIn w v n) (ha : (Lit.int .i64 at_).wf = true) (hb : (Lit.int .u8 by_).wf = true) (hL : Laid w) :
    Calls Tryd.prog 4 #[v, .int .i64 at_, .int .u8 by_] w fun e w' => e = .returned (.bool true) ∧ Below w.heap.size w w' := by
  have hbb : 0 ≤ by_ ∧ by_ ≤ 255 := by simpa [Lit.wf, IntKind.min, IntKind.max, IntKind.signed, IntKind.bits] using hb
  clear hb
  have HT : Hid (Calls Tryd.prog 6 #[] w fun e w' => e = .returned (.bool true) ∧ Below w.heap.size w w') := evlogTells_any w hL
  have HV : Hid (∀ W, Below w.heap.size w W → Calls Tryd.prog 7 #[v] W fun e w' => ∃ v' L, e = .returned v' ∧ EvsF w' v' L ∧ chkNo L = 0 ∧ L.length ≤ 30 ∧ Below W.heap.size W w') := fun W hB => Events_any v n W (h.below hB)
  have HE : Hid (∀ W v' L, Below w.heap.size w W → EvsF W v' L → chkNo L = 0 → Calls Tryd.prog 8 #[v'] W fun e w' => ∃ v', e = .returned (.tuple #[v', .int .i64 0]) ∧ OwnB w' W.heap.size v' (fullB L) ∧ Below W.heap.size W w') := fun W v' L hB hv hc => Encode_ok v' L W hv (hL.below hB) hc
  have HP : Hid (∀ W (m : Int), 0 < m → m ≤ 1000000 → Calls Tryd.prog 10 #[.int .i64 at_, .int .i64 m] W fun e w' => e = .returned (.int .i64 (pickF at_ m)) ∧ w' = W) := fun W m h1 h2 => picked_any at_ m W ha h1 h2
  clear h ha hL
  go_enter Tryd.func4, Tryd.ntmps4
  go_wp2_with fail
  refine HT.out.mono ?_
  rintro e w1 ⟨rfl, hb1⟩
  have HB1 : Hid (Below w.heap.size w w1) := hb1
  clear hb1 HT
  go_wp2_with fail
  refine (HV.out _ HB1.out).mono ?_
  rintro e w2 ⟨v2, L, rfl, hv2, hc, h30, hb2⟩
  have HB2 : Hid (Below w.heap.size w w2) := HB1.out.trans (hb2.mono HB1.out.size)
  have HV2 : Hid (EvsF w2 v2 L ∧ chkNo L = 0 ∧ L.length ≤ 30) := ⟨hv2, hc, h30⟩
  clear hv2 hc h30 hb2 HB1 HV
  go_wp2_with fail
  refine (HE.out _ _ L HB2.out HV2.out.1 HV2.out.2.1).mono ?_
  rintro e w3 ⟨v3, rfl, ho3, hb3⟩
  have hlen : 0 < (encB L).length ∧ (encB L).length ≤ 6937 := ⟨by have := sevens_ne L.length; simp [encB]; omega, encB_len30 HV2.out.2.1 HV2.out.2.2⟩
  have HB3 : Hid (Below w.heap.size w w3) := HB2.out.trans (hb3.mono HB2.out.size)
  have hbyte : ∀ x ∈ encB L, 0 ≤ x ∧ x ≤ 255 := encB_byte L
  have ho : OwnB w3 w.heap.size v3 (encB L ++ sumB (encB L)) := OwnB.mono (l := fullB L) ho3 HB2.out.size
  clear ho3 hb3 HB2 HV2 HE
  revert hlen hbyte ho
  generalize encB L = l
  intro hlen hbyte ho
  obtain ⟨N, hN⟩ : ∃ N, N = (l ++ sumB l).length := ⟨_, rfl⟩
  have hN4 : N = l.length + 4 := by rw [hN]; simp [sumB]
  obtain ⟨g, c, rfl, hlo, hlt, ⟨cur, hcur⟩, hcell, hfr⟩ := ownsRow_at ho (by simp; omega)
  rw [← hN] at ho ⊢
  by_cases hz : by_ = 0
  · subst hz
    clear hcell hfr
    go_wp2_with fail
    go_ret
    exact ⟨rfl, HB3.out⟩
  · have hz' : (by_ == 0) = false := by simpa using hz
    obtain ⟨hp0, hp1⟩ := pickF_bd at_ (m := (N : Int)) (by omega)
    obtain ⟨k, hk⟩ : ∃ k : Nat, (k : Int) = pickF at_ N := ⟨(pickF at_ N).toNat, by omega⟩
    have hkN : k < N := by omega
    obtain ⟨z, hzz⟩ : ∃ z : Int, z = (l ++ sumB l).getD k 0 := ⟨_, rfl⟩
    have hk1 : k < (l ++ sumB l).length := by omega
    have hz1 : 0 ≤ z ∧ z ≤ 255 := by
      rw [hzz]
      rcases List.mem_append.1 (getD_in hk1) with h | h
      · exact hbyte _ h
      · exact sumB_byte l _ h
    have hck : w3.cell? ⟨g, k, none⟩ = some (.int .u8 z) := by
      rw [hcell k (by omega), hzz]
      exact map_getD hk1
    have hfk := hfr k
    have HD : Hid (∀ W, W = w3.setCell ⟨g, k, none⟩ (.int .u8 ((z + by_) % 256)) → Calls Tryd.prog 9 #[.slice (some ⟨g, 0, none⟩) N c] W fun e w' => e = .returned (.tuple #[.slice none 0 0, .int .i64 10]) ∧ Below w.heap.size w w') := fun W hW => by
      subst hW
      refine (Decode_spoilt g c N k l ((z + by_) % 256) w.heap.size _ (ho.stored _) hbyte hlen.1 (by omega) hk1 (by omega) (by omega)).mono ?_
      rintro e w' ⟨rfl, hb⟩
      exact ⟨rfl, (HB3.out.setCell (p := ⟨g, k, none⟩) hlo _).trans (hb.mono (by simp; have := HB3.out.size; omega))⟩
    have HPK : Hid (∀ W, Calls Tryd.prog 10 #[.int .i64 at_, .int .i64 N] W fun e w' => e = .returned (.int .i64 k) ∧ w' = W) := fun W => by rw [hk]; exact HP.out W N (by omega) (by omega)
    have hwz : IntKind.u8.wrap (z + by_) = (z + by_) % 256 := by simp [IntKind.wrap, IntKind.signed, IntKind.bits]
    have hk2 : (k : Int) < N := by omega
    have hk3 : (0 : Int) ≤ k := by omega
    clear hcell hfr ho HP hcur hzz hbyte hp0 hp1 hk hN hN4 hz1 hk1 hlen
    go_wp2_with fail
    refine (HPK.out _).mono ?_
    rintro e w4 ⟨rfl, rfl⟩
    go_wp2_with fail
    refine (HD.out _ rfl).mono ?_
    rintro e w5 ⟨rfl, hb5⟩
    have HB5 : Hid (Below w.heap.size w w5) := hb5
    clear hb5
    go_wp2_with fail
    go_ret
    exact ⟨rfl, HB5.out⟩

end Go.Proofs.YtniedmoiklkigafDoor
