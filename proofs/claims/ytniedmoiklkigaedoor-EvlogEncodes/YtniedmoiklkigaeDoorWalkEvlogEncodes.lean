/- The walk of the law EvlogEncodes. -/
import Derived.Test.YtniedmoiklkigaeDoorByEncode
import Derived.Test.YtniedmoiklkigaeDoorByRef
import Derived.Laws.BytesArg
namespace Go.Proofs.YtniedmoiklkigaeDoor
open Go.RowKit

theorem fullB_ne (L : List Ev) : 0 < (fullB L).length := by simp [fullB, sumB]
/-- Bytes as a text. -/
theorem OwnB.text {w : World} {lo : Nat} {v : Value} {l : List Int} (h : OwnB w lo v l) (h0 : 0 < l.length) : (convert 26 9 v).run Tryd.prog w = .ok (.string (strOfNums l)) w := by
  obtain ⟨g, cap, rfl, hlo, hlt, _, hc, _⟩ := ownsRow_at h h0
  exact run_convert_bytes_arg w 26 5 Tryd.underlying26 Tryd.underlying5 g 0 l.length cap l rfl (fun i hi => by rw [Nat.zero_add, hc i hi]; simp [List.getD, hi]) 9 Tryd.underlying9

set_option maxHeartbeats 2000000 in
theorem EvlogEncodes_any (v : Value) (L : List Ev) (w : World) (h : EvsF w v L) (hL : Laid w) :
    Calls Tryd.prog 4 #[v] w fun e w' => e = .returned (.bool true) ∧ Below w.heap.size w w' := by
  by_cases hn : chkNo L = 0
  · have HF : Hid (∀ W, Below w.heap.size w W → Calls Tryd.prog 8 #[v] W fun e w' => ∃ v', e = .returned (.tuple #[v', .int .i64 0]) ∧ OwnB w' W.heap.size v' (fullB L) ∧ Below W.heap.size W w') := fun W hb => Encode_ok v L W (h.below hb) (hL.below hb) hn
    have HG : Hid (∀ W, Below w.heap.size w W → Calls Tryd.prog 9 #[v] W fun e w' => ∃ v', e = .returned (.tuple #[v', .int .i64 0]) ∧ OwnB w' W.heap.size v' (fullB L) ∧ Below W.heap.size W w') := fun W hb => EventBytes_ok v L W (h.below hb) hn
    have HP : Hid (0 < (fullB L).length) := fullB_ne L
    clear h hL hn
    revert HF HG HP
    generalize fullB L = fl
    intro HF HG HP
    go_enter Tryd.func4, Tryd.ntmps4
    go_wp2_with fail
    refine (HF.out _ (Below.refl _ _)).mono ?_
    rintro e w1 ⟨v1, rfl, ho1, hb1⟩
    have HA : Hid (OwnB w1 w.heap.size v1 fl ∧ Below w.heap.size w w1) := ⟨ho1, hb1⟩
    clear ho1 hb1 HF
    go_wp2_with fail
    refine (HG.out _ HA.out.2).mono ?_
    rintro e w2 ⟨v2, rfl, ho2, hb2⟩
    have t1 : (convert 26 9 v1).run Tryd.prog w2 = .ok (.string (strOfNums fl)) w2 := (HA.out.1.below hb2).text HP.out
    have t2 : (convert 26 9 v2).run Tryd.prog w2 = .ok (.string (strOfNums fl)) w2 := ho2.text HP.out
    have HB : Hid (Below w.heap.size w w2) := HA.out.2.trans (hb2.mono HA.out.2.size)
    clear ho2 hb2 HG HA HP
    revert t1 t2
    generalize strOfNums fl = sf
    intro t1 t2
    go_wp2_with fail
    go_ret
    exact ⟨rfl, HB.out⟩
  · have HF : Hid (∀ W, Below w.heap.size w W → Calls Tryd.prog 8 #[v] W fun e w' => e = .returned (.tuple #[.slice none 0 0, .int .i64 (chkNo L)]) ∧ Below W.heap.size W w') := fun W hb => Encode_no v L W (h.at_.below hb) (hL.below hb) hn
    have HG : Hid (∀ W, Below w.heap.size w W → Calls Tryd.prog 9 #[v] W fun e w' => e = .returned (.tuple #[.slice none 0 0, .int .i64 (chkNo L)]) ∧ Below W.heap.size W w') := fun W hb => EventBytes_no v L W (h.at_.below hb) hn
    clear h hL hn
    revert HF HG
    generalize chkNo L = en
    intro HF HG
    have t1 := fun W : World => run_convert_bytes_nil (P := Tryd.prog) W 26 5 Tryd.underlying26 Tryd.underlying5 0 0 9 Tryd.underlying9
    go_enter Tryd.func4, Tryd.ntmps4
    go_wp2_with fail
    refine (HF.out _ (Below.refl _ _)).mono ?_
    rintro e w1 ⟨rfl, hb1⟩
    have HA : Hid (Below w.heap.size w w1) := hb1
    clear hb1 HF
    go_wp2_with fail
    refine (HG.out _ HA.out).mono ?_
    rintro e w2 ⟨rfl, hb2⟩
    have HB : Hid (Below w.heap.size w w2) := HA.out.trans (hb2.mono HA.out.size)
    clear hb2 HG HA
    go_wp2_with fail
    go_ret
    exact ⟨rfl, HB.out⟩

end Go.Proofs.YtniedmoiklkigaeDoor
