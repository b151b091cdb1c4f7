/- Contract of evlogTells: a list of events has bytes. -/
import Derived.Test.YtniedmoiklkigafDoorByEncode
namespace Go.Proofs.YtniedmoiklkigafDoor
open Go.RowKit

theorem evsF_nil (w : World) : EvsF w (.slice none 0 0) [] := by
  refine ⟨⟨none, 0, rfl, by simp, fun h => by simp at h⟩, ?_⟩
  all_goals intros
  all_goals simp_all

theorem evlogTells_any (w : World) (hL : Laid w) :
    Calls Tryd.prog 6 #[] w fun e w' => e = .returned (.bool true) ∧ Below w.heap.size w w' := by
  have HE : Hid (Calls Tryd.prog 8 #[.slice none 0 0] w fun e w' => ∃ A c n, e = .returned (.tuple #[.slice A n c, .int .i64 0]) ∧ 0 < n ∧ n ≤ 1000 ∧ Below w.heap.size w w') := by
    refine (Encode_ok (.slice none 0 0) [] w (evsF_nil w) hL (by first | rfl | (unfold chkNo chk firstFrom; simp))).mono ?_
    rintro e w' ⟨v', rfl, ho, hb⟩
    obtain ⟨A, c, rfl⟩ := ho.shape
    have : (fullB []).length = 5 := by simp [fullB, encB, encFrom, sumB, sevens_small]
    exact ⟨A, c, _, rfl, by omega, by omega, hb⟩
  clear hL
  go_enter Tryd.func6, Tryd.ntmps6
  go_wp2_with fail
  refine HE.out.mono ?_
  rintro e w' ⟨A, c, n, rfl, h0, h1, hb⟩
  have HB : Hid (Below w.heap.size w w') := hb
  clear hb
  have hn : (0 : Int) < (n : Int) := by omega
  go_wp2_with fail
  go_ret
  exact ⟨rfl, HB.out⟩

end Go.Proofs.YtniedmoiklkigafDoor
