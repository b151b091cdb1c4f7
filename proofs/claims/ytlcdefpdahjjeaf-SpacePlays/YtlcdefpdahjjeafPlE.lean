/- space.Play: the writes behind the fork, walked. (Written by tools/gen_pl.py.) -/
import Derived.Test.YtlcdefpdahjjeafPlB
import Derived.Test.YtlcdefpdahjjeafPlD
import Derived.StillTailTactics
namespace Go.Proofs.Ytlcdefpdahjjeaf
open Go.RowKit

theorem Rel.putW {n : Nat} {D' : List (List Int)} {R' s t : List Int} {S : PS} {x : Int × Int × Int} (hx : x.2.2 ≠ 0) (h : Rel n D' R' t s (S.swap.put x.1.toNat x.2.1)) : Rel n D' R' s t (S.putW x) := by
  have := h.swap
  unfold PS.putW
  rw [if_neg hx]
  exact this

theorem WrAns.all {n : Nat} {t : List Int} {S : PS} {a v : Int} {w w' : World} {e : Ending} (h : WrAns n t S a v w e w') : ∃ D2 R2 s2 er, s2.length = 16 ∧ er = S.err n a ∧ (er = 0 → Rel n D2 R2 s2 t (S.put a.toNat v)) ∧ WrPost w D2 R2 s2 er e w' := by
  rcases h with ⟨h1, h2⟩ | ⟨h1, D2, R2, s2, h2, h3⟩
  · exact ⟨[], [], zeros, S.err n a, rfl, rfl, fun e => absurd e h1, h2⟩
  · exact ⟨D2, R2, s2, 0, h2.ls, h1.symm, fun _ => h2, h3⟩
theorem Pl2.drew {w W : World} {bf bo : Nat} {d r : Value} {s t : List Int} {D : List (List Int)} {R : List Int} (h : Pl2 w W bf bo d r s t D R) : Pl2 w W.drew bf bo d r s t D R := h.below ((Below.refl _ _).drew)

end Go.Proofs.Ytlcdefpdahjjeaf
