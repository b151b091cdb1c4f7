/- A text, statement by statement. -/
import Derived.Test.YtlcdefpdahjjeafBase
namespace Go.Proofs.Ytlcdefpdahjjeaf
open Go.RowKit

/-- The k-th statement of a text. -/
def stm : Nat → Code → Code
  | 0, .seq a _ => a
  | 0, c => c
  | k + 1, .seq _ b => stm k b
  | _ + 1, c => c
/-- What follows from there on. -/
def rst : Nat → Code → Code
  | 0, c => c
  | k + 1, .seq _ b => rst k b
  | _ + 1, c => c
theorem wp_stm {P : Program} {c : Code} {k : Nat} (h : rst k c = .seq (stm k c) (rst (k + 1) c)) {Q : Exit → Act → World → Prop} {a : Act} {w : World} (hs : Code.wp P (stm k c) (Exit.then (Code.wp P (rst (k + 1) c) Q) Q) a w) : Code.wp P (rst k c) Q a w := by
  rw [h]
  exact wp_seq hs

end Go.Proofs.Ytlcdefpdahjjeaf
