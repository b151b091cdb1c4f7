/- hourglassref.stepped, statement by statement: the statements of its text. -/
import Derived.Test.YtlcdefpdahjjeadSpA
import Derived.Test.YtlcdefpdahjjeadStepL
namespace Go.Proofs.Ytlcdefpdahjjead
open Go.RowKit

/-- The k-th statement of a text. -/
def stm : Nat → Code → Code
  | 0, .seq a _ => a
  | 0, c => c
  | k + 1, .seq _ b => stm k b
  | _ + 1, c => c
def rst : Nat → Code → Code
  | 0, c => c
  | k + 1, .seq _ b => rst k b
  | _ + 1, c => c

end Go.Proofs.Ytlcdefpdahjjead
