/- Contract of hourglasskeep.instr: an instruction of a raw thing may be. -/
import Derived.Test.YtlcdefpdahjjeaeKInsA
import Derived.Test.YtlcdefpdahjjeaeKInsB
import Derived.Test.YtlcdefpdahjjeaeKInsC
import Derived.Test.YtlcdefpdahjjeaeKInsD
namespace Go.Proofs.Ytlcdefpdahjjeae
open Go.RowKit

theorem instr_any (K A B C : Int) (w : World) (hK : (Lit.int .i64 K).wf = true) (hA : (Lit.int .i64 A).wf = true) (hB : (Lit.int .i64 B).wf = true) (hC : (Lit.int .i64 C).wf = true) :
    Calls Try.prog 20 #[.agg #[.int .i64 K, .int .i64 A, .int .i64 B, .int .i64 C]] w fun e w' => ∃ op a b n, e = .returned (.agg #[.int .i64 op, .int .i64 a, .int .i64 b, .int .i64 n]) ∧ instrNo op a b n = 0 ∧ Below w.heap.size w w' := by
  by_cases h1 : pickF K 24 = 3 ∨ pickF K 24 = 4
  · have hb := pickF_bd (C.tdiv 8) (m := 2) (by decide)
    by_cases h2 : pickF (C.tdiv 8) 2 = 0
    · exact instr_sum0 K A B C w hK hA hB hC h1 h2
    · exact instr_sum1 K A B C w hK hA hB hC h1 (by omega)
  · by_cases h2 : pickF K 24 = 13 ∨ pickF K 24 = 14 ∨ pickF K 24 = 15 ∨ pickF K 24 = 19
    · exact instr_slices K A B C w hK hA hB hC h2
    · exact instr_plain K A B C w hK hA hB hC (by omega)

end Go.Proofs.Ytlcdefpdahjjeae
