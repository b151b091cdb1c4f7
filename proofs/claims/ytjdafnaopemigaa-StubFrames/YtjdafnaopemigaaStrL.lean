/- The library's contracts of makeASCIISet and of a set's contains, laid at this program. -/
import Derived.Shelf.Strings.AsciiSet
import Derived.Test.YtjdafnaopemigaaProg
namespace Go.Proofs.Ytjdafnaopemigaa
open Go.Shelf
set_option maxRecDepth 1000000

def renS : Go.Shelf.Ren := ⟨fun | 227 => 30 | 228 => 31 | n => n, fun | 0 => 0 | 3 => 3 | 4 => 4 | 5 => 5 | 9 => 9 | 116 => 49 | 124 => 57 | n => n, fun n => n⟩

theorem lays227 : Lays.n227 Try.prog renS := {
  mixed := by kernel_rfl
  f227 := Try.func30.trans (congrArg some (by kernel_rfl))
  t0 := Try.underlying0
  a0 := Try.isAgg0
  z0 := Try.sizeOf0
  v0 := Try.zeroValue0
  t3 := Try.underlying3
  a3 := Try.isAgg3
  z3 := Try.sizeOf3
  v3 := Try.zeroValue3
  t4 := Try.underlying4
  a4 := Try.isAgg4
  z4 := Try.sizeOf4
  v4 := Try.zeroValue4
  t5 := Try.underlying5
  a5 := Try.isAgg5
  z5 := Try.sizeOf5
  v5 := Try.zeroValue5
  t9 := Try.underlying9
  a9 := Try.isAgg9
  z9 := Try.sizeOf9
  v9 := Try.zeroValue9
  t116 := Try.underlying49
  a116 := Try.isAgg49
  z116 := Try.sizeOf49 }

end Go.Proofs.Ytjdafnaopemigaa
