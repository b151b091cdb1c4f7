/-
  No cell of these rows narrows 'for every input' (looked for: loops, veiled, ifaces, maps, wideKeys, modest, calm, conditions, laid).
  DERIVED. THE GIVEN ROWS OF THIS SEAT. 4 by the template 'for every input the law returns true; each argument reads behind the call as it read before'; 0 by the template 'total and deterministic' (their statements: YtjdafnaopemigaaTotals.lean).
  GIVEN WITH THE SEED: the statements are not yours to turn. If you find one false, say at which input.
  Laid BY PROGRAM, IN A SANDBOX (cutbox-rows.mjs): the forced cells as the released guide's own fill.sh prints them over the translation e7bfc899f75c6748… (all of the seat's roots in one cut). By AI agents, Wed Nov 11 2026. No macro, syntax, notation, axiom, sorry.
-/
import Derived.Test.YtjdafnaopemigaaChecked
import GoSem.Claim
import GoSem.ClaimJoined
import GoSem.ClaimMapViews
import Derived.JoinedTies
import Derived.KernelRfl
namespace Go.Proofs.Ytjdafnaopemigaa
/- THE CELL 'sum', in the pinned program and in every row, IS THE sha256 OF THE DUMP (.gsa) THAT YtjdafnaopemigaaProg.lean LOADS. Nothing in Lean hashes anything: it is a label: what it is worth is what the hold of that sum in a sandbox is worth. -/
noncomputable def Try.pinned : Pinned := { name := "ytjdafnaopemigaa", sum := "e7bfc899f75c6748f97220c91a16b27782add0e5db3a93566d4bd114624b4cc5", checked := Try.checked }
namespace Rows
def none {H : Type} : Left H := { results := [], args := [] }

/-- 'hourglasslaw.StubFrames': WHATEVER THE INPUT: true; the input reads as it did. -/
def stubFramesSpec : ChangeSpec := { name := "stubFrames", fn := fun _ => fun
  | [d] => { results := [.lit (.bool true)], args := [d] }
  | _ => none }
def stubFramesRow : OpenClaim := { program := "ytjdafnaopemigaa", sum := "e7bfc899f75c6748f97220c91a16b27782add0e5db3a93566d4bd114624b4cc5", func := "hourglass/hourglasslaw.StubFrames", spec := "stubFrames", inPlace := ["internal/bytealg.IndexByteString", "internal/bytealg.IndexString"], named := ["internal/bytealg.MaxLen"], apart := false }
def StubFramesSaid : Prop := stubFramesRow.holds Try.pinned (OpenSpec.ofChange stubFramesSpec)

/-- ITS FALSE NEIGHBOUR: 'it returns false'. Refute it at one input. -/
def stubFramesWrong : ChangeSpec := { name := "stubFrames", fn := fun _ => fun
  | [d] => { results := [.lit (.bool false)], args := [d] }
  | _ => none }
def StubFramesWrongFalsely : Prop := stubFramesRow.holds Try.pinned (OpenSpec.ofChange stubFramesWrong)

/-- 'hourglasslaw.StubOpens': WHATEVER THE INPUT: true; the input reads as it did. -/
def stubOpensSpec : ChangeSpec := { name := "stubOpens", fn := fun _ => fun
  | [d] => { results := [.lit (.bool true)], args := [d] }
  | _ => none }
def stubOpensRow : OpenClaim := { program := "ytjdafnaopemigaa", sum := "e7bfc899f75c6748f97220c91a16b27782add0e5db3a93566d4bd114624b4cc5", func := "hourglass/hourglasslaw.StubOpens", spec := "stubOpens", inPlace := ["internal/bytealg.IndexByteString", "internal/bytealg.IndexString"], named := ["internal/bytealg.MaxLen"], apart := false }
def StubOpensSaid : Prop := stubOpensRow.holds Try.pinned (OpenSpec.ofChange stubOpensSpec)

/-- ITS FALSE NEIGHBOUR: 'it returns false'. Refute it at one input. -/
def stubOpensWrong : ChangeSpec := { name := "stubOpens", fn := fun _ => fun
  | [d] => { results := [.lit (.bool false)], args := [d] }
  | _ => none }
def StubOpensWrongFalsely : Prop := stubOpensRow.holds Try.pinned (OpenSpec.ofChange stubOpensWrong)

/-- 'hourglasslaw.StubChecks': WHATEVER THE INPUT: true; the input reads as it did. -/
def stubChecksSpec : ChangeSpec := { name := "stubChecks", fn := fun _ => fun
  | [d1, d2] => { results := [.lit (.bool true)], args := [d1, d2] }
  | _ => none }
def stubChecksRow : OpenClaim := { program := "ytjdafnaopemigaa", sum := "e7bfc899f75c6748f97220c91a16b27782add0e5db3a93566d4bd114624b4cc5", func := "hourglass/hourglasslaw.StubChecks", spec := "stubChecks", apart := false }
def StubChecksSaid : Prop := stubChecksRow.holds Try.pinned (OpenSpec.ofChange stubChecksSpec)

/-- ITS FALSE NEIGHBOUR: 'it returns false'. Refute it at one input. -/
def stubChecksWrong : ChangeSpec := { name := "stubChecks", fn := fun _ => fun
  | [d1, d2] => { results := [.lit (.bool false)], args := [d1, d2] }
  | _ => none }
def StubChecksWrongFalsely : Prop := stubChecksRow.holds Try.pinned (OpenSpec.ofChange stubChecksWrong)

/-- 'hourglasskeep.PacketsBack': WHATEVER THE INPUT: true; the input reads as it did. -/
def packetsBackSpec : ChangeSpec := { name := "packetsBack", fn := fun _ => fun
  | [d1, d2, d3] => { results := [.lit (.bool true)], args := [d1, d2, d3] }
  | _ => none }
def packetsBackRow : OpenClaim := { program := "ytjdafnaopemigaa", sum := "e7bfc899f75c6748f97220c91a16b27782add0e5db3a93566d4bd114624b4cc5", func := "hourglass/hourglasskeep.PacketsBack", spec := "packetsBack", inPlace := ["internal/bytealg.IndexByteString", "internal/bytealg.IndexString"], named := ["internal/bytealg.MaxLen"], apart := false }
def PacketsBackSaid : Prop := packetsBackRow.holds Try.pinned (OpenSpec.ofChange packetsBackSpec)

/-- ITS FALSE NEIGHBOUR: 'it returns false'. Refute it at one input. -/
def packetsBackWrong : ChangeSpec := { name := "packetsBack", fn := fun _ => fun
  | [d1, d2, d3] => { results := [.lit (.bool false)], args := [d1, d2, d3] }
  | _ => none }
def PacketsBackWrongFalsely : Prop := packetsBackRow.holds Try.pinned (OpenSpec.ofChange packetsBackWrong)

/- THE SECOND FORM. 'bulk': how many values and letters a reading holds, each counted each time it is reached (what is shared counts as often as it is met; a slice's spare places count too). A statement '..UptoSaid' is the law's where the arguments, and the package variables that the reading takes, are together of bulk at most 1048576: NARROWER than '..Said'. Prove '..Said' where nothing that the law and all that it calls make is longer than what came in: it says more and counts as full. Else prove '..UptoSaid'. A law counts once. -/
mutual
def uptoBulk {H : Type} : DataW H → Nat
  | .lit (.string bytes) => bytes.length + 1
  | .lit _ => 1
  | .nil => 1
  | .ptr d => uptoBulk d + 1
  | .slice elems spare => uptoBulkAll elems + uptoBulkAll spare + 1
  | .agg parts => uptoBulkAll parts + 1
  | .iface _ d => uptoBulk d + 1
  | .map entries => uptoBulkEntries entries + 1
  | .held _ => 1
def uptoBulkAll {H : Type} : List (DataW H) → Nat
  | [] => 0
  | d :: r => uptoBulk d + uptoBulkAll r
def uptoBulkEntries {H : Type} : List (Lit × DataW H) → Nat
  | [] => 0
  | x :: r => uptoBulkEntry x + uptoBulkEntries r
def uptoBulkEntry {H : Type} : Lit × DataW H → Nat
  | (.string bytes, d) => bytes.length + uptoBulk d + 1
  | (_, d) => uptoBulk d + 1
 end
def uptoSmall : (H : Type) → List (DataW H) → Bool := fun _ ds => decide (uptoBulkAll ds ≤ 1048576)
def OpenSpec.upto (s : _root_.Go.ChangeSpec) : _root_.Go.OpenSpec := { _root_.Go.OpenSpec.ofChange s with cond := some uptoSmall }

/-- 'hourglasslaw.StubFrames', WHERE WHAT IT READS IS OF BULK AT MOST 1048576: true; the input reads as it did. -/
def stubFramesUptoRow : OpenClaim := { program := "ytjdafnaopemigaa", sum := "e7bfc899f75c6748f97220c91a16b27782add0e5db3a93566d4bd114624b4cc5", func := "hourglass/hourglasslaw.StubFrames", spec := "stubFrames", inPlace := ["internal/bytealg.IndexByteString", "internal/bytealg.IndexString"], named := ["internal/bytealg.MaxLen"], apart := false, narrowed := true }
def StubFramesUptoSaid : Prop := stubFramesUptoRow.holds Try.pinned (OpenSpec.upto stubFramesSpec)

/-- 'hourglasslaw.StubOpens', WHERE WHAT IT READS IS OF BULK AT MOST 1048576: true; the input reads as it did. -/
def stubOpensUptoRow : OpenClaim := { program := "ytjdafnaopemigaa", sum := "e7bfc899f75c6748f97220c91a16b27782add0e5db3a93566d4bd114624b4cc5", func := "hourglass/hourglasslaw.StubOpens", spec := "stubOpens", inPlace := ["internal/bytealg.IndexByteString", "internal/bytealg.IndexString"], named := ["internal/bytealg.MaxLen"], apart := false, narrowed := true }
def StubOpensUptoSaid : Prop := stubOpensUptoRow.holds Try.pinned (OpenSpec.upto stubOpensSpec)

/-- 'hourglasslaw.StubChecks', WHERE WHAT IT READS IS OF BULK AT MOST 1048576: true; the input reads as it did. -/
def stubChecksUptoRow : OpenClaim := { program := "ytjdafnaopemigaa", sum := "e7bfc899f75c6748f97220c91a16b27782add0e5db3a93566d4bd114624b4cc5", func := "hourglass/hourglasslaw.StubChecks", spec := "stubChecks", apart := false, narrowed := true }
def StubChecksUptoSaid : Prop := stubChecksUptoRow.holds Try.pinned (OpenSpec.upto stubChecksSpec)

/-- 'hourglasskeep.PacketsBack', WHERE WHAT IT READS IS OF BULK AT MOST 1048576: true; the input reads as it did. -/
def packetsBackUptoRow : OpenClaim := { program := "ytjdafnaopemigaa", sum := "e7bfc899f75c6748f97220c91a16b27782add0e5db3a93566d4bd114624b4cc5", func := "hourglass/hourglasskeep.PacketsBack", spec := "packetsBack", inPlace := ["internal/bytealg.IndexByteString", "internal/bytealg.IndexString"], named := ["internal/bytealg.MaxLen"], apart := false, narrowed := true }
def PacketsBackUptoSaid : Prop := packetsBackUptoRow.holds Try.pinned (OpenSpec.upto packetsBackSpec)

end Rows
end Go.Proofs.Ytjdafnaopemigaa
