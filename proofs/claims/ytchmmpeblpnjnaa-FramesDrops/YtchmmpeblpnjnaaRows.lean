/-
  No cell of these rows narrows 'for every input' (looked for: loops, veiled, ifaces, maps, wideKeys, modest, calm, conditions, laid).
  DERIVED. THE GIVEN ROWS OF THIS SEAT. 6 by the template 'for every input the law returns true; each argument reads behind the call as it read before'; 0 by the template 'total and deterministic' (their statements: YtchmmpeblpnjnaaTotals.lean).
  GIVEN WITH THE SEED: the statements are not yours to turn. If you find one false, say at which input.
  Laid BY PROGRAM, IN A SANDBOX (cutbox-rows.mjs): the forced cells as the released guide's own fill.sh prints them over the translation f96ee4692b53ee79… (all of the seat's roots in one cut). By AI agents, Wed Nov 11 2026. No macro, syntax, notation, axiom, sorry.
-/
import Derived.Test.YtchmmpeblpnjnaaChecked
import GoSem.Claim
import GoSem.ClaimJoined
import GoSem.ClaimMapViews
import Derived.JoinedTies
import Derived.KernelRfl
namespace Go.Proofs.Ytchmmpeblpnjnaa
/- THE CELL 'sum', in the pinned program and in every row, IS THE sha256 OF THE DUMP (.gsa) THAT YtchmmpeblpnjnaaProg.lean LOADS. Nothing in Lean hashes anything: it is a label: what it is worth is what the hold of that sum in a sandbox is worth. -/
noncomputable def Try.pinned : Pinned := { name := "ytchmmpeblpnjnaa", sum := "f96ee4692b53ee79649fa2d878bc0e34cac3101072a65731b4268df54cc4c46a", checked := Try.checked }
namespace Rows
def none {H : Type} : Left H := { results := [], args := [] }

/-- 'hourglasslaw.FramesNew': WHATEVER THE INPUT: true; the input reads as it did. -/
def framesNewSpec : ChangeSpec := { name := "framesNew", fn := fun _ => fun
  | [d] => { results := [.lit (.bool true)], args := [d] }
  | _ => none }
def framesNewRow : OpenClaim := { program := "ytchmmpeblpnjnaa", sum := "f96ee4692b53ee79649fa2d878bc0e34cac3101072a65731b4268df54cc4c46a", func := "hourglass/hourglasslaw.FramesNew", spec := "framesNew", apart := false }
def FramesNewSaid : Prop := framesNewRow.holds Try.pinned (OpenSpec.ofChange framesNewSpec)

/-- ITS FALSE NEIGHBOUR: 'it returns false'. Refute it at one input. -/
def framesNewWrong : ChangeSpec := { name := "framesNew", fn := fun _ => fun
  | [d] => { results := [.lit (.bool false)], args := [d] }
  | _ => none }
def FramesNewWrongFalsely : Prop := framesNewRow.holds Try.pinned (OpenSpec.ofChange framesNewWrong)

/-- 'hourglasslaw.FramesChecks': WHATEVER THE INPUT: true; the input reads as it did. -/
def framesChecksSpec : ChangeSpec := { name := "framesChecks", fn := fun _ => fun
  | [d] => { results := [.lit (.bool true)], args := [d] }
  | _ => none }
def framesChecksRow : OpenClaim := { program := "ytchmmpeblpnjnaa", sum := "f96ee4692b53ee79649fa2d878bc0e34cac3101072a65731b4268df54cc4c46a", func := "hourglass/hourglasslaw.FramesChecks", spec := "framesChecks", apart := false }
def FramesChecksSaid : Prop := framesChecksRow.holds Try.pinned (OpenSpec.ofChange framesChecksSpec)

/-- ITS FALSE NEIGHBOUR: 'it returns false'. Refute it at one input. -/
def framesChecksWrong : ChangeSpec := { name := "framesChecks", fn := fun _ => fun
  | [d] => { results := [.lit (.bool false)], args := [d] }
  | _ => none }
def FramesChecksWrongFalsely : Prop := framesChecksRow.holds Try.pinned (OpenSpec.ofChange framesChecksWrong)

/-- 'hourglasslaw.FramesCopies': WHATEVER THE INPUT: true; the input reads as it did. -/
def framesCopiesSpec : ChangeSpec := { name := "framesCopies", fn := fun _ => fun
  | [d] => { results := [.lit (.bool true)], args := [d] }
  | _ => none }
def framesCopiesRow : OpenClaim := { program := "ytchmmpeblpnjnaa", sum := "f96ee4692b53ee79649fa2d878bc0e34cac3101072a65731b4268df54cc4c46a", func := "hourglass/hourglasslaw.FramesCopies", spec := "framesCopies", apart := false }
def FramesCopiesSaid : Prop := framesCopiesRow.holds Try.pinned (OpenSpec.ofChange framesCopiesSpec)

/-- ITS FALSE NEIGHBOUR: 'it returns false'. Refute it at one input. -/
def framesCopiesWrong : ChangeSpec := { name := "framesCopies", fn := fun _ => fun
  | [d] => { results := [.lit (.bool false)], args := [d] }
  | _ => none }
def FramesCopiesWrongFalsely : Prop := framesCopiesRow.holds Try.pinned (OpenSpec.ofChange framesCopiesWrong)

/-- 'hourglasslaw.FramesTakes': WHATEVER THE INPUT: true; the input reads as it did. -/
def framesTakesSpec : ChangeSpec := { name := "framesTakes", fn := fun _ => fun
  | [d] => { results := [.lit (.bool true)], args := [d] }
  | _ => none }
def framesTakesRow : OpenClaim := { program := "ytchmmpeblpnjnaa", sum := "f96ee4692b53ee79649fa2d878bc0e34cac3101072a65731b4268df54cc4c46a", func := "hourglass/hourglasslaw.FramesTakes", spec := "framesTakes", apart := false }
def FramesTakesSaid : Prop := framesTakesRow.holds Try.pinned (OpenSpec.ofChange framesTakesSpec)

/-- ITS FALSE NEIGHBOUR: 'it returns false'. Refute it at one input. -/
def framesTakesWrong : ChangeSpec := { name := "framesTakes", fn := fun _ => fun
  | [d] => { results := [.lit (.bool false)], args := [d] }
  | _ => none }
def FramesTakesWrongFalsely : Prop := framesTakesRow.holds Try.pinned (OpenSpec.ofChange framesTakesWrong)

/-- 'hourglasslaw.FramesShares': WHATEVER THE INPUT: true; the input reads as it did. -/
def framesSharesSpec : ChangeSpec := { name := "framesShares", fn := fun _ => fun
  | [d1, d2] => { results := [.lit (.bool true)], args := [d1, d2] }
  | _ => none }
def framesSharesRow : OpenClaim := { program := "ytchmmpeblpnjnaa", sum := "f96ee4692b53ee79649fa2d878bc0e34cac3101072a65731b4268df54cc4c46a", func := "hourglass/hourglasslaw.FramesShares", spec := "framesShares", apart := false }
def FramesSharesSaid : Prop := framesSharesRow.holds Try.pinned (OpenSpec.ofChange framesSharesSpec)

/-- ITS FALSE NEIGHBOUR: 'it returns false'. Refute it at one input. -/
def framesSharesWrong : ChangeSpec := { name := "framesShares", fn := fun _ => fun
  | [d1, d2] => { results := [.lit (.bool false)], args := [d1, d2] }
  | _ => none }
def FramesSharesWrongFalsely : Prop := framesSharesRow.holds Try.pinned (OpenSpec.ofChange framesSharesWrong)

/-- 'hourglasslaw.FramesDrops': WHATEVER THE INPUT: true; the input reads as it did. -/
def framesDropsSpec : ChangeSpec := { name := "framesDrops", fn := fun _ => fun
  | [d1, d2] => { results := [.lit (.bool true)], args := [d1, d2] }
  | _ => none }
def framesDropsRow : OpenClaim := { program := "ytchmmpeblpnjnaa", sum := "f96ee4692b53ee79649fa2d878bc0e34cac3101072a65731b4268df54cc4c46a", func := "hourglass/hourglasslaw.FramesDrops", spec := "framesDrops", apart := false }
def FramesDropsSaid : Prop := framesDropsRow.holds Try.pinned (OpenSpec.ofChange framesDropsSpec)

/-- ITS FALSE NEIGHBOUR: 'it returns false'. Refute it at one input. -/
def framesDropsWrong : ChangeSpec := { name := "framesDrops", fn := fun _ => fun
  | [d1, d2] => { results := [.lit (.bool false)], args := [d1, d2] }
  | _ => none }
def FramesDropsWrongFalsely : Prop := framesDropsRow.holds Try.pinned (OpenSpec.ofChange framesDropsWrong)

/- THE SECOND FORM. 'bulk': how many values and letters a reading holds, each counted each time it is reached (what is shared counts as often as it is met; a slice's spare places count too). A statement '..UptoSaid' is the law's where the arguments, and the package variables that the reading takes, are together of bulk at most 1048576: NARROWER than '..Said'. Prove '..Said' where nothing that the law and all that it calls make is longer than what came in: it says more and counts as full. Else prove '..UptoSaid'. A law counts once. -/
mutual
def uptoBulk {H : Type} : DataW H → Nat
  | .lit (.string bytes) => bytes.length + 1
  | .lit _ => 1
  | .nil => 1
  | .ptr d => uptoBulk d + 1
  | .slice elems spare => uptoBulkAll elems + uptoBulkAll spare + 1
  | .agg parts => uptoBulkAll parts + 1
  | .iface _ d => uptoBulk d + 1
  | .map entries => uptoBulkEntries entries + 1
  | .held _ => 1
def uptoBulkAll {H : Type} : List (DataW H) → Nat
  | [] => 0
  | d :: r => uptoBulk d + uptoBulkAll r
def uptoBulkEntries {H : Type} : List (Lit × DataW H) → Nat
  | [] => 0
  | x :: r => uptoBulkEntry x + uptoBulkEntries r
def uptoBulkEntry {H : Type} : Lit × DataW H → Nat
  | (.string bytes, d) => bytes.length + uptoBulk d + 1
  | (_, d) => uptoBulk d + 1
 end
def uptoSmall : (H : Type) → List (DataW H) → Bool := fun _ ds => decide (uptoBulkAll ds ≤ 1048576)
def OpenSpec.upto (s : _root_.Go.ChangeSpec) : _root_.Go.OpenSpec := { _root_.Go.OpenSpec.ofChange s with cond := some uptoSmall }

/-- 'hourglasslaw.FramesNew', WHERE WHAT IT READS IS OF BULK AT MOST 1048576: true; the input reads as it did. -/
def framesNewUptoRow : OpenClaim := { program := "ytchmmpeblpnjnaa", sum := "f96ee4692b53ee79649fa2d878bc0e34cac3101072a65731b4268df54cc4c46a", func := "hourglass/hourglasslaw.FramesNew", spec := "framesNew", apart := false, narrowed := true }
def FramesNewUptoSaid : Prop := framesNewUptoRow.holds Try.pinned (OpenSpec.upto framesNewSpec)

/-- 'hourglasslaw.FramesChecks', WHERE WHAT IT READS IS OF BULK AT MOST 1048576: true; the input reads as it did. -/
def framesChecksUptoRow : OpenClaim := { program := "ytchmmpeblpnjnaa", sum := "f96ee4692b53ee79649fa2d878bc0e34cac3101072a65731b4268df54cc4c46a", func := "hourglass/hourglasslaw.FramesChecks", spec := "framesChecks", apart := false, narrowed := true }
def FramesChecksUptoSaid : Prop := framesChecksUptoRow.holds Try.pinned (OpenSpec.upto framesChecksSpec)

/-- 'hourglasslaw.FramesCopies', WHERE WHAT IT READS IS OF BULK AT MOST 1048576: true; the input reads as it did. -/
def framesCopiesUptoRow : OpenClaim := { program := "ytchmmpeblpnjnaa", sum := "f96ee4692b53ee79649fa2d878bc0e34cac3101072a65731b4268df54cc4c46a", func := "hourglass/hourglasslaw.FramesCopies", spec := "framesCopies", apart := false, narrowed := true }
def FramesCopiesUptoSaid : Prop := framesCopiesUptoRow.holds Try.pinned (OpenSpec.upto framesCopiesSpec)

/-- 'hourglasslaw.FramesTakes', WHERE WHAT IT READS IS OF BULK AT MOST 1048576: true; the input reads as it did. -/
def framesTakesUptoRow : OpenClaim := { program := "ytchmmpeblpnjnaa", sum := "f96ee4692b53ee79649fa2d878bc0e34cac3101072a65731b4268df54cc4c46a", func := "hourglass/hourglasslaw.FramesTakes", spec := "framesTakes", apart := false, narrowed := true }
def FramesTakesUptoSaid : Prop := framesTakesUptoRow.holds Try.pinned (OpenSpec.upto framesTakesSpec)

/-- 'hourglasslaw.FramesShares', WHERE WHAT IT READS IS OF BULK AT MOST 1048576: true; the input reads as it did. -/
def framesSharesUptoRow : OpenClaim := { program := "ytchmmpeblpnjnaa", sum := "f96ee4692b53ee79649fa2d878bc0e34cac3101072a65731b4268df54cc4c46a", func := "hourglass/hourglasslaw.FramesShares", spec := "framesShares", apart := false, narrowed := true }
def FramesSharesUptoSaid : Prop := framesSharesUptoRow.holds Try.pinned (OpenSpec.upto framesSharesSpec)

/-- 'hourglasslaw.FramesDrops', WHERE WHAT IT READS IS OF BULK AT MOST 1048576: true; the input reads as it did. -/
def framesDropsUptoRow : OpenClaim := { program := "ytchmmpeblpnjnaa", sum := "f96ee4692b53ee79649fa2d878bc0e34cac3101072a65731b4268df54cc4c46a", func := "hourglass/hourglasslaw.FramesDrops", spec := "framesDrops", apart := false, narrowed := true }
def FramesDropsUptoSaid : Prop := framesDropsUptoRow.holds Try.pinned (OpenSpec.upto framesDropsSpec)

end Rows
end Go.Proofs.Ytchmmpeblpnjnaa
