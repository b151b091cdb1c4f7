/-
  No cell of these rows narrows 'for every input' (looked for: loops, veiled, ifaces, maps, wideKeys, modest, calm, conditions, laid).
  DERIVED. THE GIVEN ROWS OF THIS SEAT. 6 by the template 'for every input the law returns true; each argument reads behind the call as it read before'; 0 by the template 'total and deterministic' (their statements: YtniedmoiklkigacTotals.lean).
  GIVEN WITH THE SEED: the statements are not yours to turn. If you find one false, say at which input.
  Laid BY PROGRAM, IN A SANDBOX (cutbox-rows.mjs): the forced cells as the released guide's own fill.sh prints them over the translation 6ebb30097e96b394… (all of the seat's roots in one cut). By AI agents, Wed Nov 11 2026. No macro, syntax, notation, axiom, sorry.
-/
import Derived.Test.YtniedmoiklkigacChecked
import GoSem.Claim
import GoSem.ClaimJoined
import GoSem.ClaimMapViews
import Derived.JoinedTies
import Derived.KernelRfl
namespace Go.Proofs.Ytniedmoiklkigac
/- THE CELL 'sum', in the pinned program and in every row, IS THE sha256 OF THE DUMP (.gsa) THAT YtniedmoiklkigacProg.lean LOADS. Nothing in Lean hashes anything: it is a label: what it is worth is what the hold of that sum in a sandbox is worth. -/
noncomputable def Try.pinned : Pinned := { name := "ytniedmoiklkigac", sum := "6ebb30097e96b394220b6721e8a154f3b72334f0cf6b4f04179afc7096997d67", checked := Try.checked }
namespace Rows
def none {H : Type} : Left H := { results := [], args := [] }

/-- 'hourglasslaw.CpuChecks': WHATEVER THE INPUT: true; the input reads as it did. -/
def cpuChecksSpec : ChangeSpec := { name := "cpuChecks", fn := fun _ => fun
  | [d] => { results := [.lit (.bool true)], args := [d] }
  | _ => none }
def cpuChecksRow : OpenClaim := { program := "ytniedmoiklkigac", sum := "6ebb30097e96b394220b6721e8a154f3b72334f0cf6b4f04179afc7096997d67", func := "hourglass/hourglasslaw.CpuChecks", spec := "cpuChecks", unfollowed := true, recurses := true, apart := false }
def CpuChecksSaid : Prop := cpuChecksRow.holds Try.pinned (OpenSpec.ofChange cpuChecksSpec)

/-- ITS FALSE NEIGHBOUR: 'it returns false'. Refute it at one input. -/
def cpuChecksWrong : ChangeSpec := { name := "cpuChecks", fn := fun _ => fun
  | [d] => { results := [.lit (.bool false)], args := [d] }
  | _ => none }
def CpuChecksWrongFalsely : Prop := cpuChecksRow.holds Try.pinned (OpenSpec.ofChange cpuChecksWrong)

/-- 'hourglasslaw.CpuEncodes': WHATEVER THE INPUT: true; the input reads as it did. -/
def cpuEncodesSpec : ChangeSpec := { name := "cpuEncodes", fn := fun _ => fun
  | [d] => { results := [.lit (.bool true)], args := [d] }
  | _ => none }
def cpuEncodesRow : OpenClaim := { program := "ytniedmoiklkigac", sum := "6ebb30097e96b394220b6721e8a154f3b72334f0cf6b4f04179afc7096997d67", func := "hourglass/hourglasslaw.CpuEncodes", spec := "cpuEncodes", unfollowed := true, recurses := true, apart := false }
def CpuEncodesSaid : Prop := cpuEncodesRow.holds Try.pinned (OpenSpec.ofChange cpuEncodesSpec)

/-- ITS FALSE NEIGHBOUR: 'it returns false'. Refute it at one input. -/
def cpuEncodesWrong : ChangeSpec := { name := "cpuEncodes", fn := fun _ => fun
  | [d] => { results := [.lit (.bool false)], args := [d] }
  | _ => none }
def CpuEncodesWrongFalsely : Prop := cpuEncodesRow.holds Try.pinned (OpenSpec.ofChange cpuEncodesWrong)

/-- 'hourglasslaw.CpuDecodes': WHATEVER THE INPUT: true; the input reads as it did. -/
def cpuDecodesSpec : ChangeSpec := { name := "cpuDecodes", fn := fun _ => fun
  | [d] => { results := [.lit (.bool true)], args := [d] }
  | _ => none }
def cpuDecodesRow : OpenClaim := { program := "ytniedmoiklkigac", sum := "6ebb30097e96b394220b6721e8a154f3b72334f0cf6b4f04179afc7096997d67", func := "hourglass/hourglasslaw.CpuDecodes", spec := "cpuDecodes", unfollowed := true, recurses := true, apart := false }
def CpuDecodesSaid : Prop := cpuDecodesRow.holds Try.pinned (OpenSpec.ofChange cpuDecodesSpec)

/-- ITS FALSE NEIGHBOUR: 'it returns false'. Refute it at one input. -/
def cpuDecodesWrong : ChangeSpec := { name := "cpuDecodes", fn := fun _ => fun
  | [d] => { results := [.lit (.bool false)], args := [d] }
  | _ => none }
def CpuDecodesWrongFalsely : Prop := cpuDecodesRow.holds Try.pinned (OpenSpec.ofChange cpuDecodesWrong)

/-- 'hourglasslaw.CpuMachines': WHATEVER THE INPUT: true; the input reads as it did. -/
def cpuMachinesSpec : ChangeSpec := { name := "cpuMachines", fn := fun _ => fun
  | [d] => { results := [.lit (.bool true)], args := [d] }
  | _ => none }
def cpuMachinesRow : OpenClaim := { program := "ytniedmoiklkigac", sum := "6ebb30097e96b394220b6721e8a154f3b72334f0cf6b4f04179afc7096997d67", func := "hourglass/hourglasslaw.CpuMachines", spec := "cpuMachines", unfollowed := true, recurses := true, apart := false }
def CpuMachinesSaid : Prop := cpuMachinesRow.holds Try.pinned (OpenSpec.ofChange cpuMachinesSpec)

/-- ITS FALSE NEIGHBOUR: 'it returns false'. Refute it at one input. -/
def cpuMachinesWrong : ChangeSpec := { name := "cpuMachines", fn := fun _ => fun
  | [d] => { results := [.lit (.bool false)], args := [d] }
  | _ => none }
def CpuMachinesWrongFalsely : Prop := cpuMachinesRow.holds Try.pinned (OpenSpec.ofChange cpuMachinesWrong)

/-- 'hourglasslaw.CpuNew': WHATEVER THE INPUT: true; the input reads as it did. -/
def cpuNewSpec : ChangeSpec := { name := "cpuNew", fn := fun _ => fun
  | [d] => { results := [.lit (.bool true)], args := [d] }
  | _ => none }
def cpuNewRow : OpenClaim := { program := "ytniedmoiklkigac", sum := "6ebb30097e96b394220b6721e8a154f3b72334f0cf6b4f04179afc7096997d67", func := "hourglass/hourglasslaw.CpuNew", spec := "cpuNew", unfollowed := true, recurses := true, apart := false }
def CpuNewSaid : Prop := cpuNewRow.holds Try.pinned (OpenSpec.ofChange cpuNewSpec)

/-- ITS FALSE NEIGHBOUR: 'it returns false'. Refute it at one input. -/
def cpuNewWrong : ChangeSpec := { name := "cpuNew", fn := fun _ => fun
  | [d] => { results := [.lit (.bool false)], args := [d] }
  | _ => none }
def CpuNewWrongFalsely : Prop := cpuNewRow.holds Try.pinned (OpenSpec.ofChange cpuNewWrong)

/-- 'hourglasslaw.CpuCopies': WHATEVER THE INPUT: true; the input reads as it did. -/
def cpuCopiesSpec : ChangeSpec := { name := "cpuCopies", fn := fun _ => fun
  | [d] => { results := [.lit (.bool true)], args := [d] }
  | _ => none }
def cpuCopiesRow : OpenClaim := { program := "ytniedmoiklkigac", sum := "6ebb30097e96b394220b6721e8a154f3b72334f0cf6b4f04179afc7096997d67", func := "hourglass/hourglasslaw.CpuCopies", spec := "cpuCopies", apart := false }
def CpuCopiesSaid : Prop := cpuCopiesRow.holds Try.pinned (OpenSpec.ofChange cpuCopiesSpec)

/-- ITS FALSE NEIGHBOUR: 'it returns false'. Refute it at one input. -/
def cpuCopiesWrong : ChangeSpec := { name := "cpuCopies", fn := fun _ => fun
  | [d] => { results := [.lit (.bool false)], args := [d] }
  | _ => none }
def CpuCopiesWrongFalsely : Prop := cpuCopiesRow.holds Try.pinned (OpenSpec.ofChange cpuCopiesWrong)

/- THE SECOND FORM. 'bulk': how many values and letters a reading holds, each counted each time it is reached (what is shared counts as often as it is met; a slice's spare places count too). A statement '..UptoSaid' is the law's where the arguments, and the package variables that the reading takes, are together of bulk at most 1048576: NARROWER than '..Said'. Prove '..Said' where nothing that the law and all that it calls make is longer than what came in: it says more and counts as full. Else prove '..UptoSaid'. A law counts once. -/
mutual
def uptoBulk {H : Type} : DataW H → Nat
  | .lit (.string bytes) => bytes.length + 1
  | .lit _ => 1
  | .nil => 1
  | .ptr d => uptoBulk d + 1
  | .slice elems spare => uptoBulkAll elems + uptoBulkAll spare + 1
  | .agg parts => uptoBulkAll parts + 1
  | .iface _ d => uptoBulk d + 1
  | .map entries => uptoBulkEntries entries + 1
  | .held _ => 1
def uptoBulkAll {H : Type} : List (DataW H) → Nat
  | [] => 0
  | d :: r => uptoBulk d + uptoBulkAll r
def uptoBulkEntries {H : Type} : List (Lit × DataW H) → Nat
  | [] => 0
  | x :: r => uptoBulkEntry x + uptoBulkEntries r
def uptoBulkEntry {H : Type} : Lit × DataW H → Nat
  | (.string bytes, d) => bytes.length + uptoBulk d + 1
  | (_, d) => uptoBulk d + 1
 end
def uptoSmall : (H : Type) → List (DataW H) → Bool := fun _ ds => decide (uptoBulkAll ds ≤ 1048576)
def OpenSpec.upto (s : _root_.Go.ChangeSpec) : _root_.Go.OpenSpec := { _root_.Go.OpenSpec.ofChange s with cond := some uptoSmall }

/-- 'hourglasslaw.CpuChecks', WHERE WHAT IT READS IS OF BULK AT MOST 1048576: true; the input reads as it did. -/
def cpuChecksUptoRow : OpenClaim := { program := "ytniedmoiklkigac", sum := "6ebb30097e96b394220b6721e8a154f3b72334f0cf6b4f04179afc7096997d67", func := "hourglass/hourglasslaw.CpuChecks", spec := "cpuChecks", unfollowed := true, recurses := true, apart := false, narrowed := true }
def CpuChecksUptoSaid : Prop := cpuChecksUptoRow.holds Try.pinned (OpenSpec.upto cpuChecksSpec)

/-- 'hourglasslaw.CpuEncodes', WHERE WHAT IT READS IS OF BULK AT MOST 1048576: true; the input reads as it did. -/
def cpuEncodesUptoRow : OpenClaim := { program := "ytniedmoiklkigac", sum := "6ebb30097e96b394220b6721e8a154f3b72334f0cf6b4f04179afc7096997d67", func := "hourglass/hourglasslaw.CpuEncodes", spec := "cpuEncodes", unfollowed := true, recurses := true, apart := false, narrowed := true }
def CpuEncodesUptoSaid : Prop := cpuEncodesUptoRow.holds Try.pinned (OpenSpec.upto cpuEncodesSpec)

/-- 'hourglasslaw.CpuDecodes', WHERE WHAT IT READS IS OF BULK AT MOST 1048576: true; the input reads as it did. -/
def cpuDecodesUptoRow : OpenClaim := { program := "ytniedmoiklkigac", sum := "6ebb30097e96b394220b6721e8a154f3b72334f0cf6b4f04179afc7096997d67", func := "hourglass/hourglasslaw.CpuDecodes", spec := "cpuDecodes", unfollowed := true, recurses := true, apart := false, narrowed := true }
def CpuDecodesUptoSaid : Prop := cpuDecodesUptoRow.holds Try.pinned (OpenSpec.upto cpuDecodesSpec)

/-- 'hourglasslaw.CpuMachines', WHERE WHAT IT READS IS OF BULK AT MOST 1048576: true; the input reads as it did. -/
def cpuMachinesUptoRow : OpenClaim := { program := "ytniedmoiklkigac", sum := "6ebb30097e96b394220b6721e8a154f3b72334f0cf6b4f04179afc7096997d67", func := "hourglass/hourglasslaw.CpuMachines", spec := "cpuMachines", unfollowed := true, recurses := true, apart := false, narrowed := true }
def CpuMachinesUptoSaid : Prop := cpuMachinesUptoRow.holds Try.pinned (OpenSpec.upto cpuMachinesSpec)

/-- 'hourglasslaw.CpuNew', WHERE WHAT IT READS IS OF BULK AT MOST 1048576: true; the input reads as it did. -/
def cpuNewUptoRow : OpenClaim := { program := "ytniedmoiklkigac", sum := "6ebb30097e96b394220b6721e8a154f3b72334f0cf6b4f04179afc7096997d67", func := "hourglass/hourglasslaw.CpuNew", spec := "cpuNew", unfollowed := true, recurses := true, apart := false, narrowed := true }
def CpuNewUptoSaid : Prop := cpuNewUptoRow.holds Try.pinned (OpenSpec.upto cpuNewSpec)

/-- 'hourglasslaw.CpuCopies', WHERE WHAT IT READS IS OF BULK AT MOST 1048576: true; the input reads as it did. -/
def cpuCopiesUptoRow : OpenClaim := { program := "ytniedmoiklkigac", sum := "6ebb30097e96b394220b6721e8a154f3b72334f0cf6b4f04179afc7096997d67", func := "hourglass/hourglasslaw.CpuCopies", spec := "cpuCopies", apart := false, narrowed := true }
def CpuCopiesUptoSaid : Prop := cpuCopiesUptoRow.holds Try.pinned (OpenSpec.upto cpuCopiesSpec)

end Rows
end Go.Proofs.Ytniedmoiklkigac
