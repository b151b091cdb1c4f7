/-
  No cell of these rows narrows 'for every input' (looked for: loops, veiled, ifaces, maps, wideKeys, modest, calm, conditions, laid).
  DERIVED. THE GIVEN ROWS OF THIS SEAT. 6 by the template 'for every input the law returns true; each argument reads behind the call as it read before'; 0 by the template 'total and deterministic' (their statements: YtbdpnaklincgfabTotals.lean).
  GIVEN WITH THE SEED: the statements are not yours to turn. If you find one false, say at which input.
  Laid BY PROGRAM, IN A SANDBOX (cutbox-rows.mjs): the forced cells as the released guide's own fill.sh prints them over the translation 2f1c3fbaf6247818… (all of the seat's roots in one cut). By AI agents, Wed Nov 11 2026. No macro, syntax, notation, axiom, sorry.
-/
import Derived.Test.YtbdpnaklincgfabChecked
import GoSem.Claim
import GoSem.ClaimJoined
import GoSem.ClaimMapViews
import Derived.JoinedTies
import Derived.KernelRfl
namespace Go.Proofs.Ytbdpnaklincgfab
/- THE CELL 'sum', in the pinned program and in every row, IS THE sha256 OF THE DUMP (.gsa) THAT YtbdpnaklincgfabProg.lean LOADS. Nothing in Lean hashes anything: it is a label: what it is worth is what the hold of that sum in a sandbox is worth. -/
noncomputable def Try.pinned : Pinned := { name := "ytbdpnaklincgfab", sum := "2f1c3fbaf62478184c6d6e5a328746a6093e0a3d355b6163a93637fe393fe1e6", checked := Try.checked }
namespace Rows
def none {H : Type} : Left H := { results := [], args := [] }

/-- 'hourglasslaw.FramesReads': WHATEVER THE INPUT: true; the input reads as it did. -/
def framesReadsSpec : ChangeSpec := { name := "framesReads", fn := fun _ => fun
  | [d1, d2, d3] => { results := [.lit (.bool true)], args := [d1, d2, d3] }
  | _ => none }
def framesReadsRow : OpenClaim := { program := "ytbdpnaklincgfab", sum := "2f1c3fbaf62478184c6d6e5a328746a6093e0a3d355b6163a93637fe393fe1e6", func := "hourglass/hourglasslaw.FramesReads", spec := "framesReads", apart := false }
def FramesReadsSaid : Prop := framesReadsRow.holds Try.pinned (OpenSpec.ofChange framesReadsSpec)

/-- ITS FALSE NEIGHBOUR: 'it returns false'. Refute it at one input. -/
def framesReadsWrong : ChangeSpec := { name := "framesReads", fn := fun _ => fun
  | [d1, d2, d3] => { results := [.lit (.bool false)], args := [d1, d2, d3] }
  | _ => none }
def FramesReadsWrongFalsely : Prop := framesReadsRow.holds Try.pinned (OpenSpec.ofChange framesReadsWrong)

/-- 'hourglasslaw.FramesWrites': WHATEVER THE INPUT: true; the input reads as it did. -/
def framesWritesSpec : ChangeSpec := { name := "framesWrites", fn := fun _ => fun
  | [d1, d2, d3, d4] => { results := [.lit (.bool true)], args := [d1, d2, d3, d4] }
  | _ => none }
def framesWritesRow : OpenClaim := { program := "ytbdpnaklincgfab", sum := "2f1c3fbaf62478184c6d6e5a328746a6093e0a3d355b6163a93637fe393fe1e6", func := "hourglass/hourglasslaw.FramesWrites", spec := "framesWrites", apart := false }
def FramesWritesSaid : Prop := framesWritesRow.holds Try.pinned (OpenSpec.ofChange framesWritesSpec)

/-- ITS FALSE NEIGHBOUR: 'it returns false'. Refute it at one input. -/
def framesWritesWrong : ChangeSpec := { name := "framesWrites", fn := fun _ => fun
  | [d1, d2, d3, d4] => { results := [.lit (.bool false)], args := [d1, d2, d3, d4] }
  | _ => none }
def FramesWritesWrongFalsely : Prop := framesWritesRow.holds Try.pinned (OpenSpec.ofChange framesWritesWrong)

/-- 'hourglasskeep.FramesGood': WHATEVER THE INPUT: true; the input reads as it did. -/
def framesGoodSpec : ChangeSpec := { name := "framesGood", fn := fun _ => fun
  | [d1, d2] => { results := [.lit (.bool true)], args := [d1, d2] }
  | _ => none }
def framesGoodRow : OpenClaim := { program := "ytbdpnaklincgfab", sum := "2f1c3fbaf62478184c6d6e5a328746a6093e0a3d355b6163a93637fe393fe1e6", func := "hourglass/hourglasskeep.FramesGood", spec := "framesGood", apart := false }
def FramesGoodSaid : Prop := framesGoodRow.holds Try.pinned (OpenSpec.ofChange framesGoodSpec)

/-- ITS FALSE NEIGHBOUR: 'it returns false'. Refute it at one input. -/
def framesGoodWrong : ChangeSpec := { name := "framesGood", fn := fun _ => fun
  | [d1, d2] => { results := [.lit (.bool false)], args := [d1, d2] }
  | _ => none }
def FramesGoodWrongFalsely : Prop := framesGoodRow.holds Try.pinned (OpenSpec.ofChange framesGoodWrong)

/-- 'hourglasskeep.FramesCopied': WHATEVER THE INPUT: true; the input reads as it did. -/
def framesCopiedSpec : ChangeSpec := { name := "framesCopied", fn := fun _ => fun
  | [d1, d2, d3] => { results := [.lit (.bool true)], args := [d1, d2, d3] }
  | _ => none }
def framesCopiedRow : OpenClaim := { program := "ytbdpnaklincgfab", sum := "2f1c3fbaf62478184c6d6e5a328746a6093e0a3d355b6163a93637fe393fe1e6", func := "hourglass/hourglasskeep.FramesCopied", spec := "framesCopied", apart := false }
def FramesCopiedSaid : Prop := framesCopiedRow.holds Try.pinned (OpenSpec.ofChange framesCopiedSpec)

/-- ITS FALSE NEIGHBOUR: 'it returns false'. Refute it at one input. -/
def framesCopiedWrong : ChangeSpec := { name := "framesCopied", fn := fun _ => fun
  | [d1, d2, d3] => { results := [.lit (.bool false)], args := [d1, d2, d3] }
  | _ => none }
def FramesCopiedWrongFalsely : Prop := framesCopiedRow.holds Try.pinned (OpenSpec.ofChange framesCopiedWrong)

/-- 'hourglasskeep.FramesFull': WHATEVER THE INPUT: true; the input reads as it did. -/
def framesFullSpec : ChangeSpec := { name := "framesFull", fn := fun _ => fun
  | [d] => { results := [.lit (.bool true)], args := [d] }
  | _ => none }
def framesFullRow : OpenClaim := { program := "ytbdpnaklincgfab", sum := "2f1c3fbaf62478184c6d6e5a328746a6093e0a3d355b6163a93637fe393fe1e6", func := "hourglass/hourglasskeep.FramesFull", spec := "framesFull", apart := false }
def FramesFullSaid : Prop := framesFullRow.holds Try.pinned (OpenSpec.ofChange framesFullSpec)

/-- ITS FALSE NEIGHBOUR: 'it returns false'. Refute it at one input. -/
def framesFullWrong : ChangeSpec := { name := "framesFull", fn := fun _ => fun
  | [d] => { results := [.lit (.bool false)], args := [d] }
  | _ => none }
def FramesFullWrongFalsely : Prop := framesFullRow.holds Try.pinned (OpenSpec.ofChange framesFullWrong)

/-- 'hourglasslaw.CpuFolds': WHATEVER THE INPUT: true; the input reads as it did. -/
def cpuFoldsSpec : ChangeSpec := { name := "cpuFolds", fn := fun _ => fun
  | [d] => { results := [.lit (.bool true)], args := [d] }
  | _ => none }
def cpuFoldsRow : OpenClaim := { program := "ytbdpnaklincgfab", sum := "2f1c3fbaf62478184c6d6e5a328746a6093e0a3d355b6163a93637fe393fe1e6", func := "hourglass/hourglasslaw.CpuFolds", spec := "cpuFolds", apart := false }
def CpuFoldsSaid : Prop := cpuFoldsRow.holds Try.pinned (OpenSpec.ofChange cpuFoldsSpec)

/-- ITS FALSE NEIGHBOUR: 'it returns false'. Refute it at one input. -/
def cpuFoldsWrong : ChangeSpec := { name := "cpuFolds", fn := fun _ => fun
  | [d] => { results := [.lit (.bool false)], args := [d] }
  | _ => none }
def CpuFoldsWrongFalsely : Prop := cpuFoldsRow.holds Try.pinned (OpenSpec.ofChange cpuFoldsWrong)

/- THE SECOND FORM. 'bulk': how many values and letters a reading holds, each counted each time it is reached (what is shared counts as often as it is met; a slice's spare places count too). A statement '..UptoSaid' is the law's where the arguments, and the package variables that the reading takes, are together of bulk at most 1048576: NARROWER than '..Said'. Prove '..Said' where nothing that the law and all that it calls make is longer than what came in: it says more and counts as full. Else prove '..UptoSaid'. A law counts once. -/
mutual
def uptoBulk {H : Type} : DataW H → Nat
  | .lit (.string bytes) => bytes.length + 1
  | .lit _ => 1
  | .nil => 1
  | .ptr d => uptoBulk d + 1
  | .slice elems spare => uptoBulkAll elems + uptoBulkAll spare + 1
  | .agg parts => uptoBulkAll parts + 1
  | .iface _ d => uptoBulk d + 1
  | .map entries => uptoBulkEntries entries + 1
  | .held _ => 1
def uptoBulkAll {H : Type} : List (DataW H) → Nat
  | [] => 0
  | d :: r => uptoBulk d + uptoBulkAll r
def uptoBulkEntries {H : Type} : List (Lit × DataW H) → Nat
  | [] => 0
  | x :: r => uptoBulkEntry x + uptoBulkEntries r
def uptoBulkEntry {H : Type} : Lit × DataW H → Nat
  | (.string bytes, d) => bytes.length + uptoBulk d + 1
  | (_, d) => uptoBulk d + 1
 end
def uptoSmall : (H : Type) → List (DataW H) → Bool := fun _ ds => decide (uptoBulkAll ds ≤ 1048576)
def OpenSpec.upto (s : _root_.Go.ChangeSpec) : _root_.Go.OpenSpec := { _root_.Go.OpenSpec.ofChange s with cond := some uptoSmall }

/-- 'hourglasslaw.FramesReads', WHERE WHAT IT READS IS OF BULK AT MOST 1048576: true; the input reads as it did. -/
def framesReadsUptoRow : OpenClaim := { program := "ytbdpnaklincgfab", sum := "2f1c3fbaf62478184c6d6e5a328746a6093e0a3d355b6163a93637fe393fe1e6", func := "hourglass/hourglasslaw.FramesReads", spec := "framesReads", apart := false, narrowed := true }
def FramesReadsUptoSaid : Prop := framesReadsUptoRow.holds Try.pinned (OpenSpec.upto framesReadsSpec)

/-- 'hourglasslaw.FramesWrites', WHERE WHAT IT READS IS OF BULK AT MOST 1048576: true; the input reads as it did. -/
def framesWritesUptoRow : OpenClaim := { program := "ytbdpnaklincgfab", sum := "2f1c3fbaf62478184c6d6e5a328746a6093e0a3d355b6163a93637fe393fe1e6", func := "hourglass/hourglasslaw.FramesWrites", spec := "framesWrites", apart := false, narrowed := true }
def FramesWritesUptoSaid : Prop := framesWritesUptoRow.holds Try.pinned (OpenSpec.upto framesWritesSpec)

/-- 'hourglasskeep.FramesGood', WHERE WHAT IT READS IS OF BULK AT MOST 1048576: true; the input reads as it did. -/
def framesGoodUptoRow : OpenClaim := { program := "ytbdpnaklincgfab", sum := "2f1c3fbaf62478184c6d6e5a328746a6093e0a3d355b6163a93637fe393fe1e6", func := "hourglass/hourglasskeep.FramesGood", spec := "framesGood", apart := false, narrowed := true }
def FramesGoodUptoSaid : Prop := framesGoodUptoRow.holds Try.pinned (OpenSpec.upto framesGoodSpec)

/-- 'hourglasskeep.FramesCopied', WHERE WHAT IT READS IS OF BULK AT MOST 1048576: true; the input reads as it did. -/
def framesCopiedUptoRow : OpenClaim := { program := "ytbdpnaklincgfab", sum := "2f1c3fbaf62478184c6d6e5a328746a6093e0a3d355b6163a93637fe393fe1e6", func := "hourglass/hourglasskeep.FramesCopied", spec := "framesCopied", apart := false, narrowed := true }
def FramesCopiedUptoSaid : Prop := framesCopiedUptoRow.holds Try.pinned (OpenSpec.upto framesCopiedSpec)

/-- 'hourglasskeep.FramesFull', WHERE WHAT IT READS IS OF BULK AT MOST 1048576: true; the input reads as it did. -/
def framesFullUptoRow : OpenClaim := { program := "ytbdpnaklincgfab", sum := "2f1c3fbaf62478184c6d6e5a328746a6093e0a3d355b6163a93637fe393fe1e6", func := "hourglass/hourglasskeep.FramesFull", spec := "framesFull", apart := false, narrowed := true }
def FramesFullUptoSaid : Prop := framesFullUptoRow.holds Try.pinned (OpenSpec.upto framesFullSpec)

/-- 'hourglasslaw.CpuFolds', WHERE WHAT IT READS IS OF BULK AT MOST 1048576: true; the input reads as it did. -/
def cpuFoldsUptoRow : OpenClaim := { program := "ytbdpnaklincgfab", sum := "2f1c3fbaf62478184c6d6e5a328746a6093e0a3d355b6163a93637fe393fe1e6", func := "hourglass/hourglasslaw.CpuFolds", spec := "cpuFolds", apart := false, narrowed := true }
def CpuFoldsUptoSaid : Prop := cpuFoldsUptoRow.holds Try.pinned (OpenSpec.upto cpuFoldsSpec)

end Rows
end Go.Proofs.Ytbdpnaklincgfab
