/-
  NARROWER THAN 'FOR EVERY INPUT', by the rows' own cells (each row's printed sentence says how): EvlogChecks: laid · EvlogEncodes: laid · EvlogDecodes: laid.
  DERIVED. THE GIVEN ROWS OF THIS SEAT. 3 by the template 'for every input the law returns true; each argument reads behind the call as it read before'; 0 by the template 'total and deterministic' (their statements: YtniedmoiklkigaeDoorTotals.lean).
  GIVEN WITH THE SEED: the statements are not yours to turn. If you find one false, say at which input.
  Laid BY PROGRAM, IN A SANDBOX (cutbox-rows.mjs): the forced cells as the released guide's own fill.sh prints them over the translation 3aafda715d99292e… (all of the seat's roots in one cut). By AI agents, Wed Nov 11 2026. No macro, syntax, notation, axiom, sorry.
-/
import Derived.Test.YtniedmoiklkigaeDoorChecked
import GoSem.Claim
import GoSem.ClaimJoined
import GoSem.ClaimMapViews
import Derived.JoinedTies
import Derived.KernelRfl
namespace Go.Proofs.YtniedmoiklkigaeDoor
/- THE CELL 'sum', in the pinned program and in every row, IS THE sha256 OF THE DUMP (.gsa) THAT YtniedmoiklkigaeDoorProg.lean LOADS. Nothing in Lean hashes anything: it is a label: what it is worth is what the hold of that sum in a sandbox is worth. -/
noncomputable def Tryd.pinned : Pinned := { name := "ytniedmoiklkigaedoor", sum := "3aafda715d99292eb4938762a0e6fda5bd1433adc36cd5252f266986b81ddaf3", checked := Tryd.checked }
namespace Rows
def none {H : Type} : Left H := { results := [], args := [] }

/- WHAT THE LISTED PACKAGE-LEVEL VARIABLES READ AS WHEN THE CALL BEGINS. Each datum BY PROGRAM (the guide's laid-datum.mjs) off the statement by which the dump's own 'gosem.cut.vars' lays the variable. In a bare row this is a premise. The card (YtniedmoiklkigaeDoorCards.lean) ties it to the program's text. -/
def laid_hourglass_evlog_dataWords {H : Type} : DataW H := .agg [.lit (.int .i64 0), .lit (.int .i64 0), .lit (.int .i64 16), .lit (.int .i64 1)]

/-- 'hourglasslaw.EvlogChecks': WHATEVER THE INPUT: true; the input reads as it did. -/
def evlogChecksSpec : ChangeSpec := { name := "evlogChecks", fn := fun _ => fun
  | [d] => { results := [.lit (.bool true)], args := [d] }
  | _ => none }
def evlogChecksRow : OpenClaim := { program := "ytniedmoiklkigaedoor", sum := "3aafda715d99292eb4938762a0e6fda5bd1433adc36cd5252f266986b81ddaf3", func := "hourglass/hourglasslaw.EvlogChecks", spec := "evlogChecks", unfollowed := true, recurses := true, named := ["hourglass/evlog.dataWords"], apart := false, laid := [("hourglass/evlog.dataWords", laid_hourglass_evlog_dataWords)] }
def EvlogChecksSaid : Prop := evlogChecksRow.holds Tryd.pinned (OpenSpec.ofChange evlogChecksSpec)

/-- ITS FALSE NEIGHBOUR: 'it returns false'. Refute it at one input. -/
def evlogChecksWrong : ChangeSpec := { name := "evlogChecks", fn := fun _ => fun
  | [d] => { results := [.lit (.bool false)], args := [d] }
  | _ => none }
def EvlogChecksWrongFalsely : Prop := evlogChecksRow.holds Tryd.pinned (OpenSpec.ofChange evlogChecksWrong)

/-- 'hourglasslaw.EvlogEncodes': WHATEVER THE INPUT: true; the input reads as it did. -/
def evlogEncodesSpec : ChangeSpec := { name := "evlogEncodes", fn := fun _ => fun
  | [d] => { results := [.lit (.bool true)], args := [d] }
  | _ => none }
def evlogEncodesRow : OpenClaim := { program := "ytniedmoiklkigaedoor", sum := "3aafda715d99292eb4938762a0e6fda5bd1433adc36cd5252f266986b81ddaf3", func := "hourglass/hourglasslaw.EvlogEncodes", spec := "evlogEncodes", unfollowed := true, recurses := true, named := ["hourglass/evlog.dataWords"], apart := false, laid := [("hourglass/evlog.dataWords", laid_hourglass_evlog_dataWords)] }
def EvlogEncodesSaid : Prop := evlogEncodesRow.holds Tryd.pinned (OpenSpec.ofChange evlogEncodesSpec)

/-- ITS FALSE NEIGHBOUR: 'it returns false'. Refute it at one input. -/
def evlogEncodesWrong : ChangeSpec := { name := "evlogEncodes", fn := fun _ => fun
  | [d] => { results := [.lit (.bool false)], args := [d] }
  | _ => none }
def EvlogEncodesWrongFalsely : Prop := evlogEncodesRow.holds Tryd.pinned (OpenSpec.ofChange evlogEncodesWrong)

/-- 'hourglasslaw.EvlogDecodes': WHATEVER THE INPUT: true; the input reads as it did. -/
def evlogDecodesSpec : ChangeSpec := { name := "evlogDecodes", fn := fun _ => fun
  | [d] => { results := [.lit (.bool true)], args := [d] }
  | _ => none }
def evlogDecodesRow : OpenClaim := { program := "ytniedmoiklkigaedoor", sum := "3aafda715d99292eb4938762a0e6fda5bd1433adc36cd5252f266986b81ddaf3", func := "hourglass/hourglasslaw.EvlogDecodes", spec := "evlogDecodes", unfollowed := true, recurses := true, named := ["hourglass/evlog.dataWords"], apart := false, laid := [("hourglass/evlog.dataWords", laid_hourglass_evlog_dataWords)] }
def EvlogDecodesSaid : Prop := evlogDecodesRow.holds Tryd.pinned (OpenSpec.ofChange evlogDecodesSpec)

/-- ITS FALSE NEIGHBOUR: 'it returns false'. Refute it at one input. -/
def evlogDecodesWrong : ChangeSpec := { name := "evlogDecodes", fn := fun _ => fun
  | [d] => { results := [.lit (.bool false)], args := [d] }
  | _ => none }
def EvlogDecodesWrongFalsely : Prop := evlogDecodesRow.holds Tryd.pinned (OpenSpec.ofChange evlogDecodesWrong)

/- THE SECOND FORM. 'bulk': how many values and letters a reading holds, each counted each time it is reached (what is shared counts as often as it is met; a slice's spare places count too). A statement '..UptoSaid' is the law's where the arguments, and the package variables that the reading takes, are together of bulk at most 1048576: NARROWER than '..Said'. Prove '..Said' where nothing that the law and all that it calls make is longer than what came in: it says more and counts as full. Else prove '..UptoSaid'. A law counts once. -/
mutual
def uptoBulk {H : Type} : DataW H → Nat
  | .lit (.string bytes) => bytes.length + 1
  | .lit _ => 1
  | .nil => 1
  | .ptr d => uptoBulk d + 1
  | .slice elems spare => uptoBulkAll elems + uptoBulkAll spare + 1
  | .agg parts => uptoBulkAll parts + 1
  | .iface _ d => uptoBulk d + 1
  | .map entries => uptoBulkEntries entries + 1
  | .held _ => 1
def uptoBulkAll {H : Type} : List (DataW H) → Nat
  | [] => 0
  | d :: r => uptoBulk d + uptoBulkAll r
def uptoBulkEntries {H : Type} : List (Lit × DataW H) → Nat
  | [] => 0
  | x :: r => uptoBulkEntry x + uptoBulkEntries r
def uptoBulkEntry {H : Type} : Lit × DataW H → Nat
  | (.string bytes, d) => bytes.length + uptoBulk d + 1
  | (_, d) => uptoBulk d + 1
 end
def uptoSmall : (H : Type) → List (DataW H) → Bool := fun _ ds => decide (uptoBulkAll ds ≤ 1048576)
def OpenSpec.upto (s : _root_.Go.ChangeSpec) : _root_.Go.OpenSpec := { _root_.Go.OpenSpec.ofChange s with cond := some uptoSmall }

/-- 'hourglasslaw.EvlogChecks', WHERE WHAT IT READS IS OF BULK AT MOST 1048576: true; the input reads as it did. -/
def evlogChecksUptoRow : OpenClaim := { program := "ytniedmoiklkigaedoor", sum := "3aafda715d99292eb4938762a0e6fda5bd1433adc36cd5252f266986b81ddaf3", func := "hourglass/hourglasslaw.EvlogChecks", spec := "evlogChecks", unfollowed := true, recurses := true, named := ["hourglass/evlog.dataWords"], apart := false, laid := [("hourglass/evlog.dataWords", laid_hourglass_evlog_dataWords)], narrowed := true }
def EvlogChecksUptoSaid : Prop := evlogChecksUptoRow.holds Tryd.pinned (OpenSpec.upto evlogChecksSpec)

/-- 'hourglasslaw.EvlogEncodes', WHERE WHAT IT READS IS OF BULK AT MOST 1048576: true; the input reads as it did. -/
def evlogEncodesUptoRow : OpenClaim := { program := "ytniedmoiklkigaedoor", sum := "3aafda715d99292eb4938762a0e6fda5bd1433adc36cd5252f266986b81ddaf3", func := "hourglass/hourglasslaw.EvlogEncodes", spec := "evlogEncodes", unfollowed := true, recurses := true, named := ["hourglass/evlog.dataWords"], apart := false, laid := [("hourglass/evlog.dataWords", laid_hourglass_evlog_dataWords)], narrowed := true }
def EvlogEncodesUptoSaid : Prop := evlogEncodesUptoRow.holds Tryd.pinned (OpenSpec.upto evlogEncodesSpec)

/-- 'hourglasslaw.EvlogDecodes', WHERE WHAT IT READS IS OF BULK AT MOST 1048576: true; the input reads as it did. -/
def evlogDecodesUptoRow : OpenClaim := { program := "ytniedmoiklkigaedoor", sum := "3aafda715d99292eb4938762a0e6fda5bd1433adc36cd5252f266986b81ddaf3", func := "hourglass/hourglasslaw.EvlogDecodes", spec := "evlogDecodes", unfollowed := true, recurses := true, named := ["hourglass/evlog.dataWords"], apart := false, laid := [("hourglass/evlog.dataWords", laid_hourglass_evlog_dataWords)], narrowed := true }
def EvlogDecodesUptoSaid : Prop := evlogDecodesUptoRow.holds Tryd.pinned (OpenSpec.upto evlogDecodesSpec)

end Rows
end Go.Proofs.YtniedmoiklkigaeDoor
