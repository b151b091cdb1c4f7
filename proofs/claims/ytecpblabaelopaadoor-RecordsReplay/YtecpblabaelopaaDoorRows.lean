/-
  NARROWER THAN 'FOR EVERY INPUT', by the rows' own cells (each row's printed sentence says how): RecordsReplay: laid · RecordsBegin: laid · RecordsStep: laid.
  DERIVED. THE GIVEN ROWS OF THIS SEAT. 3 by the template 'for every input the law returns true; each argument reads behind the call as it read before'; 0 by the template 'total and deterministic' (their statements: YtecpblabaelopaaDoorTotals.lean).
  GIVEN WITH THE SEED: the statements are not yours to turn. If you find one false, say at which input.
  Laid BY PROGRAM, IN A SANDBOX (cutbox-rows.mjs): the forced cells as the released guide's own fill.sh prints them over the translation 934f5ec4bcc765aa… (all of the seat's roots in one cut). By AI agents, Wed Nov 11 2026. No macro, syntax, notation, axiom, sorry.
-/
import Derived.Test.YtecpblabaelopaaDoorChecked
import GoSem.Claim
import GoSem.ClaimJoined
import GoSem.ClaimMapViews
import Derived.JoinedTies
import Derived.KernelRfl
namespace Go.Proofs.YtecpblabaelopaaDoor
/- THE CELL 'sum', in the pinned program and in every row, IS THE sha256 OF THE DUMP (.gsa) THAT YtecpblabaelopaaDoorProg.lean LOADS. Nothing in Lean hashes anything: it is a label: what it is worth is what the hold of that sum in a sandbox is worth. -/
noncomputable def Tryd.pinned : Pinned := { name := "ytecpblabaelopaadoor", sum := "934f5ec4bcc765aa82c4b6d615f635c690ce43b68ace9e401d99e94a866b2b67", checked := Tryd.checked }
namespace Rows
def none {H : Type} : Left H := { results := [], args := [] }

/- WHAT THE LISTED PACKAGE-LEVEL VARIABLES READ AS WHEN THE CALL BEGINS. Each datum BY PROGRAM (the guide's laid-datum.mjs) off the statement by which the dump's own 'gosem.cut.vars' lays the variable. In a bare row this is a premise. The card (YtecpblabaelopaaDoorCards.lean) ties it to the program's text. -/
def laid_hourglass_evlog_dataWords {H : Type} : DataW H := .agg [.lit (.int .i64 0), .lit (.int .i64 0), .lit (.int .i64 16), .lit (.int .i64 1)]

/-- 'hourglasskeep.RecordsReplay': WHATEVER THE INPUT: true; the input reads as it did. -/
def recordsReplaySpec : ChangeSpec := { name := "recordsReplay", fn := fun _ => fun
  | [d1, d2, d3] => { results := [.lit (.bool true)], args := [d1, d2, d3] }
  | _ => none }
def recordsReplayRow : OpenClaim := { program := "ytecpblabaelopaadoor", sum := "934f5ec4bcc765aa82c4b6d615f635c690ce43b68ace9e401d99e94a866b2b67", func := "hourglass/hourglasskeep.RecordsReplay", spec := "recordsReplay", unfollowed := true, recurses := true, named := ["hourglass/evlog.dataWords"], apart := false, laid := [("hourglass/evlog.dataWords", laid_hourglass_evlog_dataWords)] }
def RecordsReplaySaid : Prop := recordsReplayRow.holds Tryd.pinned (OpenSpec.ofChange recordsReplaySpec)

/-- ITS FALSE NEIGHBOUR: 'it returns false'. Refute it at one input. -/
def recordsReplayWrong : ChangeSpec := { name := "recordsReplay", fn := fun _ => fun
  | [d1, d2, d3] => { results := [.lit (.bool false)], args := [d1, d2, d3] }
  | _ => none }
def RecordsReplayWrongFalsely : Prop := recordsReplayRow.holds Tryd.pinned (OpenSpec.ofChange recordsReplayWrong)

/-- 'hourglasskeep.RecordsBegin': WHATEVER THE INPUT: true; the input reads as it did. -/
def recordsBeginSpec : ChangeSpec := { name := "recordsBegin", fn := fun _ => fun
  | [d1, d2, d3, d4] => { results := [.lit (.bool true)], args := [d1, d2, d3, d4] }
  | _ => none }
def recordsBeginRow : OpenClaim := { program := "ytecpblabaelopaadoor", sum := "934f5ec4bcc765aa82c4b6d615f635c690ce43b68ace9e401d99e94a866b2b67", func := "hourglass/hourglasskeep.RecordsBegin", spec := "recordsBegin", unfollowed := true, recurses := true, named := ["hourglass/evlog.dataWords"], apart := false, laid := [("hourglass/evlog.dataWords", laid_hourglass_evlog_dataWords)] }
def RecordsBeginSaid : Prop := recordsBeginRow.holds Tryd.pinned (OpenSpec.ofChange recordsBeginSpec)

/-- ITS FALSE NEIGHBOUR: 'it returns false'. Refute it at one input. -/
def recordsBeginWrong : ChangeSpec := { name := "recordsBegin", fn := fun _ => fun
  | [d1, d2, d3, d4] => { results := [.lit (.bool false)], args := [d1, d2, d3, d4] }
  | _ => none }
def RecordsBeginWrongFalsely : Prop := recordsBeginRow.holds Tryd.pinned (OpenSpec.ofChange recordsBeginWrong)

/-- 'hourglasskeep.RecordsStep': WHATEVER THE INPUT: true; the input reads as it did. -/
def recordsStepSpec : ChangeSpec := { name := "recordsStep", fn := fun _ => fun
  | [d1, d2, d3, d4] => { results := [.lit (.bool true)], args := [d1, d2, d3, d4] }
  | _ => none }
def recordsStepRow : OpenClaim := { program := "ytecpblabaelopaadoor", sum := "934f5ec4bcc765aa82c4b6d615f635c690ce43b68ace9e401d99e94a866b2b67", func := "hourglass/hourglasskeep.RecordsStep", spec := "recordsStep", unfollowed := true, recurses := true, named := ["hourglass/evlog.dataWords"], apart := false, laid := [("hourglass/evlog.dataWords", laid_hourglass_evlog_dataWords)] }
def RecordsStepSaid : Prop := recordsStepRow.holds Tryd.pinned (OpenSpec.ofChange recordsStepSpec)

/-- ITS FALSE NEIGHBOUR: 'it returns false'. Refute it at one input. -/
def recordsStepWrong : ChangeSpec := { name := "recordsStep", fn := fun _ => fun
  | [d1, d2, d3, d4] => { results := [.lit (.bool false)], args := [d1, d2, d3, d4] }
  | _ => none }
def RecordsStepWrongFalsely : Prop := recordsStepRow.holds Tryd.pinned (OpenSpec.ofChange recordsStepWrong)

/- THE SECOND FORM. 'bulk': how many values and letters a reading holds, each counted each time it is reached (what is shared counts as often as it is met; a slice's spare places count too). A statement '..UptoSaid' is the law's where the arguments, and the package variables that the reading takes, are together of bulk at most 1048576: NARROWER than '..Said'. Prove '..Said' where nothing that the law and all that it calls make is longer than what came in: it says more and counts as full. Else prove '..UptoSaid'. A law counts once. -/
mutual
def uptoBulk {H : Type} : DataW H → Nat
  | .lit (.string bytes) => bytes.length + 1
  | .lit _ => 1
  | .nil => 1
  | .ptr d => uptoBulk d + 1
  | .slice elems spare => uptoBulkAll elems + uptoBulkAll spare + 1
  | .agg parts => uptoBulkAll parts + 1
  | .iface _ d => uptoBulk d + 1
  | .map entries => uptoBulkEntries entries + 1
  | .held _ => 1
def uptoBulkAll {H : Type} : List (DataW H) → Nat
  | [] => 0
  | d :: r => uptoBulk d + uptoBulkAll r
def uptoBulkEntries {H : Type} : List (Lit × DataW H) → Nat
  | [] => 0
  | x :: r => uptoBulkEntry x + uptoBulkEntries r
def uptoBulkEntry {H : Type} : Lit × DataW H → Nat
  | (.string bytes, d) => bytes.length + uptoBulk d + 1
  | (_, d) => uptoBulk d + 1
 end
def uptoSmall : (H : Type) → List (DataW H) → Bool := fun _ ds => decide (uptoBulkAll ds ≤ 1048576)
def OpenSpec.upto (s : _root_.Go.ChangeSpec) : _root_.Go.OpenSpec := { _root_.Go.OpenSpec.ofChange s with cond := some uptoSmall }

/-- 'hourglasskeep.RecordsReplay', WHERE WHAT IT READS IS OF BULK AT MOST 1048576: true; the input reads as it did. -/
def recordsReplayUptoRow : OpenClaim := { program := "ytecpblabaelopaadoor", sum := "934f5ec4bcc765aa82c4b6d615f635c690ce43b68ace9e401d99e94a866b2b67", func := "hourglass/hourglasskeep.RecordsReplay", spec := "recordsReplay", unfollowed := true, recurses := true, named := ["hourglass/evlog.dataWords"], apart := false, laid := [("hourglass/evlog.dataWords", laid_hourglass_evlog_dataWords)], narrowed := true }
def RecordsReplayUptoSaid : Prop := recordsReplayUptoRow.holds Tryd.pinned (OpenSpec.upto recordsReplaySpec)

/-- 'hourglasskeep.RecordsBegin', WHERE WHAT IT READS IS OF BULK AT MOST 1048576: true; the input reads as it did. -/
def recordsBeginUptoRow : OpenClaim := { program := "ytecpblabaelopaadoor", sum := "934f5ec4bcc765aa82c4b6d615f635c690ce43b68ace9e401d99e94a866b2b67", func := "hourglass/hourglasskeep.RecordsBegin", spec := "recordsBegin", unfollowed := true, recurses := true, named := ["hourglass/evlog.dataWords"], apart := false, laid := [("hourglass/evlog.dataWords", laid_hourglass_evlog_dataWords)], narrowed := true }
def RecordsBeginUptoSaid : Prop := recordsBeginUptoRow.holds Tryd.pinned (OpenSpec.upto recordsBeginSpec)

/-- 'hourglasskeep.RecordsStep', WHERE WHAT IT READS IS OF BULK AT MOST 1048576: true; the input reads as it did. -/
def recordsStepUptoRow : OpenClaim := { program := "ytecpblabaelopaadoor", sum := "934f5ec4bcc765aa82c4b6d615f635c690ce43b68ace9e401d99e94a866b2b67", func := "hourglass/hourglasskeep.RecordsStep", spec := "recordsStep", unfollowed := true, recurses := true, named := ["hourglass/evlog.dataWords"], apart := false, laid := [("hourglass/evlog.dataWords", laid_hourglass_evlog_dataWords)], narrowed := true }
def RecordsStepUptoSaid : Prop := recordsStepUptoRow.holds Tryd.pinned (OpenSpec.upto recordsStepSpec)

end Rows
end Go.Proofs.YtecpblabaelopaaDoor
