/-
  DERIVED. GIVEN WITH THE SEED: THE CARDS: each row of YtlcdefpdahjjeagDoorRows.lean that lists a variable, with what it lists TIED to the program's text (the seventh form; the later family's looks); each row that meets fmt, with fmt's text TOLD by the authors' own Lean function (tested against real Go, not proved from fmt's source: count such statements apart). THE CARD IS WHAT COUNTS. Prove the row's statement (the work); the ties are given (YtlcdefpdahjjeagDoorTie.lean); close each card by the builder's one call (the guide's Derived/Test/ToyasCard.lean, 'card_holds'). Laid BY PROGRAM, IN A SANDBOX (cutbox-door.mjs). By AI agents, Wed Nov 11 2026. No macro, syntax, notation, axiom, sorry.
-/
import Derived.Test.YtlcdefpdahjjeagDoorRows
import GoSem.ClaimSeven
namespace Go.Proofs.YtlcdefpdahjjeagDoor
namespace Rows

/-- THE TIED CARD OF 'hourglasslaw.RunRecords'. -/
def runRecordsCard : Claim7 := { stood := { row := runRecordsRow, standIns := [], harness := (true, "8700a19b4dc9d9361e9f9a35d2bc07a5ebabba2acc8798ed8e5500da7b01d089"), looks := false }, kinds := [], alts := [], laidByText := true, laidKinds := [.data], laidTests := true, laidLooks := .later }
def RunRecordsCardSaid : Prop := Claim7.holds Tryd.pinned (.plain (OpenSpec.ofChange runRecordsSpec)) runRecordsCard

/-- THE TIED CARD OF 'hourglasslaw.RunChecks'. -/
def runChecksCard : Claim7 := { stood := { row := runChecksRow, standIns := [], harness := (true, "8700a19b4dc9d9361e9f9a35d2bc07a5ebabba2acc8798ed8e5500da7b01d089"), looks := false }, kinds := [], alts := [], laidByText := true, laidKinds := [.data], laidTests := true, laidLooks := .later }
def RunChecksCardSaid : Prop := Claim7.holds Tryd.pinned (.plain (OpenSpec.ofChange runChecksSpec)) runChecksCard

/-- THE TIED CARD OF 'hourglasslaw.RunReplays'. -/
def runReplaysCard : Claim7 := { stood := { row := runReplaysRow, standIns := [], harness := (true, "8700a19b4dc9d9361e9f9a35d2bc07a5ebabba2acc8798ed8e5500da7b01d089"), looks := false }, kinds := [], alts := [], laidByText := true, laidKinds := [.data], laidTests := true, laidLooks := .later }
def RunReplaysCardSaid : Prop := Claim7.holds Tryd.pinned (.plain (OpenSpec.ofChange runReplaysSpec)) runReplaysCard

/-- THE TIED CARD OF 'hourglasskeep.RecordsReplay'. -/
def recordsReplayCard : Claim7 := { stood := { row := recordsReplayRow, standIns := [], harness := (true, "8700a19b4dc9d9361e9f9a35d2bc07a5ebabba2acc8798ed8e5500da7b01d089"), looks := false }, kinds := [], alts := [], laidByText := true, laidKinds := [.data], laidTests := true, laidLooks := .later }
def RecordsReplayCardSaid : Prop := Claim7.holds Tryd.pinned (.plain (OpenSpec.ofChange recordsReplaySpec)) recordsReplayCard

/-- THE TIED CARD OF 'hourglasskeep.RecordsBegin'. -/
def recordsBeginCard : Claim7 := { stood := { row := recordsBeginRow, standIns := [], harness := (true, "8700a19b4dc9d9361e9f9a35d2bc07a5ebabba2acc8798ed8e5500da7b01d089"), looks := false }, kinds := [], alts := [], laidByText := true, laidKinds := [.data], laidTests := true, laidLooks := .later }
def RecordsBeginCardSaid : Prop := Claim7.holds Tryd.pinned (.plain (OpenSpec.ofChange recordsBeginSpec)) recordsBeginCard

/-- THE TIED CARD OF 'hourglasskeep.RecordsStep'. -/
def recordsStepCard : Claim7 := { stood := { row := recordsStepRow, standIns := [], harness := (true, "8700a19b4dc9d9361e9f9a35d2bc07a5ebabba2acc8798ed8e5500da7b01d089"), looks := false }, kinds := [], alts := [], laidByText := true, laidKinds := [.data], laidTests := true, laidLooks := .later }
def RecordsStepCardSaid : Prop := Claim7.holds Tryd.pinned (.plain (OpenSpec.ofChange recordsStepSpec)) recordsStepCard

/-- THE SECOND FORM's CARD OF 'hourglasslaw.RunRecords'. -/
def runRecordsUptoCard : Claim7 := { stood := { row := runRecordsUptoRow, standIns := [], harness := (true, "8700a19b4dc9d9361e9f9a35d2bc07a5ebabba2acc8798ed8e5500da7b01d089"), looks := false }, kinds := [], alts := [], laidByText := true, laidKinds := [.data], laidTests := true, laidLooks := .later }
def RunRecordsUptoCardSaid : Prop := Claim7.holds Tryd.pinned (.plain (OpenSpec.upto runRecordsSpec)) runRecordsUptoCard

/-- THE SECOND FORM's CARD OF 'hourglasslaw.RunChecks'. -/
def runChecksUptoCard : Claim7 := { stood := { row := runChecksUptoRow, standIns := [], harness := (true, "8700a19b4dc9d9361e9f9a35d2bc07a5ebabba2acc8798ed8e5500da7b01d089"), looks := false }, kinds := [], alts := [], laidByText := true, laidKinds := [.data], laidTests := true, laidLooks := .later }
def RunChecksUptoCardSaid : Prop := Claim7.holds Tryd.pinned (.plain (OpenSpec.upto runChecksSpec)) runChecksUptoCard

/-- THE SECOND FORM's CARD OF 'hourglasslaw.RunReplays'. -/
def runReplaysUptoCard : Claim7 := { stood := { row := runReplaysUptoRow, standIns := [], harness := (true, "8700a19b4dc9d9361e9f9a35d2bc07a5ebabba2acc8798ed8e5500da7b01d089"), looks := false }, kinds := [], alts := [], laidByText := true, laidKinds := [.data], laidTests := true, laidLooks := .later }
def RunReplaysUptoCardSaid : Prop := Claim7.holds Tryd.pinned (.plain (OpenSpec.upto runReplaysSpec)) runReplaysUptoCard

/-- THE SECOND FORM's CARD OF 'hourglasskeep.RecordsReplay'. -/
def recordsReplayUptoCard : Claim7 := { stood := { row := recordsReplayUptoRow, standIns := [], harness := (true, "8700a19b4dc9d9361e9f9a35d2bc07a5ebabba2acc8798ed8e5500da7b01d089"), looks := false }, kinds := [], alts := [], laidByText := true, laidKinds := [.data], laidTests := true, laidLooks := .later }
def RecordsReplayUptoCardSaid : Prop := Claim7.holds Tryd.pinned (.plain (OpenSpec.upto recordsReplaySpec)) recordsReplayUptoCard

/-- THE SECOND FORM's CARD OF 'hourglasskeep.RecordsBegin'. -/
def recordsBeginUptoCard : Claim7 := { stood := { row := recordsBeginUptoRow, standIns := [], harness := (true, "8700a19b4dc9d9361e9f9a35d2bc07a5ebabba2acc8798ed8e5500da7b01d089"), looks := false }, kinds := [], alts := [], laidByText := true, laidKinds := [.data], laidTests := true, laidLooks := .later }
def RecordsBeginUptoCardSaid : Prop := Claim7.holds Tryd.pinned (.plain (OpenSpec.upto recordsBeginSpec)) recordsBeginUptoCard

/-- THE SECOND FORM's CARD OF 'hourglasskeep.RecordsStep'. -/
def recordsStepUptoCard : Claim7 := { stood := { row := recordsStepUptoRow, standIns := [], harness := (true, "8700a19b4dc9d9361e9f9a35d2bc07a5ebabba2acc8798ed8e5500da7b01d089"), looks := false }, kinds := [], alts := [], laidByText := true, laidKinds := [.data], laidTests := true, laidLooks := .later }
def RecordsStepUptoCardSaid : Prop := Claim7.holds Tryd.pinned (.plain (OpenSpec.upto recordsStepSpec)) recordsStepUptoCard
end Rows
end Go.Proofs.YtlcdefpdahjjeagDoor
