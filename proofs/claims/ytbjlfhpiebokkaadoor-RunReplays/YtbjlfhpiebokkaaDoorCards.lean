/-
  DERIVED. GIVEN WITH THE SEED: THE CARDS: each row of YtbjlfhpiebokkaaDoorRows.lean that lists a variable, with what it lists TIED to the program's text (the seventh form; the later family's looks); each row that meets fmt, with fmt's text TOLD by the authors' own Lean function (tested against real Go, not proved from fmt's source: count such statements apart). THE CARD IS WHAT COUNTS. Prove the row's statement (the work); the ties are given (YtbjlfhpiebokkaaDoorTie.lean); close each card by the builder's one call (the guide's Derived/Test/ToyasCard.lean, 'card_holds'). Laid BY PROGRAM, IN A SANDBOX (cutbox-door.mjs). By AI agents, Wed Nov 11 2026. No macro, syntax, notation, axiom, sorry.
-/
import Derived.Test.YtbjlfhpiebokkaaDoorRows
import GoSem.ClaimSeven
namespace Go.Proofs.YtbjlfhpiebokkaaDoor
namespace Rows

/-- THE TIED CARD OF 'hourglasslaw.RunRecords'. -/
def runRecordsCard : Claim7 := { stood := { row := runRecordsRow, standIns := [], harness := (true, "e0b90b18233200502583110b2e48c99b85a19b6391362d6a64bbdde4f7b3d68e"), looks := false }, kinds := [], alts := [], laidByText := true, laidKinds := [.data], laidTests := true, laidLooks := .later }
def RunRecordsCardSaid : Prop := Claim7.holds Tryd.pinned (.plain (OpenSpec.ofChange runRecordsSpec)) runRecordsCard

/-- THE TIED CARD OF 'hourglasslaw.RunReplays'. -/
def runReplaysCard : Claim7 := { stood := { row := runReplaysRow, standIns := [], harness := (true, "e0b90b18233200502583110b2e48c99b85a19b6391362d6a64bbdde4f7b3d68e"), looks := false }, kinds := [], alts := [], laidByText := true, laidKinds := [.data], laidTests := true, laidLooks := .later }
def RunReplaysCardSaid : Prop := Claim7.holds Tryd.pinned (.plain (OpenSpec.ofChange runReplaysSpec)) runReplaysCard

/-- THE TIED CARD OF 'hourglasskeep.RecordsReplay'. -/
def recordsReplayCard : Claim7 := { stood := { row := recordsReplayRow, standIns := [], harness := (true, "e0b90b18233200502583110b2e48c99b85a19b6391362d6a64bbdde4f7b3d68e"), looks := false }, kinds := [], alts := [], laidByText := true, laidKinds := [.data], laidTests := true, laidLooks := .later }
def RecordsReplayCardSaid : Prop := Claim7.holds Tryd.pinned (.plain (OpenSpec.ofChange recordsReplaySpec)) recordsReplayCard

/-- THE TIED CARD OF 'hourglasskeep.RecordsBegin'. -/
def recordsBeginCard : Claim7 := { stood := { row := recordsBeginRow, standIns := [], harness := (true, "e0b90b18233200502583110b2e48c99b85a19b6391362d6a64bbdde4f7b3d68e"), looks := false }, kinds := [], alts := [], laidByText := true, laidKinds := [.data], laidTests := true, laidLooks := .later }
def RecordsBeginCardSaid : Prop := Claim7.holds Tryd.pinned (.plain (OpenSpec.ofChange recordsBeginSpec)) recordsBeginCard

/-- THE TIED CARD OF 'hourglasskeep.RecordsStep'. -/
def recordsStepCard : Claim7 := { stood := { row := recordsStepRow, standIns := [], harness := (true, "e0b90b18233200502583110b2e48c99b85a19b6391362d6a64bbdde4f7b3d68e"), looks := false }, kinds := [], alts := [], laidByText := true, laidKinds := [.data], laidTests := true, laidLooks := .later }
def RecordsStepCardSaid : Prop := Claim7.holds Tryd.pinned (.plain (OpenSpec.ofChange recordsStepSpec)) recordsStepCard

/-- THE SECOND FORM's CARD OF 'hourglasslaw.RunRecords'. -/
def runRecordsUptoCard : Claim7 := { stood := { row := runRecordsUptoRow, standIns := [], harness := (true, "e0b90b18233200502583110b2e48c99b85a19b6391362d6a64bbdde4f7b3d68e"), looks := false }, kinds := [], alts := [], laidByText := true, laidKinds := [.data], laidTests := true, laidLooks := .later }
def RunRecordsUptoCardSaid : Prop := Claim7.holds Tryd.pinned (.plain (OpenSpec.upto runRecordsSpec)) runRecordsUptoCard

/-- THE SECOND FORM's CARD OF 'hourglasslaw.RunReplays'. -/
def runReplaysUptoCard : Claim7 := { stood := { row := runReplaysUptoRow, standIns := [], harness := (true, "e0b90b18233200502583110b2e48c99b85a19b6391362d6a64bbdde4f7b3d68e"), looks := false }, kinds := [], alts := [], laidByText := true, laidKinds := [.data], laidTests := true, laidLooks := .later }
def RunReplaysUptoCardSaid : Prop := Claim7.holds Tryd.pinned (.plain (OpenSpec.upto runReplaysSpec)) runReplaysUptoCard

/-- THE SECOND FORM's CARD OF 'hourglasskeep.RecordsReplay'. -/
def recordsReplayUptoCard : Claim7 := { stood := { row := recordsReplayUptoRow, standIns := [], harness := (true, "e0b90b18233200502583110b2e48c99b85a19b6391362d6a64bbdde4f7b3d68e"), looks := false }, kinds := [], alts := [], laidByText := true, laidKinds := [.data], laidTests := true, laidLooks := .later }
def RecordsReplayUptoCardSaid : Prop := Claim7.holds Tryd.pinned (.plain (OpenSpec.upto recordsReplaySpec)) recordsReplayUptoCard

/-- THE SECOND FORM's CARD OF 'hourglasskeep.RecordsBegin'. -/
def recordsBeginUptoCard : Claim7 := { stood := { row := recordsBeginUptoRow, standIns := [], harness := (true, "e0b90b18233200502583110b2e48c99b85a19b6391362d6a64bbdde4f7b3d68e"), looks := false }, kinds := [], alts := [], laidByText := true, laidKinds := [.data], laidTests := true, laidLooks := .later }
def RecordsBeginUptoCardSaid : Prop := Claim7.holds Tryd.pinned (.plain (OpenSpec.upto recordsBeginSpec)) recordsBeginUptoCard

/-- THE SECOND FORM's CARD OF 'hourglasskeep.RecordsStep'. -/
def recordsStepUptoCard : Claim7 := { stood := { row := recordsStepUptoRow, standIns := [], harness := (true, "e0b90b18233200502583110b2e48c99b85a19b6391362d6a64bbdde4f7b3d68e"), looks := false }, kinds := [], alts := [], laidByText := true, laidKinds := [.data], laidTests := true, laidLooks := .later }
def RecordsStepUptoCardSaid : Prop := Claim7.holds Tryd.pinned (.plain (OpenSpec.upto recordsStepSpec)) recordsStepUptoCard
end Rows
end Go.Proofs.YtbjlfhpiebokkaaDoor
