/-
  DERIVED. GIVEN WITH THE SEED: THE CARDS: each row of YtecpblabaelopaaDoorRows.lean that lists a variable, with what it lists TIED to the program's text (the seventh form; the later family's looks); each row that meets fmt, with fmt's text TOLD by the authors' own Lean function (tested against real Go, not proved from fmt's source: count such statements apart). THE CARD IS WHAT COUNTS. Prove the row's statement (the work); the ties are given (YtecpblabaelopaaDoorTie.lean); close each card by the builder's one call (the guide's Derived/Test/ToyasCard.lean, 'card_holds'). Laid BY PROGRAM, IN A SANDBOX (cutbox-door.mjs). By AI agents, Wed Nov 11 2026. No macro, syntax, notation, axiom, sorry.
-/
import Derived.Test.YtecpblabaelopaaDoorRows
import GoSem.ClaimSeven
namespace Go.Proofs.YtecpblabaelopaaDoor
namespace Rows

/-- THE TIED CARD OF 'hourglasskeep.RecordsReplay'. -/
def recordsReplayCard : Claim7 := { stood := { row := recordsReplayRow, standIns := [], harness := (true, "8679dc297e11d97b3a5c6b1342cbd682435d1eccb2a51af0c461f926146b1f78"), looks := false }, kinds := [], alts := [], laidByText := true, laidKinds := [.data], laidTests := true, laidLooks := .later }
def RecordsReplayCardSaid : Prop := Claim7.holds Tryd.pinned (.plain (OpenSpec.ofChange recordsReplaySpec)) recordsReplayCard

/-- THE TIED CARD OF 'hourglasskeep.RecordsBegin'. -/
def recordsBeginCard : Claim7 := { stood := { row := recordsBeginRow, standIns := [], harness := (true, "8679dc297e11d97b3a5c6b1342cbd682435d1eccb2a51af0c461f926146b1f78"), looks := false }, kinds := [], alts := [], laidByText := true, laidKinds := [.data], laidTests := true, laidLooks := .later }
def RecordsBeginCardSaid : Prop := Claim7.holds Tryd.pinned (.plain (OpenSpec.ofChange recordsBeginSpec)) recordsBeginCard

/-- THE TIED CARD OF 'hourglasskeep.RecordsStep'. -/
def recordsStepCard : Claim7 := { stood := { row := recordsStepRow, standIns := [], harness := (true, "8679dc297e11d97b3a5c6b1342cbd682435d1eccb2a51af0c461f926146b1f78"), looks := false }, kinds := [], alts := [], laidByText := true, laidKinds := [.data], laidTests := true, laidLooks := .later }
def RecordsStepCardSaid : Prop := Claim7.holds Tryd.pinned (.plain (OpenSpec.ofChange recordsStepSpec)) recordsStepCard

/-- THE SECOND FORM's CARD OF 'hourglasskeep.RecordsReplay'. -/
def recordsReplayUptoCard : Claim7 := { stood := { row := recordsReplayUptoRow, standIns := [], harness := (true, "8679dc297e11d97b3a5c6b1342cbd682435d1eccb2a51af0c461f926146b1f78"), looks := false }, kinds := [], alts := [], laidByText := true, laidKinds := [.data], laidTests := true, laidLooks := .later }
def RecordsReplayUptoCardSaid : Prop := Claim7.holds Tryd.pinned (.plain (OpenSpec.upto recordsReplaySpec)) recordsReplayUptoCard

/-- THE SECOND FORM's CARD OF 'hourglasskeep.RecordsBegin'. -/
def recordsBeginUptoCard : Claim7 := { stood := { row := recordsBeginUptoRow, standIns := [], harness := (true, "8679dc297e11d97b3a5c6b1342cbd682435d1eccb2a51af0c461f926146b1f78"), looks := false }, kinds := [], alts := [], laidByText := true, laidKinds := [.data], laidTests := true, laidLooks := .later }
def RecordsBeginUptoCardSaid : Prop := Claim7.holds Tryd.pinned (.plain (OpenSpec.upto recordsBeginSpec)) recordsBeginUptoCard

/-- THE SECOND FORM's CARD OF 'hourglasskeep.RecordsStep'. -/
def recordsStepUptoCard : Claim7 := { stood := { row := recordsStepUptoRow, standIns := [], harness := (true, "8679dc297e11d97b3a5c6b1342cbd682435d1eccb2a51af0c461f926146b1f78"), looks := false }, kinds := [], alts := [], laidByText := true, laidKinds := [.data], laidTests := true, laidLooks := .later }
def RecordsStepUptoCardSaid : Prop := Claim7.holds Tryd.pinned (.plain (OpenSpec.upto recordsStepSpec)) recordsStepUptoCard
end Rows
end Go.Proofs.YtecpblabaelopaaDoor
