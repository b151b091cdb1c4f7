/-
  DERIVED. GIVEN WITH THE SEED: THE CARDS: each row of YtecpblabaelopaaGreatDoorRows.lean that lists a variable, with what it lists TIED to the program's text (the seventh form; the later family's looks); each row that meets fmt, with fmt's text TOLD by the authors' own Lean function (tested against real Go, not proved from fmt's source: count such statements apart). THE CARD IS WHAT COUNTS. Prove the row's statement (the work); the ties are given (YtecpblabaelopaaGreatDoorTie.lean); close each card by the builder's one call (the guide's Derived/Test/ToyasCard.lean, 'card_holds'). Laid BY PROGRAM, IN A SANDBOX (cutbox-door.mjs). By AI agents, Wed Nov 11 2026. No macro, syntax, notation, axiom, sorry.
-/
import Derived.Test.YtecpblabaelopaaGreatDoorRows
import GoSem.ClaimSeven
namespace Go.Proofs.YtecpblabaelopaaGreatDoor
namespace Rows

/-- THE TIED CARD OF 'hourglasslaw.DeckSeeks'. -/
def deckSeeksCard : Claim7 := { stood := { row := deckSeeksRow, standIns := [], harness := (true, "d368d16814476eaa7513d76c81e340742a327b5c92fda77ca4c2044d28266fdc"), looks := false }, kinds := [], alts := [], laidByText := true, laidKinds := [.data], laidTests := true, laidLooks := .later }
def DeckSeeksCardSaid : Prop := Claim7.holds Tryz.pinned (.plain (OpenSpec.ofChange deckSeeksSpec)) deckSeeksCard

/-- THE TIED CARD OF 'hourglasskeep.SeeksTell'. -/
def seeksTellCard : Claim7 := { stood := { row := seeksTellRow, standIns := [], harness := (true, "d368d16814476eaa7513d76c81e340742a327b5c92fda77ca4c2044d28266fdc"), looks := false }, kinds := [], alts := [], laidByText := true, laidKinds := [.data], laidTests := true, laidLooks := .later }
def SeeksTellCardSaid : Prop := Claim7.holds Tryz.pinned (.plain (OpenSpec.ofChange seeksTellSpec)) seeksTellCard

/-- THE TIED CARD OF 'hourglasskeep.SeeksFew'. -/
def seeksFewCard : Claim7 := { stood := { row := seeksFewRow, standIns := [], harness := (true, "d368d16814476eaa7513d76c81e340742a327b5c92fda77ca4c2044d28266fdc"), looks := false }, kinds := [], alts := [], laidByText := true, laidKinds := [.data], laidTests := true, laidLooks := .later }
def SeeksFewCardSaid : Prop := Claim7.holds Tryz.pinned (.plain (OpenSpec.ofChange seeksFewSpec)) seeksFewCard

/-- THE TIED CARD OF 'hourglasstop.TopReplay'. -/
def topReplayCard : Claim7 := { stood := { row := topReplayRow, standIns := [], harness := (true, "d368d16814476eaa7513d76c81e340742a327b5c92fda77ca4c2044d28266fdc"), looks := false }, kinds := [], alts := [], laidByText := true, laidKinds := [.data], laidTests := true, laidLooks := .later }
def TopReplayCardSaid : Prop := Claim7.holds Tryz.pinned (.plain (OpenSpec.ofChange topReplaySpec)) topReplayCard

/-- THE TIED CARD OF 'hourglasstop.TopSeek'. -/
def topSeekCard : Claim7 := { stood := { row := topSeekRow, standIns := [], harness := (true, "d368d16814476eaa7513d76c81e340742a327b5c92fda77ca4c2044d28266fdc"), looks := false }, kinds := [], alts := [], laidByText := true, laidKinds := [.data], laidTests := true, laidLooks := .later }
def TopSeekCardSaid : Prop := Claim7.holds Tryz.pinned (.plain (OpenSpec.ofChange topSeekSpec)) topSeekCard

/-- THE TIED CARD OF 'hourglasstop.TopWorlds'. -/
def topWorldsCard : Claim7 := { stood := { row := topWorldsRow, standIns := [], harness := (true, "d368d16814476eaa7513d76c81e340742a327b5c92fda77ca4c2044d28266fdc"), looks := false }, kinds := [], alts := [], laidByText := true, laidKinds := [.data], laidTests := true, laidLooks := .later }
def TopWorldsCardSaid : Prop := Claim7.holds Tryz.pinned (.plain (OpenSpec.ofChange topWorldsSpec)) topWorldsCard

/-- THE TIED CARD OF 'hourglasstop.TopEvents'. -/
def topEventsCard : Claim7 := { stood := { row := topEventsRow, standIns := [], harness := (true, "d368d16814476eaa7513d76c81e340742a327b5c92fda77ca4c2044d28266fdc"), looks := false }, kinds := [], alts := [], laidByText := true, laidKinds := [.data], laidTests := true, laidLooks := .later }
def TopEventsCardSaid : Prop := Claim7.holds Tryz.pinned (.plain (OpenSpec.ofChange topEventsSpec)) topEventsCard

/-- THE TIED CARD OF 'hourglasstop.TopTwice'. -/
def topTwiceCard : Claim7 := { stood := { row := topTwiceRow, standIns := [], harness := (true, "d368d16814476eaa7513d76c81e340742a327b5c92fda77ca4c2044d28266fdc"), looks := false }, kinds := [], alts := [], laidByText := true, laidKinds := [.data], laidTests := true, laidLooks := .later }
def TopTwiceCardSaid : Prop := Claim7.holds Tryz.pinned (.plain (OpenSpec.ofChange topTwiceSpec)) topTwiceCard

/-- THE SECOND FORM's CARD OF 'hourglasslaw.DeckSeeks'. -/
def deckSeeksUptoCard : Claim7 := { stood := { row := deckSeeksUptoRow, standIns := [], harness := (true, "d368d16814476eaa7513d76c81e340742a327b5c92fda77ca4c2044d28266fdc"), looks := false }, kinds := [], alts := [], laidByText := true, laidKinds := [.data], laidTests := true, laidLooks := .later }
def DeckSeeksUptoCardSaid : Prop := Claim7.holds Tryz.pinned (.plain (OpenSpec.upto deckSeeksSpec)) deckSeeksUptoCard

/-- THE SECOND FORM's CARD OF 'hourglasskeep.SeeksTell'. -/
def seeksTellUptoCard : Claim7 := { stood := { row := seeksTellUptoRow, standIns := [], harness := (true, "d368d16814476eaa7513d76c81e340742a327b5c92fda77ca4c2044d28266fdc"), looks := false }, kinds := [], alts := [], laidByText := true, laidKinds := [.data], laidTests := true, laidLooks := .later }
def SeeksTellUptoCardSaid : Prop := Claim7.holds Tryz.pinned (.plain (OpenSpec.upto seeksTellSpec)) seeksTellUptoCard

/-- THE SECOND FORM's CARD OF 'hourglasskeep.SeeksFew'. -/
def seeksFewUptoCard : Claim7 := { stood := { row := seeksFewUptoRow, standIns := [], harness := (true, "d368d16814476eaa7513d76c81e340742a327b5c92fda77ca4c2044d28266fdc"), looks := false }, kinds := [], alts := [], laidByText := true, laidKinds := [.data], laidTests := true, laidLooks := .later }
def SeeksFewUptoCardSaid : Prop := Claim7.holds Tryz.pinned (.plain (OpenSpec.upto seeksFewSpec)) seeksFewUptoCard

/-- THE SECOND FORM's CARD OF 'hourglasstop.TopReplay'. -/
def topReplayUptoCard : Claim7 := { stood := { row := topReplayUptoRow, standIns := [], harness := (true, "d368d16814476eaa7513d76c81e340742a327b5c92fda77ca4c2044d28266fdc"), looks := false }, kinds := [], alts := [], laidByText := true, laidKinds := [.data], laidTests := true, laidLooks := .later }
def TopReplayUptoCardSaid : Prop := Claim7.holds Tryz.pinned (.plain (OpenSpec.upto topReplaySpec)) topReplayUptoCard

/-- THE SECOND FORM's CARD OF 'hourglasstop.TopSeek'. -/
def topSeekUptoCard : Claim7 := { stood := { row := topSeekUptoRow, standIns := [], harness := (true, "d368d16814476eaa7513d76c81e340742a327b5c92fda77ca4c2044d28266fdc"), looks := false }, kinds := [], alts := [], laidByText := true, laidKinds := [.data], laidTests := true, laidLooks := .later }
def TopSeekUptoCardSaid : Prop := Claim7.holds Tryz.pinned (.plain (OpenSpec.upto topSeekSpec)) topSeekUptoCard

/-- THE SECOND FORM's CARD OF 'hourglasstop.TopWorlds'. -/
def topWorldsUptoCard : Claim7 := { stood := { row := topWorldsUptoRow, standIns := [], harness := (true, "d368d16814476eaa7513d76c81e340742a327b5c92fda77ca4c2044d28266fdc"), looks := false }, kinds := [], alts := [], laidByText := true, laidKinds := [.data], laidTests := true, laidLooks := .later }
def TopWorldsUptoCardSaid : Prop := Claim7.holds Tryz.pinned (.plain (OpenSpec.upto topWorldsSpec)) topWorldsUptoCard

/-- THE SECOND FORM's CARD OF 'hourglasstop.TopEvents'. -/
def topEventsUptoCard : Claim7 := { stood := { row := topEventsUptoRow, standIns := [], harness := (true, "d368d16814476eaa7513d76c81e340742a327b5c92fda77ca4c2044d28266fdc"), looks := false }, kinds := [], alts := [], laidByText := true, laidKinds := [.data], laidTests := true, laidLooks := .later }
def TopEventsUptoCardSaid : Prop := Claim7.holds Tryz.pinned (.plain (OpenSpec.upto topEventsSpec)) topEventsUptoCard

/-- THE SECOND FORM's CARD OF 'hourglasstop.TopTwice'. -/
def topTwiceUptoCard : Claim7 := { stood := { row := topTwiceUptoRow, standIns := [], harness := (true, "d368d16814476eaa7513d76c81e340742a327b5c92fda77ca4c2044d28266fdc"), looks := false }, kinds := [], alts := [], laidByText := true, laidKinds := [.data], laidTests := true, laidLooks := .later }
def TopTwiceUptoCardSaid : Prop := Claim7.holds Tryz.pinned (.plain (OpenSpec.upto topTwiceSpec)) topTwiceUptoCard
end Rows
end Go.Proofs.YtecpblabaelopaaGreatDoor
