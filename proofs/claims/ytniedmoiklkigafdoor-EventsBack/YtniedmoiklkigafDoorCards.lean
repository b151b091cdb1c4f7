/-
  DERIVED. GIVEN WITH THE SEED: THE CARDS: each row of YtniedmoiklkigafDoorRows.lean that lists a variable, with what it lists TIED to the program's text (the seventh form; the later family's looks); each row that meets fmt, with fmt's text TOLD by the authors' own Lean function (tested against real Go, not proved from fmt's source: count such statements apart). THE CARD IS WHAT COUNTS. Prove the row's statement (the work); the ties are given (YtniedmoiklkigafDoorTie.lean); close each card by the builder's one call (the guide's Derived/Test/ToyasCard.lean, 'card_holds'). Laid BY PROGRAM, IN A SANDBOX (cutbox-door.mjs). By AI agents, Wed Nov 11 2026. No macro, syntax, notation, axiom, sorry.
-/
import Derived.Test.YtniedmoiklkigafDoorRows
import GoSem.ClaimSeven
namespace Go.Proofs.YtniedmoiklkigafDoor
namespace Rows

/-- THE TIED CARD OF 'hourglasskeep.EventsBack'. -/
def eventsBackCard : Claim7 := { stood := { row := eventsBackRow, standIns := [], harness := (true, "21012156e7c1c5e8731bee32b6407b61d8ccb45b5ea0eeeb4fe3ffb7c6e00d29"), looks := false }, kinds := [], alts := [], laidByText := true, laidKinds := [.data], laidTests := true, laidLooks := .later }
def EventsBackCardSaid : Prop := Claim7.holds Tryd.pinned (.plain (OpenSpec.ofChange eventsBackSpec)) eventsBackCard

/-- THE TIED CARD OF 'hourglasskeep.EventsSpoilt'. -/
def eventsSpoiltCard : Claim7 := { stood := { row := eventsSpoiltRow, standIns := [], harness := (true, "21012156e7c1c5e8731bee32b6407b61d8ccb45b5ea0eeeb4fe3ffb7c6e00d29"), looks := false }, kinds := [], alts := [], laidByText := true, laidKinds := [.data], laidTests := true, laidLooks := .later }
def EventsSpoiltCardSaid : Prop := Claim7.holds Tryd.pinned (.plain (OpenSpec.ofChange eventsSpoiltSpec)) eventsSpoiltCard

/-- THE TIED CARD OF 'hourglasskeep.EventsOnce'. -/
def eventsOnceCard : Claim7 := { stood := { row := eventsOnceRow, standIns := [], harness := (true, "21012156e7c1c5e8731bee32b6407b61d8ccb45b5ea0eeeb4fe3ffb7c6e00d29"), looks := false }, kinds := [], alts := [], laidByText := true, laidKinds := [.data], laidTests := true, laidLooks := .later }
def EventsOnceCardSaid : Prop := Claim7.holds Tryd.pinned (.plain (OpenSpec.ofChange eventsOnceSpec)) eventsOnceCard

/-- THE SECOND FORM's CARD OF 'hourglasskeep.EventsBack'. -/
def eventsBackUptoCard : Claim7 := { stood := { row := eventsBackUptoRow, standIns := [], harness := (true, "21012156e7c1c5e8731bee32b6407b61d8ccb45b5ea0eeeb4fe3ffb7c6e00d29"), looks := false }, kinds := [], alts := [], laidByText := true, laidKinds := [.data], laidTests := true, laidLooks := .later }
def EventsBackUptoCardSaid : Prop := Claim7.holds Tryd.pinned (.plain (OpenSpec.upto eventsBackSpec)) eventsBackUptoCard

/-- THE SECOND FORM's CARD OF 'hourglasskeep.EventsSpoilt'. -/
def eventsSpoiltUptoCard : Claim7 := { stood := { row := eventsSpoiltUptoRow, standIns := [], harness := (true, "21012156e7c1c5e8731bee32b6407b61d8ccb45b5ea0eeeb4fe3ffb7c6e00d29"), looks := false }, kinds := [], alts := [], laidByText := true, laidKinds := [.data], laidTests := true, laidLooks := .later }
def EventsSpoiltUptoCardSaid : Prop := Claim7.holds Tryd.pinned (.plain (OpenSpec.upto eventsSpoiltSpec)) eventsSpoiltUptoCard

/-- THE SECOND FORM's CARD OF 'hourglasskeep.EventsOnce'. -/
def eventsOnceUptoCard : Claim7 := { stood := { row := eventsOnceUptoRow, standIns := [], harness := (true, "21012156e7c1c5e8731bee32b6407b61d8ccb45b5ea0eeeb4fe3ffb7c6e00d29"), looks := false }, kinds := [], alts := [], laidByText := true, laidKinds := [.data], laidTests := true, laidLooks := .later }
def EventsOnceUptoCardSaid : Prop := Claim7.holds Tryd.pinned (.plain (OpenSpec.upto eventsOnceSpec)) eventsOnceUptoCard
end Rows
end Go.Proofs.YtniedmoiklkigafDoor
