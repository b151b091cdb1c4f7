/-
  DERIVED. GIVEN WITH THE SEED: THE CARDS: each row of YtniedmoiklkigaeDoorRows.lean that lists a variable, with what it lists TIED to the program's text (the seventh form; the later family's looks); each row that meets fmt, with fmt's text TOLD by the authors' own Lean function (tested against real Go, not proved from fmt's source: count such statements apart). THE CARD IS WHAT COUNTS. Prove the row's statement (the work); the ties are given (YtniedmoiklkigaeDoorTie.lean); close each card by the builder's one call (the guide's Derived/Test/ToyasCard.lean, 'card_holds'). Laid BY PROGRAM, IN A SANDBOX (cutbox-door.mjs). By AI agents, Wed Nov 11 2026. No macro, syntax, notation, axiom, sorry.
-/
import Derived.Test.YtniedmoiklkigaeDoorRows
import GoSem.ClaimSeven
namespace Go.Proofs.YtniedmoiklkigaeDoor
namespace Rows

/-- THE TIED CARD OF 'hourglasslaw.EvlogChecks'. -/
def evlogChecksCard : Claim7 := { stood := { row := evlogChecksRow, standIns := [], harness := (true, "cc0f36aa0afb683689b1e02869f499cb4be1ce4717327d0523bf25601fcd8d59"), looks := false }, kinds := [], alts := [], laidByText := true, laidKinds := [.data], laidTests := true, laidLooks := .later }
def EvlogChecksCardSaid : Prop := Claim7.holds Tryd.pinned (.plain (OpenSpec.ofChange evlogChecksSpec)) evlogChecksCard

/-- THE TIED CARD OF 'hourglasslaw.EvlogEncodes'. -/
def evlogEncodesCard : Claim7 := { stood := { row := evlogEncodesRow, standIns := [], harness := (true, "cc0f36aa0afb683689b1e02869f499cb4be1ce4717327d0523bf25601fcd8d59"), looks := false }, kinds := [], alts := [], laidByText := true, laidKinds := [.data], laidTests := true, laidLooks := .later }
def EvlogEncodesCardSaid : Prop := Claim7.holds Tryd.pinned (.plain (OpenSpec.ofChange evlogEncodesSpec)) evlogEncodesCard

/-- THE TIED CARD OF 'hourglasslaw.EvlogDecodes'. -/
def evlogDecodesCard : Claim7 := { stood := { row := evlogDecodesRow, standIns := [], harness := (true, "cc0f36aa0afb683689b1e02869f499cb4be1ce4717327d0523bf25601fcd8d59"), looks := false }, kinds := [], alts := [], laidByText := true, laidKinds := [.data], laidTests := true, laidLooks := .later }
def EvlogDecodesCardSaid : Prop := Claim7.holds Tryd.pinned (.plain (OpenSpec.ofChange evlogDecodesSpec)) evlogDecodesCard

/-- THE SECOND FORM's CARD OF 'hourglasslaw.EvlogChecks'. -/
def evlogChecksUptoCard : Claim7 := { stood := { row := evlogChecksUptoRow, standIns := [], harness := (true, "cc0f36aa0afb683689b1e02869f499cb4be1ce4717327d0523bf25601fcd8d59"), looks := false }, kinds := [], alts := [], laidByText := true, laidKinds := [.data], laidTests := true, laidLooks := .later }
def EvlogChecksUptoCardSaid : Prop := Claim7.holds Tryd.pinned (.plain (OpenSpec.upto evlogChecksSpec)) evlogChecksUptoCard

/-- THE SECOND FORM's CARD OF 'hourglasslaw.EvlogEncodes'. -/
def evlogEncodesUptoCard : Claim7 := { stood := { row := evlogEncodesUptoRow, standIns := [], harness := (true, "cc0f36aa0afb683689b1e02869f499cb4be1ce4717327d0523bf25601fcd8d59"), looks := false }, kinds := [], alts := [], laidByText := true, laidKinds := [.data], laidTests := true, laidLooks := .later }
def EvlogEncodesUptoCardSaid : Prop := Claim7.holds Tryd.pinned (.plain (OpenSpec.upto evlogEncodesSpec)) evlogEncodesUptoCard

/-- THE SECOND FORM's CARD OF 'hourglasslaw.EvlogDecodes'. -/
def evlogDecodesUptoCard : Claim7 := { stood := { row := evlogDecodesUptoRow, standIns := [], harness := (true, "cc0f36aa0afb683689b1e02869f499cb4be1ce4717327d0523bf25601fcd8d59"), looks := false }, kinds := [], alts := [], laidByText := true, laidKinds := [.data], laidTests := true, laidLooks := .later }
def EvlogDecodesUptoCardSaid : Prop := Claim7.holds Tryd.pinned (.plain (OpenSpec.upto evlogDecodesSpec)) evlogDecodesUptoCard
end Rows
end Go.Proofs.YtniedmoiklkigaeDoor
