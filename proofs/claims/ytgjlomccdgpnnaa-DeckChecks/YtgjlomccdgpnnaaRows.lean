/-
  No cell of these rows narrows 'for every input' (looked for: loops, veiled, ifaces, maps, wideKeys, modest, calm, conditions, laid).
  DERIVED. THE GIVEN ROWS OF THIS SEAT. 3 by the template 'for every input the law returns true; each argument reads behind the call as it read before'; 0 by the template 'total and deterministic' (their statements: YtgjlomccdgpnnaaTotals.lean).
  GIVEN WITH THE SEED: the statements are not yours to turn. If you find one false, say at which input.
  Laid BY PROGRAM, IN A SANDBOX (cutbox-rows.mjs): the forced cells as the released guide's own fill.sh prints them over the translation 03176ba8a89ad802… (all of the seat's roots in one cut). By AI agents, Wed Nov 11 2026. No macro, syntax, notation, axiom, sorry.
-/
import Derived.Test.YtgjlomccdgpnnaaChecked
import GoSem.Claim
import GoSem.ClaimJoined
import GoSem.ClaimMapViews
import Derived.JoinedTies
import Derived.KernelRfl
namespace Go.Proofs.Ytgjlomccdgpnnaa
/- THE CELL 'sum', in the pinned program and in every row, IS THE sha256 OF THE DUMP (.gsa) THAT YtgjlomccdgpnnaaProg.lean LOADS. Nothing in Lean hashes anything: it is a label: what it is worth is what the hold of that sum in a sandbox is worth. -/
noncomputable def Try.pinned : Pinned := { name := "ytgjlomccdgpnnaa", sum := "03176ba8a89ad8020fa4281b2580270a2e7c13908fa2c0a72c4d7ff2407659fb", checked := Try.checked }
namespace Rows
def none {H : Type} : Left H := { results := [], args := [] }

/-- 'hourglasslaw.SpacePlays': WHATEVER THE INPUT: true; the input reads as it did. -/
def spacePlaysSpec : ChangeSpec := { name := "spacePlays", fn := fun _ => fun
  | [d1, d2, d3] => { results := [.lit (.bool true)], args := [d1, d2, d3] }
  | _ => none }
def spacePlaysRow : OpenClaim := { program := "ytgjlomccdgpnnaa", sum := "03176ba8a89ad8020fa4281b2580270a2e7c13908fa2c0a72c4d7ff2407659fb", func := "hourglass/hourglasslaw.SpacePlays", spec := "spacePlays", apart := false }
def SpacePlaysSaid : Prop := spacePlaysRow.holds Try.pinned (OpenSpec.ofChange spacePlaysSpec)

/-- ITS FALSE NEIGHBOUR: 'it returns false'. Refute it at one input. -/
def spacePlaysWrong : ChangeSpec := { name := "spacePlays", fn := fun _ => fun
  | [d1, d2, d3] => { results := [.lit (.bool false)], args := [d1, d2, d3] }
  | _ => none }
def SpacePlaysWrongFalsely : Prop := spacePlaysRow.holds Try.pinned (OpenSpec.ofChange spacePlaysWrong)

/-- 'hourglasskeep.SpacesApart': WHATEVER THE INPUT: true; the input reads as it did. -/
def spacesApartSpec : ChangeSpec := { name := "spacesApart", fn := fun _ => fun
  | [d1, d2] => { results := [.lit (.bool true)], args := [d1, d2] }
  | _ => none }
def spacesApartRow : OpenClaim := { program := "ytgjlomccdgpnnaa", sum := "03176ba8a89ad8020fa4281b2580270a2e7c13908fa2c0a72c4d7ff2407659fb", func := "hourglass/hourglasskeep.SpacesApart", spec := "spacesApart", apart := false }
def SpacesApartSaid : Prop := spacesApartRow.holds Try.pinned (OpenSpec.ofChange spacesApartSpec)

/-- ITS FALSE NEIGHBOUR: 'it returns false'. Refute it at one input. -/
def spacesApartWrong : ChangeSpec := { name := "spacesApart", fn := fun _ => fun
  | [d1, d2] => { results := [.lit (.bool false)], args := [d1, d2] }
  | _ => none }
def SpacesApartWrongFalsely : Prop := spacesApartRow.holds Try.pinned (OpenSpec.ofChange spacesApartWrong)

/-- 'hourglasslaw.DeckChecks': WHATEVER THE INPUT: true; the input reads as it did. -/
def deckChecksSpec : ChangeSpec := { name := "deckChecks", fn := fun _ => fun
  | [d] => { results := [.lit (.bool true)], args := [d] }
  | _ => none }
def deckChecksRow : OpenClaim := { program := "ytgjlomccdgpnnaa", sum := "03176ba8a89ad8020fa4281b2580270a2e7c13908fa2c0a72c4d7ff2407659fb", func := "hourglass/hourglasslaw.DeckChecks", spec := "deckChecks", unfollowed := true, recurses := true, apart := false }
def DeckChecksSaid : Prop := deckChecksRow.holds Try.pinned (OpenSpec.ofChange deckChecksSpec)

/-- ITS FALSE NEIGHBOUR: 'it returns false'. Refute it at one input. -/
def deckChecksWrong : ChangeSpec := { name := "deckChecks", fn := fun _ => fun
  | [d] => { results := [.lit (.bool false)], args := [d] }
  | _ => none }
def DeckChecksWrongFalsely : Prop := deckChecksRow.holds Try.pinned (OpenSpec.ofChange deckChecksWrong)

/- THE SECOND FORM. 'bulk': how many values and letters a reading holds, each counted each time it is reached (what is shared counts as often as it is met; a slice's spare places count too). A statement '..UptoSaid' is the law's where the arguments, and the package variables that the reading takes, are together of bulk at most 1048576: NARROWER than '..Said'. Prove '..Said' where nothing that the law and all that it calls make is longer than what came in: it says more and counts as full. Else prove '..UptoSaid'. A law counts once. -/
mutual
def uptoBulk {H : Type} : DataW H → Nat
  | .lit (.string bytes) => bytes.length + 1
  | .lit _ => 1
  | .nil => 1
  | .ptr d => uptoBulk d + 1
  | .slice elems spare => uptoBulkAll elems + uptoBulkAll spare + 1
  | .agg parts => uptoBulkAll parts + 1
  | .iface _ d => uptoBulk d + 1
  | .map entries => uptoBulkEntries entries + 1
  | .held _ => 1
def uptoBulkAll {H : Type} : List (DataW H) → Nat
  | [] => 0
  | d :: r => uptoBulk d + uptoBulkAll r
def uptoBulkEntries {H : Type} : List (Lit × DataW H) → Nat
  | [] => 0
  | x :: r => uptoBulkEntry x + uptoBulkEntries r
def uptoBulkEntry {H : Type} : Lit × DataW H → Nat
  | (.string bytes, d) => bytes.length + uptoBulk d + 1
  | (_, d) => uptoBulk d + 1
 end
def uptoSmall : (H : Type) → List (DataW H) → Bool := fun _ ds => decide (uptoBulkAll ds ≤ 1048576)
def OpenSpec.upto (s : _root_.Go.ChangeSpec) : _root_.Go.OpenSpec := { _root_.Go.OpenSpec.ofChange s with cond := some uptoSmall }

/-- 'hourglasslaw.SpacePlays', WHERE WHAT IT READS IS OF BULK AT MOST 1048576: true; the input reads as it did. -/
def spacePlaysUptoRow : OpenClaim := { program := "ytgjlomccdgpnnaa", sum := "03176ba8a89ad8020fa4281b2580270a2e7c13908fa2c0a72c4d7ff2407659fb", func := "hourglass/hourglasslaw.SpacePlays", spec := "spacePlays", apart := false, narrowed := true }
def SpacePlaysUptoSaid : Prop := spacePlaysUptoRow.holds Try.pinned (OpenSpec.upto spacePlaysSpec)

/-- 'hourglasskeep.SpacesApart', WHERE WHAT IT READS IS OF BULK AT MOST 1048576: true; the input reads as it did. -/
def spacesApartUptoRow : OpenClaim := { program := "ytgjlomccdgpnnaa", sum := "03176ba8a89ad8020fa4281b2580270a2e7c13908fa2c0a72c4d7ff2407659fb", func := "hourglass/hourglasskeep.SpacesApart", spec := "spacesApart", apart := false, narrowed := true }
def SpacesApartUptoSaid : Prop := spacesApartUptoRow.holds Try.pinned (OpenSpec.upto spacesApartSpec)

/-- 'hourglasslaw.DeckChecks', WHERE WHAT IT READS IS OF BULK AT MOST 1048576: true; the input reads as it did. -/
def deckChecksUptoRow : OpenClaim := { program := "ytgjlomccdgpnnaa", sum := "03176ba8a89ad8020fa4281b2580270a2e7c13908fa2c0a72c4d7ff2407659fb", func := "hourglass/hourglasslaw.DeckChecks", spec := "deckChecks", unfollowed := true, recurses := true, apart := false, narrowed := true }
def DeckChecksUptoSaid : Prop := deckChecksUptoRow.holds Try.pinned (OpenSpec.upto deckChecksSpec)

end Rows
end Go.Proofs.Ytgjlomccdgpnnaa
