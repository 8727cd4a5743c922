/-
  DERIVED. GIVEN WITH THE SEED: THE CARDS: each row of YtedjclnojocjkaaGreatDoorRows.lean that lists a variable, with what it lists TIED to the program's text (the seventh form; the later family's looks); each row that meets fmt, with fmt's text TOLD by the authors' own Lean function (tested against real Go, not proved from fmt's source: count such statements apart). THE CARD IS WHAT COUNTS. Prove the row's statement (the work); the ties are given (YtedjclnojocjkaaGreatDoorTie.lean); close each card by the builder's one call (the guide's Derived/Test/ToyasCard.lean, 'card_holds'). Laid BY PROGRAM, IN A SANDBOX (cutbox-door.mjs). By AI agents, Wed Nov 11 2026. No macro, syntax, notation, axiom, sorry.
-/
import Derived.Test.YtedjclnojocjkaaGreatDoorRows
import GoSem.ClaimSeven
namespace Go.Proofs.YtedjclnojocjkaaGreatDoor
namespace Rows

/-- THE TIED CARD OF 'laws.FnParts'. -/
def fnPartsCard : Claim7 := { stood := { row := fnPartsRow, standIns := [], harness := (true, "d8d69847ee8025367f5f8aa7ae9d3c1ea804da5e857a3b2239b55c8517baedb9"), looks := true }, kinds := [], alts := [], laidByText := true, laidKinds := [.sentinel, .sentinel], laidTests := true, laidLooks := .later }
def FnPartsCardSaid : Prop := Claim7.holds Tryz.pinned (.plain (OpenSpec.ofChange fnPartsSpec)) fnPartsCard

/-- THE TIED CARD OF 'laws.FnExactPutPart'. -/
def fnExactPutPartCard : Claim7 := { stood := { row := fnExactPutPartRow, standIns := [], harness := (true, "d8d69847ee8025367f5f8aa7ae9d3c1ea804da5e857a3b2239b55c8517baedb9"), looks := true }, kinds := [], alts := [], laidByText := true, laidKinds := [.sentinel, .sentinel], laidTests := true, laidLooks := .later }
def FnExactPutPartCardSaid : Prop := Claim7.holds Tryz.pinned (.plain (OpenSpec.ofChange fnExactPutPartSpec)) fnExactPutPartCard

/-- THE SECOND FORM's CARD OF 'laws.FnParts'. -/
def fnPartsUptoCard : Claim7 := { stood := { row := fnPartsUptoRow, standIns := [], harness := (true, "d8d69847ee8025367f5f8aa7ae9d3c1ea804da5e857a3b2239b55c8517baedb9"), looks := true }, kinds := [], alts := [], laidByText := true, laidKinds := [.sentinel, .sentinel], laidTests := true, laidLooks := .later }
def FnPartsUptoCardSaid : Prop := Claim7.holds Tryz.pinned (.plain (OpenSpec.upto fnPartsSpec)) fnPartsUptoCard

/-- THE SECOND FORM's CARD OF 'laws.FnExactPutPart'. -/
def fnExactPutPartUptoCard : Claim7 := { stood := { row := fnExactPutPartUptoRow, standIns := [], harness := (true, "d8d69847ee8025367f5f8aa7ae9d3c1ea804da5e857a3b2239b55c8517baedb9"), looks := true }, kinds := [], alts := [], laidByText := true, laidKinds := [.sentinel, .sentinel], laidTests := true, laidLooks := .later }
def FnExactPutPartUptoCardSaid : Prop := Claim7.holds Tryz.pinned (.plain (OpenSpec.upto fnExactPutPartSpec)) fnExactPutPartUptoCard
end Rows
end Go.Proofs.YtedjclnojocjkaaGreatDoor
