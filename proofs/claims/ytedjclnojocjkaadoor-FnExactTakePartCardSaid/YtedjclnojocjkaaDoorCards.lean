/-
  DERIVED. GIVEN WITH THE SEED: THE CARDS: each row of YtedjclnojocjkaaDoorRows.lean that lists a variable, with what it lists TIED to the program's text (the seventh form; the later family's looks); each row that meets fmt, with fmt's text TOLD by the authors' own Lean function (tested against real Go, not proved from fmt's source: count such statements apart). THE CARD IS WHAT COUNTS. Prove the row's statement (the work); the ties are given (YtedjclnojocjkaaDoorTie.lean); close each card by the builder's one call (the guide's Derived/Test/ToyasCard.lean, 'card_holds'). Laid BY PROGRAM, IN A SANDBOX (cutbox-door.mjs). By AI agents, Wed Nov 11 2026. No macro, syntax, notation, axiom, sorry.
-/
import Derived.Test.YtedjclnojocjkaaDoorRows
import GoSem.ClaimSeven
namespace Go.Proofs.YtedjclnojocjkaaDoor
namespace Rows

/-- THE TIED CARD OF 'laws.FnExactIsStore'. -/
def fnExactIsStoreCard : Claim7 := { stood := { row := fnExactIsStoreRow, standIns := [], harness := (true, "0eb039bbeb3d363c08313de347e8587a7c8ad1377b17a6e0bffcefdd854b8c7f"), looks := true }, kinds := [], alts := [], laidByText := true, laidKinds := [.sentinel], laidTests := true, laidLooks := .later }
def FnExactIsStoreCardSaid : Prop := Claim7.holds Tryd.pinned (.plain (OpenSpec.ofChange fnExactIsStoreSpec)) fnExactIsStoreCard

/-- THE TIED CARD OF 'laws.FnExactTakePart'. -/
def fnExactTakePartCard : Claim7 := { stood := { row := fnExactTakePartRow, standIns := [], harness := (true, "0eb039bbeb3d363c08313de347e8587a7c8ad1377b17a6e0bffcefdd854b8c7f"), looks := true }, kinds := [], alts := [], laidByText := true, laidKinds := [.sentinel, .sentinel], laidTests := true, laidLooks := .later }
def FnExactTakePartCardSaid : Prop := Claim7.holds Tryd.pinned (.plain (OpenSpec.ofChange fnExactTakePartSpec)) fnExactTakePartCard

/-- THE SECOND FORM's CARD OF 'laws.FnExactIsStore'. -/
def fnExactIsStoreUptoCard : Claim7 := { stood := { row := fnExactIsStoreUptoRow, standIns := [], harness := (true, "0eb039bbeb3d363c08313de347e8587a7c8ad1377b17a6e0bffcefdd854b8c7f"), looks := true }, kinds := [], alts := [], laidByText := true, laidKinds := [.sentinel], laidTests := true, laidLooks := .later }
def FnExactIsStoreUptoCardSaid : Prop := Claim7.holds Tryd.pinned (.plain (OpenSpec.upto fnExactIsStoreSpec)) fnExactIsStoreUptoCard

/-- THE SECOND FORM's CARD OF 'laws.FnExactTakePart'. -/
def fnExactTakePartUptoCard : Claim7 := { stood := { row := fnExactTakePartUptoRow, standIns := [], harness := (true, "0eb039bbeb3d363c08313de347e8587a7c8ad1377b17a6e0bffcefdd854b8c7f"), looks := true }, kinds := [], alts := [], laidByText := true, laidKinds := [.sentinel, .sentinel], laidTests := true, laidLooks := .later }
def FnExactTakePartUptoCardSaid : Prop := Claim7.holds Tryd.pinned (.plain (OpenSpec.upto fnExactTakePartSpec)) fnExactTakePartUptoCard
end Rows
end Go.Proofs.YtedjclnojocjkaaDoor
