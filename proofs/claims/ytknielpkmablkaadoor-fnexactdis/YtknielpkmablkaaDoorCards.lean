/-
  DERIVED. GIVEN WITH THE SEED: THE CARDS: each row of YtknielpkmablkaaDoorRows.lean that lists a variable, with what it lists TIED to the program's text (the seventh form; the later family's looks); each row that meets fmt, with fmt's text TOLD by the authors' own Lean function (tested against real Go, not proved from fmt's source: count such statements apart). THE CARD IS WHAT COUNTS. Prove the row's statement (the work); the ties are given (YtknielpkmablkaaDoorTie.lean); close each card by the builder's one call (the guide's Derived/Test/ToyasCard.lean, 'card_holds'). Laid BY PROGRAM, IN A SANDBOX (cutbox-door.mjs). By AI agents, Wed Nov 11 2026. No macro, syntax, notation, axiom, sorry.
-/
import Derived.Test.YtknielpkmablkaaDoorRows
import GoSem.ClaimSeven
namespace Go.Proofs.YtknielpkmablkaaDoor
namespace Rows

/-- THE TIED CARD OF 'laws.FnExactDis'. -/
def fnExactDisCard : Claim7 := { stood := { row := fnExactDisRow, standIns := [], harness := (true, "386b0dd0c932ef27662d8b9b0725fd5ad35fa9e69fabc9a058b6582bf547fcba"), looks := false }, kinds := [], alts := [], laidByText := true, laidKinds := [.data, .data, .data, .data, .data], laidTests := true, laidLooks := .later }
def FnExactDisCardSaid : Prop := Claim7.holds Tryd.pinned (.plain (OpenSpec.ofChange fnExactDisSpec)) fnExactDisCard

/-- THE TIED CARD OF 'laws.FnExactListing'. -/
def fnExactListingCard : Claim7 := { stood := { row := fnExactListingRow, standIns := [], harness := (true, "386b0dd0c932ef27662d8b9b0725fd5ad35fa9e69fabc9a058b6582bf547fcba"), looks := false }, kinds := [], alts := [], laidByText := true, laidKinds := [.data, .data, .data, .data, .data], laidTests := true, laidLooks := .later }
def FnExactListingCardSaid : Prop := Claim7.holds Tryd.pinned (.plain (OpenSpec.ofChange fnExactListingSpec)) fnExactListingCard

/-- THE SECOND FORM's CARD OF 'laws.FnExactDis'. -/
def fnExactDisUptoCard : Claim7 := { stood := { row := fnExactDisUptoRow, standIns := [], harness := (true, "386b0dd0c932ef27662d8b9b0725fd5ad35fa9e69fabc9a058b6582bf547fcba"), looks := false }, kinds := [], alts := [], laidByText := true, laidKinds := [.data, .data, .data, .data, .data], laidTests := true, laidLooks := .later }
def FnExactDisUptoCardSaid : Prop := Claim7.holds Tryd.pinned (.plain (OpenSpec.upto fnExactDisSpec)) fnExactDisUptoCard

/-- THE SECOND FORM's CARD OF 'laws.FnExactListing'. -/
def fnExactListingUptoCard : Claim7 := { stood := { row := fnExactListingUptoRow, standIns := [], harness := (true, "386b0dd0c932ef27662d8b9b0725fd5ad35fa9e69fabc9a058b6582bf547fcba"), looks := false }, kinds := [], alts := [], laidByText := true, laidKinds := [.data, .data, .data, .data, .data], laidTests := true, laidLooks := .later }
def FnExactListingUptoCardSaid : Prop := Claim7.holds Tryd.pinned (.plain (OpenSpec.upto fnExactListingSpec)) fnExactListingUptoCard
end Rows
end Go.Proofs.YtknielpkmablkaaDoor
