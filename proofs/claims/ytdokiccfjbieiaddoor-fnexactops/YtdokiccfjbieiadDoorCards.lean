/-
  DERIVED. GIVEN WITH THE SEED: THE CARDS: each row of YtdokiccfjbieiadDoorRows.lean that lists a variable, with what it lists TIED to the program's text (the seventh form; the later family's looks); each row that meets fmt, with fmt's text TOLD by the authors' own Lean function (tested against real Go, not proved from fmt's source: count such statements apart). THE CARD IS WHAT COUNTS. Prove the row's statement (the work); the ties are given (YtdokiccfjbieiadDoorTie.lean); close each card by the builder's one call (the guide's Derived/Test/ToyasCard.lean, 'card_holds'). Laid BY PROGRAM, IN A SANDBOX (cutbox-door.mjs). By AI agents, Wed Nov 11 2026. No macro, syntax, notation, axiom, sorry.
-/
import Derived.Test.YtdokiccfjbieiadDoorRows
import GoSem.ClaimSeven
namespace Go.Proofs.YtdokiccfjbieiadDoor
namespace Rows

/-- THE TIED CARD OF 'laws.FnExactOps'. -/
def fnExactOpsCard : Claim7 := { stood := { row := fnExactOpsRow, standIns := [], harness := (true, "0e0b4256bd77a56f15ff74a48e97d829361303e24daca29e9f4c4ae2026bceb6"), looks := false }, kinds := [], alts := [], laidByText := true, laidKinds := [.data], laidTests := true, laidLooks := .later }
def FnExactOpsCardSaid : Prop := Claim7.holds Tryd.pinned (.plain (OpenSpec.ofChange fnExactOpsSpec)) fnExactOpsCard

/-- THE SECOND FORM's CARD OF 'laws.FnExactOps'. -/
def fnExactOpsUptoCard : Claim7 := { stood := { row := fnExactOpsUptoRow, standIns := [], harness := (true, "0e0b4256bd77a56f15ff74a48e97d829361303e24daca29e9f4c4ae2026bceb6"), looks := false }, kinds := [], alts := [], laidByText := true, laidKinds := [.data], laidTests := true, laidLooks := .later }
def FnExactOpsUptoCardSaid : Prop := Claim7.holds Tryd.pinned (.plain (OpenSpec.upto fnExactOpsSpec)) fnExactOpsUptoCard
end Rows
end Go.Proofs.YtdokiccfjbieiadDoor
