/-
  DERIVED. GIVEN WITH THE SEED: THE CARDS: each row of YtdkkhkpehefnoaaDoorRows.lean that lists a variable, with what it lists TIED to the program's text (the seventh form; the later family's looks); each row that meets fmt, with fmt's text TOLD by the authors' own Lean function (tested against real Go, not proved from fmt's source: count such statements apart). THE CARD IS WHAT COUNTS. Prove the row's statement (the work); the ties are given (YtdkkhkpehefnoaaDoorTie.lean); close each card by the builder's one call (the guide's Derived/Test/ToyasCard.lean, 'card_holds'). Laid BY PROGRAM, IN A SANDBOX (cutbox-door.mjs). By AI agents, Wed Nov 11 2026. No macro, syntax, notation, axiom, sorry.
-/
import Derived.Test.YtdkkhkpehefnoaaDoorRows
import GoSem.ClaimSeven
namespace Go.Proofs.YtdkkhkpehefnoaaDoor
namespace Rows

/-- THE TIED CARD OF 'laws.FnExactHexRead'. -/
def fnExactHexReadCard : Claim7 := { stood := { row := fnExactHexReadRow, standIns := [], harness := (true, "0f4d1898048320f8638cf4eefe9194c7f98234c8fcdf16361fa4f1334c3d340a"), looks := true }, kinds := [], alts := [], laidByText := true, laidKinds := [.data, .data, .data, .data, .sentinel, .sentinel, .pinned], laidTests := true, laidLooks := .later }
def FnExactHexReadCardSaid : Prop := Claim7.holds Tryd.pinned (.plain (OpenSpec.ofChange fnExactHexReadSpec)) fnExactHexReadCard

/-- THE SECOND FORM's CARD OF 'laws.FnExactHexRead'. -/
def fnExactHexReadUptoCard : Claim7 := { stood := { row := fnExactHexReadUptoRow, standIns := [], harness := (true, "0f4d1898048320f8638cf4eefe9194c7f98234c8fcdf16361fa4f1334c3d340a"), looks := true }, kinds := [], alts := [], laidByText := true, laidKinds := [.data, .data, .data, .data, .sentinel, .sentinel, .pinned], laidTests := true, laidLooks := .later }
def FnExactHexReadUptoCardSaid : Prop := Claim7.holds Tryd.pinned (.plain (OpenSpec.upto fnExactHexReadSpec)) fnExactHexReadUptoCard
end Rows
end Go.Proofs.YtdkkhkpehefnoaaDoor
