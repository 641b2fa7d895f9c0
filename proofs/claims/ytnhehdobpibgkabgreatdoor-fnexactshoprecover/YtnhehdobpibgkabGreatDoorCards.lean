/-
  DERIVED. GIVEN WITH THE SEED: THE CARDS: each row of YtnhehdobpibgkabGreatDoorRows.lean that lists a variable, with what it lists TIED to the program's text (the seventh form; the later family's looks); each row that meets fmt, with fmt's text TOLD by the authors' own Lean function (tested against real Go, not proved from fmt's source: count such statements apart). THE CARD IS WHAT COUNTS. Prove the row's statement (the work); the ties are given (YtnhehdobpibgkabGreatDoorTie.lean); close each card by the builder's one call (the guide's Derived/Test/ToyasCard.lean, 'card_holds'). Laid BY PROGRAM, IN A SANDBOX (cutbox-door.mjs). By AI agents, Wed Nov 11 2026. No macro, syntax, notation, axiom, sorry.
-/
import Derived.Test.YtnhehdobpibgkabGreatDoorRows
import GoSem.ClaimSeven
namespace Go.Proofs.YtnhehdobpibgkabGreatDoor
namespace Rows

/-- THE TIED CARD OF 'laws.FnExactShopRecover'. -/
def fnExactShopRecoverCard : Claim7 := { stood := { row := fnExactShopRecoverRow, standIns := [], harness := (true, "39ba20a046869669164ed680888a3dbdee2bf4ea6ada7f72fe4fe0033863072f"), looks := true }, kinds := [], alts := [], laidByText := true, laidKinds := [.data, .data, .data, .data, .sentinel, .sentinel, .sentinel, .pinned], laidTests := true, laidLooks := .later }
def FnExactShopRecoverCardSaid : Prop := Claim7.holds Tryz.pinned (.plain (OpenSpec.ofChange fnExactShopRecoverSpec)) fnExactShopRecoverCard

/-- THE SECOND FORM's CARD OF 'laws.FnExactShopRecover'. -/
def fnExactShopRecoverUptoCard : Claim7 := { stood := { row := fnExactShopRecoverUptoRow, standIns := [], harness := (true, "39ba20a046869669164ed680888a3dbdee2bf4ea6ada7f72fe4fe0033863072f"), looks := true }, kinds := [], alts := [], laidByText := true, laidKinds := [.data, .data, .data, .data, .sentinel, .sentinel, .sentinel, .pinned], laidTests := true, laidLooks := .later }
def FnExactShopRecoverUptoCardSaid : Prop := Claim7.holds Tryz.pinned (.plain (OpenSpec.upto fnExactShopRecoverSpec)) fnExactShopRecoverUptoCard
end Rows
end Go.Proofs.YtnhehdobpibgkabGreatDoor
