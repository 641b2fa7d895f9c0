/-
  DERIVED. GIVEN WITH THE SEED: THE CARDS: each row of YtnhehdobpibgkaaGreatDoorRows.lean that lists a variable, with what it lists TIED to the program's text (the seventh form; the later family's looks); each row that meets fmt, with fmt's text TOLD by the authors' own Lean function (tested against real Go, not proved from fmt's source: count such statements apart). THE CARD IS WHAT COUNTS. Prove the row's statement (the work); the ties are given (YtnhehdobpibgkaaGreatDoorTie.lean); close each card by the builder's one call (the guide's Derived/Test/ToyasCard.lean, 'card_holds'). Laid BY PROGRAM, IN A SANDBOX (cutbox-door.mjs). By AI agents, Wed Nov 11 2026. No macro, syntax, notation, axiom, sorry.
-/
import Derived.Test.YtnhehdobpibgkaaGreatDoorRows
import GoSem.ClaimSeven
namespace Go.Proofs.YtnhehdobpibgkaaGreatDoor
namespace Rows

/-- THE TIED CARD OF 'laws.FnExactStateOf'. -/
def fnExactStateOfCard : Claim7 := { stood := { row := fnExactStateOfRow, standIns := [], harness := (true, "e4cc2f93f1e847d4d5e4a43f2777bf27563eabc926877f6f2c30b0a42782cd64"), looks := true }, kinds := [], alts := [], laidByText := true, laidKinds := [.data, .data, .data, .data, .sentinel, .sentinel, .sentinel, .pinned], laidTests := true, laidLooks := .later }
def FnExactStateOfCardSaid : Prop := Claim7.holds Tryz.pinned (.plain (OpenSpec.ofChange fnExactStateOfSpec)) fnExactStateOfCard

/-- THE TIED CARD OF 'laws.FnExactShopRight'. -/
def fnExactShopRightCard : Claim7 := { stood := { row := fnExactShopRightRow, standIns := [], harness := (true, "e4cc2f93f1e847d4d5e4a43f2777bf27563eabc926877f6f2c30b0a42782cd64"), looks := true }, kinds := [], alts := [], laidByText := true, laidKinds := [.data, .data, .data, .data, .sentinel, .sentinel, .sentinel, .pinned], laidTests := true, laidLooks := .later }
def FnExactShopRightCardSaid : Prop := Claim7.holds Tryz.pinned (.plain (OpenSpec.ofChange fnExactShopRightSpec)) fnExactShopRightCard

/-- THE TIED CARD OF 'laws.FnExactEdit'. -/
def fnExactEditCard : Claim7 := { stood := { row := fnExactEditRow, standIns := [], harness := (true, "e4cc2f93f1e847d4d5e4a43f2777bf27563eabc926877f6f2c30b0a42782cd64"), looks := true }, kinds := [], alts := [], laidByText := true, laidKinds := [.data, .data, .data, .data, .sentinel, .sentinel, .sentinel, .pinned], laidTests := true, laidLooks := .later }
def FnExactEditCardSaid : Prop := Claim7.holds Tryz.pinned (.plain (OpenSpec.ofChange fnExactEditSpec)) fnExactEditCard

/-- THE TIED CARD OF 'laws.FnExactRemove'. -/
def fnExactRemoveCard : Claim7 := { stood := { row := fnExactRemoveRow, standIns := [], harness := (true, "e4cc2f93f1e847d4d5e4a43f2777bf27563eabc926877f6f2c30b0a42782cd64"), looks := true }, kinds := [], alts := [], laidByText := true, laidKinds := [.data, .data, .data, .data, .sentinel, .sentinel, .sentinel, .pinned], laidTests := true, laidLooks := .later }
def FnExactRemoveCardSaid : Prop := Claim7.holds Tryz.pinned (.plain (OpenSpec.ofChange fnExactRemoveSpec)) fnExactRemoveCard

/-- THE TIED CARD OF 'laws.FnExactShopSync'. -/
def fnExactShopSyncCard : Claim7 := { stood := { row := fnExactShopSyncRow, standIns := [], harness := (true, "e4cc2f93f1e847d4d5e4a43f2777bf27563eabc926877f6f2c30b0a42782cd64"), looks := true }, kinds := [], alts := [], laidByText := true, laidKinds := [.data, .data, .data, .data, .sentinel, .sentinel, .sentinel, .pinned], laidTests := true, laidLooks := .later }
def FnExactShopSyncCardSaid : Prop := Claim7.holds Tryz.pinned (.plain (OpenSpec.ofChange fnExactShopSyncSpec)) fnExactShopSyncCard

/-- THE SECOND FORM's CARD OF 'laws.FnExactStateOf'. -/
def fnExactStateOfUptoCard : Claim7 := { stood := { row := fnExactStateOfUptoRow, standIns := [], harness := (true, "e4cc2f93f1e847d4d5e4a43f2777bf27563eabc926877f6f2c30b0a42782cd64"), looks := true }, kinds := [], alts := [], laidByText := true, laidKinds := [.data, .data, .data, .data, .sentinel, .sentinel, .sentinel, .pinned], laidTests := true, laidLooks := .later }
def FnExactStateOfUptoCardSaid : Prop := Claim7.holds Tryz.pinned (.plain (OpenSpec.upto fnExactStateOfSpec)) fnExactStateOfUptoCard

/-- THE SECOND FORM's CARD OF 'laws.FnExactShopRight'. -/
def fnExactShopRightUptoCard : Claim7 := { stood := { row := fnExactShopRightUptoRow, standIns := [], harness := (true, "e4cc2f93f1e847d4d5e4a43f2777bf27563eabc926877f6f2c30b0a42782cd64"), looks := true }, kinds := [], alts := [], laidByText := true, laidKinds := [.data, .data, .data, .data, .sentinel, .sentinel, .sentinel, .pinned], laidTests := true, laidLooks := .later }
def FnExactShopRightUptoCardSaid : Prop := Claim7.holds Tryz.pinned (.plain (OpenSpec.upto fnExactShopRightSpec)) fnExactShopRightUptoCard

/-- THE SECOND FORM's CARD OF 'laws.FnExactEdit'. -/
def fnExactEditUptoCard : Claim7 := { stood := { row := fnExactEditUptoRow, standIns := [], harness := (true, "e4cc2f93f1e847d4d5e4a43f2777bf27563eabc926877f6f2c30b0a42782cd64"), looks := true }, kinds := [], alts := [], laidByText := true, laidKinds := [.data, .data, .data, .data, .sentinel, .sentinel, .sentinel, .pinned], laidTests := true, laidLooks := .later }
def FnExactEditUptoCardSaid : Prop := Claim7.holds Tryz.pinned (.plain (OpenSpec.upto fnExactEditSpec)) fnExactEditUptoCard

/-- THE SECOND FORM's CARD OF 'laws.FnExactRemove'. -/
def fnExactRemoveUptoCard : Claim7 := { stood := { row := fnExactRemoveUptoRow, standIns := [], harness := (true, "e4cc2f93f1e847d4d5e4a43f2777bf27563eabc926877f6f2c30b0a42782cd64"), looks := true }, kinds := [], alts := [], laidByText := true, laidKinds := [.data, .data, .data, .data, .sentinel, .sentinel, .sentinel, .pinned], laidTests := true, laidLooks := .later }
def FnExactRemoveUptoCardSaid : Prop := Claim7.holds Tryz.pinned (.plain (OpenSpec.upto fnExactRemoveSpec)) fnExactRemoveUptoCard

/-- THE SECOND FORM's CARD OF 'laws.FnExactShopSync'. -/
def fnExactShopSyncUptoCard : Claim7 := { stood := { row := fnExactShopSyncUptoRow, standIns := [], harness := (true, "e4cc2f93f1e847d4d5e4a43f2777bf27563eabc926877f6f2c30b0a42782cd64"), looks := true }, kinds := [], alts := [], laidByText := true, laidKinds := [.data, .data, .data, .data, .sentinel, .sentinel, .sentinel, .pinned], laidTests := true, laidLooks := .later }
def FnExactShopSyncUptoCardSaid : Prop := Claim7.holds Tryz.pinned (.plain (OpenSpec.upto fnExactShopSyncSpec)) fnExactShopSyncUptoCard
end Rows
end Go.Proofs.YtnhehdobpibgkaaGreatDoor
