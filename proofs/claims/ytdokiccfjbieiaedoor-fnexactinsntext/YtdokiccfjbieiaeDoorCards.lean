/-
  DERIVED. GIVEN WITH THE SEED: THE CARDS: each row of YtdokiccfjbieiaeDoorRows.lean that lists a variable, with what it lists TIED to the program's text (the seventh form; the later family's looks); each row that meets fmt, with fmt's text TOLD by the authors' own Lean function (tested against real Go, not proved from fmt's source: count such statements apart). THE CARD IS WHAT COUNTS. Prove the row's statement (the work); the ties are given (YtdokiccfjbieiaeDoorTie.lean); close each card by the builder's one call (the guide's Derived/Test/ToyasCard.lean, 'card_holds'). Laid BY PROGRAM, IN A SANDBOX (cutbox-door.mjs). By AI agents, Wed Nov 11 2026. No macro, syntax, notation, axiom, sorry.
-/
import Derived.Test.YtdokiccfjbieiaeDoorRows
import GoSem.ClaimSeven
namespace Go.Proofs.YtdokiccfjbieiaeDoor
namespace Rows

/-- THE TIED CARD OF 'laws.FnExactInsnRight'. -/
def fnExactInsnRightCard : Claim7 := { stood := { row := fnExactInsnRightRow, standIns := [], harness := (true, "7fd4120dad3b91739f3e41c5e19c9050a014955be8787fd5a449db4042dcc807"), looks := false }, kinds := [], alts := [], laidByText := true, laidKinds := [.data, .data], laidTests := true, laidLooks := .later }
def FnExactInsnRightCardSaid : Prop := Claim7.holds Tryd.pinned (.plain (OpenSpec.ofChange fnExactInsnRightSpec)) fnExactInsnRightCard

/-- THE TIED CARD OF 'laws.FnExactEncode'. -/
def fnExactEncodeCard : Claim7 := { stood := { row := fnExactEncodeRow, standIns := [], harness := (true, "7fd4120dad3b91739f3e41c5e19c9050a014955be8787fd5a449db4042dcc807"), looks := false }, kinds := [], alts := [], laidByText := true, laidKinds := [.data, .data], laidTests := true, laidLooks := .later }
def FnExactEncodeCardSaid : Prop := Claim7.holds Tryd.pinned (.plain (OpenSpec.ofChange fnExactEncodeSpec)) fnExactEncodeCard

/-- THE TIED CARD OF 'laws.FnExactDecode'. -/
def fnExactDecodeCard : Claim7 := { stood := { row := fnExactDecodeRow, standIns := [], harness := (true, "7fd4120dad3b91739f3e41c5e19c9050a014955be8787fd5a449db4042dcc807"), looks := false }, kinds := [], alts := [], laidByText := true, laidKinds := [.data, .data], laidTests := true, laidLooks := .later }
def FnExactDecodeCardSaid : Prop := Claim7.holds Tryd.pinned (.plain (OpenSpec.ofChange fnExactDecodeSpec)) fnExactDecodeCard

/-- THE TIED CARD OF 'laws.FnExactWordText'. -/
def fnExactWordTextCard : Claim7 := { stood := { row := fnExactWordTextRow, standIns := [], harness := (true, "7fd4120dad3b91739f3e41c5e19c9050a014955be8787fd5a449db4042dcc807"), looks := false }, kinds := [], alts := [], laidByText := true, laidKinds := [.data, .data, .data], laidTests := true, laidLooks := .later }
def FnExactWordTextCardSaid : Prop := Claim7.holds Tryd.pinned (.plain (OpenSpec.ofChange fnExactWordTextSpec)) fnExactWordTextCard

/-- THE TIED CARD OF 'laws.FnExactInsnText'. -/
def fnExactInsnTextCard : Claim7 := { stood := { row := fnExactInsnTextRow, standIns := [], harness := (true, "7fd4120dad3b91739f3e41c5e19c9050a014955be8787fd5a449db4042dcc807"), looks := false }, kinds := [], alts := [], laidByText := true, laidKinds := [.data, .data, .data, .data, .data], laidTests := true, laidLooks := .later }
def FnExactInsnTextCardSaid : Prop := Claim7.holds Tryd.pinned (.plain (OpenSpec.ofChange fnExactInsnTextSpec)) fnExactInsnTextCard

/-- THE SECOND FORM's CARD OF 'laws.FnExactInsnRight'. -/
def fnExactInsnRightUptoCard : Claim7 := { stood := { row := fnExactInsnRightUptoRow, standIns := [], harness := (true, "7fd4120dad3b91739f3e41c5e19c9050a014955be8787fd5a449db4042dcc807"), looks := false }, kinds := [], alts := [], laidByText := true, laidKinds := [.data, .data], laidTests := true, laidLooks := .later }
def FnExactInsnRightUptoCardSaid : Prop := Claim7.holds Tryd.pinned (.plain (OpenSpec.upto fnExactInsnRightSpec)) fnExactInsnRightUptoCard

/-- THE SECOND FORM's CARD OF 'laws.FnExactEncode'. -/
def fnExactEncodeUptoCard : Claim7 := { stood := { row := fnExactEncodeUptoRow, standIns := [], harness := (true, "7fd4120dad3b91739f3e41c5e19c9050a014955be8787fd5a449db4042dcc807"), looks := false }, kinds := [], alts := [], laidByText := true, laidKinds := [.data, .data], laidTests := true, laidLooks := .later }
def FnExactEncodeUptoCardSaid : Prop := Claim7.holds Tryd.pinned (.plain (OpenSpec.upto fnExactEncodeSpec)) fnExactEncodeUptoCard

/-- THE SECOND FORM's CARD OF 'laws.FnExactDecode'. -/
def fnExactDecodeUptoCard : Claim7 := { stood := { row := fnExactDecodeUptoRow, standIns := [], harness := (true, "7fd4120dad3b91739f3e41c5e19c9050a014955be8787fd5a449db4042dcc807"), looks := false }, kinds := [], alts := [], laidByText := true, laidKinds := [.data, .data], laidTests := true, laidLooks := .later }
def FnExactDecodeUptoCardSaid : Prop := Claim7.holds Tryd.pinned (.plain (OpenSpec.upto fnExactDecodeSpec)) fnExactDecodeUptoCard

/-- THE SECOND FORM's CARD OF 'laws.FnExactWordText'. -/
def fnExactWordTextUptoCard : Claim7 := { stood := { row := fnExactWordTextUptoRow, standIns := [], harness := (true, "7fd4120dad3b91739f3e41c5e19c9050a014955be8787fd5a449db4042dcc807"), looks := false }, kinds := [], alts := [], laidByText := true, laidKinds := [.data, .data, .data], laidTests := true, laidLooks := .later }
def FnExactWordTextUptoCardSaid : Prop := Claim7.holds Tryd.pinned (.plain (OpenSpec.upto fnExactWordTextSpec)) fnExactWordTextUptoCard

/-- THE SECOND FORM's CARD OF 'laws.FnExactInsnText'. -/
def fnExactInsnTextUptoCard : Claim7 := { stood := { row := fnExactInsnTextUptoRow, standIns := [], harness := (true, "7fd4120dad3b91739f3e41c5e19c9050a014955be8787fd5a449db4042dcc807"), looks := false }, kinds := [], alts := [], laidByText := true, laidKinds := [.data, .data, .data, .data, .data], laidTests := true, laidLooks := .later }
def FnExactInsnTextUptoCardSaid : Prop := Claim7.holds Tryd.pinned (.plain (OpenSpec.upto fnExactInsnTextSpec)) fnExactInsnTextUptoCard
end Rows
end Go.Proofs.YtdokiccfjbieiaeDoor
