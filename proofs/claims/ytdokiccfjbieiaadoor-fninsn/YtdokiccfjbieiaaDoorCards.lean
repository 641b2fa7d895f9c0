/-
  DERIVED. GIVEN WITH THE SEED: THE CARDS: each row of YtdokiccfjbieiaaDoorRows.lean that lists a variable, with what it lists TIED to the program's text (the seventh form; the later family's looks); each row that meets fmt, with fmt's text TOLD by the authors' own Lean function (tested against real Go, not proved from fmt's source: count such statements apart). THE CARD IS WHAT COUNTS. Prove the row's statement (the work); the ties are given (YtdokiccfjbieiaaDoorTie.lean); close each card by the builder's one call (the guide's Derived/Test/ToyasCard.lean, 'card_holds'). Laid BY PROGRAM, IN A SANDBOX (cutbox-door.mjs). By AI agents, Wed Nov 11 2026. No macro, syntax, notation, axiom, sorry.
-/
import Derived.Test.YtdokiccfjbieiaaDoorRows
import GoSem.ClaimSeven
namespace Go.Proofs.YtdokiccfjbieiaaDoor
namespace Rows

/-- THE TIED CARD OF 'laws.FnNums'. -/
def fnNumsCard : Claim7 := { stood := { row := fnNumsRow, standIns := [], harness := (true, "5a15dc9443dd9e4592fbf0167fbae90e643b0744b4577dfa3a7b051c1947a460"), looks := true }, kinds := [], alts := [], laidByText := true, laidKinds := [.handle], laidTests := true, laidLooks := .later }
def FnNumsCardSaid : Prop := Claim7.holds Tryd.pinned (.plain (OpenSpec.ofChange fnNumsSpec)) fnNumsCard

/-- THE TIED CARD OF 'laws.FnInsn'. -/
def fnInsnCard : Claim7 := { stood := { row := fnInsnRow, standIns := [], harness := (true, "5a15dc9443dd9e4592fbf0167fbae90e643b0744b4577dfa3a7b051c1947a460"), looks := true }, kinds := [], alts := [], laidByText := true, laidKinds := [.data, .data], laidTests := true, laidLooks := .later }
def FnInsnCardSaid : Prop := Claim7.holds Tryd.pinned (.plain (OpenSpec.ofChange fnInsnSpec)) fnInsnCard

/-- THE SECOND FORM's CARD OF 'laws.FnNums'. -/
def fnNumsUptoCard : Claim7 := { stood := { row := fnNumsUptoRow, standIns := [], harness := (true, "5a15dc9443dd9e4592fbf0167fbae90e643b0744b4577dfa3a7b051c1947a460"), looks := true }, kinds := [], alts := [], laidByText := true, laidKinds := [.handle], laidTests := true, laidLooks := .later }
def FnNumsUptoCardSaid : Prop := Claim7.holds Tryd.pinned (.plain (OpenSpec.upto fnNumsSpec)) fnNumsUptoCard

/-- THE SECOND FORM's CARD OF 'laws.FnInsn'. -/
def fnInsnUptoCard : Claim7 := { stood := { row := fnInsnUptoRow, standIns := [], harness := (true, "5a15dc9443dd9e4592fbf0167fbae90e643b0744b4577dfa3a7b051c1947a460"), looks := true }, kinds := [], alts := [], laidByText := true, laidKinds := [.data, .data], laidTests := true, laidLooks := .later }
def FnInsnUptoCardSaid : Prop := Claim7.holds Tryd.pinned (.plain (OpenSpec.upto fnInsnSpec)) fnInsnUptoCard
end Rows
end Go.Proofs.YtdokiccfjbieiaaDoor
