/-
  DERIVED. GIVEN WITH THE SEED: THE CARDS: each row of YtodjccipfonaiaaGreatDoorRows.lean that lists a variable, with what it lists TIED to the program's text (the seventh form; the later family's looks); each row that meets fmt, with fmt's text TOLD by the authors' own Lean function (tested against real Go, not proved from fmt's source: count such statements apart). THE CARD IS WHAT COUNTS. Prove the row's statement (the work); the ties are given (YtodjccipfonaiaaGreatDoorTie.lean); close each card by the builder's one call (the guide's Derived/Test/ToyasCard.lean, 'card_holds'). Laid BY PROGRAM, IN A SANDBOX (cutbox-door.mjs). By AI agents, Wed Nov 11 2026. No macro, syntax, notation, axiom, sorry.
-/
import Derived.Test.YtodjccipfonaiaaGreatDoorRows
import GoSem.ClaimSeven
namespace Go.Proofs.YtodjccipfonaiaaGreatDoor
namespace Rows

/-- THE TIED CARD OF 'laws.FnText'. -/
def fnTextCard : Claim7 := { stood := { row := fnTextRow, standIns := [], harness := (true, "2f5a954a93c544f3e322c0c3fed29cf2bba1ac106fccfbaf80845d3f6e990c18"), looks := false }, kinds := [], alts := [], laidByText := true, laidKinds := [.data, .data, .data, .data, .data], laidTests := true, laidLooks := .later }
def FnTextCardSaid : Prop := Claim7.holds Tryz.pinned (.plain (OpenSpec.ofChange fnTextSpec)) fnTextCard

/-- THE TIED CARD OF 'laws.FnExactInsnRead'. -/
def fnExactInsnReadCard : Claim7 := { stood := { row := fnExactInsnReadRow, standIns := [], harness := (true, "2f5a954a93c544f3e322c0c3fed29cf2bba1ac106fccfbaf80845d3f6e990c18"), looks := false }, kinds := [], alts := [], laidByText := true, laidKinds := [.data, .data, .data, .data, .data], laidTests := true, laidLooks := .later }
def FnExactInsnReadCardSaid : Prop := Claim7.holds Tryz.pinned (.plain (OpenSpec.ofChange fnExactInsnReadSpec)) fnExactInsnReadCard

/-- THE SECOND FORM's CARD OF 'laws.FnText'. -/
def fnTextUptoCard : Claim7 := { stood := { row := fnTextUptoRow, standIns := [], harness := (true, "2f5a954a93c544f3e322c0c3fed29cf2bba1ac106fccfbaf80845d3f6e990c18"), looks := false }, kinds := [], alts := [], laidByText := true, laidKinds := [.data, .data, .data, .data, .data], laidTests := true, laidLooks := .later }
def FnTextUptoCardSaid : Prop := Claim7.holds Tryz.pinned (.plain (OpenSpec.upto fnTextSpec)) fnTextUptoCard

/-- THE SECOND FORM's CARD OF 'laws.FnExactInsnRead'. -/
def fnExactInsnReadUptoCard : Claim7 := { stood := { row := fnExactInsnReadUptoRow, standIns := [], harness := (true, "2f5a954a93c544f3e322c0c3fed29cf2bba1ac106fccfbaf80845d3f6e990c18"), looks := false }, kinds := [], alts := [], laidByText := true, laidKinds := [.data, .data, .data, .data, .data], laidTests := true, laidLooks := .later }
def FnExactInsnReadUptoCardSaid : Prop := Claim7.holds Tryz.pinned (.plain (OpenSpec.upto fnExactInsnReadSpec)) fnExactInsnReadUptoCard
end Rows
end Go.Proofs.YtodjccipfonaiaaGreatDoor
