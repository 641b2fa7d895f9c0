/- eqHexOut, markHexOut, heldHexOut of the laws. -/
import Derived.Test.YtfmeickglipimaaDoorRows
import Derived.WalkKit
import Derived.WalkSpells
import Derived.WalkLawsBesides
import Derived.Test.YtfmeickglipimaaDoorBase
import Derived.Test.YtfmeickglipimaaDoorRes2
import Derived.Test.YtfmeickglipimaaDoorOwn
import Derived.Test.YtfmeickglipimaaDoorHexRP
import Derived.Test.YtfmeickglipimaaDoorMarkT
namespace Go.Proofs.YtfmeickglipimaaDoor
open Go.RowKit
set_option linter.unusedVariables false

theorem cells3x {W : World} {B : Nat} {t : TypeId} {v0 v1 v2 : Value} (hR : W.heap[B]? = some (.cells #[v0, v1, v2] t (0, 0))) :
    W.cell? ⟨B, 0, none⟩ = some v0 ∧ W.cell? ⟨B, 1, none⟩ = some v1 ∧ W.cell? ⟨B, 2, none⟩ = some v2 := by
  obtain ⟨h0, h1, h2, _, _, _⟩ := three_cf hR
  exact ⟨h0, h1, h2⟩
end Go.Proofs.YtfmeickglipimaaDoor
