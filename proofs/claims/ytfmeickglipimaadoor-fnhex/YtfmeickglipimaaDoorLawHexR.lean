/- The walk of the law on HexRead. -/
import Derived.Test.YtfmeickglipimaaDoorRows
import Derived.WalkKit
import Derived.WalkSpells
import Derived.WalkLawsBesides
import Derived.Outline
import Derived.Test.YtfmeickglipimaaDoorBase
import Derived.Test.YtfmeickglipimaaDoorRes2
import Derived.Test.YtfmeickglipimaaDoorOwn
import Derived.Test.YtfmeickglipimaaDoorHexRP
import Derived.Test.YtfmeickglipimaaDoorHexRS
import Derived.Test.YtfmeickglipimaaDoorHexQ2
import Derived.Test.YtfmeickglipimaaDoorEqHex
namespace Go.Proofs.YtfmeickglipimaaDoor
open Go.RowKit
set_option linter.unusedVariables false

theorem rdL_len (s : ByteArray) : (rdL s).length ≤ 1000 := by
  unfold rdL
  split
  · simp
  · split
    · rename_i h
      have he := of_decide_eq_true h
      cases hB : hexB (baseT s) (rdW s.data.toList)
      · rw [hexT_no hB] at he
        subst he
        have : rdW (⟨#[]⟩ : ByteArray).data.toList = [] := rfl
        rw [this]; simp
      · have := (hexB_ok hB).1; omega
    · simp
theorem own_belowB {w w' : World} {B C : Nat} {v : Value} {L : List Int} (h : OwnI w B v L) (hv : ∀ q, v.ownBlock = some q → q < C) (hb : Below C w w') : OwnI w' B v L := by
  obtain ⟨h1, h2⟩ := h
  refine ⟨h1, ?_⟩
  rcases h2 with h2 | ⟨g, cap, cur, hv2, hB, hg, rest⟩
  · exact .inl h2
  · exact .inr ⟨g, cap, cur, hv2, hB, (hb.block g (hv g (by rw [hv2]; rfl))).trans hg, rest⟩
theorem specHexRead_same (s : ByteArray) (w : World) (hs : s.size ≤ maxLen) : Calls Tryd.prog 13 #[.string s] w fun e w' => (∃ v, e = .returned (.agg #[.int .i64 (rdB s), v, .int .i64 (rdC s)]) ∧ OwnI w' w.heap.size v (rdL s)) ∧ Below w.heap.size w w' := by
  have h := specHexRead_any s w hs
  rw [readers s] at h
  exact h
end Go.Proofs.YtfmeickglipimaaDoor
