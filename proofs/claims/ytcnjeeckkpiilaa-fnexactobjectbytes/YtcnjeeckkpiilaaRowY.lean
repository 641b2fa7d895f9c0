/- More on rows of structs: stores of three and four cells; what sizes tell. -/
import Derived.Test.YtcnjeeckkpiilaaRows
import Derived.WalkKit
import Derived.WalkSpells
import Derived.WalkLawsBesides
import Derived.Test.YtcnjeeckkpiilaaBase
import Derived.Test.YtcnjeeckkpiilaaRes2
import Derived.Test.YtcnjeeckkpiilaaRowX
import Derived.Test.YtcnjeeckkpiilaaSrcA
namespace Go.Proofs.Ytcnjeeckkpiilaa
open Go.RowKit
set_option linter.unusedVariables false

theorem ElemAt.keep {w w' : World} {x : Addr} {m : Nat} {l : List Value} (h : ElemAt w x m l) (hx : x.block < w.heap.size) (hb : Below w.heap.size w w') : ElemAt w' x m l := by
  cases l with
  | nil => trivial
  | cons v l => exact ⟨(hb.cell (by rw [add_blockX]; exact hx)).trans h.1, fun j u hu => (hb.cell (p := ⟨(x.add m).block, (x.add m).off + (j + 1), none⟩) (by show (x.add m).block < _; rw [add_blockX]; exact hx)).trans (h.2 j u hu)⟩
theorem RowTo.set3 {α : Type} {c : α → List Value} {cur : Array Value} {L : List α} {k : Nat} (h : RowTo 3 c cur L k) (hk : k < L.length) {u v z : Value} (hu : c L[k] = [u, v, z]) : RowTo 3 c (((cur.setIfInBounds (k * 3) u).setIfInBounds (k * 3 + 1) v).setIfInBounds (k * 3 + 2) z) L (k + 1) := by
  obtain ⟨h1, h2⟩ := h
  refine ⟨by simp [h1], fun i hi hik j hj => ?_⟩
  have hsz : k * 3 + 2 < cur.size := by omega
  rw [Array.getElem?_setIfInBounds, Array.getElem?_setIfInBounds, Array.getElem?_setIfInBounds]
  by_cases e : i = k
  · subst e
    rw [hu]
    obtain rfl | rfl | rfl : j = 0 ∨ j = 1 ∨ j = 2 := by omega
    · rw [if_neg (by omega), if_neg (by omega), if_pos (by omega), if_pos (by omega)]; rfl
    · rw [if_neg (by omega), if_pos (by omega), if_pos (by simp; omega)]; rfl
    · rw [if_pos (by omega), if_pos (by simp; omega)]; rfl
  · rw [if_neg (by omega), if_neg (by omega), if_neg (by omega)]
    exact h2 i hi (by omega) j hj
theorem RowTo.set4 {α : Type} {c : α → List Value} {cur : Array Value} {L : List α} {k : Nat} (h : RowTo 4 c cur L k) (hk : k < L.length) {u v z y : Value} (hu : c L[k] = [u, v, z, y]) : RowTo 4 c ((((cur.setIfInBounds (k * 4) u).setIfInBounds (k * 4 + 1) v).setIfInBounds (k * 4 + 2) z).setIfInBounds (k * 4 + 3) y) L (k + 1) := by
  obtain ⟨h1, h2⟩ := h
  refine ⟨by simp [h1], fun i hi hik j hj => ?_⟩
  have hsz : k * 4 + 3 < cur.size := by omega
  rw [Array.getElem?_setIfInBounds, Array.getElem?_setIfInBounds, Array.getElem?_setIfInBounds, Array.getElem?_setIfInBounds]
  by_cases e : i = k
  · subst e
    rw [hu]
    obtain rfl | rfl | rfl | rfl : j = 0 ∨ j = 1 ∨ j = 2 ∨ j = 3 := by omega
    · rw [if_neg (by omega), if_neg (by omega), if_neg (by omega), if_pos (by omega), if_pos (by omega)]; rfl
    · rw [if_neg (by omega), if_neg (by omega), if_pos (by omega), if_pos (by simp; omega)]; rfl
    · rw [if_neg (by omega), if_pos (by omega), if_pos (by simp; omega)]; rfl
    · rw [if_pos (by omega), if_pos (by simp; omega)]; rfl
  · rw [if_neg (by omega), if_neg (by omega), if_neg (by omega), if_neg (by omega)]
    exact h2 i hi (by omega) j hj
end Go.Proofs.Ytcnjeeckkpiilaa
