/- Sources: the laws' helpers over rows of them. -/
import Derived.Test.YtnhehdobpibgkaaRows
import Derived.WalkKit
import Derived.WalkSpells
import Derived.WalkLawsBesides
import Derived.Outline
import Derived.RegionTactic
import Derived.BigRegion
import Derived.Deep.QuietTactic
import Derived.BigQuiet
import Derived.Deep.RegionHeld3
import Derived.Test.YtnhehdobpibgkaaBase
import Derived.Test.YtnhehdobpibgkaaRes2
import Derived.Test.YtnhehdobpibgkaaIsa2
import Derived.Test.YtnhehdobpibgkaaIsa3
import Derived.Test.YtnhehdobpibgkaaRowX
namespace Go.Proofs.Ytnhehdobpibgkaa
open Go.RowKit
set_option linter.unusedVariables false

abbrev Src : Type := ByteArray × ByteArray
def srcC (s : Src) : List Value := [.string s.1, .string s.2]
theorem srcC_len (s : Src) : (srcC s).length = 2 := rfl
def fitsS (s : Src) : Prop := s.1.size ≤ 1048576 ∧ s.2.size ≤ 1048576
def SzOut (P : Prop) (w : World) (e : Ending) (w' : World) : Prop := ∃ r : Int, e = .returned (.int .i64 r) ∧ r ≤ 1048576 ∧ (¬ r < 0 → P) ∧ Below w.heap.size w w'
theorem RowTo.set2 {α : Type} {c : α → List Value} {cur : Array Value} {L : List α} {k : Nat} (h : RowTo 2 c cur L k) (hk : k < L.length) {u v : Value} (hu : c L[k] = [u, v]) : RowTo 2 c ((cur.setIfInBounds (k * 2) u).setIfInBounds (k * 2 + 1) v) L (k + 1) := by
  obtain ⟨h1, h2⟩ := h
  refine ⟨by simp [h1], fun i hi hik j hj => ?_⟩
  have hsz : k * 2 + 1 < cur.size := by omega
  rw [Array.getElem?_setIfInBounds, Array.getElem?_setIfInBounds]
  by_cases e : i = k
  · subst e
    rw [hu]
    obtain rfl | rfl : j = 0 ∨ j = 1 := by omega
    · rw [if_neg (by omega), if_pos (by omega), if_pos (by omega)]; rfl
    · rw [if_pos (by omega), if_pos (by simp; omega)]; rfl
  · rw [if_neg (by omega), if_neg (by omega)]
    exact h2 i hi (by omega) j hj
/- Two texts side by side. -/
def Two (w : World) (x : Addr) (m : Nat) (nm tx : ByteArray) : Prop := w.cell? (x.add m) = some (.string nm) ∧ w.cell? ⟨(x.add m).block, (x.add m).off + 1, none⟩ = some (.string tx)
theorem Two.keep {w w' : World} {x : Addr} {m : Nat} {nm tx : ByteArray} (h : Two w x m nm tx) (hx : x.block < w.heap.size) (hb : Below w.heap.size w w') : Two w' x m nm tx :=
  ⟨(hb.cell (by rw [add_blockX]; exact hx)).trans h.1, (hb.cell (p := ⟨(x.add m).block, (x.add m).off + 1, none⟩) (by show (x.add m).block < _; rw [add_blockX]; exact hx)).trans h.2⟩
end Go.Proofs.Ytnhehdobpibgkaa
