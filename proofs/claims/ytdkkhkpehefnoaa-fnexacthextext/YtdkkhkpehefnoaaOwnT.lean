/- Owned rows: more than one number at once; their cells. -/
import Derived.Test.YtdkkhkpehefnoaaRows
import Derived.WalkKit
import Derived.WalkSpells
import Derived.WalkLawsBesides
import Derived.Deep.AppendLies
import Derived.Test.YtdkkhkpehefnoaaBase
import Derived.Test.YtdkkhkpehefnoaaRes2
import Derived.Test.YtdkkhkpehefnoaaOwn
namespace Go.Proofs.Ytdkkhkpehefnoaa
open Go.RowKit
set_option linter.unusedVariables false

theorem OwnI.moreL {w : World} {B : Nat} {v : Value} {L M : List Int} (h : w.ownsRow B 2 1 v (L.length + M.length) (cellsI L ++ cellsI M)) : OwnI w B v (L ++ M) := by
  unfold OwnI
  rw [List.length_append]
  simpa [cellsI] using h
theorem one_cellsI (M : List Int) : ∀ u ∈ cellsI M, u.oneCell' = true := by
  intro u hu
  simp only [cellsI, List.mem_map] at hu
  obtain ⟨x, _, rfl⟩ := hu
  rfl
theorem OwnI.some {w : World} {B : Nat} {v : Value} {L : List Int} (h : OwnI w B v L) (hl : 0 < L.length) : ∃ g cap, v = .slice (some ⟨g, 0, none⟩) L.length cap ∧ B ≤ g ∧ L.length ≤ cap ∧ cap ≤ maxLen ∧ ∀ i (hi : i < L.length), w.cell? ⟨g, i, none⟩ = some (.int .i64 L[i]) := by
  rcases h.form with ⟨_, e⟩ | ⟨g, cap, cur, hv, hB, hg, h4, h5, h6, h7⟩
  · subst e; simp at hl
  · exact ⟨g, cap, hv, hB, h4, h5, fun i hi => by simp [World.cell?, hg, h7 i hi]⟩
theorem OwnI.drew {w : World} {B : Nat} {v : Value} {L : List Int} (h : OwnI w B v L) : OwnI w.drew B v L := h
theorem own_four {w x : World} {g : Nat} (h : Below w.heap.size w x) (hg : x.heap.size = g) {a b c d a' b' c' d' : Int} (e1 : a = a') (e2 : b = b') (e3 : c = c') (e4 : d = d') : OwnI (x.alloc (.cells #[.int .i64 a, .int .i64 b, .int .i64 c, .int .i64 d] 2)) w.heap.size (.slice (some ⟨g, 0, none⟩) 4 4) [a', b', c', d'] := by
  subst hg e1 e2 e3 e4
  exact OwnI.mk (L := [a, b, c, d]) h.size (heap_alloc_new x _) (by simp) (by simp [maxLen]) rfl (fun i hi => by
    match i, hi with
    | 0, _ => rfl
    | 1, _ => rfl
    | 2, _ => rfl
    | 3, _ => rfl)
end Go.Proofs.Ytdkkhkpehefnoaa
