/- shopOf, withRecord's like: a Shop of a text in new memory. -/
import Derived.Test.YtnhehdobpibgkaaRows
import Derived.WalkKit
import Derived.WalkSpells
import Derived.WalkLawsBesides
import Derived.Test.YtnhehdobpibgkaaBase
import Derived.Test.YtnhehdobpibgkaaRes2
import Derived.Test.YtnhehdobpibgkaaJoinX
namespace Go.Proofs.Ytnhehdobpibgkaa
open Go.RowKit
set_option linter.unusedVariables false

theorem catL_oneX (a : ByteArray) : catL [a] = a := catL_one a
theorem join_oneN (a : ByteArray) (N : Nat) (x : World) (hN : x.heap.size = N) (h : a.size ≤ 400000000) : Calls Try.prog 12 #[.slice (some ⟨N, 0, none⟩) 1 1] (x.alloc (.cells #[.string a] 9)) fun e w' => e = .returned (.string a) ∧ Below x.heap.size x w' := by
  subst hN
  have h2 := join_new [a] 1 x rfl (by omega) (by rw [catL_one]; exact h)
  rw [catL_one] at h2
  exact h2
theorem join_twoN (a b : ByteArray) (N : Nat) (x : World) (hN : x.heap.size = N) (h : (a ++ b).size ≤ 400000000) : Calls Try.prog 12 #[.slice (some ⟨N, 0, none⟩) 2 2] (x.alloc (.cells #[.string a, .string b] 9)) fun e w' => e = .returned (.string (a ++ b)) ∧ Below x.heap.size x w' := by
  subst hN
  have h2 := join_new [a, b] 2 x rfl (by omega) (by rw [catL_two]; exact h)
  rw [catL_two] at h2
  exact h2
theorem ret_shop {g g' : ByteArray} {n n' : Int} (h : g = g') (k : n = n') : Ending.returned (.agg #[.string g, .int .i64 n]) = .returned (.agg #[.string g', .int .i64 n']) := by rw [h, k]
set_option maxRecDepth 100000 in
set_option maxHeartbeats 1600000 in
theorem shopOf_any (g : ByteArray) (n : Int) (w : World) (h : g.size ≤ 400000000) : Calls Try.prog 11 #[.string g, .int .i64 n] w fun e w' => e = .returned (.agg #[.string g, .int .i64 n]) ∧ Below w.heap.size w w' := by
  go_enter Try.func11, Try.ntmps11
  go_wp2_with fail
  refine (join_oneN g _ _ (by simp) h).mono ?_
  rintro e x ⟨rfl, hb⟩
  have HX : Hid (x.heap[w.heap.size]? = _) := heap_keep (heap_alloc_new w (.cells #[.string ⟨#[]⟩, .int .i64 0] 25)) hb
  have HB : Hid (Below w.heap.size w x) := below_call (below_new w _) hb
  obtain ⟨c0, c1, f0, f1⟩ := two_cells HX.out
  clear hb
  go_wp2
  exact bodyPost_ret (results_cell_row Try.results11 _ _ w.heap.size 25 _ (0, 0) _ rfl (set_two HX.out) Try.underlying25 rfl (by kernel_rfl)) rfl ⟨rfl, (HB.out.setCell (Nat.le_refl _) _).setCell (Nat.le_refl _) _⟩
end Go.Proofs.Ytnhehdobpibgkaa
