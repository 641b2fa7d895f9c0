/- Shops: the laws' helpers, and a Shop that is handed to a law, opened. -/
import Derived.Test.YtnhehdobpibgkaaRows
import Derived.WalkKit
import Derived.WalkSpells
import Derived.WalkLawsBesides
import Derived.Test.YtnhehdobpibgkaaBase
import Derived.Test.YtnhehdobpibgkaaRes2
import Derived.Test.YtnhehdobpibgkaaSrcA
namespace Go.Proofs.Ytnhehdobpibgkaa
open Go.RowKit
set_option linter.unusedVariables false

set_option maxRecDepth 100000 in
set_option maxHeartbeats 1600000 in
theorem szShop_any (g : ByteArray) (sy left : Int) (w : World) (h1 : g.size ≤ maxLen) (h0 : 0 ≤ left) (hl : left ≤ 1048576) : Calls Try.prog 4 #[.agg #[.string g, .int .i64 sy], .int .i64 left] w (SzOut (g.size ≤ 1048576) w) := by
  unfold maxLen at h1
  by_cases k1 : left - (g.size : Int) < 0
  · go_enter Try.func4, Try.ntmps4
    go_wp2
    go_ret
    exact ⟨-1, rfl, by omega, fun h => by omega, below_new _ _⟩
  · go_enter Try.func4, Try.ntmps4
    go_wp2
    go_ret
    exact ⟨_, rfl, by omega, fun h => by omega, below_new _ _⟩
set_option maxRecDepth 100000 in
set_option maxHeartbeats 1600000 in
theorem toShop_any (g : ByteArray) (sy : Int) (w : World) : Calls Try.prog 6 #[.agg #[.string g, .int .i64 sy]] w fun e w' => e = .returned (.agg #[.string g, .int .i64 sy]) ∧ Below w.heap.size w w' := by
  go_enter Try.func6, Try.ntmps6
  go_wp2
  exact bodyPost_ret (results_cell_row Try.results6 _ _ (w.heap.size + 1) 25 _ (0, 0) _ rfl (heap_more (heap_new2 w _ _) _) Try.underlying25 rfl (by kernel_rfl)) rfl ⟨rfl, below_more (below_more (below_new _ _) _) _⟩
set_option maxRecDepth 100000 in
set_option maxHeartbeats 1600000 in
theorem eqShop_any (g : ByteArray) (sy : Int) (w : World) : Calls Try.prog 8 #[.agg #[.string g, .int .i64 sy], .agg #[.string g, .int .i64 sy]] w fun e w' => e = .returned (.bool true) ∧ Below w.heap.size w w' := by
  go_enter Try.func8, Try.ntmps8
  go_wp2
  go_ret
  exact ⟨rfl, below_more (below_new _ _) _⟩
end Go.Proofs.Ytnhehdobpibgkaa
