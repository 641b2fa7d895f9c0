/- The laws' comparison of what WordRead tells. -/
import Derived.Test.YtcjpfdlodphkeaaRows
import Derived.WalkKit
import Derived.WalkSpells
import Derived.WalkLawsBesides
import Derived.Outline
import Derived.Test.YtcjpfdlodphkeaaBase
import Derived.Test.YtcjpfdlodphkeaaRes2
namespace Go.Proofs.Ytcjpfdlodphkeaa
open Go.RowKit
set_option linter.unusedVariables false

set_option maxRecDepth 100000 in
set_option maxHeartbeats 1600000 in
theorem eqWord_any (nm : ByteArray) (n : Int) (w : World) : Calls Try.prog 23 #[.agg #[.string nm, .int .i64 n], .agg #[.string nm, .int .i64 n]] w fun e w' => e = .returned (.bool true) ∧ Below w.heap.size w w' := by
  go_enter Try.func23, Try.ntmps23
  go_wp2
  go_ret
  exact ⟨rfl, below_more (below_new _ _) _⟩
set_option maxRecDepth 100000 in
set_option maxHeartbeats 1600000 in
theorem eqWordOut_any (nm : ByteArray) (n c : Int) (w : World) : Calls Try.prog 8 #[.agg #[.string nm, .int .i64 n, .int .i64 c], .agg #[.string nm, .int .i64 n, .int .i64 c]] w fun e w' => e = .returned (.bool true) ∧ Below w.heap.size w w' := by
  go_enter Try.func8, Try.ntmps8
  go_wp2_with fail
  refine (eqWord_any nm n _).mono ?_
  rintro e x1 ⟨rfl, hb⟩
  have HI1 : Hid (_ = _) := heap_keep (heap_more (heap_alloc_new w _) _) hb
  have HJ1 : Hid (_ = _) := heap_keep (heap_new2 w _ _) hb
  have HB1 : Hid (Below w.heap.size w x1) := below_call (below_more (below_new _ _) _) hb
  clear hb
  have c2 := cell_of_row _ _ 2 _ _ _ HI1.out
  have d2 := cell_of_row _ _ 2 _ _ _ HJ1.out
  go_wp2
  go_ret
  exact ⟨rfl, HB1.out⟩
end Go.Proofs.Ytcjpfdlodphkeaa
