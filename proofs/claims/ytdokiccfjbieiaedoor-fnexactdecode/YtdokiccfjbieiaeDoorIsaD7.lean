/- Instructions: l02First of the specification: reti, and what is no first word. -/
import Derived.Test.YtdokiccfjbieiaeDoorRows
import Derived.WalkKit
import Derived.WalkSpells
import Derived.WalkLawsBesides
import Derived.Outline
import Derived.Test.YtdokiccfjbieiaeDoorBase
import Derived.Test.YtdokiccfjbieiaeDoorRes2
import Derived.Test.YtdokiccfjbieiaeDoorIsa2
import Derived.Test.YtdokiccfjbieiaeDoorIsa3
import Derived.Test.YtdokiccfjbieiaeDoorIsaD2
import Derived.Test.YtdokiccfjbieiaeDoorIsaD5
namespace Go.Proofs.YtdokiccfjbieiaeDoor
open Go.RowKit
set_option linter.unusedVariables false

def retiIns : Ins := { zeroIns with op := ⟨#[114, 101, 116, 105]⟩ }
set_option maxRecDepth 100000 in
set_option maxHeartbeats 1600000 in
theorem first_reti (w : World) : Calls Tryd.prog 68 #[.int .i64 4864] w fun e w' => e = .returned (.tuple #[.agg retiIns.vals, .int .i64 0, .int .i64 0, .bool true]) ∧ Below w.heap.size w w' := by
  go_enter Tryd.func68, Tryd.ntmps68
  go_wp2
  exact bodyPost_ret (results_row3 Tryd.results68 _ _ w.heap.size 30 _ (0, 0) _ rfl (heap_more (heap_alloc_new _ _) _) Tryd.underlying30 rfl (by kernel_rfl)) rfl ⟨rfl, below_more (below_new _ _) _⟩
set_option maxRecDepth 100000 in
set_option maxHeartbeats 1600000 in
theorem first_no (word : Int) (w : World) (h0 : 0 ≤ word) (h1 : word < 4096 ∨ 4864 < word ∧ word < 8192) : Calls Tryd.prog 68 #[.int .i64 word] w fun e w' => e = .returned (.tuple #[.agg zeroIns.vals, .int .i64 0, .int .i64 0, .bool false]) ∧ Below w.heap.size w w' := by
  have e1 : (word == 4864) = false := by rw [beq_eq_false_iff_ne]; omega
  have n1 : ¬ 8192 ≤ word := by omega
  rcases h1 with h1 | ⟨h1, h2⟩
  · go_enter Tryd.func68, Tryd.ntmps68
    go_wp2
    exact bodyPost_ret (results_row3 Tryd.results68 _ _ w.heap.size 30 _ (0, 0) _ rfl (heap_more (heap_alloc_new _ _) _) Tryd.underlying30 rfl (by kernel_rfl)) rfl ⟨rfl, below_more (below_new _ _) _⟩
  · have n2 : ¬ word < 4096 := by omega
    have n3 : 4864 ≤ word := by omega
    have n4 : word < 16384 := by omega
    go_enter Tryd.func68, Tryd.ntmps68
    go_wp2
    exact bodyPost_ret (results_row3 Tryd.results68 _ _ w.heap.size 30 _ (0, 0) _ rfl (heap_more (heap_alloc_new _ _) _) Tryd.underlying30 rfl (by kernel_rfl)) rfl ⟨rfl, below_more (below_new _ _) _⟩
end Go.Proofs.YtdokiccfjbieiaeDoor
