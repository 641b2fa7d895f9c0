/- The laws' own copies of an Insn. -/
import Derived.Test.YtdokiccfjbieiaeDoorRows
import Derived.WalkKit
import Derived.WalkSpells
import Derived.WalkLawsBesides
import Derived.RegionTactic
import Derived.BigRegion
import Derived.Outline
import Derived.Deep.RegionHeld3
import Derived.Test.YtdokiccfjbieiaeDoorBase
import Derived.Test.YtdokiccfjbieiaeDoorRes
namespace Go.Proofs.YtdokiccfjbieiaeDoor
open Go.RowKit

set_option maxRecDepth 100000 in
set_option maxHeartbeats 1600000 in
theorem szInsn_any (op : ByteArray) (v1 v2 v3 v4 v5 v6 v7 v8 v9 v10 : Value) (left : Int) (w : World) (hs : op.size ≤ maxLen) (h0 : 0 ≤ left) (h1 : left ≤ 1048576) :
    Calls Tryd.prog 8 #[.agg #[.string op, v1, v2, v3, v4, v5, v6, v7, v8, v9, v10], .int .i64 left] w fun e w' => e = .returned (.int .i64 (if left < op.size then -1 else left - op.size)) ∧ Below w.heap.size w w' := by
  unfold maxLen at hs
  by_cases h : left < op.size
  · rw [if_pos h]
    have h' : left - op.size < 0 := by omega
    go_enter Tryd.func8, Tryd.ntmps8
    go_wp2
    go_ret
    exact ⟨rfl, (Below.refl _ _).alloc (Nat.le_refl _) _⟩
  · rw [if_neg h]
    have h' : ¬ left - op.size < 0 := by omega
    go_enter Tryd.func8, Tryd.ntmps8
    go_wp2
    go_ret
    exact ⟨rfl, (Below.refl _ _).alloc (Nat.le_refl _) _⟩
set_option maxRecDepth 100000 in
set_option maxHeartbeats 1600000 in
theorem toOperand_is (m r n : Int) (l : Bool) (w : World) :
    Calls Tryd.prog 35 #[.agg #[.int .i64 m, .int .i64 r, .int .i64 n, .bool l]] w fun e w' => e = .returned (.agg #[.int .i64 m, .int .i64 r, .int .i64 n, .bool l]) ∧ w' = ((w.alloc (.cells #[.int .i64 m, .int .i64 r, .int .i64 n, .bool l] 23)).alloc (.cells #[.int .i64 m, .int .i64 r, .int .i64 n, .bool l] 28)).alloc (.cells #[.int .i64 m, .int .i64 r, .int .i64 n, .bool l] 28) := by
  go_enter Tryd.func35, Tryd.ntmps35
  go_wp2
  exact bodyPost_ret (results_cell_row Tryd.results35 _ _ (w.heap.size + 1) 28 #[.int .i64 m, .int .i64 r, .int .i64 n, .bool l] (0, 0) _ rfl (heap_more (heap_new2 _ _ _) _) Tryd.underlying28 rfl (by kernel_rfl)) rfl ⟨rfl, rfl⟩
set_option maxRecDepth 100000 in
set_option maxHeartbeats 1600000 in
theorem toInsn_any (op : ByteArray) (b : Bool) (m r n : Int) (l : Bool) (m2 r2 n2 : Int) (l2 : Bool) (j : Int) (w : World) :
    Calls Tryd.prog 10 #[.agg #[.string op, .bool b, .int .i64 m, .int .i64 r, .int .i64 n, .bool l, .int .i64 m2, .int .i64 r2, .int .i64 n2, .bool l2, .int .i64 j]] w fun e w' => e = .returned (.agg #[.string op, .bool b, .int .i64 m, .int .i64 r, .int .i64 n, .bool l, .int .i64 m2, .int .i64 r2, .int .i64 n2, .bool l2, .int .i64 j]) ∧ Below w.heap.size w w' := by
  go_enter Tryd.func10, Tryd.ntmps10
  go_wp2_with fail
  refine (toOperand_is m r n l _).mono ?_
  rintro e x1 ⟨rfl, rfl⟩
  go_wp2_with fail
  refine (toOperand_is m2 r2 n2 l2 _).mono ?_
  rintro e x1 ⟨rfl, rfl⟩
  go_wp2
  refine bodyPost_ret (results_cell_row Tryd.results10 _ _ (w.heap.size + 1) 30 #[.string op, .bool b, .int .i64 m, .int .i64 r, .int .i64 n, .bool l, .int .i64 m2, .int .i64 r2, .int .i64 n2, .bool l2, .int .i64 j] (0, 0) _ rfl ?_ Tryd.underlying30 rfl (by kernel_rfl)) rfl ⟨rfl, ?_⟩
  · exact heap_more (heap_more (heap_more (heap_more (heap_more (heap_more (heap_more (heap_new2 _ _ _) _) _) _) _) _) _) _
  · repeat (first | exact Below.refl _ _ | refine below_more ?_ _)
end Go.Proofs.YtdokiccfjbieiaeDoor
