/- Instructions: operands out of a first word, by the specification; words that are words. -/
import Derived.Test.YtdokiccfjbieiaeDoorRows
import Derived.WalkKit
import Derived.WalkSpells
import Derived.WalkLawsBesides
import Derived.Outline
import Derived.Test.YtdokiccfjbieiaeDoorBase
import Derived.Test.YtdokiccfjbieiaeDoorRes2
import Derived.Test.YtdokiccfjbieiaeDoorIsa
import Derived.Test.YtdokiccfjbieiaeDoorIsaS
namespace Go.Proofs.YtdokiccfjbieiaeDoor
open Go.RowKit
set_option linter.unusedVariables false

/- mode, register, N of the operand of As and a register, and whether a word stands behind. -/
def opdT (a r : Int) : Int × Int × Int × Bool :=
  if r = 3 then (5, 0, (if a = 0 then 0 else if a = 1 then 1 else if a = 2 then 2 else 65535), false)
  else if r = 2 ∧ 1 < a then (5, 0, (if a = 2 then 4 else 8), false) else if r = 2 ∧ a = 1 then (2, 0, 0, true) else if r = 0 ∧ a = 3 then (5, 0, 0, true)
  else ((if a = 0 then 0 else if a = 1 then 1 else if a = 2 then 3 else 4), r, 0, a == 1)
theorem ret_opd {m r n m' r' n' : Int} {b b' : Bool} (h : (m, r, n, b) = (m', r', n', b')) : Ending.returned (.tuple #[.agg #[.int .i64 m, .int .i64 r, .int .i64 n, .bool false], .bool b]) = .returned (.tuple #[.agg #[.int .i64 m', .int .i64 r', .int .i64 n', .bool false], .bool b']) := by
  cases h; rfl
set_option maxRecDepth 100000 in
set_option maxHeartbeats 3200000 in
theorem l02Operand_any (a r : Int) (w : World) (h0 : 0 ≤ a) (h3 : a ≤ 3) : Calls Tryd.prog 82 #[.int .i64 a, .int .i64 r] w fun e w' => e = .returned (.tuple #[.agg #[.int .i64 (opdT a r).1, .int .i64 (opdT a r).2.1, .int .i64 (opdT a r).2.2.1, .bool false], .bool (opdT a r).2.2.2]) ∧ Below w.heap.size w w' := by
  by_cases r3 : r = 3
  · subst r3
    obtain rfl | rfl | rfl | rfl : a = 0 ∨ a = 1 ∨ a = 2 ∨ a = 3 := by omega
    all_goals
      go_enter Tryd.func82, Tryd.ntmps82
      go_wp2
      exact bodyPost_ret (results_row1 Tryd.results82 _ _ w.heap.size 28 _ (0, 0) _ rfl (heap_more (heap_alloc_new _ _) _) Tryd.underlying28 rfl (by kernel_rfl)) rfl ⟨rfl, below_more (below_new _ _) _⟩
  have e3 : (r == 3) = false := by rw [beq_eq_false_iff_ne]; exact r3
  by_cases r2 : r = 2
  · subst r2
    clear r3
    obtain rfl | rfl | rfl | rfl : a = 0 ∨ a = 1 ∨ a = 2 ∨ a = 3 := by omega
    · go_enter Tryd.func82, Tryd.ntmps82
      go_wp2
      exact bodyPost_ret (results_row1 Tryd.results82 _ _ w.heap.size 28 _ (0, 0) _ rfl (heap_more (heap_alloc_new _ _) _) Tryd.underlying28 rfl (by kernel_rfl)) rfl ⟨rfl, below_more (below_new _ _) _⟩
    · go_enter Tryd.func82, Tryd.ntmps82
      go_wp2
      exact bodyPost_ret (results_row1 Tryd.results82 _ _ w.heap.size 28 _ (0, 0) _ rfl (heap_alloc_new _ _) Tryd.underlying28 rfl (by kernel_rfl)) rfl ⟨rfl, below_new _ _⟩
    · go_enter Tryd.func82, Tryd.ntmps82
      go_wp2
      exact bodyPost_ret (results_row1 Tryd.results82 _ _ w.heap.size 28 _ (0, 0) _ rfl (heap_more (heap_alloc_new _ _) _) Tryd.underlying28 rfl (by kernel_rfl)) rfl ⟨rfl, below_more (below_new _ _) _⟩
    · go_enter Tryd.func82, Tryd.ntmps82
      go_wp2
      exact bodyPost_ret (results_row1 Tryd.results82 _ _ w.heap.size 28 _ (0, 0) _ rfl (heap_more (heap_alloc_new _ _) _) Tryd.underlying28 rfl (by kernel_rfl)) rfl ⟨rfl, below_more (below_new _ _) _⟩
  have e2 : (r == 2) = false := by rw [beq_eq_false_iff_ne]; exact r2
  by_cases r0 : r = 0
  · subst r0
    clear r3 r2
    obtain rfl | rfl | rfl | rfl : a = 0 ∨ a = 1 ∨ a = 2 ∨ a = 3 := by omega
    case' inr.inr.inr =>
      go_enter Tryd.func82, Tryd.ntmps82
      go_wp2
      exact bodyPost_ret (results_row1 Tryd.results82 _ _ w.heap.size 28 _ (0, 0) _ rfl (heap_alloc_new _ _) Tryd.underlying28 rfl (by kernel_rfl)) rfl ⟨rfl, below_new _ _⟩
    all_goals
      go_enter Tryd.func82, Tryd.ntmps82
      go_wp2
      exact bodyPost_ret (results_row1 Tryd.results82 _ _ w.heap.size 28 _ (0, 0) _ rfl (heap_more (heap_alloc_new _ _) _) Tryd.underlying28 rfl (by kernel_rfl)) rfl ⟨rfl, below_more (below_new _ _) _⟩
  have e0 : (r == 0) = false := by rw [beq_eq_false_iff_ne]; exact r0
  have HE : Hid (∀ x, 0 ≤ x → x ≤ 3 → opdT x r = ((if x = 0 then 0 else if x = 1 then 1 else if x = 2 then 3 else 4), r, 0, x == 1)) := fun x _ _ => by simp [opdT, r3, r2, r0]
  clear r3 r2 r0
  obtain rfl | rfl | rfl | rfl : a = 0 ∨ a = 1 ∨ a = 2 ∨ a = 3 := by omega
  all_goals
    go_enter Tryd.func82, Tryd.ntmps82
    go_wp2
    exact bodyPost_ret (results_row1 Tryd.results82 _ _ w.heap.size 28 _ (0, 0) _ rfl (heap_more (heap_alloc_new _ _) _) Tryd.underlying28 rfl (by kernel_rfl)) rfl ⟨ret_opd (by rw [HE.out _ (by omega) (by omega)]; rfl), below_more (below_new _ _) _⟩
end Go.Proofs.YtdokiccfjbieiaeDoor
