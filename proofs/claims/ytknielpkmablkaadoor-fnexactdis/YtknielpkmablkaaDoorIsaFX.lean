/- Instructions: the short constants of the program. -/
import Derived.Test.YtknielpkmablkaaDoorRows
import Derived.WalkKit
import Derived.WalkSpells
import Derived.WalkLawsBesides
import Derived.Outline
import Derived.Test.YtknielpkmablkaaDoorBun0
import Derived.Test.YtknielpkmablkaaDoorBun4
namespace Go.Proofs.YtknielpkmablkaaDoor
open Go.RowKit

def shortF (n : Int) : Int × Int × Bool := if (shortI n).2.2 then shortI n else (0, 0, false)
theorem short_i0 (W : World) : (Instr.index 90 (.agg shortsV) (.int .i64 0)).run Tryd.prog W = .ok (.agg #[.int .i64 0, .int .i64 0, .int .i64 3]) W := by kernel_rfl
theorem short_i1 (W : World) : (Instr.index 90 (.agg shortsV) (.int .i64 1)).run Tryd.prog W = .ok (.agg #[.int .i64 1, .int .i64 1, .int .i64 3]) W := by kernel_rfl
theorem short_i2 (W : World) : (Instr.index 90 (.agg shortsV) (.int .i64 2)).run Tryd.prog W = .ok (.agg #[.int .i64 2, .int .i64 2, .int .i64 3]) W := by kernel_rfl
theorem short_i3 (W : World) : (Instr.index 90 (.agg shortsV) (.int .i64 3)).run Tryd.prog W = .ok (.agg #[.int .i64 65535, .int .i64 3, .int .i64 3]) W := by kernel_rfl
theorem short_i4 (W : World) : (Instr.index 90 (.agg shortsV) (.int .i64 4)).run Tryd.prog W = .ok (.agg #[.int .i64 4, .int .i64 2, .int .i64 2]) W := by kernel_rfl
theorem short_i5 (W : World) : (Instr.index 90 (.agg shortsV) (.int .i64 5)).run Tryd.prog W = .ok (.agg #[.int .i64 8, .int .i64 3, .int .i64 2]) W := by kernel_rfl
theorem not_more {n : Int} {k : Nat} (h : ∀ j, j < k → shortsL.getD (3 * j) 0 ≠ n) (hk : n ≠ shortsL.getD (3 * k) 0) : ∀ j, j < k + 1 → shortsL.getD (3 * j) 0 ≠ n := by
  intro j hj
  by_cases e : j = k
  · subst e; exact Ne.symm hk
  · exact h j (by omega)
theorem short_not {n : Int} (h0 : n ≠ 0) (h1 : n ≠ 1) (h2 : n ≠ 2) (h3 : n ≠ 65535) (h4 : n ≠ 4) (h8 : n ≠ 8) : shortF n = (0, 0, false) := by
  simp [shortF, shortI, h0, h1, h2, h3, h4, h8]
theorem ret_field {a b a' b' : Int} {c c' : Bool} (h : (a, b, c) = (a', b', c')) : Ending.returned (.tuple #[.agg #[.int .i64 a, .int .i64 b], .bool c]) = .returned (.tuple #[.agg #[.int .i64 a', .int .i64 b'], .bool c']) := by
  cases h; rfl
set_option maxRecDepth 100000 in
set_option maxHeartbeats 1600000 in
theorem shortField_any (n : Int) (w : World) (hT : Tabs w) : Calls Tryd.prog 68 #[.int .i64 n] w fun e w' => e = .returned (.tuple #[.agg #[.int .i64 (shortF n).1, .int .i64 (shortF n).2.1], .bool (shortF n).2.2]) ∧ Below w.heap.size w w' := by
  obtain ⟨t, fr, hS⟩ := hT.shorts
  have HS : Hid (_ = _) := hS
  clear hT hS
  have HS1 : Hid (∀ o : Obj, (w.alloc o).heap[1]? = _) := fun o : Obj => heap_more HS.out o
  go_enter Tryd.func68, Tryd.ntmps68
  go_wp2_with (refine wpList_load_row rfl 90 _ rfl 1 rfl t _ fr _ (HS1.out _) Tryd.underlying90 rfl (by kernel_rfl) ?_)
  go_loopw [7] (fun i wr => ∃ k : Nat, k ≤ 6 ∧ i = .int .i64 k ∧ Hid (Below w.heap.size w wr) ∧ Hid (wr.heap[w.heap.size]? = some (.cells #[.int .i64 0, .int .i64 0] 79 (0, 0))) ∧ Hid (∀ j, j < k → shortsL.getD (3 * j) 0 ≠ n)) (fun i _ => 6 - (intOf i).toNat)
  case atStart => exact ⟨0, by omega, rfl, (Below.refl _ _).alloc (Nat.le_refl _) _, heap_alloc_new _ _, fun j hj => by omega⟩
  case round =>
    obtain ⟨k, hk, rfl, HB, HR, HN0⟩ := hrel
    obtain ⟨q0, q1, f0, f1⟩ := two_cells HR.out
    have hsz := heap_lt HR.out
    obtain rfl | rfl | rfl | rfl | rfl | rfl | rfl : k = 0 ∨ k = 1 ∨ k = 2 ∨ k = 3 ∨ k = 4 ∨ k = 5 ∨ k = 6 := by omega
    · have hi := short_i0
      by_cases hn : n = 0
      · subst hn
        go_wp2
        refine bodyPost_ret (results_row1 Tryd.results68 _ _ w.heap.size 79 #[.int .i64 0, .int .i64 3] (0, 0) _ rfl (heap_more (heap_set (heap_set HR.out 0 _) 1 _) _) Tryd.underlying79 rfl (by kernel_rfl)) rfl ⟨rfl, ?_⟩
        exact (((HB.out.setCell (Nat.le_refl _) _).setCell (Nat.le_refl _) _).alloc (by simp; omega) _)
      · have hv : (0 == n) = false := by rw [beq_eq_false_iff_ne]; exact Ne.symm hn
        have HN : Hid (n ≠ 0) := hn
        clear hn
        go_wp2
        go_roundw
        case rel => exact ⟨1, by omega, rfl, HB.out.alloc (by omega) _, heap_more HR.out _, not_more HN0.out HN.out⟩
        case measure => simp [intOf]
    · have hi := short_i1
      by_cases hn : n = 1
      · subst hn
        go_wp2
        refine bodyPost_ret (results_row1 Tryd.results68 _ _ w.heap.size 79 #[.int .i64 1, .int .i64 3] (0, 0) _ rfl (heap_more (heap_set (heap_set HR.out 0 _) 1 _) _) Tryd.underlying79 rfl (by kernel_rfl)) rfl ⟨rfl, ?_⟩
        exact (((HB.out.setCell (Nat.le_refl _) _).setCell (Nat.le_refl _) _).alloc (by simp; omega) _)
      · have hv : (1 == n) = false := by rw [beq_eq_false_iff_ne]; exact Ne.symm hn
        have HN : Hid (n ≠ 1) := hn
        clear hn
        go_wp2
        go_roundw
        case rel => exact ⟨2, by omega, rfl, HB.out.alloc (by omega) _, heap_more HR.out _, not_more HN0.out HN.out⟩
        case measure => simp [intOf]
    · have hi := short_i2
      by_cases hn : n = 2
      · subst hn
        go_wp2
        refine bodyPost_ret (results_row1 Tryd.results68 _ _ w.heap.size 79 #[.int .i64 2, .int .i64 3] (0, 0) _ rfl (heap_more (heap_set (heap_set HR.out 0 _) 1 _) _) Tryd.underlying79 rfl (by kernel_rfl)) rfl ⟨rfl, ?_⟩
        exact (((HB.out.setCell (Nat.le_refl _) _).setCell (Nat.le_refl _) _).alloc (by simp; omega) _)
      · have hv : (2 == n) = false := by rw [beq_eq_false_iff_ne]; exact Ne.symm hn
        have HN : Hid (n ≠ 2) := hn
        clear hn
        go_wp2
        go_roundw
        case rel => exact ⟨3, by omega, rfl, HB.out.alloc (by omega) _, heap_more HR.out _, not_more HN0.out HN.out⟩
        case measure => simp [intOf]
    · have hi := short_i3
      by_cases hn : n = 65535
      · subst hn
        go_wp2
        refine bodyPost_ret (results_row1 Tryd.results68 _ _ w.heap.size 79 #[.int .i64 3, .int .i64 3] (0, 0) _ rfl (heap_more (heap_set (heap_set HR.out 0 _) 1 _) _) Tryd.underlying79 rfl (by kernel_rfl)) rfl ⟨rfl, ?_⟩
        exact (((HB.out.setCell (Nat.le_refl _) _).setCell (Nat.le_refl _) _).alloc (by simp; omega) _)
      · have hv : (65535 == n) = false := by rw [beq_eq_false_iff_ne]; exact Ne.symm hn
        have HN : Hid (n ≠ 65535) := hn
        clear hn
        go_wp2
        go_roundw
        case rel => exact ⟨4, by omega, rfl, HB.out.alloc (by omega) _, heap_more HR.out _, not_more HN0.out HN.out⟩
        case measure => simp [intOf]
    · have hi := short_i4
      by_cases hn : n = 4
      · subst hn
        go_wp2
        refine bodyPost_ret (results_row1 Tryd.results68 _ _ w.heap.size 79 #[.int .i64 2, .int .i64 2] (0, 0) _ rfl (heap_more (heap_set (heap_set HR.out 0 _) 1 _) _) Tryd.underlying79 rfl (by kernel_rfl)) rfl ⟨rfl, ?_⟩
        exact (((HB.out.setCell (Nat.le_refl _) _).setCell (Nat.le_refl _) _).alloc (by simp; omega) _)
      · have hv : (4 == n) = false := by rw [beq_eq_false_iff_ne]; exact Ne.symm hn
        have HN : Hid (n ≠ 4) := hn
        clear hn
        go_wp2
        go_roundw
        case rel => exact ⟨5, by omega, rfl, HB.out.alloc (by omega) _, heap_more HR.out _, not_more HN0.out HN.out⟩
        case measure => simp [intOf]
    · have hi := short_i5
      by_cases hn : n = 8
      · subst hn
        go_wp2
        refine bodyPost_ret (results_row1 Tryd.results68 _ _ w.heap.size 79 #[.int .i64 3, .int .i64 2] (0, 0) _ rfl (heap_more (heap_set (heap_set HR.out 0 _) 1 _) _) Tryd.underlying79 rfl (by kernel_rfl)) rfl ⟨rfl, ?_⟩
        exact (((HB.out.setCell (Nat.le_refl _) _).setCell (Nat.le_refl _) _).alloc (by simp; omega) _)
      · have hv : (8 == n) = false := by rw [beq_eq_false_iff_ne]; exact Ne.symm hn
        have HN : Hid (n ≠ 8) := hn
        clear hn
        go_wp2
        go_roundw
        case rel => exact ⟨6, by omega, rfl, HB.out.alloc (by omega) _, heap_more HR.out _, not_more HN0.out HN.out⟩
        case measure => simp [intOf]
    · have HF : Hid (shortF n = (0, 0, false)) := short_not (Ne.symm (HN0.out 0 (by omega))) (Ne.symm (HN0.out 1 (by omega))) (Ne.symm (HN0.out 2 (by omega))) (Ne.symm (HN0.out 3 (by omega))) (Ne.symm (HN0.out 4 (by omega))) (Ne.symm (HN0.out 5 (by omega)))
      go_wp2
      refine bodyPost_ret (results_row1 Tryd.results68 _ _ w.heap.size 79 #[.int .i64 0, .int .i64 0] (0, 0) _ rfl (heap_set (heap_set HR.out 0 _) 1 _) Tryd.underlying79 rfl (by kernel_rfl)) rfl ⟨?_, ?_⟩
      · exact ret_field (by rw [HF.out])
      · exact ((HB.out.setCell (Nat.le_refl _) _).setCell (Nat.le_refl _) _)
end Go.Proofs.YtknielpkmablkaaDoor
