/- Instructions: operands out of a first word, by the program. -/
import Derived.Test.YtknielpkmablkaaDoorRows
import Derived.WalkKit
import Derived.WalkSpells
import Derived.WalkLawsBesides
import Derived.Outline
import Derived.RegionTactic
import Derived.BigRegion
import Derived.Deep.RegionHeld3
import Derived.Test.YtknielpkmablkaaDoorBun0
import Derived.Test.YtknielpkmablkaaDoorBun1
import Derived.Test.YtknielpkmablkaaDoorIsaFX
import Derived.Test.YtknielpkmablkaaDoorBun11
namespace Go.Proofs.YtknielpkmablkaaDoor
open Go.RowKit
set_option linter.unusedVariables false

def modeI (a : Int) : Int := if a = 0 then 0 else if a = 1 then 1 else if a = 2 then 3 else 4
def dstT (a r : Int) : Int × Int := if a = 1 ∧ r = 2 then (2, 0) else (modeI a, r)
/- mode, register, N, Long of the operand of As and a register. -/
def srcT (a r : Int) : Int × Int × Int × Bool :=
  if a = 0 ∧ r = 3 then (5, 0, 0, false) else if a = 1 ∧ r = 3 then (5, 0, 1, false) else if a = 2 ∧ r = 3 then (5, 0, 2, false) else if a = 3 ∧ r = 3 then (5, 0, 65535, false)
  else if a = 2 ∧ r = 2 then (5, 0, 4, false) else if a = 3 ∧ r = 2 then (5, 0, 8, false) else if a = 3 ∧ r = 0 then (5, 0, 0, true) else ((dstT a r).1, (dstT a r).2, 0, false)
set_option maxRecDepth 100000 in
set_option maxHeartbeats 1600000 in
theorem dstOf_12 (w : World) : Calls Tryd.prog 53 #[.agg #[.int .i64 1, .int .i64 2]] w fun e w' => e = .returned (.agg #[.int .i64 2, .int .i64 0, .int .i64 0, .bool false]) ∧ Below w.heap.size w w' := by
  go_enter Tryd.func53, Tryd.ntmps53
  go_wp2
  exact bodyPost_ret (results_cell_row Tryd.results53 _ _ (w.heap.size + 1) 43 _ (0, 0) _ rfl (heap_new2 _ _ _) Tryd.underlying43 rfl (by kernel_rfl)) rfl ⟨rfl, below_more (below_new _ _) _⟩
set_option maxRecDepth 100000 in
set_option maxHeartbeats 1600000 in
theorem dstOf_no (a r : Int) (w : World) (h0 : 0 ≤ a) (h3 : a ≤ 3) (hn : ¬ (a = 1 ∧ r = 2)) : Calls Tryd.prog 53 #[.agg #[.int .i64 a, .int .i64 r]] w fun e w' => e = .returned (.agg #[.int .i64 (modeI a), .int .i64 r, .int .i64 0, .bool false]) ∧ Below w.heap.size w w' := by
  by_cases h1 : a = 1
  · subst h1
    have hr : (r == 2) = false := by rw [beq_eq_false_iff_ne]; intro e; exact hn ⟨rfl, e⟩
    clear hn
    go_enter Tryd.func53, Tryd.ntmps53
    go_wp2
    go_region
    all_goals
      go_wp2
      exact bodyPost_ret (results_cell_row Tryd.results53 _ _ (w.heap.size + 1) 43 #[.int .i64 1, .int .i64 r, .int .i64 0, .bool false] (0, 0) _ rfl (heap_drewn (heap_more (heap_new2 _ _ _) _)) Tryd.underlying43 rfl (by kernel_rfl)) rfl ⟨rfl, (below_more (below_more (below_new _ _) _) _).drew⟩
  · have ha : (a == 1) = false := by rw [beq_eq_false_iff_ne]; exact h1
    clear hn
    obtain rfl | rfl | rfl : a = 0 ∨ a = 2 ∨ a = 3 := by omega
    all_goals
      go_enter Tryd.func53, Tryd.ntmps53
      go_wp2
      go_region
      all_goals
        go_wp2
        exact bodyPost_ret (results_cell_row Tryd.results53 _ _ (w.heap.size + 1) 43 _ (0, 0) _ rfl (heap_drewn (heap_more (heap_new2 _ _ _) _)) Tryd.underlying43 rfl (by kernel_rfl)) rfl ⟨rfl, (below_more (below_more (below_new _ _) _) _).drew⟩
theorem dstOf_any (a r : Int) (w : World) (h0 : 0 ≤ a) (h3 : a ≤ 3) : Calls Tryd.prog 53 #[.agg #[.int .i64 a, .int .i64 r]] w fun e w' => e = .returned (.agg #[.int .i64 (dstT a r).1, .int .i64 (dstT a r).2, .int .i64 0, .bool false]) ∧ Below w.heap.size w w' := by
  unfold dstT
  by_cases h : a = 1 ∧ r = 2
  · rw [if_pos h]; obtain ⟨rfl, rfl⟩ := h; exact dstOf_12 w
  · rw [if_neg h]; exact dstOf_no a r w h0 h3 h
def pairK (k : Nat) : Int × Int := (shortsL.getD (3 * k + 1) 0, shortsL.getD (3 * k + 2) 0)
theorem notS_more {a r : Int} {k : Nat} (h : ∀ j, j < k → ¬ (a = (pairK j).1 ∧ r = (pairK j).2)) (hk : ¬ (a = (pairK k).1 ∧ r = (pairK k).2)) : ∀ j, j < k + 1 → ¬ (a = (pairK j).1 ∧ r = (pairK j).2) := by
  intro j hj
  by_cases e : j = k
  · subst e; exact hk
  · exact h j (by omega)
theorem srcT_not {a r : Int} (h : ∀ j, j < 6 → ¬ (a = (pairK j).1 ∧ r = (pairK j).2)) : srcT a r = if a = 3 ∧ r = 0 then (5, 0, 0, true) else ((dstT a r).1, (dstT a r).2, 0, false) := by
  have h0 : ¬ (a = 0 ∧ r = 3) := h 0 (by omega)
  have h1 : ¬ (a = 1 ∧ r = 3) := h 1 (by omega)
  have h2 : ¬ (a = 2 ∧ r = 3) := h 2 (by omega)
  have h3 : ¬ (a = 3 ∧ r = 3) := h 3 (by omega)
  have h4 : ¬ (a = 2 ∧ r = 2) := h 4 (by omega)
  have h5 : ¬ (a = 3 ∧ r = 2) := h 5 (by omega)
  unfold srcT
  rw [if_neg h0, if_neg h1, if_neg h2, if_neg h3, if_neg h4, if_neg h5]
set_option maxRecDepth 100000 in
set_option maxHeartbeats 3200000 in
theorem srcOf_any (a r : Int) (w : World) (h0 : 0 ≤ a) (h3 : a ≤ 3) (hT : Tabs w) : Calls Tryd.prog 52 #[.agg #[.int .i64 a, .int .i64 r]] w fun e w' => e = .returned (.agg #[.int .i64 (srcT a r).1, .int .i64 (srcT a r).2.1, .int .i64 (srcT a r).2.2.1, .bool (srcT a r).2.2.2]) ∧ Below w.heap.size w w' := by
  obtain ⟨t, fr, hS⟩ := hT.shorts
  have HS1 : Hid (∀ o p : Obj, ((w.alloc o).alloc p).heap[1]? = _) := fun o p => heap_more (heap_more hS o) p
  clear hT hS
  go_enter Tryd.func52, Tryd.ntmps52
  go_wp2_with (refine wpList_load_row rfl 90 _ rfl 1 rfl t _ fr _ (HS1.out _ _) Tryd.underlying90 rfl (by kernel_rfl) ?_)
  go_loopw [6] (fun i wr => ∃ k : Nat, k ≤ 6 ∧ i = .int .i64 k ∧ Hid (Below w.heap.size w wr) ∧ Hid (wr.heap[w.heap.size]? = some (.cells #[.int .i64 a, .int .i64 r] 79 (0, 0))) ∧ Hid (wr.heap[w.heap.size + 1]? = some (.cells #[.int .i64 0, .int .i64 0, .int .i64 0, .bool false] 43 (0, 0))) ∧ Hid (∀ j, j < k → ¬ (a = (pairK j).1 ∧ r = (pairK j).2))) (fun i _ => 6 - (intOf i).toNat)
  case atStart => exact ⟨0, by omega, rfl, below_more (below_new _ _) _, heap_more (heap_alloc_new _ _) _, heap_new2 _ _ _, fun j hj => by omega⟩
  case round =>
    obtain ⟨k, hk, rfl, HB, HI, HR, HN0⟩ := hrel
    obtain ⟨c0, c1, _, _⟩ := two_cells HI.out
    obtain ⟨q0, q1, q2, q3⟩ := cells4h HR.out
    have f0 := frozen_of_row _ _ 0 _ _ HR.out
    have f1 := frozen_of_row _ _ 1 _ _ HR.out
    have f2 := frozen_of_row _ _ 2 _ _ HR.out
    have f3 := frozen_of_row _ _ 3 _ _ HR.out
    have hsz := heap_lt HI.out
    have hsz2 := heap_lt HR.out
    obtain rfl | rfl | rfl | rfl | rfl | rfl | rfl : k = 0 ∨ k = 1 ∨ k = 2 ∨ k = 3 ∨ k = 4 ∨ k = 5 ∨ k = 6 := by omega
    · have hi := short_i0
      by_cases hm : a = 0 ∧ r = 3
      · obtain ⟨rfl, rfl⟩ := hm
        go_wp2
        refine bodyPost_ret (results_cell_row Tryd.results52 _ _ (w.heap.size + 1) 43 #[.int .i64 5, .int .i64 0, .int .i64 0, .bool false] (0, 0) _ rfl (heap_more (heap_set (heap_set (heap_set (heap_set HR.out 0 _) 1 _) 2 _) 3 _) _) Tryd.underlying43 rfl (by kernel_rfl)) rfl ⟨rfl, ?_⟩
        exact below_more ((((HB.out.setCell (by simp) _).setCell (by simp) _).setCell (by simp) _).setCell (by simp) _) _
      · have HM : Hid (¬ (a = 0 ∧ r = 3)) := hm
        by_cases ha : a = 0
        · have hr : (3 == r) = false := by rw [beq_eq_false_iff_ne]; intro e; exact hm ⟨ha, e.symm⟩
          subst ha
          clear hm
          go_wp2
          go_roundw
          case rel => exact ⟨1, by omega, rfl, below_more HB.out _, heap_more HI.out _, heap_more HR.out _, notS_more HN0.out HM.out⟩
          case measure => simp [intOf]
        · have ha' : (0 == a) = false := by rw [beq_eq_false_iff_ne]; exact Ne.symm ha
          clear hm ha
          go_wp2
          all_goals
            go_roundw
            case rel => exact ⟨1, by omega, rfl, below_more HB.out _, heap_more HI.out _, heap_more HR.out _, notS_more HN0.out HM.out⟩
            case measure => simp [intOf]
    · have hi := short_i1
      by_cases hm : a = 1 ∧ r = 3
      · obtain ⟨rfl, rfl⟩ := hm
        go_wp2
        refine bodyPost_ret (results_cell_row Tryd.results52 _ _ (w.heap.size + 1) 43 #[.int .i64 5, .int .i64 0, .int .i64 1, .bool false] (0, 0) _ rfl (heap_more (heap_set (heap_set (heap_set (heap_set HR.out 0 _) 1 _) 2 _) 3 _) _) Tryd.underlying43 rfl (by kernel_rfl)) rfl ⟨rfl, ?_⟩
        exact below_more ((((HB.out.setCell (by simp) _).setCell (by simp) _).setCell (by simp) _).setCell (by simp) _) _
      · have HM : Hid (¬ (a = 1 ∧ r = 3)) := hm
        by_cases ha : a = 1
        · have hr : (3 == r) = false := by rw [beq_eq_false_iff_ne]; intro e; exact hm ⟨ha, e.symm⟩
          subst ha
          clear hm
          go_wp2
          go_roundw
          case rel => exact ⟨2, by omega, rfl, below_more HB.out _, heap_more HI.out _, heap_more HR.out _, notS_more HN0.out HM.out⟩
          case measure => simp [intOf]
        · have ha' : (1 == a) = false := by rw [beq_eq_false_iff_ne]; exact Ne.symm ha
          clear hm ha
          go_wp2
          all_goals
            go_roundw
            case rel => exact ⟨2, by omega, rfl, below_more HB.out _, heap_more HI.out _, heap_more HR.out _, notS_more HN0.out HM.out⟩
            case measure => simp [intOf]
    · have hi := short_i2
      by_cases hm : a = 2 ∧ r = 3
      · obtain ⟨rfl, rfl⟩ := hm
        go_wp2
        refine bodyPost_ret (results_cell_row Tryd.results52 _ _ (w.heap.size + 1) 43 #[.int .i64 5, .int .i64 0, .int .i64 2, .bool false] (0, 0) _ rfl (heap_more (heap_set (heap_set (heap_set (heap_set HR.out 0 _) 1 _) 2 _) 3 _) _) Tryd.underlying43 rfl (by kernel_rfl)) rfl ⟨rfl, ?_⟩
        exact below_more ((((HB.out.setCell (by simp) _).setCell (by simp) _).setCell (by simp) _).setCell (by simp) _) _
      · have HM : Hid (¬ (a = 2 ∧ r = 3)) := hm
        by_cases ha : a = 2
        · have hr : (3 == r) = false := by rw [beq_eq_false_iff_ne]; intro e; exact hm ⟨ha, e.symm⟩
          subst ha
          clear hm
          go_wp2
          go_roundw
          case rel => exact ⟨3, by omega, rfl, below_more HB.out _, heap_more HI.out _, heap_more HR.out _, notS_more HN0.out HM.out⟩
          case measure => simp [intOf]
        · have ha' : (2 == a) = false := by rw [beq_eq_false_iff_ne]; exact Ne.symm ha
          clear hm ha
          go_wp2
          all_goals
            go_roundw
            case rel => exact ⟨3, by omega, rfl, below_more HB.out _, heap_more HI.out _, heap_more HR.out _, notS_more HN0.out HM.out⟩
            case measure => simp [intOf]
    · have hi := short_i3
      by_cases hm : a = 3 ∧ r = 3
      · obtain ⟨rfl, rfl⟩ := hm
        go_wp2
        refine bodyPost_ret (results_cell_row Tryd.results52 _ _ (w.heap.size + 1) 43 #[.int .i64 5, .int .i64 0, .int .i64 65535, .bool false] (0, 0) _ rfl (heap_more (heap_set (heap_set (heap_set (heap_set HR.out 0 _) 1 _) 2 _) 3 _) _) Tryd.underlying43 rfl (by kernel_rfl)) rfl ⟨rfl, ?_⟩
        exact below_more ((((HB.out.setCell (by simp) _).setCell (by simp) _).setCell (by simp) _).setCell (by simp) _) _
      · have HM : Hid (¬ (a = 3 ∧ r = 3)) := hm
        by_cases ha : a = 3
        · have hr : (3 == r) = false := by rw [beq_eq_false_iff_ne]; intro e; exact hm ⟨ha, e.symm⟩
          subst ha
          clear hm
          go_wp2
          go_roundw
          case rel => exact ⟨4, by omega, rfl, below_more HB.out _, heap_more HI.out _, heap_more HR.out _, notS_more HN0.out HM.out⟩
          case measure => simp [intOf]
        · have ha' : (3 == a) = false := by rw [beq_eq_false_iff_ne]; exact Ne.symm ha
          clear hm ha
          go_wp2
          all_goals
            go_roundw
            case rel => exact ⟨4, by omega, rfl, below_more HB.out _, heap_more HI.out _, heap_more HR.out _, notS_more HN0.out HM.out⟩
            case measure => simp [intOf]
    · have hi := short_i4
      by_cases hm : a = 2 ∧ r = 2
      · obtain ⟨rfl, rfl⟩ := hm
        go_wp2
        refine bodyPost_ret (results_cell_row Tryd.results52 _ _ (w.heap.size + 1) 43 #[.int .i64 5, .int .i64 0, .int .i64 4, .bool false] (0, 0) _ rfl (heap_more (heap_set (heap_set (heap_set (heap_set HR.out 0 _) 1 _) 2 _) 3 _) _) Tryd.underlying43 rfl (by kernel_rfl)) rfl ⟨rfl, ?_⟩
        exact below_more ((((HB.out.setCell (by simp) _).setCell (by simp) _).setCell (by simp) _).setCell (by simp) _) _
      · have HM : Hid (¬ (a = 2 ∧ r = 2)) := hm
        by_cases ha : a = 2
        · have hr : (2 == r) = false := by rw [beq_eq_false_iff_ne]; intro e; exact hm ⟨ha, e.symm⟩
          subst ha
          clear hm
          go_wp2
          go_roundw
          case rel => exact ⟨5, by omega, rfl, below_more HB.out _, heap_more HI.out _, heap_more HR.out _, notS_more HN0.out HM.out⟩
          case measure => simp [intOf]
        · have ha' : (2 == a) = false := by rw [beq_eq_false_iff_ne]; exact Ne.symm ha
          clear hm ha
          go_wp2
          all_goals
            go_roundw
            case rel => exact ⟨5, by omega, rfl, below_more HB.out _, heap_more HI.out _, heap_more HR.out _, notS_more HN0.out HM.out⟩
            case measure => simp [intOf]
    · have hi := short_i5
      by_cases hm : a = 3 ∧ r = 2
      · obtain ⟨rfl, rfl⟩ := hm
        go_wp2
        refine bodyPost_ret (results_cell_row Tryd.results52 _ _ (w.heap.size + 1) 43 #[.int .i64 5, .int .i64 0, .int .i64 8, .bool false] (0, 0) _ rfl (heap_more (heap_set (heap_set (heap_set (heap_set HR.out 0 _) 1 _) 2 _) 3 _) _) Tryd.underlying43 rfl (by kernel_rfl)) rfl ⟨rfl, ?_⟩
        exact below_more ((((HB.out.setCell (by simp) _).setCell (by simp) _).setCell (by simp) _).setCell (by simp) _) _
      · have HM : Hid (¬ (a = 3 ∧ r = 2)) := hm
        by_cases ha : a = 3
        · have hr : (2 == r) = false := by rw [beq_eq_false_iff_ne]; intro e; exact hm ⟨ha, e.symm⟩
          subst ha
          clear hm
          go_wp2
          go_roundw
          case rel => exact ⟨6, by omega, rfl, below_more HB.out _, heap_more HI.out _, heap_more HR.out _, notS_more HN0.out HM.out⟩
          case measure => simp [intOf]
        · have ha' : (3 == a) = false := by rw [beq_eq_false_iff_ne]; exact Ne.symm ha
          clear hm ha
          go_wp2
          all_goals
            go_roundw
            case rel => exact ⟨6, by omega, rfl, below_more HB.out _, heap_more HI.out _, heap_more HR.out _, notS_more HN0.out HM.out⟩
            case measure => simp [intOf]
    · have HF : Hid (_ = _) := srcT_not HN0.out
      by_cases hm : a = 3 ∧ r = 0
      · obtain ⟨rfl, rfl⟩ := hm
        go_wp2
        refine bodyPost_ret (results_cell_row Tryd.results52 _ _ (w.heap.size + 1) 43 #[.int .i64 5, .int .i64 0, .int .i64 0, .bool true] (0, 0) _ rfl (heap_set (heap_set (heap_set (heap_set HR.out 0 _) 1 _) 2 _) 3 _) Tryd.underlying43 rfl (by kernel_rfl)) rfl ⟨rfl, ?_⟩
        exact (((HB.out.setCell (by simp) _).setCell (by simp) _).setCell (by simp) _).setCell (by simp) _
      · have HE : Hid (srcT a r = ((dstT a r).1, (dstT a r).2, 0, false)) := by show _ = _; rw [HF.out, if_neg hm]
        by_cases ha : a = 3
        · have hr : (r == 0) = false := by rw [beq_eq_false_iff_ne]; intro e; exact hm ⟨ha, e⟩
          have hr' : (0 == r) = false := by rw [beq_eq_false_iff_ne]; intro e; exact hm ⟨ha, e.symm⟩
          have ha' : (a == 3) = true := by simpa using ha
          clear hm ha
          go_wp2_with fail
          refine (dstOf_any a r _ h0 h3).mono ?_
          rintro e x2 ⟨rfl, hb⟩
          have HR2 : Hid (_ = _) := heap_keep HR.out hb
          have HB2 : Hid (Below w.heap.size w x2) := below_call HB.out hb
          clear hb q0 q1 q2 q3 f0 f1 f2 f3
          obtain ⟨q0, q1, q2, q3⟩ := cells4h HR2.out
          have f0 := frozen_of_row _ _ 0 _ _ HR2.out
          have f1 := frozen_of_row _ _ 1 _ _ HR2.out
          have f2 := frozen_of_row _ _ 2 _ _ HR2.out
          have f3 := frozen_of_row _ _ 3 _ _ HR2.out
          go_wp2
          refine bodyPost_ret (results_cell_row Tryd.results52 _ _ (w.heap.size + 1) 43 #[.int .i64 (dstT a r).1, .int .i64 (dstT a r).2, .int .i64 0, .bool false] (0, 0) _ rfl (heap_set (heap_set (heap_set (heap_set HR2.out 0 _) 1 _) 2 _) 3 _) Tryd.underlying43 rfl (by kernel_rfl)) rfl ⟨by rw [HE.out], ?_⟩
          exact (((HB2.out.setCell (by simp) _).setCell (by simp) _).setCell (by simp) _).setCell (by simp) _
        · have ha' : (a == 3) = false := by rw [beq_eq_false_iff_ne]; exact ha
          clear hm ha
          go_wp2_with fail
          refine (dstOf_any a r _ h0 h3).mono ?_
          rintro e x2 ⟨rfl, hb⟩
          have HR2 : Hid (_ = _) := heap_keep HR.out hb
          have HB2 : Hid (Below w.heap.size w x2) := below_call HB.out hb
          clear hb q0 q1 q2 q3 f0 f1 f2 f3
          obtain ⟨q0, q1, q2, q3⟩ := cells4h HR2.out
          have f0 := frozen_of_row _ _ 0 _ _ HR2.out
          have f1 := frozen_of_row _ _ 1 _ _ HR2.out
          have f2 := frozen_of_row _ _ 2 _ _ HR2.out
          have f3 := frozen_of_row _ _ 3 _ _ HR2.out
          go_wp2
          refine bodyPost_ret (results_cell_row Tryd.results52 _ _ (w.heap.size + 1) 43 #[.int .i64 (dstT a r).1, .int .i64 (dstT a r).2, .int .i64 0, .bool false] (0, 0) _ rfl (heap_set (heap_set (heap_set (heap_set HR2.out 0 _) 1 _) 2 _) 3 _) Tryd.underlying43 rfl (by kernel_rfl)) rfl ⟨by rw [HE.out], ?_⟩
          exact (((HB2.out.setCell (by simp) _).setCell (by simp) _).setCell (by simp) _).setCell (by simp) _
end Go.Proofs.YtknielpkmablkaaDoor
