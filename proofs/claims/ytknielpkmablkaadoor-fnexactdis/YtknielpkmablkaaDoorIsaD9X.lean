/- Instructions: l02First of the specification: one operand. -/
import Derived.Test.YtknielpkmablkaaDoorRows
import Derived.WalkKit
import Derived.WalkSpells
import Derived.WalkLawsBesides
import Derived.Outline
import Derived.Deep.RegionHeld3
import Derived.Test.YtknielpkmablkaaDoorBun0
import Derived.Test.YtknielpkmablkaaDoorBun1
import Derived.Test.YtknielpkmablkaaDoorBun4
import Derived.Test.YtknielpkmablkaaDoorBun20
import Derived.Test.YtknielpkmablkaaDoorBun15
import Derived.Test.YtknielpkmablkaaDoorIsaD3X
namespace Go.Proofs.YtknielpkmablkaaDoor
open Go.RowKit
set_option linter.unusedVariables false

theorem ones_cell {W : World} {B : Nat} (h : W.heap[B]? = some (.cells (onesL.map Value.string).toArray 9)) (k : Nat) (hk : k < 7) : W.cell? ⟨B, k, none⟩ = some (.string (nameAt (16 + k))) := by
  rw [cell_of_row W _ k _ _ _ h]
  have : k = 0 ∨ k = 1 ∨ k = 2 ∨ k = 3 ∨ k = 4 ∨ k = 5 ∨ k = 6 := by omega
  rcases this with rfl | rfl | rfl | rfl | rfl | rfl | rfl <;> rfl
theorem far_eleven {W : World} {g B : Nat} {o : Obj} {a0 a1 a2 a3 a4 a5 a6 a7 a8 a9 a10 : Value} (hne : B ≠ g) (h : W.heap[B]? = some o) : (((((((((((W.setCell ⟨g, 0, none⟩ a0).setCell ⟨g, 1, none⟩ a1).setCell ⟨g, 2, none⟩ a2).setCell ⟨g, 3, none⟩ a3).setCell ⟨g, 4, none⟩ a4).setCell ⟨g, 5, none⟩ a5).setCell ⟨g, 6, none⟩ a6).setCell ⟨g, 7, none⟩ a7).setCell ⟨g, 8, none⟩ a8).setCell ⟨g, 9, none⟩ a9).setCell ⟨g, 10, none⟩ a10).heap[B]? = some o :=
  set_far hne (set_far hne (set_far hne (set_far hne (set_far hne (set_far hne (set_far hne (set_far hne (set_far hne (set_far hne (set_far hne h))))))))))
def oneIns (K : Nat) (b : Bool) (o : Int × Int × Int × Bool) : Ins := { zeroIns with op := nameAt (16 + K), b := b, m := o.1, r := o.2.1, n := o.2.2.1 }
set_option maxRecDepth 100000 in
set_option maxHeartbeats 8000000 in
theorem first_one (word : Int) (K : Nat) (m r n : Int) (more : Bool) (w : World) (h0 : 4096 ≤ word) (h1 : word < 4864) (hK : word / 128 % 8 = (K : Int)) (hK8 : K < 7) (ho : opdT (word / 16 % 4) (word % 16) = (m, r, n, more)) : Calls Tryd.prog 34 #[.int .i64 word] w fun e w' => e = .returned (.tuple #[.agg (oneIns K (word / 64 % 2 == 1) (m, r, n, more)).vals, .int .i64 (if more then 1 else 0), .int .i64 0, .bool (oneIns K (word / 64 % 2 == 1) (m, r, n, more)).right]) ∧ Below w.heap.size w w' := by
  have e1 : (word == 4864) = false := by rw [beq_eq_false_iff_ne]; omega
  have n1 : ¬ 8192 ≤ word := by omega
  have n2 : ¬ word < 4096 := by omega
  have n3 : ¬ 4864 ≤ word := by omega
  have n4 : word < 8192 := by omega
  have f1 := quo_in word 128 (by omega) (by omega) (by omega)
  have f2 := rem_in (word / 128) 8 (by omega)
  have f2' := rem_wr (word / 128) 8 (by omega) (by omega) (by omega)
  have f3 := quo_in word 16 (by omega) (by omega) (by omega)
  have f4 := rem_in (word / 16) 4 (by omega)
  have f4' := rem_wr (word / 16) 4 (by omega) (by omega) (by omega)
  have f5 := rem_in word 16 (by omega)
  have f5' := rem_wr word 16 (by omega) (by omega) (by omega)
  have f6 := quo_in word 64 (by omega) (by omega) (by omega)
  have f7 := rem_in (word / 64) 2 (by omega)
  have f7' := rem_wr (word / 64) 2 (by omega) (by omega) (by omega)
  have k0 : (0 : Int) ≤ (K : Int) := by omega
  have k1 : (K : Int) < 7 := by omega
  have a0 : 0 ≤ word / 16 % 4 := by omega
  have a1 : word / 16 % 4 ≤ 3 := by omega
  generalize hop : nameAt (16 + K) = op at *
  go_enter Tryd.func34, Tryd.ntmps34
  go_wp2_with fail
  refine (ones_b _).mono ?_
  rintro e x1 ⟨rfl, HT, hb⟩
  have HR1 : Hid (_ = _) := heap_keep (heap_more (heap_alloc_new w _) _) hb
  have HI1 : Hid (_ = _) := heap_keep (heap_new2 w _ _) hb
  have HB1 : Hid (Below w.heap.size w x1) := below_call (below_more (below_new _ _) _) hb
  have hc1 : x1.cell? ⟨w.heap.size + 1 + 1, K, none⟩ = some (.string op) := by
    have h := ones_cell HT.out K hK8
    rw [hop] at h
    simpa using h
  clear hb HT
  obtain ⟨d0, d1, d2, d3, d4, d5, d6, d7, d8, d9, d10⟩ := cells11 HI1.out
  have z0 := frozen_of_row _ _ 0 _ _ HI1.out
  go_wp2_with fail
  refine (l02Operand_any (word / 16 % 4) (word % 16) _ a0 a1).mono ?_
  rintro e x2 ⟨rfl, hb⟩
  rw [ho]
  have HR2 : Hid (_ = _) := heap_keep (heap_set_other HR1.out _ (by simp) _) hb
  have HI2 : Hid (_ = _) := heap_keep (heap_set HI1.out _ _) hb
  have HB2 : Hid (Below w.heap.size w x2) := below_call (HB1.out.setCell (by simp) _) hb
  simp only [List.setIfInBounds_toArray, List.set_cons_zero] at HI2
  clear hb hc1 d0 d1 d2 d3 d4 d5 d6 d7 d8 d9 d10 z0
  obtain ⟨d0, d1, d2, d3, d4, d5, d6, d7, d8, d9, d10⟩ := cells11 HI2.out
  have z2 := frozen_of_row _ _ 2 _ _ HI2.out
  have z3 := frozen_of_row _ _ 3 _ _ HI2.out
  have z4 := frozen_of_row _ _ 4 _ _ HI2.out
  have z5 := frozen_of_row _ _ 5 _ _ HI2.out
  generalize hbb : (word / 64 % 2 == 1) = bb at *
  cases more
  all_goals
    go_wp2_with fail
    have HI3 : Hid (_ = _) := heap_set (heap_set (heap_set (heap_set HI2.out 2 (.int .i64 m)) 3 (.int .i64 r)) 4 (.int .i64 n)) 5 (.bool false)
    have HR3 : Hid (_ = _) := heap_set_other (heap_set_other (heap_set_other (heap_set_other HR2.out ⟨w.heap.size + 1, 2, none⟩ (by simp) (.int .i64 m)) ⟨w.heap.size + 1, 3, none⟩ (by simp) (.int .i64 r)) ⟨w.heap.size + 1, 4, none⟩ (by simp) (.int .i64 n)) ⟨w.heap.size + 1, 5, none⟩ (by simp) (.bool false)
    have HB3 : Hid (Below w.heap.size w ((((x2.setCell ⟨w.heap.size + 1, 2, none⟩ (.int .i64 m)).setCell ⟨w.heap.size + 1, 3, none⟩ (.int .i64 r)).setCell ⟨w.heap.size + 1, 4, none⟩ (.int .i64 n)).setCell ⟨w.heap.size + 1, 5, none⟩ (.bool false))) := (((HB2.out.setCell (by simp) _).setCell (by simp) _).setCell (by simp) _).setCell (by simp) _
    simp only [List.setIfInBounds_toArray, List.set_cons_zero, List.set_cons_succ] at HI3
    clear d0 d1 d2 d3 d4 d5 d6 d7 d8 d9 d10 z2 z3 z4 z5 HI2 HR2 HB2
    generalize (((x2.setCell ⟨w.heap.size + 1, 2, none⟩ (.int .i64 m)).setCell ⟨w.heap.size + 1, 3, none⟩ (.int .i64 r)).setCell ⟨w.heap.size + 1, 4, none⟩ (.int .i64 n)).setCell ⟨w.heap.size + 1, 5, none⟩ (.bool false) = x3 at *
    go_region_held3 (fun w' => w'.cell? ⟨w.heap.size + 1, 0, none⟩ = some (.string op) ∧ w'.cell? ⟨w.heap.size + 1, 1, none⟩ = some (.bool bb) ∧ w'.cell? ⟨w.heap.size + 1, 2, none⟩ = some (.int .i64 m) ∧ w'.cell? ⟨w.heap.size + 1, 3, none⟩ = some (.int .i64 r) ∧ w'.cell? ⟨w.heap.size + 1, 4, none⟩ = some (.int .i64 n) ∧ w'.cell? ⟨w.heap.size + 1, 5, none⟩ = some (.bool false) ∧ w'.cell? ⟨w.heap.size + 1, 6, none⟩ = some (.int .i64 0) ∧ w'.cell? ⟨w.heap.size + 1, 7, none⟩ = some (.int .i64 0) ∧ w'.cell? ⟨w.heap.size + 1, 8, none⟩ = some (.int .i64 0) ∧ w'.cell? ⟨w.heap.size + 1, 9, none⟩ = some (.bool false) ∧ w'.cell? ⟨w.heap.size + 1, 10, none⟩ = some (.int .i64 0)) (exact cells11 (by repeat (first | with_reducible exact HI4.out | with_reducible exact HI3.out | with_reducible apply heap_drewn | (with_reducible refine far_eleven (Nat.succ_ne_self _) ?_)))) (first
      | (go_at_call 51; refine (specRight_any op bb m r n false 0 0 0 false 0 _).mono ?_; rintro e x4 ⟨rfl, hb⟩; have HI4 : Hid (_ = _) := heap_keep (by repeat (first | with_reducible exact HI3.out | with_reducible apply heap_drewn)) hb; have HR4 : Hid (_ = _) := heap_keep (by repeat (first | with_reducible exact HR3.out | with_reducible apply heap_drewn)) hb; have HB4 : Hid (Below w.heap.size w x4) := below_call (by repeat (first | with_reducible exact HB3.out | with_reducible refine Below.drew ?_)) hb; clear hb; obtain ⟨r0, r1, r2, r3, r4, r5, r6, r7, r8, r9, r10⟩ := cells11 HR4.out; have y0 := frozen_of_row _ _ 0 _ _ HR4.out; have y1 := frozen_of_row _ _ 1 _ _ HR4.out; have y2 := frozen_of_row _ _ 2 _ _ HR4.out; have y3 := frozen_of_row _ _ 3 _ _ HR4.out; have y4 := frozen_of_row _ _ 4 _ _ HR4.out; have y5 := frozen_of_row _ _ 5 _ _ HR4.out; have y6 := frozen_of_row _ _ 6 _ _ HR4.out; have y7 := frozen_of_row _ _ 7 _ _ HR4.out; have y8 := frozen_of_row _ _ 8 _ _ HR4.out; have y9 := frozen_of_row _ _ 9 _ _ HR4.out; have y10 := frozen_of_row _ _ 10 _ _ HR4.out; skip))
    go_wp2
    exact bodyPost_ret (results_row3 Tryd.results34 _ _ w.heap.size 45 _ (0, 0) _ rfl (set_eleven HR4.out) Tryd.underlying45 rfl (by kernel_rfl)) rfl ⟨by subst hop; rfl, below_eleven (Nat.le_refl _) HB4.out⟩
end Go.Proofs.YtknielpkmablkaaDoor
