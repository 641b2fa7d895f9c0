/- Instructions: l02First of the specification: two operands. -/
import Derived.Test.YtknielpkmablkaaDoorRows
import Derived.WalkKit
import Derived.WalkSpells
import Derived.WalkLawsBesides
import Derived.Outline
import Derived.Deep.RegionHeld3
import Derived.Test.YtknielpkmablkaaDoorBun0
import Derived.Test.YtknielpkmablkaaDoorBun1
import Derived.Test.YtknielpkmablkaaDoorBun4
import Derived.Test.YtknielpkmablkaaDoorBun20
import Derived.Test.YtknielpkmablkaaDoorBun15
import Derived.Test.YtknielpkmablkaaDoorIsaD3X
import Derived.Test.YtknielpkmablkaaDoorIsaD9X
namespace Go.Proofs.YtknielpkmablkaaDoor
open Go.RowKit
set_option linter.unusedVariables false

theorem twos_cell {W : World} {B : Nat} (h : W.heap[B]? = some (.cells (twosL.map Value.string).toArray 9)) (k : Nat) (hk : k < 12) : W.cell? ⟨B, k, none⟩ = some (.string (nameAt (4 + k))) := by
  rw [cell_of_row W _ k _ _ _ h]
  have : k = 0 ∨ k = 1 ∨ k = 2 ∨ k = 3 ∨ k = 4 ∨ k = 5 ∨ k = 6 ∨ k = 7 ∨ k = 8 ∨ k = 9 ∨ k = 10 ∨ k = 11 := by omega
  rcases this with rfl | rfl | rfl | rfl | rfl | rfl | rfl | rfl | rfl | rfl | rfl | rfl <;> rfl
def twoIns (K : Nat) (b : Bool) (m r n m2 r2 n2 : Int) : Ins := { zeroIns with op := nameAt (4 + K), b := b, m := m, r := r, n := n, m2 := m2, r2 := r2, n2 := n2 }
theorem four_sets {W : World} {B : Nat} {cs : Array Value} {t : TypeId} (h : W.heap[B]? = some (.cells cs t (0, 0))) (i : Nat) (a b c d : Value) : ((((W.setCell ⟨B, i, none⟩ a).setCell ⟨B, i + 1, none⟩ b).setCell ⟨B, i + 2, none⟩ c).setCell ⟨B, i + 3, none⟩ d).heap[B]? = some (.cells ((((cs.setIfInBounds i a).setIfInBounds (i + 1) b).setIfInBounds (i + 2) c).setIfInBounds (i + 3) d) t (0, 0)) :=
  heap_set (heap_set (heap_set (heap_set h i a) (i + 1) b) (i + 2) c) (i + 3) d
theorem four_far {W : World} {g B : Nat} {o : Obj} (h : W.heap[B]? = some o) (hne : B ≠ g) (i : Nat) (a b c d : Value) : ((((W.setCell ⟨g, i, none⟩ a).setCell ⟨g, i + 1, none⟩ b).setCell ⟨g, i + 2, none⟩ c).setCell ⟨g, i + 3, none⟩ d).heap[B]? = some o :=
  set_far hne (set_far hne (set_far hne (set_far hne h)))
theorem four_below {B : Nat} {v W : World} (h : Below B v W) {g : Nat} (hg : B ≤ g) (i : Nat) (a b c d : Value) : Below B v ((((W.setCell ⟨g, i, none⟩ a).setCell ⟨g, i + 1, none⟩ b).setCell ⟨g, i + 2, none⟩ c).setCell ⟨g, i + 3, none⟩ d) :=
  (((h.setCell hg _).setCell hg _).setCell hg _).setCell hg _
set_option maxRecDepth 100000 in
set_option maxHeartbeats 8000000 in
theorem first_two0 (word : Int) (K : Nat) (m r n : Int) (more : Bool) (w : World) (h0 : 16384 ≤ word) (h1 : word ≤ 65535) (hK : word / 4096 - 4 = (K : Int)) (hK8 : K < 12) (ho : opdT (word / 16 % 4) (word / 256 % 16) = (m, r, n, more)) (hd : word / 128 % 2 = 0) : Calls Tryd.prog 34 #[.int .i64 word] w fun e w' => e = .returned (.tuple #[.agg (twoIns K (word / 64 % 2 == 1) m r n 0 (word % 16) 0).vals, .int .i64 (if more then 1 else 0), .int .i64 0, .bool (twoIns K (word / 64 % 2 == 1) m r n 0 (word % 16) 0).right]) ∧ Below w.heap.size w w' := by
  have hd1 : (word / 128 % 2 == 1) = false := by rw [beq_eq_false_iff_ne]; omega
  have e1 : (word == 4864) = false := by rw [beq_eq_false_iff_ne]; omega
  have q1 : ¬ word < 16384 := by omega
  have q2 : ¬ word < 4096 := by omega
  have q3 : 4864 ≤ word := by omega
  have q4 : ¬ word < 8192 := by omega
  have q5 : 8192 ≤ word := by omega
  have f1 := quo_in word 4096 (by omega) (by omega) (by omega)
  have f1' := wr (word / 4096 - 4) (by omega) (by omega)
  have f3 := quo_in word 16 (by omega) (by omega) (by omega)
  have f4 := rem_in (word / 16) 4 (by omega)
  have f4' := rem_wr (word / 16) 4 (by omega) (by omega) (by omega)
  have f3b := quo_in word 256 (by omega) (by omega) (by omega)
  have f4b := rem_in (word / 256) 16 (by omega)
  have f4b' := rem_wr (word / 256) 16 (by omega) (by omega) (by omega)
  have f5 := rem_in word 16 (by omega)
  have f5' := rem_wr word 16 (by omega) (by omega) (by omega)
  have f6 := quo_in word 64 (by omega) (by omega) (by omega)
  have f7 := rem_in (word / 64) 2 (by omega)
  have f7' := rem_wr (word / 64) 2 (by omega) (by omega) (by omega)
  have f8 := quo_in word 128 (by omega) (by omega) (by omega)
  have f9 := rem_in (word / 128) 2 (by omega)
  have f9' := rem_wr (word / 128) 2 (by omega) (by omega) (by omega)
  have k0 : (0 : Int) ≤ (K : Int) := by omega
  have k1 : (K : Int) < 12 := by omega
  have a0 : 0 ≤ word / 16 % 4 := by omega
  have a1 : word / 16 % 4 ≤ 3 := by omega
  generalize hop : nameAt (4 + K) = op at *
  generalize hbb : (word / 64 % 2 == 1) = bb at *
  go_enter Tryd.func34, Tryd.ntmps34
  go_wp2_with fail
  refine (twos_b _).mono ?_
  rintro e x1 ⟨rfl, HT, hb⟩
  have HR1 : Hid (_ = _) := heap_keep (heap_more (heap_alloc_new w _) _) hb
  have HI1 : Hid (_ = _) := heap_keep (heap_new2 w _ _) hb
  have HB1 : Hid (Below w.heap.size w x1) := below_call (below_more (below_new _ _) _) hb
  have hc1 : x1.cell? ⟨w.heap.size + 1 + 1, K, none⟩ = some (.string op) := by
    have h := twos_cell HT.out K hK8
    rw [hop] at h
    simpa using h
  clear hb HT
  obtain ⟨d0, d1, d2, d3, d4, d5, d6, d7, d8, d9, d10⟩ := cells11 HI1.out
  have z0 := frozen_of_row _ _ 0 _ _ HI1.out
  go_wp2_with fail
  refine (l02Operand_any (word / 16 % 4) (word / 256 % 16) _ a0 a1).mono ?_
  rintro e x2 ⟨rfl, hb⟩
  rw [ho]
  have HR2 : Hid (_ = _) := heap_keep (heap_set_other HR1.out _ (by simp) _) hb
  have HI2 : Hid (_ = _) := heap_keep (heap_set HI1.out _ _) hb
  have HB2 : Hid (Below w.heap.size w x2) := below_call (HB1.out.setCell (by simp) _) hb
  simp only [List.setIfInBounds_toArray, List.set_cons_zero] at HI2
  clear hb hc1 d0 d1 d2 d3 d4 d5 d6 d7 d8 d9 d10 z0
  obtain ⟨d0, d1, d2, d3, d4, d5, d6, d7, d8, d9, d10⟩ := cells11 HI2.out
  have z2 := frozen_of_row _ _ 2 _ _ HI2.out
  have z3 := frozen_of_row _ _ 3 _ _ HI2.out
  have z4 := frozen_of_row _ _ 4 _ _ HI2.out
  have z5 := frozen_of_row _ _ 5 _ _ HI2.out
  have z6 := frozen_of_row _ _ 6 _ _ HI2.out
  have z7 := frozen_of_row _ _ 7 _ _ HI2.out
  have z8 := frozen_of_row _ _ 8 _ _ HI2.out
  have z9 := frozen_of_row _ _ 9 _ _ HI2.out
  cases more
  all_goals
    go_wp2_with fail
    have HI3 : Hid (_ = _) := four_sets (four_sets HI2.out 2 (.int .i64 m) (.int .i64 r) (.int .i64 n) (.bool false)) 6 (.int .i64 0) (.int .i64 (word % 16)) (.int .i64 0) (.bool false)
    have HR3 : Hid (_ = _) := four_far (four_far HR2.out (Nat.ne_of_lt (Nat.lt_succ_self _)) 2 (.int .i64 m) (.int .i64 r) (.int .i64 n) (.bool false)) (Nat.ne_of_lt (Nat.lt_succ_self _)) 6 (.int .i64 0) (.int .i64 (word % 16)) (.int .i64 0) (.bool false)
    have HB3 : Hid (Below w.heap.size w ((((((((x2.setCell ⟨w.heap.size + 1, 2, none⟩ (.int .i64 m)).setCell ⟨w.heap.size + 1, 3, none⟩ (.int .i64 r)).setCell ⟨w.heap.size + 1, 4, none⟩ (.int .i64 n)).setCell ⟨w.heap.size + 1, 5, none⟩ (.bool false)).setCell ⟨w.heap.size + 1, 6, none⟩ (.int .i64 0)).setCell ⟨w.heap.size + 1, 7, none⟩ (.int .i64 (word % 16))).setCell ⟨w.heap.size + 1, 8, none⟩ (.int .i64 0)).setCell ⟨w.heap.size + 1, 9, none⟩ (.bool false))) := four_below (four_below HB2.out (Nat.le_succ _) 2 (.int .i64 m) (.int .i64 r) (.int .i64 n) (.bool false)) (Nat.le_succ _) 6 (.int .i64 0) (.int .i64 (word % 16)) (.int .i64 0) (.bool false)
    simp only [List.setIfInBounds_toArray, List.set_cons_zero, List.set_cons_succ, Nat.reduceAdd] at HI3 HR3
    clear d0 d1 d2 d3 d4 d5 d6 d7 d8 d9 d10 z2 z3 z4 z5 z6 z7 z8 z9 HI2 HR2 HB2
    generalize ((((((((x2.setCell ⟨w.heap.size + 1, 2, none⟩ (.int .i64 m)).setCell ⟨w.heap.size + 1, 3, none⟩ (.int .i64 r)).setCell ⟨w.heap.size + 1, 4, none⟩ (.int .i64 n)).setCell ⟨w.heap.size + 1, 5, none⟩ (.bool false)).setCell ⟨w.heap.size + 1, 6, none⟩ (.int .i64 0)).setCell ⟨w.heap.size + 1, 7, none⟩ (.int .i64 (word % 16))).setCell ⟨w.heap.size + 1, 8, none⟩ (.int .i64 0)).setCell ⟨w.heap.size + 1, 9, none⟩ (.bool false)) = x3 at *
    go_region_held3 (fun w' => w'.cell? ⟨w.heap.size + 1, 0, none⟩ = some (.string op) ∧ w'.cell? ⟨w.heap.size + 1, 1, none⟩ = some (.bool bb) ∧ w'.cell? ⟨w.heap.size + 1, 2, none⟩ = some (.int .i64 m) ∧ w'.cell? ⟨w.heap.size + 1, 3, none⟩ = some (.int .i64 r) ∧ w'.cell? ⟨w.heap.size + 1, 4, none⟩ = some (.int .i64 n) ∧ w'.cell? ⟨w.heap.size + 1, 5, none⟩ = some (.bool false) ∧ w'.cell? ⟨w.heap.size + 1, 6, none⟩ = some (.int .i64 0) ∧ w'.cell? ⟨w.heap.size + 1, 7, none⟩ = some (.int .i64 (word % 16)) ∧ w'.cell? ⟨w.heap.size + 1, 8, none⟩ = some (.int .i64 0) ∧ w'.cell? ⟨w.heap.size + 1, 9, none⟩ = some (.bool false) ∧ w'.cell? ⟨w.heap.size + 1, 10, none⟩ = some (.int .i64 0)) (exact cells11 (by repeat (first | with_reducible exact HI4.out | with_reducible exact HI3.out | with_reducible apply heap_drewn | (with_reducible refine far_eleven (Nat.succ_ne_self _) ?_)))) (first
      | (go_at_call 51; refine (specRight_any op bb m r n false 0 (word % 16) 0 false 0 _).mono ?_; rintro e x4 ⟨rfl, hb⟩; have HI4 : Hid (_ = _) := heap_keep (by repeat (first | with_reducible exact HI3.out | with_reducible apply heap_drewn)) hb; have HR4 : Hid (_ = _) := heap_keep (by repeat (first | with_reducible exact HR3.out | with_reducible apply heap_drewn)) hb; have HB4 : Hid (Below w.heap.size w x4) := below_call (by repeat (first | with_reducible exact HB3.out | with_reducible refine Below.drew ?_)) hb; clear hb; obtain ⟨r0, r1, r2', r3, r4, r5, r6, r7, r8, r9, r10⟩ := cells11 HR4.out; have y0 := frozen_of_row _ _ 0 _ _ HR4.out; have y1 := frozen_of_row _ _ 1 _ _ HR4.out; have y2 := frozen_of_row _ _ 2 _ _ HR4.out; have y3 := frozen_of_row _ _ 3 _ _ HR4.out; have y4 := frozen_of_row _ _ 4 _ _ HR4.out; have y5 := frozen_of_row _ _ 5 _ _ HR4.out; have y6 := frozen_of_row _ _ 6 _ _ HR4.out; have y7 := frozen_of_row _ _ 7 _ _ HR4.out; have y8 := frozen_of_row _ _ 8 _ _ HR4.out; have y9 := frozen_of_row _ _ 9 _ _ HR4.out; have y10 := frozen_of_row _ _ 10 _ _ HR4.out; skip))
    go_wp2
    exact bodyPost_ret (results_row3 Tryd.results34 _ _ w.heap.size 45 _ (0, 0) _ rfl (set_eleven HR4.out) Tryd.underlying45 rfl (by kernel_rfl)) rfl ⟨by subst hop; rfl, below_eleven (Nat.le_refl _) HB4.out⟩
set_option maxRecDepth 100000 in
set_option maxHeartbeats 8000000 in
theorem first_two1 (word : Int) (K : Nat) (m r n : Int) (more : Bool) (m2 r2 n2 : Int) (beh : Bool) (w : World) (h0 : 16384 ≤ word) (h1 : word ≤ 65535) (hK : word / 4096 - 4 = (K : Int)) (hK8 : K < 12) (ho : opdT (word / 16 % 4) (word / 256 % 16) = (m, r, n, more)) (hd : word / 128 % 2 = 1) (ho2 : opdT 1 (word % 16) = (m2, r2, n2, beh)) : Calls Tryd.prog 34 #[.int .i64 word] w fun e w' => e = .returned (.tuple #[.agg (twoIns K (word / 64 % 2 == 1) m r n m2 r2 n2).vals, .int .i64 (if more then 1 else 0), .int .i64 (if beh then 1 else 0), .bool (twoIns K (word / 64 % 2 == 1) m r n m2 r2 n2).right]) ∧ Below w.heap.size w w' := by
  have hd1 : (word / 128 % 2 == 1) = true := by rw [beq_iff_eq]; omega
  have e1 : (word == 4864) = false := by rw [beq_eq_false_iff_ne]; omega
  have q1 : ¬ word < 16384 := by omega
  have q2 : ¬ word < 4096 := by omega
  have q3 : 4864 ≤ word := by omega
  have q4 : ¬ word < 8192 := by omega
  have q5 : 8192 ≤ word := by omega
  have f1 := quo_in word 4096 (by omega) (by omega) (by omega)
  have f1' := wr (word / 4096 - 4) (by omega) (by omega)
  have f3 := quo_in word 16 (by omega) (by omega) (by omega)
  have f4 := rem_in (word / 16) 4 (by omega)
  have f4' := rem_wr (word / 16) 4 (by omega) (by omega) (by omega)
  have f3b := quo_in word 256 (by omega) (by omega) (by omega)
  have f4b := rem_in (word / 256) 16 (by omega)
  have f4b' := rem_wr (word / 256) 16 (by omega) (by omega) (by omega)
  have f5 := rem_in word 16 (by omega)
  have f5' := rem_wr word 16 (by omega) (by omega) (by omega)
  have f6 := quo_in word 64 (by omega) (by omega) (by omega)
  have f7 := rem_in (word / 64) 2 (by omega)
  have f7' := rem_wr (word / 64) 2 (by omega) (by omega) (by omega)
  have f8 := quo_in word 128 (by omega) (by omega) (by omega)
  have f9 := rem_in (word / 128) 2 (by omega)
  have f9' := rem_wr (word / 128) 2 (by omega) (by omega) (by omega)
  have k0 : (0 : Int) ≤ (K : Int) := by omega
  have k1 : (K : Int) < 12 := by omega
  have a0 : 0 ≤ word / 16 % 4 := by omega
  have a1 : word / 16 % 4 ≤ 3 := by omega
  generalize hop : nameAt (4 + K) = op at *
  generalize hbb : (word / 64 % 2 == 1) = bb at *
  go_enter Tryd.func34, Tryd.ntmps34
  go_wp2_with fail
  refine (twos_b _).mono ?_
  rintro e x1 ⟨rfl, HT, hb⟩
  have HR1 : Hid (_ = _) := heap_keep (heap_more (heap_alloc_new w _) _) hb
  have HI1 : Hid (_ = _) := heap_keep (heap_new2 w _ _) hb
  have HB1 : Hid (Below w.heap.size w x1) := below_call (below_more (below_new _ _) _) hb
  have hc1 : x1.cell? ⟨w.heap.size + 1 + 1, K, none⟩ = some (.string op) := by
    have h := twos_cell HT.out K hK8
    rw [hop] at h
    simpa using h
  clear hb HT
  obtain ⟨d0, d1, d2, d3, d4, d5, d6, d7, d8, d9, d10⟩ := cells11 HI1.out
  have z0 := frozen_of_row _ _ 0 _ _ HI1.out
  go_wp2_with fail
  refine (l02Operand_any (word / 16 % 4) (word / 256 % 16) _ a0 a1).mono ?_
  rintro e x2 ⟨rfl, hb⟩
  rw [ho]
  have HR2 : Hid (_ = _) := heap_keep (heap_set_other HR1.out _ (by simp) _) hb
  have HI2 : Hid (_ = _) := heap_keep (heap_set HI1.out _ _) hb
  have HB2 : Hid (Below w.heap.size w x2) := below_call (HB1.out.setCell (by simp) _) hb
  simp only [List.setIfInBounds_toArray, List.set_cons_zero] at HI2
  clear hb hc1 d0 d1 d2 d3 d4 d5 d6 d7 d8 d9 d10 z0
  obtain ⟨d0, d1, d2, d3, d4, d5, d6, d7, d8, d9, d10⟩ := cells11 HI2.out
  have z2 := frozen_of_row _ _ 2 _ _ HI2.out
  have z3 := frozen_of_row _ _ 3 _ _ HI2.out
  have z4 := frozen_of_row _ _ 4 _ _ HI2.out
  have z5 := frozen_of_row _ _ 5 _ _ HI2.out
  have z6 := frozen_of_row _ _ 6 _ _ HI2.out
  have z7 := frozen_of_row _ _ 7 _ _ HI2.out
  have z8 := frozen_of_row _ _ 8 _ _ HI2.out
  have z9 := frozen_of_row _ _ 9 _ _ HI2.out
  cases more
  all_goals
    go_wp2_with fail
    refine (l02Operand_any 1 (word % 16) _ (by omega) (by omega)).mono ?_
    rintro e x3 ⟨rfl, hb⟩
    rw [ho2]
    have HI3 : Hid (_ = _) := heap_keep (four_sets (four_sets HI2.out 2 (.int .i64 m) (.int .i64 r) (.int .i64 n) (.bool false)) 6 (.int .i64 0) (.int .i64 (word % 16)) (.int .i64 0) (.bool false)) hb
    have HR3 : Hid (_ = _) := heap_keep (four_far (four_far HR2.out (Nat.ne_of_lt (Nat.lt_succ_self _)) 2 (.int .i64 m) (.int .i64 r) (.int .i64 n) (.bool false)) (Nat.ne_of_lt (Nat.lt_succ_self _)) 6 (.int .i64 0) (.int .i64 (word % 16)) (.int .i64 0) (.bool false)) hb
    have HB3 : Hid (Below w.heap.size w x3) := below_call (four_below (four_below HB2.out (Nat.le_succ _) 2 (.int .i64 m) (.int .i64 r) (.int .i64 n) (.bool false)) (Nat.le_succ _) 6 (.int .i64 0) (.int .i64 (word % 16)) (.int .i64 0) (.bool false)) hb
    simp only [List.setIfInBounds_toArray, List.set_cons_zero, List.set_cons_succ, Nat.reduceAdd] at HI3
    clear hb d0 d1 d2 d3 d4 d5 d6 d7 d8 d9 d10 z2 z3 z4 z5 z6 z7 z8 z9 HI2 HR2 HB2
    obtain ⟨d0, d1, d2, d3, d4, d5, d6, d7, d8, d9, d10⟩ := cells11 HI3.out
    have z6 := frozen_of_row _ _ 6 _ _ HI3.out
    have z7 := frozen_of_row _ _ 7 _ _ HI3.out
    have z8 := frozen_of_row _ _ 8 _ _ HI3.out
    have z9 := frozen_of_row _ _ 9 _ _ HI3.out
    cases beh
  all_goals
    go_wp2_with fail
    have HI5 : Hid (_ = _) := four_sets HI3.out 6 (.int .i64 m2) (.int .i64 r2) (.int .i64 n2) (.bool false)
    have HR5 : Hid (_ = _) := four_far HR3.out (Nat.ne_of_lt (Nat.lt_succ_self _)) 6 (.int .i64 m2) (.int .i64 r2) (.int .i64 n2) (.bool false)
    have HB5 : Hid (Below w.heap.size w ((((x3.setCell ⟨w.heap.size + 1, 6, none⟩ (.int .i64 m2)).setCell ⟨w.heap.size + 1, 7, none⟩ (.int .i64 r2)).setCell ⟨w.heap.size + 1, 8, none⟩ (.int .i64 n2)).setCell ⟨w.heap.size + 1, 9, none⟩ (.bool false))) := four_below HB3.out (Nat.le_succ _) 6 (.int .i64 m2) (.int .i64 r2) (.int .i64 n2) (.bool false)
    simp only [List.setIfInBounds_toArray, List.set_cons_zero, List.set_cons_succ, Nat.reduceAdd] at HI5 HR5
    clear d0 d1 d2 d3 d4 d5 d6 d7 d8 d9 d10 z6 z7 z8 z9 HI3 HR3 HB3
    generalize ((((x3.setCell ⟨w.heap.size + 1, 6, none⟩ (.int .i64 m2)).setCell ⟨w.heap.size + 1, 7, none⟩ (.int .i64 r2)).setCell ⟨w.heap.size + 1, 8, none⟩ (.int .i64 n2)).setCell ⟨w.heap.size + 1, 9, none⟩ (.bool false)) = x5 at *
    go_region_held3 (fun w' => w'.cell? ⟨w.heap.size + 1, 0, none⟩ = some (.string op) ∧ w'.cell? ⟨w.heap.size + 1, 1, none⟩ = some (.bool bb) ∧ w'.cell? ⟨w.heap.size + 1, 2, none⟩ = some (.int .i64 m) ∧ w'.cell? ⟨w.heap.size + 1, 3, none⟩ = some (.int .i64 r) ∧ w'.cell? ⟨w.heap.size + 1, 4, none⟩ = some (.int .i64 n) ∧ w'.cell? ⟨w.heap.size + 1, 5, none⟩ = some (.bool false) ∧ w'.cell? ⟨w.heap.size + 1, 6, none⟩ = some (.int .i64 m2) ∧ w'.cell? ⟨w.heap.size + 1, 7, none⟩ = some (.int .i64 r2) ∧ w'.cell? ⟨w.heap.size + 1, 8, none⟩ = some (.int .i64 n2) ∧ w'.cell? ⟨w.heap.size + 1, 9, none⟩ = some (.bool false) ∧ w'.cell? ⟨w.heap.size + 1, 10, none⟩ = some (.int .i64 0)) (exact cells11 (by repeat (first | with_reducible exact HI4.out | with_reducible exact HI5.out | with_reducible apply heap_drewn | (with_reducible refine far_eleven (Nat.succ_ne_self _) ?_)))) (first
      | (go_at_call 51; refine (specRight_any op bb m r n false m2 r2 n2 false 0 _).mono ?_; rintro e x4 ⟨rfl, hb⟩; have HI4 : Hid (_ = _) := heap_keep (by repeat (first | with_reducible exact HI5.out | with_reducible apply heap_drewn)) hb; have HR4 : Hid (_ = _) := heap_keep (by repeat (first | with_reducible exact HR5.out | with_reducible apply heap_drewn)) hb; have HB4 : Hid (Below w.heap.size w x4) := below_call (by repeat (first | with_reducible exact HB5.out | with_reducible refine Below.drew ?_)) hb; clear hb; obtain ⟨r0, r1, r2', r3, r4, r5, r6, r7, r8, r9, r10⟩ := cells11 HR4.out; have y0 := frozen_of_row _ _ 0 _ _ HR4.out; have y1 := frozen_of_row _ _ 1 _ _ HR4.out; have y2 := frozen_of_row _ _ 2 _ _ HR4.out; have y3 := frozen_of_row _ _ 3 _ _ HR4.out; have y4 := frozen_of_row _ _ 4 _ _ HR4.out; have y5 := frozen_of_row _ _ 5 _ _ HR4.out; have y6 := frozen_of_row _ _ 6 _ _ HR4.out; have y7 := frozen_of_row _ _ 7 _ _ HR4.out; have y8 := frozen_of_row _ _ 8 _ _ HR4.out; have y9 := frozen_of_row _ _ 9 _ _ HR4.out; have y10 := frozen_of_row _ _ 10 _ _ HR4.out; skip))
    go_wp2
    exact bodyPost_ret (results_row3 Tryd.results34 _ _ w.heap.size 45 _ (0, 0) _ rfl (set_eleven HR4.out) Tryd.underlying45 rfl (by kernel_rfl)) rfl ⟨by subst hop; rfl, below_eleven (Nat.le_refl _) HB4.out⟩
end Go.Proofs.YtknielpkmablkaaDoor
