/- Instructions: InsnRight of the specification. -/
import Derived.Test.YtdokiccfjbieiaaDoorRows
import Derived.WalkKit
import Derived.WalkSpells
import Derived.WalkLawsBesides
import Derived.RegionTactic
import Derived.BigRegion
import Derived.Outline
import Derived.Deep.RegionWith
import Derived.Deep.RegionHeld3
import Derived.Test.YtdokiccfjbieiaaDoorBun0
import Derived.Test.YtdokiccfjbieiaaDoorBun6
import Derived.Test.YtdokiccfjbieiaaDoorIsaQX
import Derived.Test.YtdokiccfjbieiaaDoorBun24
import Derived.Test.YtdokiccfjbieiaaDoorBun25
import Derived.Test.YtdokiccfjbieiaaDoorBun21
import Derived.Test.YtdokiccfjbieiaaDoorIsaD3X
namespace Go.Proofs.YtdokiccfjbieiaaDoor
open Go.RowKit
set_option linter.unusedVariables false

set_option maxRecDepth 100000 in
set_option maxHeartbeats 4000000 in
theorem right_one (k1 k2 k3 : Int) (op : ByteArray) (b : Bool) (m r n : Int) (l : Bool) (m2 r2 n2 : Int) (l2 : Bool) (j : Int) (w : World) (HK1 : Hid (atI twosL op = k1)) (HK2 : Hid (atI jumpsL op = k2)) (HK3 : Hid (atI onesL op = k3)) (p q s t : Bool) (h1 : ¬ 0 ≤ k1) (h2 : ¬ 0 ≤ k2) (h3 : (op.toList == [114, 101, 116, 105]) = false) (h4 : decide (k3 < 0) = false) (hs : srcB m r n l = true) (hz : zeroB m2 r2 n2 l2 = true) (hj : (j == 0) = true) (hp : (op.toList == [112, 117, 115, 104]) = p) (hq : (op.toList == [99, 97, 108, 108]) = q) (hw : (op.toList == [115, 119, 112, 98]) = s) (ht : (op.toList == [115, 120, 116]) = t) :
    Calls Tryd.prog 18 #[.agg #[.string op, .bool b, .int .i64 m, .int .i64 r, .int .i64 n, .bool l, .int .i64 m2, .int .i64 r2, .int .i64 n2, .bool l2, .int .i64 j]] w fun e w' => e = .returned (.bool ((p || q || m != 5) && !((s || t || q) && b))) ∧ Below w.heap.size w w' := by
  go_enter Tryd.func18, Tryd.ntmps18
  go_wp2_with fail
  have HI0 : Hid (_ = _) := heap_alloc_new w (.cells #[.string op, .bool b, .int .i64 m, .int .i64 r, .int .i64 n, .bool l, .int .i64 m2, .int .i64 r2, .int .i64 n2, .bool l2, .int .i64 j] 37)
  have HB0 : Hid (Below w.heap.size w _) := (Below.refl _ _).alloc (Nat.le_refl _) (.cells #[.string op, .bool b, .int .i64 m, .int .i64 r, .int .i64 n, .bool l, .int .i64 m2, .int .i64 r2, .int .i64 n2, .bool l2, .int .i64 j] 37)
  generalize w.alloc (.cells #[.string op, .bool b, .int .i64 m, .int .i64 r, .int .i64 n, .bool l, .int .i64 m2, .int .i64 r2, .int .i64 n2, .bool l2, .int .i64 j] 37) = x0 at *
  obtain ⟨c0, c1, c2, c3, c4, c5, c6, c7, c8, c9, c10⟩ := cells11 HI0.out
  go_region_held3 (fun w' => w'.cell? ⟨w.heap.size, 0, none⟩ = some (.string op)) (go_keep) (first
    | (go_at_call 46; refine (twos_b _).mono ?_; rintro e x1 ⟨rfl, HT, hb⟩; have HI1 : Hid (_ = _) := heap_keep (by exact HI0.out) hb; obtain ⟨d0, d1, d2, d3, d4, d5, d6, d7, d8, d9, d10⟩ := cells11 HI1.out; have HB1 : Hid (Below w.heap.size w x1) := Below.trans (by first | exact HB0.out | exact HB0.out.drew) (hb.mono (by exact HB0.out.size)); clear hb c0 c1 c2 c3 c4 c5 c6 c7 c8 c9 c10)
    | (go_at_call 45; refine (at_row twosL op k1 HK1.out _ 12 _ 9 rfl (by omega) HT.out).mono ?_; rintro e x2 ⟨rfl, rfl⟩))
  go_wp2_with fail
  clear HT
  go_region_held3 (fun w' => w'.cell? ⟨w.heap.size, 0, none⟩ = some (.string op)) (go_keep) (first
    | (go_at_call 49; refine (jumps_b _).mono ?_; rintro e x3 ⟨rfl, HT, hb⟩; have HI2 : Hid (_ = _) := heap_keep (by exact HI1.out) hb; obtain ⟨f0, f1, f2, f3, f4, f5, f6, f7, f8, f9, f10⟩ := cells11 HI2.out; have HB2 : Hid (Below w.heap.size w x3) := Below.trans (by first | exact HB1.out | exact HB1.out.drew) (hb.mono (by exact HB1.out.size)); clear hb d0 d1 d2 d3 d4 d5 d6 d7 d8 d9 d10)
    | (go_at_call 45; refine (at_row jumpsL op k2 HK2.out _ 8 _ 9 rfl (by omega) HT.out).mono ?_; rintro e x4 ⟨rfl, rfl⟩))
  go_wp2_with fail
  clear HT
  go_region_held3 (fun w' => w'.cell? ⟨w.heap.size, 0, none⟩ = some (.string op) ∧ w'.cell? ⟨w.heap.size, 2, none⟩ = some (.int .i64 m) ∧ w'.cell? ⟨w.heap.size, 3, none⟩ = some (.int .i64 r) ∧ w'.cell? ⟨w.heap.size, 4, none⟩ = some (.int .i64 n) ∧ w'.cell? ⟨w.heap.size, 5, none⟩ = some (.bool l) ∧ w'.cell? ⟨w.heap.size, 6, none⟩ = some (.int .i64 m2) ∧ w'.cell? ⟨w.heap.size, 7, none⟩ = some (.int .i64 r2) ∧ w'.cell? ⟨w.heap.size, 8, none⟩ = some (.int .i64 n2) ∧ w'.cell? ⟨w.heap.size, 9, none⟩ = some (.bool l2) ∧ w'.cell? ⟨w.heap.size, 10, none⟩ = some (.int .i64 j)) (go_keep) (first
    | (go_at_call 52; refine (ones_b _).mono ?_; rintro e x5 ⟨rfl, HT, hb⟩; have HI3 : Hid (_ = _) := heap_keep (by exact HI2.out) hb; obtain ⟨g0, g1, g2, g3, g4, g5, g6, g7, g8, g9, g10⟩ := cells11 HI3.out; have HB3 : Hid (Below w.heap.size w x5) := Below.trans (by first | exact HB2.out | exact HB2.out.drew) (hb.mono (by exact HB2.out.size)); clear hb f0 f1 f2 f3 f4 f5 f6 f7 f8 f9 f10)
    | (go_at_call 45; refine (at_row onesL op k3 HK3.out _ 7 _ 9 rfl (by omega) HT.out).mono ?_; rintro e x6 ⟨rfl, rfl⟩)
    | (go_at_call 47; refine (l02Src_any m r n l _).mono ?_; rintro e x7 ⟨rfl, hb⟩; have HI4 : Hid (_ = _) := heap_keep (by exact HI3.out) hb; obtain ⟨p0, p1, p2, p3, p4, p5, p6, p7, p8, p9, p10⟩ := cells11 HI4.out; have HB4 : Hid (Below w.heap.size w x7) := Below.trans (by first | exact HB3.out | exact HB3.out.drew) (hb.mono (by exact HB3.out.size)); clear hb g0 g1 g2 g3 g4 g5 g6 g7 g8 g9 g10)
    | (go_at_call 50; refine (l02Zero_any m2 r2 n2 l2 _).mono ?_; rintro e x8 ⟨rfl, hb⟩; have HI5 : Hid (_ = _) := heap_keep (by exact HI4.out) hb; obtain ⟨q0, q1, q2, q3, q4, q5, q6, q7, q8, q9, q10⟩ := cells11 HI5.out; have HB5 : Hid (Below w.heap.size w x8) := Below.trans (by first | exact HB4.out | exact HB4.out.drew) (hb.mono (by exact HB4.out.size)); clear hb p0 p1 p2 p3 p4 p5 p6 p7 p8 p9 p10))
  go_wp2
  all_goals
    go_ret
    exact ⟨ret_bool (by simp_all), by first | exact HB5.out | exact HB5.out.drew⟩
end Go.Proofs.YtdokiccfjbieiaaDoor
namespace Go.Proofs.YtdokiccfjbieiaaDoor
open Go.RowKit

theorem text_is {s : ByteArray} {l : List UInt8} : (s.toList == l) = decide (s = ⟨l.toArray⟩) := by
  by_cases h : s = ⟨l.toArray⟩
  · subst h; simp [ByteArray.toList_eq]
  · rw [text_no l h]; simp [h]
theorem specRight_any (op : ByteArray) (b : Bool) (m r n : Int) (l : Bool) (m2 r2 n2 : Int) (l2 : Bool) (j : Int) (w : World) :
    Calls Tryd.prog 18 #[.agg #[.string op, .bool b, .int .i64 m, .int .i64 r, .int .i64 n, .bool l, .int .i64 m2, .int .i64 r2, .int .i64 n2, .bool l2, .int .i64 j]] w fun e w' => e = .returned (.bool (insnB op b m r n l m2 r2 n2 l2 j)) ∧ Below w.heap.size w w' := by
  unfold insnB rightB
  by_cases h1 : 0 ≤ atI twosL op
  · rw [if_pos h1]; exact right_two _ _ _ op b m r n l m2 r2 n2 l2 j w rfl rfl rfl h1
  rw [if_neg h1]
  by_cases h2 : 0 ≤ atI jumpsL op
  · rw [if_pos h2]; exact right_jump _ _ _ op b m r n l m2 r2 n2 l2 j w rfl rfl rfl h1 h2
  rw [if_neg h2]
  by_cases h3 : op = ⟨#[114, 101, 116, 105]⟩
  · rw [if_pos h3]; exact right_reti _ _ _ op b m r n l m2 r2 n2 l2 j w rfl rfl rfl h1 h2 (by rw [text_is]; simpa using h3)
  rw [if_neg h3]
  have h3' := text_no [114, 101, 116, 105] h3
  by_cases h4 : atI onesL op < 0
  · rw [if_pos h4]; exact right_none _ _ _ op b m r n l m2 r2 n2 l2 j w rfl rfl rfl h1 h2 h3' (by simpa using h4)
  rw [if_neg h4]
  have h4' : decide (atI onesL op < 0) = false := by simpa using h4
  cases hs : srcB m r n l
  · exact right_src _ _ _ op b m r n l m2 r2 n2 l2 j w rfl rfl rfl h1 h2 h3' h4' hs
  cases hz : zeroB m2 r2 n2 l2
  · exact right_dst _ _ _ op b m r n l m2 r2 n2 l2 j w rfl rfl rfl h1 h2 h3' h4' hs hz
  cases hj : (j == 0)
  · exact right_jmp _ _ _ op b m r n l m2 r2 n2 l2 j w rfl rfl rfl h1 h2 h3' h4' hs hz hj
  exact right_one _ _ _ op b m r n l m2 r2 n2 l2 j w rfl rfl rfl _ _ _ _ h1 h2 h3' h4' hs hz hj text_is text_is text_is text_is
end Go.Proofs.YtdokiccfjbieiaaDoor
namespace Go.Proofs.YtdokiccfjbieiaaDoor
open Go.RowKit
set_option linter.unusedVariables false

theorem ones_cell {W : World} {B : Nat} (h : W.heap[B]? = some (.cells (onesL.map Value.string).toArray 9)) (k : Nat) (hk : k < 7) : W.cell? ⟨B, k, none⟩ = some (.string (nameAt (16 + k))) := by
  rw [cell_of_row W _ k _ _ _ h]
  have : k = 0 ∨ k = 1 ∨ k = 2 ∨ k = 3 ∨ k = 4 ∨ k = 5 ∨ k = 6 := by omega
  rcases this with rfl | rfl | rfl | rfl | rfl | rfl | rfl <;> rfl
theorem far_eleven {W : World} {g B : Nat} {o : Obj} {a0 a1 a2 a3 a4 a5 a6 a7 a8 a9 a10 : Value} (hne : B ≠ g) (h : W.heap[B]? = some o) : (((((((((((W.setCell ⟨g, 0, none⟩ a0).setCell ⟨g, 1, none⟩ a1).setCell ⟨g, 2, none⟩ a2).setCell ⟨g, 3, none⟩ a3).setCell ⟨g, 4, none⟩ a4).setCell ⟨g, 5, none⟩ a5).setCell ⟨g, 6, none⟩ a6).setCell ⟨g, 7, none⟩ a7).setCell ⟨g, 8, none⟩ a8).setCell ⟨g, 9, none⟩ a9).setCell ⟨g, 10, none⟩ a10).heap[B]? = some o :=
  set_far hne (set_far hne (set_far hne (set_far hne (set_far hne (set_far hne (set_far hne (set_far hne (set_far hne (set_far hne (set_far hne h))))))))))
def oneIns (K : Nat) (b : Bool) (o : Int × Int × Int × Bool) : Ins := { zeroIns with op := nameAt (16 + K), b := b, m := o.1, r := o.2.1, n := o.2.2.1 }
set_option maxRecDepth 100000 in
set_option maxHeartbeats 8000000 in
theorem first_one (word : Int) (K : Nat) (m r n : Int) (more : Bool) (w : World) (h0 : 4096 ≤ word) (h1 : word < 4864) (hK : word / 128 % 8 = (K : Int)) (hK8 : K < 7) (ho : opdT (word / 16 % 4) (word % 16) = (m, r, n, more)) : Calls Tryd.prog 75 #[.int .i64 word] w fun e w' => e = .returned (.tuple #[.agg (oneIns K (word / 64 % 2 == 1) (m, r, n, more)).vals, .int .i64 (if more then 1 else 0), .int .i64 0, .bool (oneIns K (word / 64 % 2 == 1) (m, r, n, more)).right]) ∧ Below w.heap.size w w' := by
  have e1 : (word == 4864) = false := by rw [beq_eq_false_iff_ne]; omega
  have n1 : ¬ 8192 ≤ word := by omega
  have n2 : ¬ word < 4096 := by omega
  have n3 : ¬ 4864 ≤ word := by omega
  have n4 : word < 8192 := by omega
  have f1 := quo_in word 128 (by omega) (by omega) (by omega)
  have f2 := rem_in (word / 128) 8 (by omega)
  have f2' := rem_wr (word / 128) 8 (by omega) (by omega) (by omega)
  have f3 := quo_in word 16 (by omega) (by omega) (by omega)
  have f4 := rem_in (word / 16) 4 (by omega)
  have f4' := rem_wr (word / 16) 4 (by omega) (by omega) (by omega)
  have f5 := rem_in word 16 (by omega)
  have f5' := rem_wr word 16 (by omega) (by omega) (by omega)
  have f6 := quo_in word 64 (by omega) (by omega) (by omega)
  have f7 := rem_in (word / 64) 2 (by omega)
  have f7' := rem_wr (word / 64) 2 (by omega) (by omega) (by omega)
  have k0 : (0 : Int) ≤ (K : Int) := by omega
  have k1 : (K : Int) < 7 := by omega
  have a0 : 0 ≤ word / 16 % 4 := by omega
  have a1 : word / 16 % 4 ≤ 3 := by omega
  generalize hop : nameAt (16 + K) = op at *
  go_enter Tryd.func75, Tryd.ntmps75
  go_wp2_with fail
  refine (ones_b _).mono ?_
  rintro e x1 ⟨rfl, HT, hb⟩
  have HR1 : Hid (_ = _) := heap_keep (heap_more (heap_alloc_new w _) _) hb
  have HI1 : Hid (_ = _) := heap_keep (heap_new2 w _ _) hb
  have HB1 : Hid (Below w.heap.size w x1) := below_call (below_more (below_new _ _) _) hb
  have hc1 : x1.cell? ⟨w.heap.size + 1 + 1, K, none⟩ = some (.string op) := by
    have h := ones_cell HT.out K hK8
    rw [hop] at h
    simpa using h
  clear hb HT
  obtain ⟨d0, d1, d2, d3, d4, d5, d6, d7, d8, d9, d10⟩ := cells11 HI1.out
  have z0 := frozen_of_row _ _ 0 _ _ HI1.out
  go_wp2_with fail
  refine (l02Operand_any (word / 16 % 4) (word % 16) _ a0 a1).mono ?_
  rintro e x2 ⟨rfl, hb⟩
  rw [ho]
  have HR2 : Hid (_ = _) := heap_keep (heap_set_other HR1.out _ (by simp) _) hb
  have HI2 : Hid (_ = _) := heap_keep (heap_set HI1.out _ _) hb
  have HB2 : Hid (Below w.heap.size w x2) := below_call (HB1.out.setCell (by simp) _) hb
  simp only [List.setIfInBounds_toArray, List.set_cons_zero] at HI2
  clear hb hc1 d0 d1 d2 d3 d4 d5 d6 d7 d8 d9 d10 z0
  obtain ⟨d0, d1, d2, d3, d4, d5, d6, d7, d8, d9, d10⟩ := cells11 HI2.out
  have z2 := frozen_of_row _ _ 2 _ _ HI2.out
  have z3 := frozen_of_row _ _ 3 _ _ HI2.out
  have z4 := frozen_of_row _ _ 4 _ _ HI2.out
  have z5 := frozen_of_row _ _ 5 _ _ HI2.out
  generalize hbb : (word / 64 % 2 == 1) = bb at *
  cases more
  all_goals
    go_wp2_with fail
    have HI3 : Hid (_ = _) := heap_set (heap_set (heap_set (heap_set HI2.out 2 (.int .i64 m)) 3 (.int .i64 r)) 4 (.int .i64 n)) 5 (.bool false)
    have HR3 : Hid (_ = _) := heap_set_other (heap_set_other (heap_set_other (heap_set_other HR2.out ⟨w.heap.size + 1, 2, none⟩ (by simp) (.int .i64 m)) ⟨w.heap.size + 1, 3, none⟩ (by simp) (.int .i64 r)) ⟨w.heap.size + 1, 4, none⟩ (by simp) (.int .i64 n)) ⟨w.heap.size + 1, 5, none⟩ (by simp) (.bool false)
    have HB3 : Hid (Below w.heap.size w ((((x2.setCell ⟨w.heap.size + 1, 2, none⟩ (.int .i64 m)).setCell ⟨w.heap.size + 1, 3, none⟩ (.int .i64 r)).setCell ⟨w.heap.size + 1, 4, none⟩ (.int .i64 n)).setCell ⟨w.heap.size + 1, 5, none⟩ (.bool false))) := (((HB2.out.setCell (by simp) _).setCell (by simp) _).setCell (by simp) _).setCell (by simp) _
    simp only [List.setIfInBounds_toArray, List.set_cons_zero, List.set_cons_succ] at HI3
    clear d0 d1 d2 d3 d4 d5 d6 d7 d8 d9 d10 z2 z3 z4 z5 HI2 HR2 HB2
    generalize (((x2.setCell ⟨w.heap.size + 1, 2, none⟩ (.int .i64 m)).setCell ⟨w.heap.size + 1, 3, none⟩ (.int .i64 r)).setCell ⟨w.heap.size + 1, 4, none⟩ (.int .i64 n)).setCell ⟨w.heap.size + 1, 5, none⟩ (.bool false) = x3 at *
    go_region_held3 (fun w' => w'.cell? ⟨w.heap.size + 1, 0, none⟩ = some (.string op) ∧ w'.cell? ⟨w.heap.size + 1, 1, none⟩ = some (.bool bb) ∧ w'.cell? ⟨w.heap.size + 1, 2, none⟩ = some (.int .i64 m) ∧ w'.cell? ⟨w.heap.size + 1, 3, none⟩ = some (.int .i64 r) ∧ w'.cell? ⟨w.heap.size + 1, 4, none⟩ = some (.int .i64 n) ∧ w'.cell? ⟨w.heap.size + 1, 5, none⟩ = some (.bool false) ∧ w'.cell? ⟨w.heap.size + 1, 6, none⟩ = some (.int .i64 0) ∧ w'.cell? ⟨w.heap.size + 1, 7, none⟩ = some (.int .i64 0) ∧ w'.cell? ⟨w.heap.size + 1, 8, none⟩ = some (.int .i64 0) ∧ w'.cell? ⟨w.heap.size + 1, 9, none⟩ = some (.bool false) ∧ w'.cell? ⟨w.heap.size + 1, 10, none⟩ = some (.int .i64 0)) (exact cells11 (by repeat (first | with_reducible exact HI4.out | with_reducible exact HI3.out | with_reducible apply heap_drewn | (with_reducible refine far_eleven (Nat.succ_ne_self _) ?_)))) (first
      | (go_at_call 18; refine (specRight_any op bb m r n false 0 0 0 false 0 _).mono ?_; rintro e x4 ⟨rfl, hb⟩; have HI4 : Hid (_ = _) := heap_keep (by repeat (first | with_reducible exact HI3.out | with_reducible apply heap_drewn)) hb; have HR4 : Hid (_ = _) := heap_keep (by repeat (first | with_reducible exact HR3.out | with_reducible apply heap_drewn)) hb; have HB4 : Hid (Below w.heap.size w x4) := below_call (by repeat (first | with_reducible exact HB3.out | with_reducible refine Below.drew ?_)) hb; clear hb; obtain ⟨r0, r1, r2, r3, r4, r5, r6, r7, r8, r9, r10⟩ := cells11 HR4.out; have y0 := frozen_of_row _ _ 0 _ _ HR4.out; have y1 := frozen_of_row _ _ 1 _ _ HR4.out; have y2 := frozen_of_row _ _ 2 _ _ HR4.out; have y3 := frozen_of_row _ _ 3 _ _ HR4.out; have y4 := frozen_of_row _ _ 4 _ _ HR4.out; have y5 := frozen_of_row _ _ 5 _ _ HR4.out; have y6 := frozen_of_row _ _ 6 _ _ HR4.out; have y7 := frozen_of_row _ _ 7 _ _ HR4.out; have y8 := frozen_of_row _ _ 8 _ _ HR4.out; have y9 := frozen_of_row _ _ 9 _ _ HR4.out; have y10 := frozen_of_row _ _ 10 _ _ HR4.out; skip))
    go_wp2
    exact bodyPost_ret (results_row3 Tryd.results75 _ _ w.heap.size 37 _ (0, 0) _ rfl (set_eleven HR4.out) Tryd.underlying37 rfl (by kernel_rfl)) rfl ⟨by subst hop; rfl, below_eleven (Nat.le_refl _) HB4.out⟩
end Go.Proofs.YtdokiccfjbieiaaDoor
