/- How instructions are written, by the specification: operands. -/
import Derived.Test.YtknielpkmablkaaDoorRows
import Derived.WalkKit
import Derived.WalkSpells
import Derived.WalkLawsBesides
import Derived.Outline
import Derived.Deep.RegionHeld3
import Derived.Test.YtknielpkmablkaaDoorBun0
import Derived.Test.YtknielpkmablkaaDoorBun1
import Derived.Test.YtknielpkmablkaaDoorBun4
import Derived.Test.YtknielpkmablkaaDoorBun10
import Derived.Test.YtknielpkmablkaaDoorOpsAX
import Derived.Test.YtknielpkmablkaaDoorTextOX
namespace Go.Proofs.YtknielpkmablkaaDoor
open Go.RowKit
set_option linter.unusedVariables false

theorem one_b (c : UInt8) : (⟨#[c]⟩ : ByteArray).size = 1 := rfl
theorem two_b (c d : UInt8) : (⟨#[c, d]⟩ : ByteArray).size = 2 := rfl
theorem three_b (c d e : UInt8) : (⟨#[c, d, e]⟩ : ByteArray).size = 3 := rfl
theorem addS (a b : ByteArray) (ha : a.size ≤ 1000) (hb : b.size ≤ 1000) (W : World) : (Op.stringOp .add a b).run Tryd.prog W = .ok (.string (a ++ b)) W := run_string_add_sum W a b (by omega)
set_option maxRecDepth 100000 in
set_option maxHeartbeats 1600000 in
theorem specOpd_0 (r n : Int) (l : Bool) (w : World) (g0 : -100000 ≤ r) (g1 : r ≤ 100000) (h0 : -100000 ≤ n) (h1 : n ≤ 100000) : Calls Tryd.prog 38 #[.agg #[.int .i64 0, .int .i64 r, .int .i64 n, .bool l]] w fun e w' => e = .returned (.string (opdB 0 r n l)) ∧ Below w.heap.size w w' := by
  have hd := dg_size n h0 h1
  have hr := dg_size r g0 g1
  have z0 := one_b 114
  have k0 := addS (⟨#[114]⟩) (dg r) (by omega) (by omega)
  clear z0
  go_enter Tryd.func38, Tryd.ntmps38
  go_wp2_with fail
  refine (dgS_any r _ g0 g1).mono ?_
  rintro e x1 ⟨rfl, hb⟩
  have HV1 : Hid (_ = _) := heap_keep (heap_alloc_new w _) hb
  have HB1 : Hid (Below w.heap.size w x1) := below_call (below_new _ _) hb
  clear hb
  obtain ⟨c0, c1, c2, c3⟩ := cells4h HV1.out
  go_wp2_with fail
  refine (dgS_any n _ h0 h1).mono ?_
  rintro e x2 ⟨rfl, hb⟩
  have HV2 : Hid (_ = _) := heap_keep HV1.out hb
  have HB2 : Hid (Below w.heap.size w x2) := below_call HB1.out hb
  clear hb c0 c1 c2 c3
  obtain ⟨c0, c1, c2, c3⟩ := cells4h HV2.out
  go_wp2
  go_ret
  exact ⟨ret_str (by rfl), HB2.out⟩
set_option maxRecDepth 100000 in
set_option maxHeartbeats 1600000 in
theorem specOpd_1 (r n : Int) (l : Bool) (w : World) (g0 : -100000 ≤ r) (g1 : r ≤ 100000) (h0 : -100000 ≤ n) (h1 : n ≤ 100000) : Calls Tryd.prog 38 #[.agg #[.int .i64 1, .int .i64 r, .int .i64 n, .bool l]] w fun e w' => e = .returned (.string (opdB 1 r n l)) ∧ Below w.heap.size w w' := by
  have hd := dg_size n h0 h1
  have hr := dg_size r g0 g1
  have z0 := one_b 114
  have z1 := one_b 40
  have z2 := one_b 41
  have k0 := addS (⟨#[114]⟩) (dg r) (by omega) (by omega)
  have k1 := addS (dg n) (⟨#[40]⟩) (by omega) (by omega)
  have k2 := addS (dg n ++ ⟨#[40]⟩) (⟨#[114]⟩ ++ dg r) (by simp only [ByteArray.size_append]; omega) (by simp only [ByteArray.size_append]; omega)
  have k3 := addS (dg n ++ ⟨#[40]⟩ ++ (⟨#[114]⟩ ++ dg r)) (⟨#[41]⟩) (by simp only [ByteArray.size_append]; omega) (by omega)
  clear z0 z1 z2
  go_enter Tryd.func38, Tryd.ntmps38
  go_wp2_with fail
  refine (dgS_any r _ g0 g1).mono ?_
  rintro e x1 ⟨rfl, hb⟩
  have HV1 : Hid (_ = _) := heap_keep (heap_alloc_new w _) hb
  have HB1 : Hid (Below w.heap.size w x1) := below_call (below_new _ _) hb
  clear hb
  obtain ⟨c0, c1, c2, c3⟩ := cells4h HV1.out
  go_wp2_with fail
  refine (dgS_any n _ h0 h1).mono ?_
  rintro e x2 ⟨rfl, hb⟩
  have HV2 : Hid (_ = _) := heap_keep HV1.out hb
  have HB2 : Hid (Below w.heap.size w x2) := below_call HB1.out hb
  clear hb c0 c1 c2 c3
  obtain ⟨c0, c1, c2, c3⟩ := cells4h HV2.out
  go_wp2
  go_ret
  exact ⟨ret_str (by simp [opdB, catL, rg, ByteArray.append_assoc]), HB2.out⟩
set_option maxRecDepth 100000 in
set_option maxHeartbeats 1600000 in
theorem specOpd_2 (r n : Int) (l : Bool) (w : World) (g0 : -100000 ≤ r) (g1 : r ≤ 100000) (h0 : -100000 ≤ n) (h1 : n ≤ 100000) : Calls Tryd.prog 38 #[.agg #[.int .i64 2, .int .i64 r, .int .i64 n, .bool l]] w fun e w' => e = .returned (.string (opdB 2 r n l)) ∧ Below w.heap.size w w' := by
  have hd := dg_size n h0 h1
  have hr := dg_size r g0 g1
  have z0 := one_b 114
  have z1 := one_b 38
  have k0 := addS (⟨#[114]⟩) (dg r) (by omega) (by omega)
  have k1 := addS (⟨#[38]⟩) (dg n) (by omega) (by omega)
  clear z0 z1
  go_enter Tryd.func38, Tryd.ntmps38
  go_wp2_with fail
  refine (dgS_any r _ g0 g1).mono ?_
  rintro e x1 ⟨rfl, hb⟩
  have HV1 : Hid (_ = _) := heap_keep (heap_alloc_new w _) hb
  have HB1 : Hid (Below w.heap.size w x1) := below_call (below_new _ _) hb
  clear hb
  obtain ⟨c0, c1, c2, c3⟩ := cells4h HV1.out
  go_wp2_with fail
  refine (dgS_any n _ h0 h1).mono ?_
  rintro e x2 ⟨rfl, hb⟩
  have HV2 : Hid (_ = _) := heap_keep HV1.out hb
  have HB2 : Hid (Below w.heap.size w x2) := below_call HB1.out hb
  clear hb c0 c1 c2 c3
  obtain ⟨c0, c1, c2, c3⟩ := cells4h HV2.out
  go_wp2
  go_ret
  exact ⟨ret_str (by rfl), HB2.out⟩
set_option maxRecDepth 100000 in
set_option maxHeartbeats 1600000 in
theorem specOpd_3 (r n : Int) (l : Bool) (w : World) (g0 : -100000 ≤ r) (g1 : r ≤ 100000) (h0 : -100000 ≤ n) (h1 : n ≤ 100000) : Calls Tryd.prog 38 #[.agg #[.int .i64 3, .int .i64 r, .int .i64 n, .bool l]] w fun e w' => e = .returned (.string (opdB 3 r n l)) ∧ Below w.heap.size w w' := by
  have hd := dg_size n h0 h1
  have hr := dg_size r g0 g1
  have z0 := one_b 114
  have z1 := one_b 64
  have k0 := addS (⟨#[114]⟩) (dg r) (by omega) (by omega)
  have k1 := addS (⟨#[64]⟩) (⟨#[114]⟩ ++ dg r) (by omega) (by simp only [ByteArray.size_append]; omega)
  clear z0 z1
  go_enter Tryd.func38, Tryd.ntmps38
  go_wp2_with fail
  refine (dgS_any r _ g0 g1).mono ?_
  rintro e x1 ⟨rfl, hb⟩
  have HV1 : Hid (_ = _) := heap_keep (heap_alloc_new w _) hb
  have HB1 : Hid (Below w.heap.size w x1) := below_call (below_new _ _) hb
  clear hb
  obtain ⟨c0, c1, c2, c3⟩ := cells4h HV1.out
  go_wp2_with fail
  refine (dgS_any n _ h0 h1).mono ?_
  rintro e x2 ⟨rfl, hb⟩
  have HV2 : Hid (_ = _) := heap_keep HV1.out hb
  have HB2 : Hid (Below w.heap.size w x2) := below_call HB1.out hb
  clear hb c0 c1 c2 c3
  obtain ⟨c0, c1, c2, c3⟩ := cells4h HV2.out
  go_wp2
  go_ret
  exact ⟨ret_str (by rfl), HB2.out⟩
set_option maxRecDepth 100000 in
set_option maxHeartbeats 1600000 in
theorem specOpd_4 (r n : Int) (l : Bool) (w : World) (g0 : -100000 ≤ r) (g1 : r ≤ 100000) (h0 : -100000 ≤ n) (h1 : n ≤ 100000) : Calls Tryd.prog 38 #[.agg #[.int .i64 4, .int .i64 r, .int .i64 n, .bool l]] w fun e w' => e = .returned (.string (opdB 4 r n l)) ∧ Below w.heap.size w w' := by
  have hd := dg_size n h0 h1
  have hr := dg_size r g0 g1
  have z0 := one_b 114
  have z1 := one_b 43
  have z2 := one_b 64
  have k0 := addS (⟨#[114]⟩) (dg r) (by omega) (by omega)
  have k1 := addS (⟨#[64]⟩) (⟨#[114]⟩ ++ dg r) (by omega) (by simp only [ByteArray.size_append]; omega)
  have k2 := addS (⟨#[64]⟩ ++ (⟨#[114]⟩ ++ dg r)) (⟨#[43]⟩) (by simp only [ByteArray.size_append]; omega) (by omega)
  clear z0 z1 z2
  go_enter Tryd.func38, Tryd.ntmps38
  go_wp2_with fail
  refine (dgS_any r _ g0 g1).mono ?_
  rintro e x1 ⟨rfl, hb⟩
  have HV1 : Hid (_ = _) := heap_keep (heap_alloc_new w _) hb
  have HB1 : Hid (Below w.heap.size w x1) := below_call (below_new _ _) hb
  clear hb
  obtain ⟨c0, c1, c2, c3⟩ := cells4h HV1.out
  go_wp2_with fail
  refine (dgS_any n _ h0 h1).mono ?_
  rintro e x2 ⟨rfl, hb⟩
  have HV2 : Hid (_ = _) := heap_keep HV1.out hb
  have HB2 : Hid (Below w.heap.size w x2) := below_call HB1.out hb
  clear hb c0 c1 c2 c3
  obtain ⟨c0, c1, c2, c3⟩ := cells4h HV2.out
  go_wp2
  go_ret
  exact ⟨ret_str (by simp [opdB, catL, rg, ByteArray.append_assoc]), HB2.out⟩
set_option maxRecDepth 100000 in
set_option maxHeartbeats 1600000 in
theorem specOpd_5t (r n : Int) (w : World) (g0 : -100000 ≤ r) (g1 : r ≤ 100000) (h0 : -100000 ≤ n) (h1 : n ≤ 100000) : Calls Tryd.prog 38 #[.agg #[.int .i64 5, .int .i64 r, .int .i64 n, .bool true]] w fun e w' => e = .returned (.string (opdB 5 r n true)) ∧ Below w.heap.size w w' := by
  have hd := dg_size n h0 h1
  have hr := dg_size r g0 g1
  have z0 := one_b 114
  have z1 := two_b 35 35
  have k0 := addS (⟨#[114]⟩) (dg r) (by omega) (by omega)
  have k1 := addS (⟨#[35, 35]⟩) (dg n) (by omega) (by omega)
  clear z0 z1
  go_enter Tryd.func38, Tryd.ntmps38
  go_wp2_with fail
  refine (dgS_any r _ g0 g1).mono ?_
  rintro e x1 ⟨rfl, hb⟩
  have HV1 : Hid (_ = _) := heap_keep (heap_alloc_new w _) hb
  have HB1 : Hid (Below w.heap.size w x1) := below_call (below_new _ _) hb
  clear hb
  obtain ⟨c0, c1, c2, c3⟩ := cells4h HV1.out
  go_wp2_with fail
  refine (dgS_any n _ h0 h1).mono ?_
  rintro e x2 ⟨rfl, hb⟩
  have HV2 : Hid (_ = _) := heap_keep HV1.out hb
  have HB2 : Hid (Below w.heap.size w x2) := below_call HB1.out hb
  clear hb c0 c1 c2 c3
  obtain ⟨c0, c1, c2, c3⟩ := cells4h HV2.out
  go_wp2
  go_ret
  exact ⟨ret_str (by rfl), HB2.out⟩
set_option maxRecDepth 100000 in
set_option maxHeartbeats 1600000 in
theorem specOpd_5f (r n : Int) (w : World) (g0 : -100000 ≤ r) (g1 : r ≤ 100000) (h0 : -100000 ≤ n) (h1 : n ≤ 100000) : Calls Tryd.prog 38 #[.agg #[.int .i64 5, .int .i64 r, .int .i64 n, .bool false]] w fun e w' => e = .returned (.string (opdB 5 r n false)) ∧ Below w.heap.size w w' := by
  have hd := dg_size n h0 h1
  have hr := dg_size r g0 g1
  have z0 := one_b 114
  have z1 := one_b 35
  have k0 := addS (⟨#[114]⟩) (dg r) (by omega) (by omega)
  have k1 := addS (⟨#[35]⟩) (dg n) (by omega) (by omega)
  clear z0 z1
  go_enter Tryd.func38, Tryd.ntmps38
  go_wp2_with fail
  refine (dgS_any r _ g0 g1).mono ?_
  rintro e x1 ⟨rfl, hb⟩
  have HV1 : Hid (_ = _) := heap_keep (heap_alloc_new w _) hb
  have HB1 : Hid (Below w.heap.size w x1) := below_call (below_new _ _) hb
  clear hb
  obtain ⟨c0, c1, c2, c3⟩ := cells4h HV1.out
  go_wp2_with fail
  refine (dgS_any n _ h0 h1).mono ?_
  rintro e x2 ⟨rfl, hb⟩
  have HV2 : Hid (_ = _) := heap_keep HV1.out hb
  have HB2 : Hid (Below w.heap.size w x2) := below_call HB1.out hb
  clear hb c0 c1 c2 c3
  obtain ⟨c0, c1, c2, c3⟩ := cells4h HV2.out
  go_wp2
  go_ret
  exact ⟨ret_str (by rfl), HB2.out⟩
theorem specOpd_any (m r n : Int) (l : Bool) (w : World) (m0 : 0 ≤ m) (m5 : m ≤ 5) (g0 : -100000 ≤ r) (g1 : r ≤ 100000) (h0 : -100000 ≤ n) (h1 : n ≤ 100000) : Calls Tryd.prog 38 #[.agg #[.int .i64 m, .int .i64 r, .int .i64 n, .bool l]] w fun e w' => e = .returned (.string (opdB m r n l)) ∧ Below w.heap.size w w' := by
  obtain rfl | rfl | rfl | rfl | rfl | rfl : m = 0 ∨ m = 1 ∨ m = 2 ∨ m = 3 ∨ m = 4 ∨ m = 5 := by omega
  · exact specOpd_0 r n l w g0 g1 h0 h1
  · exact specOpd_1 r n l w g0 g1 h0 h1
  · exact specOpd_2 r n l w g0 g1 h0 h1
  · exact specOpd_3 r n l w g0 g1 h0 h1
  · exact specOpd_4 r n l w g0 g1 h0 h1
  · cases l
    · exact specOpd_5f r n w g0 g1 h0 h1
    · exact specOpd_5t r n w g0 g1 h0 h1
end Go.Proofs.YtknielpkmablkaaDoor
