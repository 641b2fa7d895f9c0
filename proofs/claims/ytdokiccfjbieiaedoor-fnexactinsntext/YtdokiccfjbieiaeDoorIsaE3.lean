/- Instructions: the first word of two operands, by the program. -/
import Derived.Test.YtdokiccfjbieiaeDoorRows
import Derived.WalkKit
import Derived.WalkSpells
import Derived.WalkLawsBesides
import Derived.Outline
import Derived.RegionTactic
import Derived.BigRegion
import Derived.Deep.RegionHeld3
import Derived.Deep.CutRange
import Derived.Deep.Light
import Derived.Laws.Bits128
import Derived.Test.YtdokiccfjbieiaeDoorBase
import Derived.Test.YtdokiccfjbieiaeDoorRes
import Derived.Test.YtdokiccfjbieiaeDoorRes2
import Derived.Test.YtdokiccfjbieiaeDoorIsa3
import Derived.Test.YtdokiccfjbieiaeDoorIsaE1
import Derived.Test.YtdokiccfjbieiaeDoorIsaE2
namespace Go.Proofs.YtdokiccfjbieiaeDoor
open Go.RowKit

set_option maxRecDepth 100000 in
set_option maxHeartbeats 4000000 in
theorem firstOfTwo_any (op : ByteArray) (b : Bool) (m r n : Int) (l : Bool) (m2 r2 n2 : Int) (l2 : Bool) (j : Int) (k a1 a2 b1 b2 : Int) (w : World) (hk0 : 0 ≤ k) (hk1 : k ≤ 15) (h0 : 0 ≤ m) (h5 : m ≤ 5) (g0 : 0 ≤ m2) (g5 : m2 ≤ 5) (H1 : Hid ((asI m r n l).1 = a1)) (H2 : Hid ((asI m r n l).2.1 = a2)) (H3 : Hid ((asI m2 r2 n2 l2).1 = b1)) (H4 : Hid ((asI m2 r2 n2 l2).2.1 = b2)) (ha0 : 0 ≤ a1) (ha1 : a1 ≤ 3) (hb0 : 0 ≤ a2) (hb1 : a2 ≤ 15) (hc0 : 0 ≤ b1) (hc1 : b1 ≤ 3) (hd0 : 0 ≤ b2) (hd1 : b2 ≤ 15) (hT : Tabs w) :
    Calls Tryd.prog 41 #[.agg #[.string op, .bool b, .int .i64 m, .int .i64 r, .int .i64 n, .bool l, .int .i64 m2, .int .i64 r2, .int .i64 n2, .bool l2, .int .i64 j], .int .i64 k] w fun e w' => e = .returned (.int .i64 (4096 * k + 256 * a2 + 128 * b1 + markI b + 16 * a1 + b2)) ∧ Below w.heap.size w w' := by
  have HT : Hid (∀ o, Tabs (w.alloc o)) := fun o => hT.alloc o
  clear hT
  go_enter Tryd.func41, Tryd.ntmps41
  go_upto_region 1 with fail
  have HI0 : Hid (_ = _) := heap_alloc_new w (.cells #[.string op, .bool b, .int .i64 m, .int .i64 r, .int .i64 n, .bool l, .int .i64 m2, .int .i64 r2, .int .i64 n2, .bool l2, .int .i64 j] 30)
  have HB0 : Hid (Below w.heap.size w _) := below_new w (.cells #[.string op, .bool b, .int .i64 m, .int .i64 r, .int .i64 n, .bool l, .int .i64 m2, .int .i64 r2, .int .i64 n2, .bool l2, .int .i64 j] 30)
  have HT0 : Hid (_) := HT.out (.cells #[.string op, .bool b, .int .i64 m, .int .i64 r, .int .i64 n, .bool l, .int .i64 m2, .int .i64 r2, .int .i64 n2, .bool l2, .int .i64 j] 30)
  generalize w.alloc (.cells #[.string op, .bool b, .int .i64 m, .int .i64 r, .int .i64 n, .bool l, .int .i64 m2, .int .i64 r2, .int .i64 n2, .bool l2, .int .i64 j] 30) = x0 at *
  obtain ⟨c0, c1, c2, c3, c4, c5, c6, c7, c8, c9, c10⟩ := cells11 HI0.out
  have hz0 := heap_lt HI0.out
  go_cut [5, 6] from 7 to 12 (fun s5 s6 wx => ∃ g5 g6 : Nat, s5 = .pointer (some ⟨g5, 0, none⟩) ∧ s6 = .pointer (some ⟨g6, 0, none⟩) ∧ Hid (wx.heap[g5]? = some (.cells #[.int .i64 a1, .int .i64 a2] 84 (0, 0))) ∧ Hid (wx.heap[g6]? = some (.cells #[.int .i64 b1, .int .i64 b2] 84 (0, 0))) ∧ Hid (wx.heap[w.heap.size]? = some (.cells #[.string op, .bool b, .int .i64 m, .int .i64 r, .int .i64 n, .bool l, .int .i64 m2, .int .i64 r2, .int .i64 n2, .bool l2, .int .i64 j] 30 (0, 0))) ∧ Hid (Below w.heap.size w wx))
  case first =>
    go_region_held3 (fun w' => w'.cell? ⟨w.heap.size, 0, none⟩ = some (.string op) ∧ w'.cell? ⟨w.heap.size, 1, none⟩ = some (.bool b) ∧ w'.cell? ⟨w.heap.size, 2, none⟩ = some (.int .i64 m) ∧ w'.cell? ⟨w.heap.size, 3, none⟩ = some (.int .i64 r) ∧ w'.cell? ⟨w.heap.size, 4, none⟩ = some (.int .i64 n) ∧ w'.cell? ⟨w.heap.size, 5, none⟩ = some (.bool l) ∧ w'.cell? ⟨w.heap.size, 6, none⟩ = some (.int .i64 m2) ∧ w'.cell? ⟨w.heap.size, 7, none⟩ = some (.int .i64 r2) ∧ w'.cell? ⟨w.heap.size, 8, none⟩ = some (.int .i64 n2) ∧ w'.cell? ⟨w.heap.size, 9, none⟩ = some (.bool l2) ∧ w'.cell? ⟨w.heap.size, 10, none⟩ = some (.int .i64 j)) ((exact cells11 (by repeat (first | with_reducible exact HI2.out | with_reducible exact HI1.out | with_reducible exact HI0.out | with_reducible apply heap_drewn | with_reducible apply heap_more | with_reducible refine heap_set_other ?_ _ (by first | exact Nat.ne_of_lt hz0 | exact Nat.ne_of_lt (Nat.lt_succ_of_lt hz0) | exact Nat.ne_of_lt hz1 | exact Nat.ne_of_lt (Nat.lt_succ_of_lt hz1) | exact Nat.ne_of_lt hz2 | exact Nat.ne_of_lt (Nat.lt_succ_of_lt hz2)) _)))) (first
      | (go_at_call_of 65 (Value.int IntKind.i64 m); refine (inFirst_any m r n l _ h0 h5 ?_).mono ?_; (repeat (first | with_reducible exact HT0.out | with_reducible refine Tabs.drew ?_ | with_reducible refine Tabs.alloc ?_ _)); rintro e x1 ⟨rfl, hb⟩; rw [H1.out, H2.out]; have HI1 : Hid (_ = _) := heap_keep (by repeat (first | with_reducible exact HI0.out | with_reducible apply heap_drewn | with_reducible apply heap_more)) hb; have HB1 : Hid (Below w.heap.size w x1) := below_call (by repeat (first | with_reducible exact HB0.out | with_reducible refine Below.drew ?_ | with_reducible refine below_more ?_ _)) hb; have HT1 : Hid (Tabs x1) := Tabs.below (by (repeat (first | with_reducible exact HT0.out | with_reducible refine Tabs.drew ?_ | with_reducible refine Tabs.alloc ?_ _))) hb; (try (have HZ5 : Hid (_ = _) := heap_keep (by repeat (first | with_reducible exact heap_alloc_new x0 _ | with_reducible apply heap_drewn | with_reducible apply heap_more)) hb; obtain ⟨z0, z1, zf0, zf1⟩ := two_cells HZ5.out; have hzz := heap_lt HZ5.out)); (try (have HZ6 : Hid (_ = _) := heap_keep (by repeat (first | with_reducible exact heap_new2 x0 _ _ | with_reducible apply heap_drewn | with_reducible apply heap_more)) hb; obtain ⟨y0, y1, yf0, yf1⟩ := two_cells HZ6.out; have hyy := heap_lt HZ6.out)); clear hb; obtain ⟨d0, d1, d2, d3, d4, d5, d6, d7, d8, d9, d10⟩ := cells11 HI1.out; have hz1 := heap_lt HI1.out)
      | (go_at_call_of 65 (Value.int IntKind.i64 m2); refine (inFirst_any m2 r2 n2 l2 _ g0 g5 ?_).mono ?_; (repeat (first | with_reducible exact HT1.out | with_reducible refine Tabs.drew ?_ | with_reducible refine Tabs.alloc ?_ _)); rintro e x2 ⟨rfl, hb⟩; rw [H3.out, H4.out]; have HI2 : Hid (_ = _) := heap_keep (by repeat (first | with_reducible exact HI1.out | with_reducible apply heap_drewn | with_reducible apply heap_more)) hb; have HB2 : Hid (Below w.heap.size w x2) := below_call (by repeat (first | with_reducible exact HB1.out | with_reducible refine Below.drew ?_ | with_reducible refine below_more ?_ _)) hb; have HT2 : Hid (Tabs x2) := Tabs.below (by (repeat (first | with_reducible exact HT1.out | with_reducible refine Tabs.drew ?_ | with_reducible refine Tabs.alloc ?_ _))) hb; (try (have HV5 : Hid (_ = _) := heap_keep (by repeat (first | with_reducible exact HZ5.out | with_reducible apply heap_drewn | with_reducible apply heap_more)) hb; obtain ⟨s0, s1, sf0, sf1⟩ := two_cells HV5.out; have hs5 := heap_lt HV5.out)); (try (have HV6 : Hid (_ = _) := heap_keep (by repeat (first | with_reducible exact HZ6.out | with_reducible apply heap_drewn | with_reducible apply heap_more)) hb; obtain ⟨t0, t1, tf0, tf1⟩ := two_cells HV6.out; have ht6 := heap_lt HV6.out)); (try (have HU5 : Hid (_ = _) := heap_keep (by repeat (first | with_reducible exact heap_alloc_new x1 _ | with_reducible apply heap_drewn | with_reducible apply heap_more)) hb; obtain ⟨u0, u1, uf0, uf1⟩ := two_cells HU5.out; have hu5 := heap_lt HU5.out)); (try (have HU6 : Hid (_ = _) := heap_keep (by repeat (first | with_reducible exact heap_new2 x1 _ _ | with_reducible apply heap_drewn | with_reducible apply heap_more)) hb; obtain ⟨v0, v1, vf0, vf1⟩ := two_cells HU6.out; have hv6 := heap_lt HU6.out)); clear hb; obtain ⟨d0, d1, d2, d3, d4, d5, d6, d7, d8, d9, d10⟩ := cells11 HI2.out; have hz2 := heap_lt HI2.out))
    all_goals
      go_wp2_with fail
      go_meet
      go_light
      refine ⟨_, _, rfl, rfl, ?_, ?_, ?_, ?_⟩
      · show _ = _
        repeat (first | with_reducible exact heap_alloc_new _ _ | with_reducible exact heap_new2 _ _ _ | with_reducible exact HV5.out | with_reducible exact HV6.out | with_reducible exact HU5.out | with_reducible exact HU6.out | with_reducible apply set_two | (with_reducible apply alloc_at; focus (simp; done)) | with_reducible apply heap_more | (with_reducible apply set_far; focus (simp only [ne_eq]; omega)))
      · show _ = _
        repeat (first | with_reducible exact heap_alloc_new _ _ | with_reducible exact heap_new2 _ _ _ | with_reducible exact HV5.out | with_reducible exact HV6.out | with_reducible exact HU5.out | with_reducible exact HU6.out | with_reducible apply set_two | (with_reducible apply alloc_at; focus (simp; done)) | with_reducible apply heap_more | (with_reducible apply set_far; focus (simp only [ne_eq]; omega)))
      · show _ = _
        repeat (first | with_reducible exact HI2.out | with_reducible apply heap_more | (with_reducible apply set_far; focus (simp only [ne_eq]; omega)))
      · show Below _ _ _
        repeat (first | with_reducible exact HB2.out | with_reducible apply below_more | (with_reducible apply below_set; focus (simp only []; omega)))
  case rest =>
  obtain ⟨q5, q6, rfl, rfl, H5, H6, HI3, HB3⟩ := hcut
  clear c0 c1 c2 c3 c4 c5 c6 c7 c8 c9 c10
  obtain ⟨c0, c1, c2, c3, c4, c5, c6, c7, c8, c9, c10⟩ := cells11 HI3.out
  obtain ⟨u0, u1, _, _⟩ := two_cells H5.out
  obtain ⟨v0, v1, _, _⟩ := two_cells H6.out
  have hm0 : 0 ≤ markI b := by cases b <;> simp [markI]
  have hm1 : markI b ≤ 64 := by cases b <;> simp [markI]
  have e1 := wr (4096 * k) (by omega) (by omega)
  have e2 := wr (256 * a2) (by omega) (by omega)
  have e3 := wr (4096 * k + 256 * a2) (by omega) (by omega)
  have e4 := wr (128 * b1) (by omega) (by omega)
  have e5 := wr (4096 * k + 256 * a2 + 128 * b1) (by omega) (by omega)
  have e6 := wr (4096 * k + 256 * a2 + 128 * b1 + markI b) (by omega) (by omega)
  have e7 := wr (16 * a1) (by omega) (by omega)
  have e8 := wr (4096 * k + 256 * a2 + 128 * b1 + markI b + 16 * a1) (by omega) (by omega)
  have e9 := wr (4096 * k + 256 * a2 + 128 * b1 + markI b + 16 * a1 + b2) (by omega) (by omega)
  go_wp2_with fail
  go_region_held3 (fun w' => (w'.cell? ⟨w.heap.size, 0, none⟩ = some (.string op) ∧ w'.cell? ⟨w.heap.size, 1, none⟩ = some (.bool b) ∧ w'.cell? ⟨w.heap.size, 2, none⟩ = some (.int .i64 m) ∧ w'.cell? ⟨w.heap.size, 3, none⟩ = some (.int .i64 r) ∧ w'.cell? ⟨w.heap.size, 4, none⟩ = some (.int .i64 n) ∧ w'.cell? ⟨w.heap.size, 5, none⟩ = some (.bool l) ∧ w'.cell? ⟨w.heap.size, 6, none⟩ = some (.int .i64 m2) ∧ w'.cell? ⟨w.heap.size, 7, none⟩ = some (.int .i64 r2) ∧ w'.cell? ⟨w.heap.size, 8, none⟩ = some (.int .i64 n2) ∧ w'.cell? ⟨w.heap.size, 9, none⟩ = some (.bool l2) ∧ w'.cell? ⟨w.heap.size, 10, none⟩ = some (.int .i64 j)) ∧ w'.cell? ⟨q5, 0, none⟩ = some (.int .i64 a1) ∧ w'.cell? ⟨q5, 1, none⟩ = some (.int .i64 a2) ∧ w'.cell? ⟨q6, 0, none⟩ = some (.int .i64 b1) ∧ w'.cell? ⟨q6, 1, none⟩ = some (.int .i64 b2)) (go_keep) (first
    | (go_at_call 66; refine (byteMark_any op b m r n l m2 r2 n2 l2 j _).mono ?_; rintro e x2 ⟨rfl, hb⟩; have HI4 : Hid (_ = _) := heap_keep (by exact HI3.out) hb; have K5 : Hid (_ = _) := heap_keep (by exact H5.out) hb; have K6 : Hid (_ = _) := heap_keep (by exact H6.out) hb; have HB4 : Hid (Below w.heap.size w x2) := below_call (by exact HB3.out.drew) hb; clear c0 c1 c2 c3 c4 c5 c6 c7 c8 c9 c10 u0 u1 v0 v1; obtain ⟨d0, d1, d2, d3, d4, d5, d6, d7, d8, d9, d10⟩ := cells11 HI4.out; obtain ⟨q0, q1, f0, f1⟩ := two_cells K5.out; obtain ⟨r0, r1, s0, s1⟩ := two_cells K6.out; clear hb))
  go_wp2
  go_ret
  exact ⟨rfl, HB4.out⟩
end Go.Proofs.YtdokiccfjbieiaeDoor
