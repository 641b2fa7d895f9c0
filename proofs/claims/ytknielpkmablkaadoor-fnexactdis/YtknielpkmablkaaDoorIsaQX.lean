/- Instructions: InsnRight of the specification. -/
import Derived.Test.YtknielpkmablkaaDoorRows
import Derived.WalkKit
import Derived.WalkSpells
import Derived.WalkLawsBesides
import Derived.RegionTactic
import Derived.BigRegion
import Derived.Outline
import Derived.Deep.RegionWith
import Derived.Deep.RegionHeld3
import Derived.Test.YtknielpkmablkaaDoorBun0
import Derived.Test.YtknielpkmablkaaDoorBun4
namespace Go.Proofs.YtknielpkmablkaaDoor
open Go.RowKit
set_option linter.unusedVariables false

set_option maxRecDepth 100000 in
set_option maxHeartbeats 4000000 in
theorem right_two (k1 k2 k3 : Int) (op : ByteArray) (b : Bool) (m r n : Int) (l : Bool) (m2 r2 n2 : Int) (l2 : Bool) (j : Int) (w : World) (HK1 : Hid (atI twosL op = k1)) (HK2 : Hid (atI jumpsL op = k2)) (HK3 : Hid (atI onesL op = k3)) (h1 : 0 ≤ k1) :
    Calls Tryd.prog 51 #[.agg #[.string op, .bool b, .int .i64 m, .int .i64 r, .int .i64 n, .bool l, .int .i64 m2, .int .i64 r2, .int .i64 n2, .bool l2, .int .i64 j]] w fun e w' => e = .returned (.bool (srcB m r n l && dstB m2 r2 n2 l2 && (j == 0))) ∧ Below w.heap.size w w' := by
  go_enter Tryd.func51, Tryd.ntmps51
  go_wp2_with fail
  have HI0 : Hid (_ = _) := heap_alloc_new w (.cells #[.string op, .bool b, .int .i64 m, .int .i64 r, .int .i64 n, .bool l, .int .i64 m2, .int .i64 r2, .int .i64 n2, .bool l2, .int .i64 j] 45)
  have HB0 : Hid (Below w.heap.size w _) := (Below.refl _ _).alloc (Nat.le_refl _) (.cells #[.string op, .bool b, .int .i64 m, .int .i64 r, .int .i64 n, .bool l, .int .i64 m2, .int .i64 r2, .int .i64 n2, .bool l2, .int .i64 j] 45)
  generalize w.alloc (.cells #[.string op, .bool b, .int .i64 m, .int .i64 r, .int .i64 n, .bool l, .int .i64 m2, .int .i64 r2, .int .i64 n2, .bool l2, .int .i64 j] 45) = x0 at *
  obtain ⟨c0, c1, c2, c3, c4, c5, c6, c7, c8, c9, c10⟩ := cells11 HI0.out
  go_region_held3 (fun w' => w'.cell? ⟨w.heap.size, 0, none⟩ = some (.string op)) (go_keep) (first
    | (go_at_call 50; refine (twos_b _).mono ?_; rintro e x1 ⟨rfl, HT, hb⟩; have HI1 : Hid (_ = _) := heap_keep (by exact HI0.out) hb; obtain ⟨d0, d1, d2, d3, d4, d5, d6, d7, d8, d9, d10⟩ := cells11 HI1.out; have HB1 : Hid (Below w.heap.size w x1) := Below.trans (by first | exact HB0.out | exact HB0.out.drew) (hb.mono (by exact HB0.out.size)); clear hb c0 c1 c2 c3 c4 c5 c6 c7 c8 c9 c10)
    | (go_at_call 36; refine (at_row twosL op k1 HK1.out _ 12 _ 9 rfl (by omega) HT.out).mono ?_; rintro e x2 ⟨rfl, rfl⟩))
  go_wp2_with fail
  refine (l02Src_any m r n l _).mono ?_
  rintro e y1 ⟨rfl, hb⟩
  have HI2 : Hid (_ = _) := heap_keep (by exact HI1.out) hb
  have HB2 : Hid (Below w.heap.size w y1) := Below.trans (by first | exact HB1.out | exact HB1.out.drew) (hb.mono (by exact HB1.out.size))
  clear hb d0 d1 d2 d3 d4 d5 d6 d7 d8 d9 d10
  obtain ⟨f0, f1, f2, f3, f4, f5, f6, f7, f8, f9, f10⟩ := cells11 HI2.out
  cases hs : srcB m r n l
  · go_wp2
    all_goals
      go_ret
      exact ⟨ret_bool (by simp_all), by first | exact HB2.out | exact HB2.out.drew⟩
  go_wp2_with fail
  refine (l02Dst_any m2 r2 n2 l2 _).mono ?_
  rintro e y2 ⟨rfl, hb⟩
  have HI3 : Hid (_ = _) := heap_keep (by exact HI2.out) hb
  have HB3 : Hid (Below w.heap.size w y2) := Below.trans (by first | exact HB2.out | exact HB2.out.drew) (hb.mono (by exact HB2.out.size))
  clear hb f0 f1 f2 f3 f4 f5 f6 f7 f8 f9 f10
  obtain ⟨g0, g1, g2, g3, g4, g5, g6, g7, g8, g9, g10⟩ := cells11 HI3.out
  cases hd : dstB m2 r2 n2 l2
  · go_wp2
    all_goals
      go_ret
      exact ⟨ret_bool (by simp_all), by first | exact HB3.out | exact HB3.out.drew⟩
  · go_wp2
    all_goals
      go_ret
      exact ⟨ret_bool (by simp_all), by first | exact HB3.out | exact HB3.out.drew⟩
set_option maxRecDepth 100000 in
set_option maxHeartbeats 4000000 in
theorem right_jump (k1 k2 k3 : Int) (op : ByteArray) (b : Bool) (m r n : Int) (l : Bool) (m2 r2 n2 : Int) (l2 : Bool) (j : Int) (w : World) (HK1 : Hid (atI twosL op = k1)) (HK2 : Hid (atI jumpsL op = k2)) (HK3 : Hid (atI onesL op = k3)) (h1 : ¬ 0 ≤ k1) (h2 : 0 ≤ k2) :
    Calls Tryd.prog 51 #[.agg #[.string op, .bool b, .int .i64 m, .int .i64 r, .int .i64 n, .bool l, .int .i64 m2, .int .i64 r2, .int .i64 n2, .bool l2, .int .i64 j]] w fun e w' => e = .returned (.bool (!b && zeroB m r n l && zeroB m2 r2 n2 l2 && isB j (-512) 511)) ∧ Below w.heap.size w w' := by
  go_enter Tryd.func51, Tryd.ntmps51
  go_wp2_with fail
  have HI0 : Hid (_ = _) := heap_alloc_new w (.cells #[.string op, .bool b, .int .i64 m, .int .i64 r, .int .i64 n, .bool l, .int .i64 m2, .int .i64 r2, .int .i64 n2, .bool l2, .int .i64 j] 45)
  have HB0 : Hid (Below w.heap.size w _) := (Below.refl _ _).alloc (Nat.le_refl _) (.cells #[.string op, .bool b, .int .i64 m, .int .i64 r, .int .i64 n, .bool l, .int .i64 m2, .int .i64 r2, .int .i64 n2, .bool l2, .int .i64 j] 45)
  generalize w.alloc (.cells #[.string op, .bool b, .int .i64 m, .int .i64 r, .int .i64 n, .bool l, .int .i64 m2, .int .i64 r2, .int .i64 n2, .bool l2, .int .i64 j] 45) = x0 at *
  obtain ⟨c0, c1, c2, c3, c4, c5, c6, c7, c8, c9, c10⟩ := cells11 HI0.out
  go_region_held3 (fun w' => w'.cell? ⟨w.heap.size, 0, none⟩ = some (.string op)) (go_keep) (first
    | (go_at_call 50; refine (twos_b _).mono ?_; rintro e x1 ⟨rfl, HT, hb⟩; have HI1 : Hid (_ = _) := heap_keep (by exact HI0.out) hb; obtain ⟨d0, d1, d2, d3, d4, d5, d6, d7, d8, d9, d10⟩ := cells11 HI1.out; have HB1 : Hid (Below w.heap.size w x1) := Below.trans (by first | exact HB0.out | exact HB0.out.drew) (hb.mono (by exact HB0.out.size)); clear hb c0 c1 c2 c3 c4 c5 c6 c7 c8 c9 c10)
    | (go_at_call 36; refine (at_row twosL op k1 HK1.out _ 12 _ 9 rfl (by omega) HT.out).mono ?_; rintro e x2 ⟨rfl, rfl⟩))
  go_wp2_with fail
  clear HT
  go_region_held3 (fun w' => w'.cell? ⟨w.heap.size, 0, none⟩ = some (.string op)) (go_keep) (first
    | (go_at_call 47; refine (jumps_b _).mono ?_; rintro e x3 ⟨rfl, HT, hb⟩; have HI2 : Hid (_ = _) := heap_keep (by exact HI1.out) hb; obtain ⟨f0, f1, f2, f3, f4, f5, f6, f7, f8, f9, f10⟩ := cells11 HI2.out; have HB2 : Hid (Below w.heap.size w x3) := Below.trans (by first | exact HB1.out | exact HB1.out.drew) (hb.mono (by exact HB1.out.size)); clear hb d0 d1 d2 d3 d4 d5 d6 d7 d8 d9 d10)
    | (go_at_call 36; refine (at_row jumpsL op k2 HK2.out _ 8 _ 9 rfl (by omega) HT.out).mono ?_; rintro e x4 ⟨rfl, rfl⟩))
  cases b
  case true =>
    go_wp2
    all_goals
      go_ret
      exact ⟨ret_bool (by simp_all), by first | exact HB2.out | exact HB2.out.drew⟩
  case false =>
    go_wp2_with fail
    refine (l02Zero_any m r n l _).mono ?_
    rintro e y1 ⟨rfl, hb⟩
    have HI3 : Hid (_ = _) := heap_keep (by exact HI2.out) hb
    have HB3 : Hid (Below w.heap.size w y1) := Below.trans (by first | exact HB2.out | exact HB2.out.drew) (hb.mono (by exact HB2.out.size))
    clear hb f0 f1 f2 f3 f4 f5 f6 f7 f8 f9 f10
    obtain ⟨g0, g1, g2, g3, g4, g5, g6, g7, g8, g9, g10⟩ := cells11 HI3.out
    cases hz : zeroB m r n l
    · go_wp2
      all_goals
        go_ret
        exact ⟨ret_bool (by simp_all), by first | exact HB3.out | exact HB3.out.drew⟩
    go_wp2_with fail
    refine (l02Zero_any m2 r2 n2 l2 _).mono ?_
    rintro e y2 ⟨rfl, hb⟩
    have HI4 : Hid (_ = _) := heap_keep (by exact HI3.out) hb
    have HB4 : Hid (Below w.heap.size w y2) := Below.trans (by first | exact HB3.out | exact HB3.out.drew) (hb.mono (by exact HB3.out.size))
    clear hb g0 g1 g2 g3 g4 g5 g6 g7 g8 g9 g10
    obtain ⟨p0, p1, p2, p3, p4, p5, p6, p7, p8, p9, p10⟩ := cells11 HI4.out
    cases hy : zeroB m2 r2 n2 l2
    · go_wp2
      all_goals
        go_ret
        exact ⟨ret_bool (by simp_all), by first | exact HB4.out | exact HB4.out.drew⟩
    go_wp2_with fail
    refine (l02Is_any j (-512) 511 _).mono ?_
    rintro e y3 ⟨rfl, rfl⟩
    go_wp2
    all_goals
      go_ret
      exact ⟨ret_bool (by simp_all), by first | exact HB4.out | exact HB4.out.drew⟩
set_option maxRecDepth 100000 in
set_option maxHeartbeats 4000000 in
theorem right_reti (k1 k2 k3 : Int) (op : ByteArray) (b : Bool) (m r n : Int) (l : Bool) (m2 r2 n2 : Int) (l2 : Bool) (j : Int) (w : World) (HK1 : Hid (atI twosL op = k1)) (HK2 : Hid (atI jumpsL op = k2)) (HK3 : Hid (atI onesL op = k3)) (h1 : ¬ 0 ≤ k1) (h2 : ¬ 0 ≤ k2) (h3 : (op.toList == [114, 101, 116, 105]) = true) :
    Calls Tryd.prog 51 #[.agg #[.string op, .bool b, .int .i64 m, .int .i64 r, .int .i64 n, .bool l, .int .i64 m2, .int .i64 r2, .int .i64 n2, .bool l2, .int .i64 j]] w fun e w' => e = .returned (.bool (!b && zeroB m r n l && zeroB m2 r2 n2 l2 && (j == 0))) ∧ Below w.heap.size w w' := by
  go_enter Tryd.func51, Tryd.ntmps51
  go_wp2_with fail
  have HI0 : Hid (_ = _) := heap_alloc_new w (.cells #[.string op, .bool b, .int .i64 m, .int .i64 r, .int .i64 n, .bool l, .int .i64 m2, .int .i64 r2, .int .i64 n2, .bool l2, .int .i64 j] 45)
  have HB0 : Hid (Below w.heap.size w _) := (Below.refl _ _).alloc (Nat.le_refl _) (.cells #[.string op, .bool b, .int .i64 m, .int .i64 r, .int .i64 n, .bool l, .int .i64 m2, .int .i64 r2, .int .i64 n2, .bool l2, .int .i64 j] 45)
  generalize w.alloc (.cells #[.string op, .bool b, .int .i64 m, .int .i64 r, .int .i64 n, .bool l, .int .i64 m2, .int .i64 r2, .int .i64 n2, .bool l2, .int .i64 j] 45) = x0 at *
  obtain ⟨c0, c1, c2, c3, c4, c5, c6, c7, c8, c9, c10⟩ := cells11 HI0.out
  go_region_held3 (fun w' => w'.cell? ⟨w.heap.size, 0, none⟩ = some (.string op)) (go_keep) (first
    | (go_at_call 50; refine (twos_b _).mono ?_; rintro e x1 ⟨rfl, HT, hb⟩; have HI1 : Hid (_ = _) := heap_keep (by exact HI0.out) hb; obtain ⟨d0, d1, d2, d3, d4, d5, d6, d7, d8, d9, d10⟩ := cells11 HI1.out; have HB1 : Hid (Below w.heap.size w x1) := Below.trans (by first | exact HB0.out | exact HB0.out.drew) (hb.mono (by exact HB0.out.size)); clear hb c0 c1 c2 c3 c4 c5 c6 c7 c8 c9 c10)
    | (go_at_call 36; refine (at_row twosL op k1 HK1.out _ 12 _ 9 rfl (by omega) HT.out).mono ?_; rintro e x2 ⟨rfl, rfl⟩))
  go_wp2_with fail
  clear HT
  go_region_held3 (fun w' => w'.cell? ⟨w.heap.size, 0, none⟩ = some (.string op)) (go_keep) (first
    | (go_at_call 47; refine (jumps_b _).mono ?_; rintro e x3 ⟨rfl, HT, hb⟩; have HI2 : Hid (_ = _) := heap_keep (by exact HI1.out) hb; obtain ⟨f0, f1, f2, f3, f4, f5, f6, f7, f8, f9, f10⟩ := cells11 HI2.out; have HB2 : Hid (Below w.heap.size w x3) := Below.trans (by first | exact HB1.out | exact HB1.out.drew) (hb.mono (by exact HB1.out.size)); clear hb d0 d1 d2 d3 d4 d5 d6 d7 d8 d9 d10)
    | (go_at_call 36; refine (at_row jumpsL op k2 HK2.out _ 8 _ 9 rfl (by omega) HT.out).mono ?_; rintro e x4 ⟨rfl, rfl⟩))
  cases b
  case true =>
    go_wp2
    all_goals
      go_ret
      exact ⟨ret_bool (by simp_all), by first | exact HB2.out | exact HB2.out.drew⟩
  case false =>
    go_wp2_with fail
    refine (l02Zero_any m r n l _).mono ?_
    rintro e y1 ⟨rfl, hb⟩
    have HI3 : Hid (_ = _) := heap_keep (by exact HI2.out) hb
    have HB3 : Hid (Below w.heap.size w y1) := Below.trans (by first | exact HB2.out | exact HB2.out.drew) (hb.mono (by exact HB2.out.size))
    clear hb f0 f1 f2 f3 f4 f5 f6 f7 f8 f9 f10
    obtain ⟨g0, g1, g2, g3, g4, g5, g6, g7, g8, g9, g10⟩ := cells11 HI3.out
    cases hz : zeroB m r n l
    · go_wp2
      all_goals
        go_ret
        exact ⟨ret_bool (by simp_all), by first | exact HB3.out | exact HB3.out.drew⟩
    go_wp2_with fail
    refine (l02Zero_any m2 r2 n2 l2 _).mono ?_
    rintro e y2 ⟨rfl, hb⟩
    have HI4 : Hid (_ = _) := heap_keep (by exact HI3.out) hb
    have HB4 : Hid (Below w.heap.size w y2) := Below.trans (by first | exact HB3.out | exact HB3.out.drew) (hb.mono (by exact HB3.out.size))
    clear hb g0 g1 g2 g3 g4 g5 g6 g7 g8 g9 g10
    obtain ⟨p0, p1, p2, p3, p4, p5, p6, p7, p8, p9, p10⟩ := cells11 HI4.out
    cases hy : zeroB m2 r2 n2 l2
    · go_wp2
      all_goals
        go_ret
        exact ⟨ret_bool (by simp_all), by first | exact HB4.out | exact HB4.out.drew⟩
    go_wp2
    all_goals
      go_ret
      exact ⟨ret_bool (by simp_all), by first | exact HB4.out | exact HB4.out.drew⟩
end Go.Proofs.YtknielpkmablkaaDoor
