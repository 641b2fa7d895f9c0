/- Instructions: which are right, by the program. -/
import Derived.Test.YtknielpkmablkaaDoorRows
import Derived.WalkKit
import Derived.WalkSpells
import Derived.WalkLawsBesides
import Derived.Outline
import Derived.Test.YtknielpkmablkaaDoorBun0
import Derived.Test.YtknielpkmablkaaDoorBun4
import Derived.Test.YtknielpkmablkaaDoorIsaRX
import Derived.Test.YtknielpkmablkaaDoorIsaOX
namespace Go.Proofs.YtknielpkmablkaaDoor
open Go.RowKit

set_option maxRecDepth 100000 in
set_option maxHeartbeats 1600000 in
theorem rightTwo_any (op : ByteArray) (b : Bool) (m r n : Int) (l : Bool) (m2 r2 n2 : Int) (l2 : Bool) (j : Int) (w : World) (hT : Tabs w) :
    Calls Tryd.prog 55 #[.agg #[.string op, .bool b, .int .i64 m, .int .i64 r, .int .i64 n, .bool l, .int .i64 m2, .int .i64 r2, .int .i64 n2, .bool l2, .int .i64 j]] w fun e w' => e = .returned (.bool (srcB m r n l && dstB m2 r2 n2 l2 && (j == 0))) ∧ Below w.heap.size w w' := by
  have HT : Hid (∀ o, Tabs (w.alloc o)) := fun o => hT.alloc o
  clear hT
  go_enter Tryd.func55, Tryd.ntmps55
  go_wp2_with fail
  refine (rightSrc_any m r n l _ (HT.out _)).mono ?_
  rintro e x1 ⟨rfl, hb⟩
  have HI1 : Hid (_ = _) := heap_keep (heap_alloc_new w _) hb
  have HB1 : Hid (Below w.heap.size w x1) := Below.trans ((Below.refl _ _).alloc (Nat.le_refl _) _) (hb.mono (by simp))
  clear hb
  obtain ⟨c0, c1, c2, c3, c4, c5, c6, c7, c8, c9, c10⟩ := cells11 HI1.out
  cases hs : srcB m r n l
  · go_wp2
    all_goals
      go_ret
      exact ⟨ret_bool (by simp_all), HB1.out⟩
  · go_wp2_with fail
    refine (rightDst_any m2 r2 n2 l2 _).mono ?_
    rintro e x2 ⟨rfl, hb⟩
    have HI2 : Hid (_ = _) := heap_keep HI1.out hb
    have HB2 : Hid (Below w.heap.size w x2) := HB1.out.trans (hb.mono HB1.out.size)
    clear hb c0 c1 c2 c3 c4 c5 c6 c7 c8 c9 c10
    obtain ⟨c0, c1, c2, c3, c4, c5, c6, c7, c8, c9, c10⟩ := cells11 HI2.out
    cases hd : dstB m2 r2 n2 l2
    · go_wp2
      all_goals
        go_ret
        exact ⟨ret_bool (by simp_all), HB2.out⟩
    · go_wp2
      all_goals
        go_ret
        exact ⟨ret_bool (by simp_all), HB2.out⟩
set_option maxRecDepth 100000 in
set_option maxHeartbeats 1600000 in
theorem rightJump_any (op : ByteArray) (b : Bool) (m r n : Int) (l : Bool) (m2 r2 n2 : Int) (l2 : Bool) (j : Int) (w : World) :
    Calls Tryd.prog 57 #[.agg #[.string op, .bool b, .int .i64 m, .int .i64 r, .int .i64 n, .bool l, .int .i64 m2, .int .i64 r2, .int .i64 n2, .bool l2, .int .i64 j]] w fun e w' => e = .returned (.bool (!b && zeroB m r n l && zeroB m2 r2 n2 l2 && isB j (-512) 511)) ∧ Below w.heap.size w w' := by
  by_cases h1 : -512 ≤ j
  · by_cases h2 : j ≤ 511
    · have HJ : Hid (isB j (-512) 511 = true) := by show _ = _; simp [isB, h1, h2]
      go_enter Tryd.func57, Tryd.ntmps57
      go_wp2
      all_goals
        go_ret
        exact ⟨ret_bool (by rw [HJ.out]; simp_all [zeroB]), (Below.refl _ _).alloc (Nat.le_refl _) _⟩
    · have HJ : Hid (isB j (-512) 511 = false) := by show _ = _; simp [isB, h1, h2]
      go_enter Tryd.func57, Tryd.ntmps57
      go_wp2
      all_goals
        go_ret
        exact ⟨ret_bool (by rw [HJ.out]; simp_all), (Below.refl _ _).alloc (Nat.le_refl _) _⟩
  · have HJ : Hid (isB j (-512) 511 = false) := by show _ = _; simp [isB, h1]
    go_enter Tryd.func57, Tryd.ntmps57
    go_wp2
    all_goals
      go_ret
      exact ⟨ret_bool (by rw [HJ.out]; simp_all), (Below.refl _ _).alloc (Nat.le_refl _) _⟩
end Go.Proofs.YtknielpkmablkaaDoor
