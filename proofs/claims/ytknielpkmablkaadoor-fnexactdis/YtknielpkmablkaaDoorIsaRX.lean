/- Instructions: the program's right operands. -/
import Derived.Test.YtknielpkmablkaaDoorRows
import Derived.WalkKit
import Derived.WalkSpells
import Derived.WalkLawsBesides
import Derived.Outline
import Derived.Test.YtknielpkmablkaaDoorBun0
import Derived.Test.YtknielpkmablkaaDoorIsaFX
namespace Go.Proofs.YtknielpkmablkaaDoor
open Go.RowKit

theorem shortF_b (n : Int) : (shortF n).2.2 = (shortI n).2.2 := by
  unfold shortF; split <;> simp_all
theorem cells4 {w w1 : World} {a b c d : Value} {t : TypeId} (hb : Below (w.alloc (.cells #[a, b, c, d] t)).heap.size (w.alloc (.cells #[a, b, c, d] t)) w1) :
    w1.cell? ⟨w.heap.size, 0, none⟩ = some a ∧ w1.cell? ⟨w.heap.size, 1, none⟩ = some b ∧ w1.cell? ⟨w.heap.size, 2, none⟩ = some c ∧ w1.cell? ⟨w.heap.size, 3, none⟩ = some d := by
  have h := heap_keep (heap_alloc_new w (.cells #[a, b, c, d] t)) hb
  refine ⟨?_, ?_, ?_, ?_⟩ <;> simp [World.cell?, h]
set_option maxHeartbeats 400000 in
theorem isShort_any (n : Int) (w : World) (hT : Tabs w) : Calls Tryd.prog 58 #[.int .i64 n] w fun e w' => e = .returned (.bool (shortI n).2.2) ∧ Below w.heap.size w w' := by
  have HT : Hid (_) := hT
  clear hT
  have HF : Hid (_ = _) := shortF_b n
  obtain ⟨s1, s2, s3, hs⟩ : ∃ a b c, shortF n = (a, b, c) := ⟨_, _, _, rfl⟩
  have HS : Hid (_ = _) := hs
  clear hs
  go_enter Tryd.func58, Tryd.ntmps58
  go_wp2_with fail
  refine (shortField_any n _ HT.out).mono ?_
  rintro e w1 ⟨rfl, hb⟩
  rw [HS.out]
  go_wp2
  go_ret
  exact ⟨ret_bool (by rw [← HF.out, HS.out]), hb.alloc hb.size _⟩
set_option maxHeartbeats 400000 in
theorem rightDst_any (m r n : Int) (l : Bool) (w : World) : Calls Tryd.prog 67 #[.agg #[.int .i64 m, .int .i64 r, .int .i64 n, .bool l]] w fun e w' => e = .returned (.bool (dstB m r n l)) ∧ Below w.heap.size w w' := by
  by_cases h0 : m = 0
  · subst h0
    go_enter Tryd.func67, Tryd.ntmps67
    go_wp2_with fail
    refine (isReg_any r _).mono ?_
    rintro e w1 ⟨rfl, rfl⟩
    cases h : isB r 0 15
    · go_wp2
      all_goals
        go_ret
        exact ⟨ret_bool (by simp_all [dstB]), (Below.refl _ _).alloc (Nat.le_refl _) _⟩
    · go_wp2
      all_goals
        go_ret
        exact ⟨ret_bool (by simp_all [dstB]), (Below.refl _ _).alloc (Nat.le_refl _) _⟩
  have e0 : (m == 0) = false := by rw [beq_eq_false_iff_ne]; exact h0
  by_cases h1 : m = 1
  · subst h1
    go_enter Tryd.func67, Tryd.ntmps67
    go_wp2_with fail
    refine (holdsAddress_any r _).mono ?_
    rintro e w1 ⟨rfl, rfl⟩
    cases h : plainB r
    · go_wp2
      all_goals
        go_ret
        exact ⟨ret_bool (by simp_all [dstB, srcB]), (Below.refl _ _).alloc (Nat.le_refl _) _⟩
    · go_wp2_with fail
      refine (isWord_any n _).mono ?_
      rintro e w1 ⟨rfl, rfl⟩
      cases h2 : isB n 0 65535
      · go_wp2
        all_goals
          go_ret
          exact ⟨ret_bool (by simp_all [dstB, srcB]), (Below.refl _ _).alloc (Nat.le_refl _) _⟩
      · go_wp2
        all_goals
          go_ret
          exact ⟨ret_bool (by simp_all [dstB, srcB]), (Below.refl _ _).alloc (Nat.le_refl _) _⟩
  have e1 : (m == 1) = false := by rw [beq_eq_false_iff_ne]; exact h1
  by_cases h2 : m = 2
  · subst h2
    go_enter Tryd.func67, Tryd.ntmps67
    go_wp2_with fail
    refine (isWord_any n _).mono ?_
    rintro e w1 ⟨rfl, rfl⟩
    cases h2 : isB n 0 65535
    · go_wp2
      all_goals
        go_ret
        exact ⟨ret_bool (by simp_all [dstB, srcB]), (Below.refl _ _).alloc (Nat.le_refl _) _⟩
    · go_wp2
      all_goals
        go_ret
        exact ⟨ret_bool (by simp_all [dstB, srcB]), (Below.refl _ _).alloc (Nat.le_refl _) _⟩
  have e2 : (m == 2) = false := by rw [beq_eq_false_iff_ne]; exact h2
  have HD : Hid (dstB m r n l = false) := by show _ = _; simp [dstB, h0, h1, h2]
  clear h0 h1 h2
  go_enter Tryd.func67, Tryd.ntmps67
  go_wp2
  go_ret
  exact ⟨ret_bool HD.out.symm, (Below.refl _ _).alloc (Nat.le_refl _) _⟩
set_option maxHeartbeats 400000 in
theorem rightSrc_34 (m r n : Int) (l : Bool) (w : World) (hm : m = 3 ∨ m = 4) : Calls Tryd.prog 66 #[.agg #[.int .i64 m, .int .i64 r, .int .i64 n, .bool l]] w fun e w' => e = .returned (.bool (srcB m r n l)) ∧ Below w.heap.size w w' := by
  obtain rfl | rfl := hm
  all_goals
    go_enter Tryd.func66, Tryd.ntmps66
    go_wp2_with fail
    refine (holdsAddress_any r _).mono ?_
    rintro e w1 ⟨rfl, rfl⟩
    cases h : plainB r
    · go_wp2
      all_goals
        go_ret
        exact ⟨ret_bool (by simp_all [srcB]), (Below.refl _ _).alloc (Nat.le_refl _) _⟩
    · go_wp2
      all_goals
        go_ret
        exact ⟨ret_bool (by simp_all [srcB]), (Below.refl _ _).alloc (Nat.le_refl _) _⟩
set_option maxHeartbeats 400000 in
theorem rightSrc_5 (r n : Int) (l : Bool) (w : World) (hT : Tabs w) : Calls Tryd.prog 66 #[.agg #[.int .i64 5, .int .i64 r, .int .i64 n, .bool l]] w fun e w' => e = .returned (.bool (srcB 5 r n l)) ∧ Below w.heap.size w w' := by
  have HT : Hid (∀ o, Tabs (w.alloc o)) := fun o => hT.alloc o
  clear hT
  go_enter Tryd.func66, Tryd.ntmps66
  go_wp2_with fail
  refine (isWord_any n _).mono ?_
  rintro e w1 ⟨rfl, rfl⟩
  cases h : isB n 0 65535
  · go_wp2
    all_goals
      go_ret
      exact ⟨ret_bool (by simp_all [srcB]), (Below.refl _ _).alloc (Nat.le_refl _) _⟩
  · cases l
    · go_wp2
      all_goals
        go_ret
        exact ⟨ret_bool (by simp_all [srcB]), (Below.refl _ _).alloc (Nat.le_refl _) _⟩
    · go_wp2_with fail
      refine (isShort_any n _ (HT.out _)).mono ?_
      rintro e w1 ⟨rfl, hb⟩
      have HB : Hid (Below w.heap.size w w1) := Below.trans ((Below.refl _ _).alloc (Nat.le_refl _) _) (hb.mono (by simp))
      obtain ⟨c0, c1, c2, c3⟩ := cells4 hb
      clear hb
      cases hs : (shortI n).2.2
      · go_wp2
        all_goals
          go_ret
          exact ⟨ret_bool (by simp_all [srcB]), HB.out⟩
      · go_wp2
        all_goals
          go_ret
          exact ⟨ret_bool (by simp_all [srcB]), HB.out⟩
set_option maxHeartbeats 400000 in
theorem rightSrc_no (m r n : Int) (l : Bool) (w : World) (h3 : m ≠ 3) (h4 : m ≠ 4) (h5 : m ≠ 5) : Calls Tryd.prog 66 #[.agg #[.int .i64 m, .int .i64 r, .int .i64 n, .bool l]] w fun e w' => e = .returned (.bool (srcB m r n l)) ∧ Below w.heap.size w w' := by
  have e3 : (m == 3) = false := by rw [beq_eq_false_iff_ne]; exact h3
  have e4 : (m == 4) = false := by rw [beq_eq_false_iff_ne]; exact h4
  have e5 : (m == 5) = false := by rw [beq_eq_false_iff_ne]; exact h5
  have HS : Hid (srcB m r n l = (dstB m r n l && !((m == 0) && (r == 3) && (n == 0) && !l))) := by
    show _ = _
    unfold dstB srcB
    by_cases h0 : m = 0
    · subst h0; cases isB r 0 15 <;> cases l <;> simp <;> grind
    · by_cases h1 : m = 1
      · subst h1; simp
      · by_cases h2 : m = 2
        · subst h2; simp
        · simp [h0, h1, h2, h3, h4, h5]
  clear h3 h4 h5
  go_enter Tryd.func66, Tryd.ntmps66
  go_wp2_with fail
  refine (rightDst_any m r n l _).mono ?_
  rintro e w1 ⟨rfl, hb⟩
  have HB : Hid (Below w.heap.size w w1) := Below.trans ((Below.refl _ _).alloc (Nat.le_refl _) _) (hb.mono (by simp))
  obtain ⟨c0, c1, c2, c3⟩ := cells4 hb
  clear hb
  cases hd : dstB m r n l
  · go_wp2
    all_goals
      go_ret
      exact ⟨ret_bool (by rw [HS.out, hd]; rfl), HB.out⟩
  · go_wp2
    all_goals
      go_ret
      exact ⟨ret_bool (by rw [HS.out, hd]; simp_all), HB.out⟩
theorem rightSrc_any (m r n : Int) (l : Bool) (w : World) (hT : Tabs w) : Calls Tryd.prog 66 #[.agg #[.int .i64 m, .int .i64 r, .int .i64 n, .bool l]] w fun e w' => e = .returned (.bool (srcB m r n l)) ∧ Below w.heap.size w w' := by
  by_cases h3 : m = 3
  · exact rightSrc_34 m r n l w (.inl h3)
  by_cases h4 : m = 4
  · exact rightSrc_34 m r n l w (.inr h4)
  by_cases h5 : m = 5
  · subst h5; exact rightSrc_5 r n l w hT
  exact rightSrc_no m r n l w h3 h4 h5
end Go.Proofs.YtknielpkmablkaaDoor
