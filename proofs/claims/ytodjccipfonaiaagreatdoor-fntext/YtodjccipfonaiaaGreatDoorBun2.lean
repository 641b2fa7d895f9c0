/- Instructions: the short constants of the program. -/
import Derived.Test.YtodjccipfonaiaaGreatDoorRows
import Derived.WalkKit
import Derived.WalkSpells
import Derived.WalkLawsBesides
import Derived.Outline
import Derived.Test.YtodjccipfonaiaaGreatDoorBun0
import Derived.Test.YtodjccipfonaiaaGreatDoorBun1
namespace Go.Proofs.YtodjccipfonaiaaGreatDoor
open Go.RowKit

def shortF (n : Int) : Int × Int × Bool := if (shortI n).2.2 then shortI n else (0, 0, false)
theorem short_i0 (W : World) : (Instr.index 135 (.agg shortsV) (.int .i64 0)).run Tryz.prog W = .ok (.agg #[.int .i64 0, .int .i64 0, .int .i64 3]) W := by kernel_rfl
theorem short_i1 (W : World) : (Instr.index 135 (.agg shortsV) (.int .i64 1)).run Tryz.prog W = .ok (.agg #[.int .i64 1, .int .i64 1, .int .i64 3]) W := by kernel_rfl
theorem short_i2 (W : World) : (Instr.index 135 (.agg shortsV) (.int .i64 2)).run Tryz.prog W = .ok (.agg #[.int .i64 2, .int .i64 2, .int .i64 3]) W := by kernel_rfl
theorem short_i3 (W : World) : (Instr.index 135 (.agg shortsV) (.int .i64 3)).run Tryz.prog W = .ok (.agg #[.int .i64 65535, .int .i64 3, .int .i64 3]) W := by kernel_rfl
theorem short_i4 (W : World) : (Instr.index 135 (.agg shortsV) (.int .i64 4)).run Tryz.prog W = .ok (.agg #[.int .i64 4, .int .i64 2, .int .i64 2]) W := by kernel_rfl
theorem short_i5 (W : World) : (Instr.index 135 (.agg shortsV) (.int .i64 5)).run Tryz.prog W = .ok (.agg #[.int .i64 8, .int .i64 3, .int .i64 2]) W := by kernel_rfl
theorem not_more {n : Int} {k : Nat} (h : ∀ j, j < k → shortsL.getD (3 * j) 0 ≠ n) (hk : n ≠ shortsL.getD (3 * k) 0) : ∀ j, j < k + 1 → shortsL.getD (3 * j) 0 ≠ n := by
  intro j hj
  by_cases e : j = k
  · subst e; exact Ne.symm hk
  · exact h j (by omega)
theorem short_not {n : Int} (h0 : n ≠ 0) (h1 : n ≠ 1) (h2 : n ≠ 2) (h3 : n ≠ 65535) (h4 : n ≠ 4) (h8 : n ≠ 8) : shortF n = (0, 0, false) := by
  simp [shortF, shortI, h0, h1, h2, h3, h4, h8]
theorem ret_field {a b a' b' : Int} {c c' : Bool} (h : (a, b, c) = (a', b', c')) : Ending.returned (.tuple #[.agg #[.int .i64 a, .int .i64 b], .bool c]) = .returned (.tuple #[.agg #[.int .i64 a', .int .i64 b'], .bool c']) := by
  cases h; rfl
set_option maxRecDepth 100000 in
set_option maxHeartbeats 1600000 in
theorem shortField_any (n : Int) (w : World) (hT : Tabs w) : Calls Tryz.prog 102 #[.int .i64 n] w fun e w' => e = .returned (.tuple #[.agg #[.int .i64 (shortF n).1, .int .i64 (shortF n).2.1], .bool (shortF n).2.2]) ∧ Below w.heap.size w w' := by
  obtain ⟨t, fr, hS⟩ := hT.shorts
  have HS : Hid (_ = _) := hS
  clear hT hS
  have HS1 : Hid (∀ o : Obj, (w.alloc o).heap[1]? = _) := fun o : Obj => heap_more HS.out o
  go_enter Tryz.func102, Tryz.ntmps102
  go_wp2_with (refine wpList_load_row rfl 135 _ rfl 1 rfl t _ fr _ (HS1.out _) Tryz.underlying135 rfl (by kernel_rfl) ?_)
  go_loopw [7] (fun i wr => ∃ k : Nat, k ≤ 6 ∧ i = .int .i64 k ∧ Hid (Below w.heap.size w wr) ∧ Hid (wr.heap[w.heap.size]? = some (.cells #[.int .i64 0, .int .i64 0] 103 (0, 0))) ∧ Hid (∀ j, j < k → shortsL.getD (3 * j) 0 ≠ n)) (fun i _ => 6 - (intOf i).toNat)
  case atStart => exact ⟨0, by omega, rfl, (Below.refl _ _).alloc (Nat.le_refl _) _, heap_alloc_new _ _, fun j hj => by omega⟩
  case round =>
    obtain ⟨k, hk, rfl, HB, HR, HN0⟩ := hrel
    obtain ⟨q0, q1, f0, f1⟩ := two_cells HR.out
    have hsz := heap_lt HR.out
    obtain rfl | rfl | rfl | rfl | rfl | rfl | rfl : k = 0 ∨ k = 1 ∨ k = 2 ∨ k = 3 ∨ k = 4 ∨ k = 5 ∨ k = 6 := by omega
    · have hi := short_i0
      by_cases hn : n = 0
      · subst hn
        go_wp2
        refine bodyPost_ret (results_row1 Tryz.results102 _ _ w.heap.size 103 #[.int .i64 0, .int .i64 3] (0, 0) _ rfl (heap_more (heap_set (heap_set HR.out 0 _) 1 _) _) Tryz.underlying103 rfl (by kernel_rfl)) rfl ⟨rfl, ?_⟩
        exact (((HB.out.setCell (Nat.le_refl _) _).setCell (Nat.le_refl _) _).alloc (by simp; omega) _)
      · have hv : (0 == n) = false := by rw [beq_eq_false_iff_ne]; exact Ne.symm hn
        have HN : Hid (n ≠ 0) := hn
        clear hn
        go_wp2
        go_roundw
        case rel => exact ⟨1, by omega, rfl, HB.out.alloc (by omega) _, heap_more HR.out _, not_more HN0.out HN.out⟩
        case measure => simp [intOf]
    · have hi := short_i1
      by_cases hn : n = 1
      · subst hn
        go_wp2
        refine bodyPost_ret (results_row1 Tryz.results102 _ _ w.heap.size 103 #[.int .i64 1, .int .i64 3] (0, 0) _ rfl (heap_more (heap_set (heap_set HR.out 0 _) 1 _) _) Tryz.underlying103 rfl (by kernel_rfl)) rfl ⟨rfl, ?_⟩
        exact (((HB.out.setCell (Nat.le_refl _) _).setCell (Nat.le_refl _) _).alloc (by simp; omega) _)
      · have hv : (1 == n) = false := by rw [beq_eq_false_iff_ne]; exact Ne.symm hn
        have HN : Hid (n ≠ 1) := hn
        clear hn
        go_wp2
        go_roundw
        case rel => exact ⟨2, by omega, rfl, HB.out.alloc (by omega) _, heap_more HR.out _, not_more HN0.out HN.out⟩
        case measure => simp [intOf]
    · have hi := short_i2
      by_cases hn : n = 2
      · subst hn
        go_wp2
        refine bodyPost_ret (results_row1 Tryz.results102 _ _ w.heap.size 103 #[.int .i64 2, .int .i64 3] (0, 0) _ rfl (heap_more (heap_set (heap_set HR.out 0 _) 1 _) _) Tryz.underlying103 rfl (by kernel_rfl)) rfl ⟨rfl, ?_⟩
        exact (((HB.out.setCell (Nat.le_refl _) _).setCell (Nat.le_refl _) _).alloc (by simp; omega) _)
      · have hv : (2 == n) = false := by rw [beq_eq_false_iff_ne]; exact Ne.symm hn
        have HN : Hid (n ≠ 2) := hn
        clear hn
        go_wp2
        go_roundw
        case rel => exact ⟨3, by omega, rfl, HB.out.alloc (by omega) _, heap_more HR.out _, not_more HN0.out HN.out⟩
        case measure => simp [intOf]
    · have hi := short_i3
      by_cases hn : n = 65535
      · subst hn
        go_wp2
        refine bodyPost_ret (results_row1 Tryz.results102 _ _ w.heap.size 103 #[.int .i64 3, .int .i64 3] (0, 0) _ rfl (heap_more (heap_set (heap_set HR.out 0 _) 1 _) _) Tryz.underlying103 rfl (by kernel_rfl)) rfl ⟨rfl, ?_⟩
        exact (((HB.out.setCell (Nat.le_refl _) _).setCell (Nat.le_refl _) _).alloc (by simp; omega) _)
      · have hv : (65535 == n) = false := by rw [beq_eq_false_iff_ne]; exact Ne.symm hn
        have HN : Hid (n ≠ 65535) := hn
        clear hn
        go_wp2
        go_roundw
        case rel => exact ⟨4, by omega, rfl, HB.out.alloc (by omega) _, heap_more HR.out _, not_more HN0.out HN.out⟩
        case measure => simp [intOf]
    · have hi := short_i4
      by_cases hn : n = 4
      · subst hn
        go_wp2
        refine bodyPost_ret (results_row1 Tryz.results102 _ _ w.heap.size 103 #[.int .i64 2, .int .i64 2] (0, 0) _ rfl (heap_more (heap_set (heap_set HR.out 0 _) 1 _) _) Tryz.underlying103 rfl (by kernel_rfl)) rfl ⟨rfl, ?_⟩
        exact (((HB.out.setCell (Nat.le_refl _) _).setCell (Nat.le_refl _) _).alloc (by simp; omega) _)
      · have hv : (4 == n) = false := by rw [beq_eq_false_iff_ne]; exact Ne.symm hn
        have HN : Hid (n ≠ 4) := hn
        clear hn
        go_wp2
        go_roundw
        case rel => exact ⟨5, by omega, rfl, HB.out.alloc (by omega) _, heap_more HR.out _, not_more HN0.out HN.out⟩
        case measure => simp [intOf]
    · have hi := short_i5
      by_cases hn : n = 8
      · subst hn
        go_wp2
        refine bodyPost_ret (results_row1 Tryz.results102 _ _ w.heap.size 103 #[.int .i64 3, .int .i64 2] (0, 0) _ rfl (heap_more (heap_set (heap_set HR.out 0 _) 1 _) _) Tryz.underlying103 rfl (by kernel_rfl)) rfl ⟨rfl, ?_⟩
        exact (((HB.out.setCell (Nat.le_refl _) _).setCell (Nat.le_refl _) _).alloc (by simp; omega) _)
      · have hv : (8 == n) = false := by rw [beq_eq_false_iff_ne]; exact Ne.symm hn
        have HN : Hid (n ≠ 8) := hn
        clear hn
        go_wp2
        go_roundw
        case rel => exact ⟨6, by omega, rfl, HB.out.alloc (by omega) _, heap_more HR.out _, not_more HN0.out HN.out⟩
        case measure => simp [intOf]
    · have HF : Hid (shortF n = (0, 0, false)) := short_not (Ne.symm (HN0.out 0 (by omega))) (Ne.symm (HN0.out 1 (by omega))) (Ne.symm (HN0.out 2 (by omega))) (Ne.symm (HN0.out 3 (by omega))) (Ne.symm (HN0.out 4 (by omega))) (Ne.symm (HN0.out 5 (by omega)))
      go_wp2
      refine bodyPost_ret (results_row1 Tryz.results102 _ _ w.heap.size 103 #[.int .i64 0, .int .i64 0] (0, 0) _ rfl (heap_set (heap_set HR.out 0 _) 1 _) Tryz.underlying103 rfl (by kernel_rfl)) rfl ⟨?_, ?_⟩
      · exact ret_field (by rw [HF.out])
      · exact ((HB.out.setCell (Nat.le_refl _) _).setCell (Nat.le_refl _) _)
end Go.Proofs.YtodjccipfonaiaaGreatDoor
namespace Go.Proofs.YtodjccipfonaiaaGreatDoor
open Go.RowKit

theorem shortF_b (n : Int) : (shortF n).2.2 = (shortI n).2.2 := by
  unfold shortF; split <;> simp_all
theorem cells4 {w w1 : World} {a b c d : Value} {t : TypeId} (hb : Below (w.alloc (.cells #[a, b, c, d] t)).heap.size (w.alloc (.cells #[a, b, c, d] t)) w1) :
    w1.cell? ⟨w.heap.size, 0, none⟩ = some a ∧ w1.cell? ⟨w.heap.size, 1, none⟩ = some b ∧ w1.cell? ⟨w.heap.size, 2, none⟩ = some c ∧ w1.cell? ⟨w.heap.size, 3, none⟩ = some d := by
  have h := heap_keep (heap_alloc_new w (.cells #[a, b, c, d] t)) hb
  refine ⟨?_, ?_, ?_, ?_⟩ <;> simp [World.cell?, h]
set_option maxHeartbeats 400000 in
theorem isShort_any (n : Int) (w : World) (hT : Tabs w) : Calls Tryz.prog 80 #[.int .i64 n] w fun e w' => e = .returned (.bool (shortI n).2.2) ∧ Below w.heap.size w w' := by
  have HT : Hid (_) := hT
  clear hT
  have HF : Hid (_ = _) := shortF_b n
  obtain ⟨s1, s2, s3, hs⟩ : ∃ a b c, shortF n = (a, b, c) := ⟨_, _, _, rfl⟩
  have HS : Hid (_ = _) := hs
  clear hs
  go_enter Tryz.func80, Tryz.ntmps80
  go_wp2_with fail
  refine (shortField_any n _ HT.out).mono ?_
  rintro e w1 ⟨rfl, hb⟩
  rw [HS.out]
  go_wp2
  go_ret
  exact ⟨ret_bool (by rw [← HF.out, HS.out]), hb.alloc hb.size _⟩
set_option maxHeartbeats 400000 in
theorem rightDst_any (m r n : Int) (l : Bool) (w : World) : Calls Tryz.prog 92 #[.agg #[.int .i64 m, .int .i64 r, .int .i64 n, .bool l]] w fun e w' => e = .returned (.bool (dstB m r n l)) ∧ Below w.heap.size w w' := by
  by_cases h0 : m = 0
  · subst h0
    go_enter Tryz.func92, Tryz.ntmps92
    go_wp2_with fail
    refine (isReg_any r _).mono ?_
    rintro e w1 ⟨rfl, rfl⟩
    cases h : isB r 0 15
    · go_wp2
      all_goals
        go_ret
        exact ⟨ret_bool (by simp_all [dstB]), (Below.refl _ _).alloc (Nat.le_refl _) _⟩
    · go_wp2
      all_goals
        go_ret
        exact ⟨ret_bool (by simp_all [dstB]), (Below.refl _ _).alloc (Nat.le_refl _) _⟩
  have e0 : (m == 0) = false := by rw [beq_eq_false_iff_ne]; exact h0
  by_cases h1 : m = 1
  · subst h1
    go_enter Tryz.func92, Tryz.ntmps92
    go_wp2_with fail
    refine (holdsAddress_any r _).mono ?_
    rintro e w1 ⟨rfl, rfl⟩
    cases h : plainB r
    · go_wp2
      all_goals
        go_ret
        exact ⟨ret_bool (by simp_all [dstB, srcB]), (Below.refl _ _).alloc (Nat.le_refl _) _⟩
    · go_wp2_with fail
      refine (isWord_any n _).mono ?_
      rintro e w1 ⟨rfl, rfl⟩
      cases h2 : isB n 0 65535
      · go_wp2
        all_goals
          go_ret
          exact ⟨ret_bool (by simp_all [dstB, srcB]), (Below.refl _ _).alloc (Nat.le_refl _) _⟩
      · go_wp2
        all_goals
          go_ret
          exact ⟨ret_bool (by simp_all [dstB, srcB]), (Below.refl _ _).alloc (Nat.le_refl _) _⟩
  have e1 : (m == 1) = false := by rw [beq_eq_false_iff_ne]; exact h1
  by_cases h2 : m = 2
  · subst h2
    go_enter Tryz.func92, Tryz.ntmps92
    go_wp2_with fail
    refine (isWord_any n _).mono ?_
    rintro e w1 ⟨rfl, rfl⟩
    cases h2 : isB n 0 65535
    · go_wp2
      all_goals
        go_ret
        exact ⟨ret_bool (by simp_all [dstB, srcB]), (Below.refl _ _).alloc (Nat.le_refl _) _⟩
    · go_wp2
      all_goals
        go_ret
        exact ⟨ret_bool (by simp_all [dstB, srcB]), (Below.refl _ _).alloc (Nat.le_refl _) _⟩
  have e2 : (m == 2) = false := by rw [beq_eq_false_iff_ne]; exact h2
  have HD : Hid (dstB m r n l = false) := by show _ = _; simp [dstB, h0, h1, h2]
  clear h0 h1 h2
  go_enter Tryz.func92, Tryz.ntmps92
  go_wp2
  go_ret
  exact ⟨ret_bool HD.out.symm, (Below.refl _ _).alloc (Nat.le_refl _) _⟩
set_option maxHeartbeats 400000 in
theorem rightSrc_34 (m r n : Int) (l : Bool) (w : World) (hm : m = 3 ∨ m = 4) : Calls Tryz.prog 91 #[.agg #[.int .i64 m, .int .i64 r, .int .i64 n, .bool l]] w fun e w' => e = .returned (.bool (srcB m r n l)) ∧ Below w.heap.size w w' := by
  obtain rfl | rfl := hm
  all_goals
    go_enter Tryz.func91, Tryz.ntmps91
    go_wp2_with fail
    refine (holdsAddress_any r _).mono ?_
    rintro e w1 ⟨rfl, rfl⟩
    cases h : plainB r
    · go_wp2
      all_goals
        go_ret
        exact ⟨ret_bool (by simp_all [srcB]), (Below.refl _ _).alloc (Nat.le_refl _) _⟩
    · go_wp2
      all_goals
        go_ret
        exact ⟨ret_bool (by simp_all [srcB]), (Below.refl _ _).alloc (Nat.le_refl _) _⟩
set_option maxHeartbeats 400000 in
theorem rightSrc_5 (r n : Int) (l : Bool) (w : World) (hT : Tabs w) : Calls Tryz.prog 91 #[.agg #[.int .i64 5, .int .i64 r, .int .i64 n, .bool l]] w fun e w' => e = .returned (.bool (srcB 5 r n l)) ∧ Below w.heap.size w w' := by
  have HT : Hid (∀ o, Tabs (w.alloc o)) := fun o => hT.alloc o
  clear hT
  go_enter Tryz.func91, Tryz.ntmps91
  go_wp2_with fail
  refine (isWord_any n _).mono ?_
  rintro e w1 ⟨rfl, rfl⟩
  cases h : isB n 0 65535
  · go_wp2
    all_goals
      go_ret
      exact ⟨ret_bool (by simp_all [srcB]), (Below.refl _ _).alloc (Nat.le_refl _) _⟩
  · cases l
    · go_wp2
      all_goals
        go_ret
        exact ⟨ret_bool (by simp_all [srcB]), (Below.refl _ _).alloc (Nat.le_refl _) _⟩
    · go_wp2_with fail
      refine (isShort_any n _ (HT.out _)).mono ?_
      rintro e w1 ⟨rfl, hb⟩
      have HB : Hid (Below w.heap.size w w1) := Below.trans ((Below.refl _ _).alloc (Nat.le_refl _) _) (hb.mono (by simp))
      obtain ⟨c0, c1, c2, c3⟩ := cells4 hb
      clear hb
      cases hs : (shortI n).2.2
      · go_wp2
        all_goals
          go_ret
          exact ⟨ret_bool (by simp_all [srcB]), HB.out⟩
      · go_wp2
        all_goals
          go_ret
          exact ⟨ret_bool (by simp_all [srcB]), HB.out⟩
set_option maxHeartbeats 400000 in
theorem rightSrc_no (m r n : Int) (l : Bool) (w : World) (h3 : m ≠ 3) (h4 : m ≠ 4) (h5 : m ≠ 5) : Calls Tryz.prog 91 #[.agg #[.int .i64 m, .int .i64 r, .int .i64 n, .bool l]] w fun e w' => e = .returned (.bool (srcB m r n l)) ∧ Below w.heap.size w w' := by
  have e3 : (m == 3) = false := by rw [beq_eq_false_iff_ne]; exact h3
  have e4 : (m == 4) = false := by rw [beq_eq_false_iff_ne]; exact h4
  have e5 : (m == 5) = false := by rw [beq_eq_false_iff_ne]; exact h5
  have HS : Hid (srcB m r n l = (dstB m r n l && !((m == 0) && (r == 3) && (n == 0) && !l))) := by
    show _ = _
    unfold dstB srcB
    by_cases h0 : m = 0
    · subst h0; cases isB r 0 15 <;> cases l <;> simp <;> grind
    · by_cases h1 : m = 1
      · subst h1; simp
      · by_cases h2 : m = 2
        · subst h2; simp
        · simp [h0, h1, h2, h3, h4, h5]
  clear h3 h4 h5
  go_enter Tryz.func91, Tryz.ntmps91
  go_wp2_with fail
  refine (rightDst_any m r n l _).mono ?_
  rintro e w1 ⟨rfl, hb⟩
  have HB : Hid (Below w.heap.size w w1) := Below.trans ((Below.refl _ _).alloc (Nat.le_refl _) _) (hb.mono (by simp))
  obtain ⟨c0, c1, c2, c3⟩ := cells4 hb
  clear hb
  cases hd : dstB m r n l
  · go_wp2
    all_goals
      go_ret
      exact ⟨ret_bool (by rw [HS.out, hd]; rfl), HB.out⟩
  · go_wp2
    all_goals
      go_ret
      exact ⟨ret_bool (by rw [HS.out, hd]; simp_all), HB.out⟩
theorem rightSrc_any (m r n : Int) (l : Bool) (w : World) (hT : Tabs w) : Calls Tryz.prog 91 #[.agg #[.int .i64 m, .int .i64 r, .int .i64 n, .bool l]] w fun e w' => e = .returned (.bool (srcB m r n l)) ∧ Below w.heap.size w w' := by
  by_cases h3 : m = 3
  · exact rightSrc_34 m r n l w (.inl h3)
  by_cases h4 : m = 4
  · exact rightSrc_34 m r n l w (.inr h4)
  by_cases h5 : m = 5
  · subst h5; exact rightSrc_5 r n l w hT
  exact rightSrc_no m r n l w h3 h4 h5
end Go.Proofs.YtodjccipfonaiaaGreatDoor
