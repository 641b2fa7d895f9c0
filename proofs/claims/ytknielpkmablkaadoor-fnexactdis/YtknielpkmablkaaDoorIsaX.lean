/- Instructions: what the specification's small functions answer. -/
import Derived.Test.YtknielpkmablkaaDoorRows
import Derived.WalkKit
import Derived.WalkSpells
import Derived.WalkLawsBesides
import Derived.Test.YtknielpkmablkaaDoorBun0
namespace Go.Proofs.YtknielpkmablkaaDoor
open Go.RowKit

structure Opd where
  mode : Int
  reg : Int
  n : Int
  long : Bool
def Opd.val (o : Opd) : Value := .agg #[.int .i64 o.mode, .int .i64 o.reg, .int .i64 o.n, .bool o.long]
def isB (n low high : Int) : Bool := decide (low ≤ n) && decide (n ≤ high)
theorem l02Is_any (n low high : Int) (w : World) : Calls Tryd.prog 33 #[.int .i64 n, .int .i64 low, .int .i64 high] w fun e w' => e = .returned (.bool (isB n low high)) ∧ w' = w := by
  by_cases h1 : low ≤ n
  · go_enter Tryd.func33, Tryd.ntmps33
    go_wp2
    go_ret
    exact ⟨ret_bool (by simp [isB, h1]), rfl⟩
  · go_enter Tryd.func33, Tryd.ntmps33
    go_wp2
    go_ret
    exact ⟨ret_bool (by simp [isB]; omega), rfl⟩
theorem l02Word_any (n : Int) (w : World) : Calls Tryd.prog 21 #[.int .i64 n] w fun e w' => e = .returned (.bool (isB n 0 65535)) ∧ w' = w := by
  go_enter Tryd.func21, Tryd.ntmps21
  go_wp2_with fail
  refine (l02Is_any n 0 65535 _).mono ?_
  rintro e w1 ⟨rfl, rfl⟩
  go_wp2
  go_ret
  exact ⟨rfl, rfl⟩
def plainB (r : Int) : Bool := isB r 0 15 && (r != 2 && r != 3)
theorem l02Plain_any (r : Int) (w : World) : Calls Tryd.prog 71 #[.int .i64 r] w fun e w' => e = .returned (.bool (plainB r)) ∧ w' = w := by
  go_enter Tryd.func71, Tryd.ntmps71
  go_wp2_with fail
  refine (l02Is_any r 0 15 _).mono ?_
  rintro e w1 ⟨rfl, rfl⟩
  cases h : isB r 0 15
  · go_wp2
    go_ret
    exact ⟨ret_bool (by simp [plainB, h]), rfl⟩
  · go_wp2
    all_goals
      go_ret
      exact ⟨ret_bool (by simp_all [plainB]), rfl⟩
def shortI (n : Int) : Int × Int × Bool :=
  if n = 0 ∨ n = 1 ∨ n = 2 then (n, 3, true) else if n = 65535 then (3, 3, true) else if n = 4 then (2, 2, true) else if n = 8 then (3, 2, true) else (3, 0, false)
theorem ret_three {a b a' b' : Int} {c c' : Bool} (h : (a, b, c) = (a', b', c')) : Ending.returned (.tuple #[.int .i64 a, .int .i64 b, .bool c]) = .returned (.tuple #[.int .i64 a', .int .i64 b', .bool c']) := by
  cases h; rfl
set_option maxHeartbeats 400000 in
theorem l02Short_any (n : Int) (w : World) : Calls Tryd.prog 35 #[.int .i64 n] w fun e w' => e = .returned (.tuple #[.int .i64 (shortI n).1, .int .i64 (shortI n).2.1, .bool (shortI n).2.2]) ∧ w' = w := by
  by_cases h0 : n = 0
  · subst h0
    go_enter Tryd.func35, Tryd.ntmps35
    go_wp2
    (try simp only [Exit.inBlock, Exit.then]); refine bodyPost_ret (results3 rfl _ _ _) rfl ?_
    exact ⟨rfl, rfl⟩
  by_cases h1 : n = 1
  · subst h1
    go_enter Tryd.func35, Tryd.ntmps35
    go_wp2
    (try simp only [Exit.inBlock, Exit.then]); refine bodyPost_ret (results3 rfl _ _ _) rfl ?_
    exact ⟨rfl, rfl⟩
  by_cases h2 : n = 2
  · subst h2
    go_enter Tryd.func35, Tryd.ntmps35
    go_wp2
    (try simp only [Exit.inBlock, Exit.then]); refine bodyPost_ret (results3 rfl _ _ _) rfl ?_
    exact ⟨rfl, rfl⟩
  by_cases h3 : n = 65535
  · subst h3
    go_enter Tryd.func35, Tryd.ntmps35
    go_wp2
    (try simp only [Exit.inBlock, Exit.then]); refine bodyPost_ret (results3 rfl _ _ _) rfl ?_
    exact ⟨rfl, rfl⟩
  by_cases h4 : n = 4
  · subst h4
    go_enter Tryd.func35, Tryd.ntmps35
    go_wp2
    (try simp only [Exit.inBlock, Exit.then]); refine bodyPost_ret (results3 rfl _ _ _) rfl ?_
    exact ⟨rfl, rfl⟩
  by_cases h8 : n = 8
  · subst h8
    go_enter Tryd.func35, Tryd.ntmps35
    go_wp2
    (try simp only [Exit.inBlock, Exit.then]); refine bodyPost_ret (results3 rfl _ _ _) rfl ?_
    exact ⟨rfl, rfl⟩
  have HS : Hid (shortI n = (3, 0, false)) := by
    show _ = _
    simp [shortI, h0, h1, h2, h3, h4, h8]
  have e0 : (n == 0) = false := by simpa using h0
  have e1 : (n == 1) = false := by simpa using h1
  have e2 : (n == 2) = false := by simpa using h2
  have e3 : (n == 65535) = false := by simpa using h3
  have e4 : (n == 4) = false := by simpa using h4
  have e8 : (n == 8) = false := by simpa using h8
  clear h0 h1 h2 h3 h4 h8
  go_enter Tryd.func35, Tryd.ntmps35
  go_wp2
  (try simp only [Exit.inBlock, Exit.then]); refine bodyPost_ret (results3 rfl _ _ _) rfl ?_
  exact ⟨by rw [HS.out]; rfl, rfl⟩
theorem field_o0 (a b c d : Value) (W : World) : (Instr.field 43 (.agg #[a, b, c, d]) 0).run Tryd.prog W = .ok a W := by kernel_rfl
theorem field_o1 (a b c d : Value) (W : World) : (Instr.field 43 (.agg #[a, b, c, d]) 1).run Tryd.prog W = .ok b W := by kernel_rfl
theorem field_o2 (a b c d : Value) (W : World) : (Instr.field 43 (.agg #[a, b, c, d]) 2).run Tryd.prog W = .ok c W := by kernel_rfl
theorem field_o3 (a b c d : Value) (W : World) : (Instr.field 43 (.agg #[a, b, c, d]) 3).run Tryd.prog W = .ok d W := by kernel_rfl
def srcB (m r n : Int) (l : Bool) : Bool :=
  if m = 0 then isB r 0 15 && (r != 3) && (n == 0) && !l
  else if m = 1 then plainB r && isB n 0 65535 && !l
  else if m = 2 then (r == 0) && isB n 0 65535 && !l
  else if m = 3 then plainB r && (n == 0) && !l
  else if m = 4 then plainB r && (r != 0) && (n == 0) && !l
  else if m = 5 then (r == 0) && isB n 0 65535 && (!l || (shortI n).2.2)
  else false
set_option maxHeartbeats 400000 in
theorem l02Src_0 (r n : Int) (l : Bool) (w : World) : Calls Tryd.prog 63 #[.agg #[.int .i64 0, .int .i64 r, .int .i64 n, .bool l]] w fun e w' => e = .returned (.bool (srcB 0 r n l)) ∧ Below w.heap.size w w' := by
  go_enter Tryd.func63, Tryd.ntmps63
  go_wp2_with fail
  refine (l02Is_any r 0 15 _).mono ?_
  rintro e w1 ⟨rfl, rfl⟩
  cases h : isB r 0 15
  · go_wp2
    all_goals
      go_ret
      exact ⟨ret_bool (by simp_all [srcB]), (Below.refl _ _).alloc (Nat.le_refl _) _⟩
  · go_wp2
    all_goals
      go_ret
      exact ⟨ret_bool (by simp_all [srcB]), (Below.refl _ _).alloc (Nat.le_refl _) _⟩
set_option maxHeartbeats 400000 in
theorem l02Src_1 (r n : Int) (l : Bool) (w : World) : Calls Tryd.prog 63 #[.agg #[.int .i64 1, .int .i64 r, .int .i64 n, .bool l]] w fun e w' => e = .returned (.bool (srcB 1 r n l)) ∧ Below w.heap.size w w' := by
  go_enter Tryd.func63, Tryd.ntmps63
  go_wp2_with fail
  refine (l02Plain_any r _).mono ?_
  rintro e w1 ⟨rfl, rfl⟩
  cases h : plainB r
  · go_wp2
    all_goals
      go_ret
      exact ⟨ret_bool (by simp_all [srcB]), (Below.refl _ _).alloc (Nat.le_refl _) _⟩
  · go_wp2_with fail
    refine (l02Word_any n _).mono ?_
    rintro e w1 ⟨rfl, rfl⟩
    cases h2 : isB n 0 65535
    · go_wp2
      all_goals
        go_ret
        exact ⟨ret_bool (by simp_all [srcB]), (Below.refl _ _).alloc (Nat.le_refl _) _⟩
    · go_wp2
      all_goals
        go_ret
        exact ⟨ret_bool (by simp_all [srcB]), (Below.refl _ _).alloc (Nat.le_refl _) _⟩
set_option maxHeartbeats 400000 in
theorem l02Src_3 (r n : Int) (l : Bool) (w : World) : Calls Tryd.prog 63 #[.agg #[.int .i64 3, .int .i64 r, .int .i64 n, .bool l]] w fun e w' => e = .returned (.bool (srcB 3 r n l)) ∧ Below w.heap.size w w' := by
  go_enter Tryd.func63, Tryd.ntmps63
  go_wp2_with fail
  refine (l02Plain_any r _).mono ?_
  rintro e w1 ⟨rfl, rfl⟩
  cases h : plainB r
  · go_wp2
    all_goals
      go_ret
      exact ⟨ret_bool (by simp_all [srcB]), (Below.refl _ _).alloc (Nat.le_refl _) _⟩
  · go_wp2
    all_goals
      go_ret
      exact ⟨ret_bool (by simp_all [srcB]), (Below.refl _ _).alloc (Nat.le_refl _) _⟩
set_option maxHeartbeats 400000 in
theorem l02Src_4 (r n : Int) (l : Bool) (w : World) : Calls Tryd.prog 63 #[.agg #[.int .i64 4, .int .i64 r, .int .i64 n, .bool l]] w fun e w' => e = .returned (.bool (srcB 4 r n l)) ∧ Below w.heap.size w w' := by
  go_enter Tryd.func63, Tryd.ntmps63
  go_wp2_with fail
  refine (l02Plain_any r _).mono ?_
  rintro e w1 ⟨rfl, rfl⟩
  cases h : plainB r
  · go_wp2
    all_goals
      go_ret
      exact ⟨ret_bool (by simp_all [srcB]), (Below.refl _ _).alloc (Nat.le_refl _) _⟩
  · go_wp2
    all_goals
      go_ret
      exact ⟨ret_bool (by simp_all [srcB]), (Below.refl _ _).alloc (Nat.le_refl _) _⟩
set_option maxHeartbeats 400000 in
theorem l02Src_2 (r n : Int) (l : Bool) (w : World) : Calls Tryd.prog 63 #[.agg #[.int .i64 2, .int .i64 r, .int .i64 n, .bool l]] w fun e w' => e = .returned (.bool (srcB 2 r n l)) ∧ Below w.heap.size w w' := by
  by_cases hr : r = 0
  · subst hr
    go_enter Tryd.func63, Tryd.ntmps63
    go_wp2_with fail
    refine (l02Word_any n _).mono ?_
    rintro e w1 ⟨rfl, rfl⟩
    cases h2 : isB n 0 65535
    · go_wp2
      all_goals
        go_ret
        exact ⟨ret_bool (by simp_all [srcB]), (Below.refl _ _).alloc (Nat.le_refl _) _⟩
    · go_wp2
      all_goals
        go_ret
        exact ⟨ret_bool (by simp_all [srcB]), (Below.refl _ _).alloc (Nat.le_refl _) _⟩
  · have hr2 : (r == 0) = false := by simpa using hr
    clear hr
    go_enter Tryd.func63, Tryd.ntmps63
    go_wp2
    all_goals
      go_ret
      exact ⟨ret_bool (by simp_all [srcB]), (Below.refl _ _).alloc (Nat.le_refl _) _⟩
set_option maxHeartbeats 400000 in
theorem l02Src_5 (r n : Int) (l : Bool) (w : World) : Calls Tryd.prog 63 #[.agg #[.int .i64 5, .int .i64 r, .int .i64 n, .bool l]] w fun e w' => e = .returned (.bool (srcB 5 r n l)) ∧ Below w.heap.size w w' := by
  obtain ⟨s1, s2, s3, hs⟩ : ∃ a b c, shortI n = (a, b, c) := ⟨_, _, _, rfl⟩
  by_cases hr : r = 0
  · subst hr
    go_enter Tryd.func63, Tryd.ntmps63
    go_wp2_with fail
    refine (l02Short_any n _).mono ?_
    rintro e w1 ⟨rfl, rfl⟩
    rw [hs]
    go_wp2_with fail
    refine (l02Word_any n _).mono ?_
    rintro e w1 ⟨rfl, rfl⟩
    cases h2 : isB n 0 65535
    · go_wp2
      all_goals
        go_ret
        exact ⟨ret_bool (by simp_all [srcB]), (Below.refl _ _).alloc (Nat.le_refl _) _⟩
    · go_wp2
      all_goals
        go_ret
        exact ⟨ret_bool (by simp_all [srcB]), (Below.refl _ _).alloc (Nat.le_refl _) _⟩
  · have hr2 : (r == 0) = false := by simpa using hr
    clear hr
    go_enter Tryd.func63, Tryd.ntmps63
    go_wp2_with fail
    refine (l02Short_any n _).mono ?_
    rintro e w1 ⟨rfl, rfl⟩
    rw [hs]
    go_wp2
    all_goals
      go_ret
      exact ⟨ret_bool (by simp_all [srcB]), (Below.refl _ _).alloc (Nat.le_refl _) _⟩
set_option maxHeartbeats 400000 in
theorem l02Src_no (m r n : Int) (l : Bool) (w : World) (h : m < 0 ∨ 5 < m) : Calls Tryd.prog 63 #[.agg #[.int .i64 m, .int .i64 r, .int .i64 n, .bool l]] w fun e w' => e = .returned (.bool (srcB m r n l)) ∧ Below w.heap.size w w' := by
  have HS : Hid (srcB m r n l = false) := by
    show _ = _
    simp (disch := omega) [srcB, if_neg]
  have e0 : (m == 0) = false := by rw [beq_eq_false_iff_ne]; omega
  have e1 : (m == 1) = false := by rw [beq_eq_false_iff_ne]; omega
  have e2 : (m == 2) = false := by rw [beq_eq_false_iff_ne]; omega
  have e3 : (m == 3) = false := by rw [beq_eq_false_iff_ne]; omega
  have e4 : (m == 4) = false := by rw [beq_eq_false_iff_ne]; omega
  have e5 : (m == 5) = false := by rw [beq_eq_false_iff_ne]; omega
  clear h
  go_enter Tryd.func63, Tryd.ntmps63
  go_wp2
  go_ret
  exact ⟨ret_bool HS.out.symm, (Below.refl _ _).alloc (Nat.le_refl _) _⟩
theorem l02Src_any (m r n : Int) (l : Bool) (w : World) : Calls Tryd.prog 63 #[.agg #[.int .i64 m, .int .i64 r, .int .i64 n, .bool l]] w fun e w' => e = .returned (.bool (srcB m r n l)) ∧ Below w.heap.size w w' := by
  by_cases h : m < 0 ∨ 5 < m
  · exact l02Src_no m r n l w h
  · obtain rfl | rfl | rfl | rfl | rfl | rfl : m = 0 ∨ m = 1 ∨ m = 2 ∨ m = 3 ∨ m = 4 ∨ m = 5 := by omega
    · exact l02Src_0 r n l w
    · exact l02Src_1 r n l w
    · exact l02Src_2 r n l w
    · exact l02Src_3 r n l w
    · exact l02Src_4 r n l w
    · exact l02Src_5 r n l w
end Go.Proofs.YtknielpkmablkaaDoor
