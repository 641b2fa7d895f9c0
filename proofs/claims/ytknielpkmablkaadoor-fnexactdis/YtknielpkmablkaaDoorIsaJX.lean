/- Instructions: those of one operand, by the program. -/
import Derived.Test.YtknielpkmablkaaDoorRows
import Derived.WalkKit
import Derived.WalkSpells
import Derived.WalkLawsBesides
import Derived.Outline
import Derived.Test.YtknielpkmablkaaDoorBun0
import Derived.Test.YtknielpkmablkaaDoorBun4
import Derived.Test.YtknielpkmablkaaDoorIsaIX
namespace Go.Proofs.YtknielpkmablkaaDoor
open Go.RowKit

def oneB (op : ByteArray) (b : Bool) (m r n : Int) (l : Bool) (m2 r2 n2 : Int) (l2 : Bool) (j : Int) : Bool :=
  if op = ⟨#[114, 101, 116, 105]⟩ then !b && zeroB m r n l && zeroB m2 r2 n2 l2 && (j == 0)
  else srcB m r n l && zeroB m2 r2 n2 l2 && (j == 0) && (handB op || m != 5) && !(wideB op && b)
set_option maxRecDepth 100000 in
set_option maxHeartbeats 1600000 in
theorem rightOne_reti (b : Bool) (m r n : Int) (l : Bool) (m2 r2 n2 : Int) (l2 : Bool) (j : Int) (w : World) :
    Calls Tryd.prog 56 #[.agg #[.string ⟨#[114, 101, 116, 105]⟩, .bool b, .int .i64 m, .int .i64 r, .int .i64 n, .bool l, .int .i64 m2, .int .i64 r2, .int .i64 n2, .bool l2, .int .i64 j]] w fun e w' => e = .returned (.bool (oneB ⟨#[114, 101, 116, 105]⟩ b m r n l m2 r2 n2 l2 j)) ∧ Below w.heap.size w w' := by
  go_enter Tryd.func56, Tryd.ntmps56
  go_wp2
  all_goals
    go_ret
    exact ⟨ret_bool (by simp_all [oneB, zeroB]), (Below.refl _ _).alloc (Nat.le_refl _) _⟩
set_option maxRecDepth 100000 in
set_option maxHeartbeats 1600000 in
theorem rightOne_swpb (b : Bool) (m r n : Int) (l : Bool) (m2 r2 n2 : Int) (l2 : Bool) (j : Int) (w : World) (hT : Tabs w) :
    Calls Tryd.prog 56 #[.agg #[.string ⟨#[115, 119, 112, 98]⟩, .bool b, .int .i64 m, .int .i64 r, .int .i64 n, .bool l, .int .i64 m2, .int .i64 r2, .int .i64 n2, .bool l2, .int .i64 j]] w fun e w' => e = .returned (.bool (srcB m r n l && zeroB m2 r2 n2 l2 && (j == 0) && (m != 5) && !b)) ∧ Below w.heap.size w w' := by
  have HT : Hid (∀ o, Tabs (w.alloc o)) := fun o => hT.alloc o
  clear hT
  cases b
  case true =>
    go_enter Tryd.func56, Tryd.ntmps56
    go_wp2
    all_goals
      go_ret
      exact ⟨ret_bool (by simp), (Below.refl _ _).alloc (Nat.le_refl _) _⟩
  case false =>
    by_cases hm : m = 5
    · subst hm
      go_enter Tryd.func56, Tryd.ntmps56
      go_wp2
      all_goals
        go_ret
        exact ⟨ret_bool (by simp), (Below.refl _ _).alloc (Nat.le_refl _) _⟩
    have hm2 : (m == 5) = false := by rw [beq_eq_false_iff_ne]; exact hm
    have HM : Hid ((m != 5) = true) := by show _ = _; simp [hm]
    clear hm
    go_enter Tryd.func56, Tryd.ntmps56
    go_wp2_with fail
    refine (rightSrc_any m r n l _ (HT.out _)).mono ?_
    rintro e x1 ⟨rfl, hb⟩
    have HI1 : Hid (_ = _) := heap_keep (heap_alloc_new w _) hb
    have HB1 : Hid (Below w.heap.size w x1) := Below.trans ((Below.refl _ _).alloc (Nat.le_refl _) _) (hb.mono (by simp))
    clear hb
    obtain ⟨c0, c1, c2, c3, c4, c5, c6, c7, c8, c9, c10⟩ := cells11 HI1.out
    cases hs : srcB m r n l
    · go_wp2
      all_goals
        go_ret
        exact ⟨ret_bool (by simp [hs]), HB1.out⟩
    · go_wp2
      all_goals
        go_ret
        exact ⟨ret_bool (by rw [HM.out]; simp_all [zeroB]), HB1.out⟩
set_option maxRecDepth 100000 in
set_option maxHeartbeats 1600000 in
theorem rightOne_sxt (b : Bool) (m r n : Int) (l : Bool) (m2 r2 n2 : Int) (l2 : Bool) (j : Int) (w : World) (hT : Tabs w) :
    Calls Tryd.prog 56 #[.agg #[.string ⟨#[115, 120, 116]⟩, .bool b, .int .i64 m, .int .i64 r, .int .i64 n, .bool l, .int .i64 m2, .int .i64 r2, .int .i64 n2, .bool l2, .int .i64 j]] w fun e w' => e = .returned (.bool (srcB m r n l && zeroB m2 r2 n2 l2 && (j == 0) && (m != 5) && !b)) ∧ Below w.heap.size w w' := by
  have HT : Hid (∀ o, Tabs (w.alloc o)) := fun o => hT.alloc o
  clear hT
  cases b
  case true =>
    go_enter Tryd.func56, Tryd.ntmps56
    go_wp2
    all_goals
      go_ret
      exact ⟨ret_bool (by simp), (Below.refl _ _).alloc (Nat.le_refl _) _⟩
  case false =>
    by_cases hm : m = 5
    · subst hm
      go_enter Tryd.func56, Tryd.ntmps56
      go_wp2
      all_goals
        go_ret
        exact ⟨ret_bool (by simp), (Below.refl _ _).alloc (Nat.le_refl _) _⟩
    have hm2 : (m == 5) = false := by rw [beq_eq_false_iff_ne]; exact hm
    have HM : Hid ((m != 5) = true) := by show _ = _; simp [hm]
    clear hm
    go_enter Tryd.func56, Tryd.ntmps56
    go_wp2_with fail
    refine (rightSrc_any m r n l _ (HT.out _)).mono ?_
    rintro e x1 ⟨rfl, hb⟩
    have HI1 : Hid (_ = _) := heap_keep (heap_alloc_new w _) hb
    have HB1 : Hid (Below w.heap.size w x1) := Below.trans ((Below.refl _ _).alloc (Nat.le_refl _) _) (hb.mono (by simp))
    clear hb
    obtain ⟨c0, c1, c2, c3, c4, c5, c6, c7, c8, c9, c10⟩ := cells11 HI1.out
    cases hs : srcB m r n l
    · go_wp2
      all_goals
        go_ret
        exact ⟨ret_bool (by simp [hs]), HB1.out⟩
    · go_wp2
      all_goals
        go_ret
        exact ⟨ret_bool (by rw [HM.out]; simp_all [zeroB]), HB1.out⟩
set_option maxRecDepth 100000 in
set_option maxHeartbeats 1600000 in
theorem rightOne_call (b : Bool) (m r n : Int) (l : Bool) (m2 r2 n2 : Int) (l2 : Bool) (j : Int) (w : World) (hT : Tabs w) :
    Calls Tryd.prog 56 #[.agg #[.string ⟨#[99, 97, 108, 108]⟩, .bool b, .int .i64 m, .int .i64 r, .int .i64 n, .bool l, .int .i64 m2, .int .i64 r2, .int .i64 n2, .bool l2, .int .i64 j]] w fun e w' => e = .returned (.bool (srcB m r n l && zeroB m2 r2 n2 l2 && (j == 0) && !b)) ∧ Below w.heap.size w w' := by
  have HT : Hid (∀ o, Tabs (w.alloc o)) := fun o => hT.alloc o
  clear hT
  cases b
  case true =>
    go_enter Tryd.func56, Tryd.ntmps56
    go_wp2
    all_goals
      go_ret
      exact ⟨ret_bool (by simp), (Below.refl _ _).alloc (Nat.le_refl _) _⟩
  case false =>
    go_enter Tryd.func56, Tryd.ntmps56
    go_wp2_with fail
    refine (rightSrc_any m r n l _ (HT.out _)).mono ?_
    rintro e x1 ⟨rfl, hb⟩
    have HI1 : Hid (_ = _) := heap_keep (heap_alloc_new w _) hb
    have HB1 : Hid (Below w.heap.size w x1) := Below.trans ((Below.refl _ _).alloc (Nat.le_refl _) _) (hb.mono (by simp))
    clear hb
    obtain ⟨c0, c1, c2, c3, c4, c5, c6, c7, c8, c9, c10⟩ := cells11 HI1.out
    cases hs : srcB m r n l
    · go_wp2
      all_goals
        go_ret
        exact ⟨ret_bool (by simp_all), HB1.out⟩
    · go_wp2
      all_goals
        go_ret
        exact ⟨ret_bool (by simp_all [zeroB]), HB1.out⟩
set_option maxRecDepth 100000 in
set_option maxHeartbeats 1600000 in
theorem rightOne_push (b : Bool) (m r n : Int) (l : Bool) (m2 r2 n2 : Int) (l2 : Bool) (j : Int) (w : World) (hT : Tabs w) :
    Calls Tryd.prog 56 #[.agg #[.string ⟨#[112, 117, 115, 104]⟩, .bool b, .int .i64 m, .int .i64 r, .int .i64 n, .bool l, .int .i64 m2, .int .i64 r2, .int .i64 n2, .bool l2, .int .i64 j]] w fun e w' => e = .returned (.bool (srcB m r n l && zeroB m2 r2 n2 l2 && (j == 0))) ∧ Below w.heap.size w w' := by
  have HT : Hid (∀ o, Tabs (w.alloc o)) := fun o => hT.alloc o
  clear hT
  go_enter Tryd.func56, Tryd.ntmps56
  go_wp2_with fail
  refine (rightSrc_any m r n l _ (HT.out _)).mono ?_
  rintro e x1 ⟨rfl, hb⟩
  have HI1 : Hid (_ = _) := heap_keep (heap_alloc_new w _) hb
  have HB1 : Hid (Below w.heap.size w x1) := Below.trans ((Below.refl _ _).alloc (Nat.le_refl _) _) (hb.mono (by simp))
  clear hb
  obtain ⟨c0, c1, c2, c3, c4, c5, c6, c7, c8, c9, c10⟩ := cells11 HI1.out
  cases hs : srcB m r n l
  · go_wp2
    all_goals
      go_ret
      exact ⟨ret_bool (by simp_all), HB1.out⟩
  · go_wp2
    all_goals
      go_ret
      exact ⟨ret_bool (by simp_all [zeroB]), HB1.out⟩
set_option maxRecDepth 100000 in
set_option maxHeartbeats 1600000 in
theorem rightOne_else (op : ByteArray) (b : Bool) (m r n : Int) (l : Bool) (m2 r2 n2 : Int) (l2 : Bool) (j : Int) (w : World) (hT : Tabs w)
    (h0 : (op.toList == [114, 101, 116, 105]) = false) (h1 : (op.toList == [115, 119, 112, 98]) = false) (h2 : (op.toList == [115, 120, 116]) = false) (h3 : (op.toList == [99, 97, 108, 108]) = false) (h4 : (op.toList == [112, 117, 115, 104]) = false) :
    Calls Tryd.prog 56 #[.agg #[.string op, .bool b, .int .i64 m, .int .i64 r, .int .i64 n, .bool l, .int .i64 m2, .int .i64 r2, .int .i64 n2, .bool l2, .int .i64 j]] w fun e w' => e = .returned (.bool (srcB m r n l && zeroB m2 r2 n2 l2 && (j == 0) && (m != 5))) ∧ Below w.heap.size w w' := by
  have HT : Hid (∀ o, Tabs (w.alloc o)) := fun o => hT.alloc o
  clear hT
  by_cases hm : m = 5
  · subst hm
    go_enter Tryd.func56, Tryd.ntmps56
    go_wp2
    all_goals
      go_ret
      exact ⟨ret_bool (by simp), (Below.refl _ _).alloc (Nat.le_refl _) _⟩
  have hm2 : (m == 5) = false := by rw [beq_eq_false_iff_ne]; exact hm
  have HM : Hid ((m != 5) = true) := by show _ = _; simp [hm]
  clear hm
  go_enter Tryd.func56, Tryd.ntmps56
  go_wp2_with fail
  refine (rightSrc_any m r n l _ (HT.out _)).mono ?_
  rintro e x1 ⟨rfl, hb⟩
  have HI1 : Hid (_ = _) := heap_keep (heap_alloc_new w _) hb
  have HB1 : Hid (Below w.heap.size w x1) := Below.trans ((Below.refl _ _).alloc (Nat.le_refl _) _) (hb.mono (by simp))
  clear hb
  obtain ⟨c0, c1, c2, c3, c4, c5, c6, c7, c8, c9, c10⟩ := cells11 HI1.out
  cases hs : srcB m r n l
  · go_wp2
    all_goals
      go_ret
      exact ⟨ret_bool (by simp [hs]), HB1.out⟩
  · go_wp2
    all_goals
      go_ret
      exact ⟨ret_bool (by rw [HM.out]; simp_all [zeroB]), HB1.out⟩
theorem rightOne_any (op : ByteArray) (b : Bool) (m r n : Int) (l : Bool) (m2 r2 n2 : Int) (l2 : Bool) (j : Int) (w : World) (hT : Tabs w) :
    Calls Tryd.prog 56 #[.agg #[.string op, .bool b, .int .i64 m, .int .i64 r, .int .i64 n, .bool l, .int .i64 m2, .int .i64 r2, .int .i64 n2, .bool l2, .int .i64 j]] w fun e w' => e = .returned (.bool (oneB op b m r n l m2 r2 n2 l2 j)) ∧ Below w.heap.size w w' := by
  by_cases h0 : op = ⟨#[114, 101, 116, 105]⟩
  · subst h0; exact rightOne_reti b m r n l m2 r2 n2 l2 j w
  by_cases h1 : op = ⟨#[115, 119, 112, 98]⟩
  · have e : oneB op b m r n l m2 r2 n2 l2 j = (srcB m r n l && zeroB m2 r2 n2 l2 && (j == 0) && (m != 5) && !b) := by subst h1; simp [oneB, handB, wideB]
    rw [e]; subst h1; exact rightOne_swpb b m r n l m2 r2 n2 l2 j w hT
  by_cases h2 : op = ⟨#[115, 120, 116]⟩
  · have e : oneB op b m r n l m2 r2 n2 l2 j = (srcB m r n l && zeroB m2 r2 n2 l2 && (j == 0) && (m != 5) && !b) := by subst h2; simp [oneB, handB, wideB]
    rw [e]; subst h2; exact rightOne_sxt b m r n l m2 r2 n2 l2 j w hT
  by_cases h3 : op = ⟨#[99, 97, 108, 108]⟩
  · have e : oneB op b m r n l m2 r2 n2 l2 j = (srcB m r n l && zeroB m2 r2 n2 l2 && (j == 0) && !b) := by subst h3; simp [oneB, handB, wideB]
    rw [e]; subst h3; exact rightOne_call b m r n l m2 r2 n2 l2 j w hT
  by_cases h4 : op = ⟨#[112, 117, 115, 104]⟩
  · have e : oneB op b m r n l m2 r2 n2 l2 j = (srcB m r n l && zeroB m2 r2 n2 l2 && (j == 0)) := by subst h4; simp [oneB, handB, wideB]
    rw [e]; subst h4; exact rightOne_push b m r n l m2 r2 n2 l2 j w hT
  have e : oneB op b m r n l m2 r2 n2 l2 j = (srcB m r n l && zeroB m2 r2 n2 l2 && (j == 0) && (m != 5)) := by simp [oneB, handB, wideB, h0, h1, h2, h3, h4]
  rw [e]
  exact rightOne_else op b m r n l m2 r2 n2 l2 j w hT (text_no _ h0) (text_no _ h1) (text_no _ h2) (text_no _ h3) (text_no _ h4)
end Go.Proofs.YtknielpkmablkaaDoor
