/- Instructions: which are right, by the program. -/
import Derived.Test.YtodjccipfonaiaaGreatDoorRows
import Derived.WalkKit
import Derived.WalkSpells
import Derived.WalkLawsBesides
import Derived.Outline
import Derived.Test.YtodjccipfonaiaaGreatDoorBun0
import Derived.Test.YtodjccipfonaiaaGreatDoorBun1
import Derived.Test.YtodjccipfonaiaaGreatDoorBun2
import Derived.Test.YtodjccipfonaiaaGreatDoorIsaOX
import Derived.RegionTactic
import Derived.BigRegion
import Derived.Deep.QuietTactic
import Derived.BigQuiet
namespace Go.Proofs.YtodjccipfonaiaaGreatDoor
open Go.RowKit

set_option maxRecDepth 100000 in
set_option maxHeartbeats 1600000 in
theorem rightTwo_any (op : ByteArray) (b : Bool) (m r n : Int) (l : Bool) (m2 r2 n2 : Int) (l2 : Bool) (j : Int) (w : World) (hT : Tabs w) :
    Calls Tryz.prog 55 #[.agg #[.string op, .bool b, .int .i64 m, .int .i64 r, .int .i64 n, .bool l, .int .i64 m2, .int .i64 r2, .int .i64 n2, .bool l2, .int .i64 j]] w fun e w' => e = .returned (.bool (srcB m r n l && dstB m2 r2 n2 l2 && (j == 0))) ∧ Below w.heap.size w w' := by
  have HT : Hid (∀ o, Tabs (w.alloc o)) := fun o => hT.alloc o
  clear hT
  go_enter Tryz.func55, Tryz.ntmps55
  go_wp2_with fail
  refine (rightSrc_any m r n l _ (HT.out _)).mono ?_
  rintro e x1 ⟨rfl, hb⟩
  have HI1 : Hid (_ = _) := heap_keep (heap_alloc_new w _) hb
  have HB1 : Hid (Below w.heap.size w x1) := Below.trans ((Below.refl _ _).alloc (Nat.le_refl _) _) (hb.mono (by simp))
  clear hb
  obtain ⟨c0, c1, c2, c3, c4, c5, c6, c7, c8, c9, c10⟩ := cells11 HI1.out
  cases hs : srcB m r n l
  · go_wp2
    all_goals
      go_ret
      exact ⟨ret_bool (by simp_all), HB1.out⟩
  · go_wp2_with fail
    refine (rightDst_any m2 r2 n2 l2 _).mono ?_
    rintro e x2 ⟨rfl, hb⟩
    have HI2 : Hid (_ = _) := heap_keep HI1.out hb
    have HB2 : Hid (Below w.heap.size w x2) := HB1.out.trans (hb.mono HB1.out.size)
    clear hb c0 c1 c2 c3 c4 c5 c6 c7 c8 c9 c10
    obtain ⟨c0, c1, c2, c3, c4, c5, c6, c7, c8, c9, c10⟩ := cells11 HI2.out
    cases hd : dstB m2 r2 n2 l2
    · go_wp2
      all_goals
        go_ret
        exact ⟨ret_bool (by simp_all), HB2.out⟩
    · go_wp2
      all_goals
        go_ret
        exact ⟨ret_bool (by simp_all), HB2.out⟩
set_option maxRecDepth 100000 in
set_option maxHeartbeats 1600000 in
theorem rightJump_any (op : ByteArray) (b : Bool) (m r n : Int) (l : Bool) (m2 r2 n2 : Int) (l2 : Bool) (j : Int) (w : World) :
    Calls Tryz.prog 57 #[.agg #[.string op, .bool b, .int .i64 m, .int .i64 r, .int .i64 n, .bool l, .int .i64 m2, .int .i64 r2, .int .i64 n2, .bool l2, .int .i64 j]] w fun e w' => e = .returned (.bool (!b && zeroB m r n l && zeroB m2 r2 n2 l2 && isB j (-512) 511)) ∧ Below w.heap.size w w' := by
  by_cases h1 : -512 ≤ j
  · by_cases h2 : j ≤ 511
    · have HJ : Hid (isB j (-512) 511 = true) := by show _ = _; simp [isB, h1, h2]
      go_enter Tryz.func57, Tryz.ntmps57
      go_wp2
      all_goals
        go_ret
        exact ⟨ret_bool (by rw [HJ.out]; simp_all [zeroB]), (Below.refl _ _).alloc (Nat.le_refl _) _⟩
    · have HJ : Hid (isB j (-512) 511 = false) := by show _ = _; simp [isB, h1, h2]
      go_enter Tryz.func57, Tryz.ntmps57
      go_wp2
      all_goals
        go_ret
        exact ⟨ret_bool (by rw [HJ.out]; simp_all), (Below.refl _ _).alloc (Nat.le_refl _) _⟩
  · have HJ : Hid (isB j (-512) 511 = false) := by show _ = _; simp [isB, h1]
    go_enter Tryz.func57, Tryz.ntmps57
    go_wp2
    all_goals
      go_ret
      exact ⟨ret_bool (by rw [HJ.out]; simp_all), (Below.refl _ _).alloc (Nat.le_refl _) _⟩
end Go.Proofs.YtodjccipfonaiaaGreatDoor
namespace Go.Proofs.YtodjccipfonaiaaGreatDoor
open Go.RowKit

def oneB (op : ByteArray) (b : Bool) (m r n : Int) (l : Bool) (m2 r2 n2 : Int) (l2 : Bool) (j : Int) : Bool :=
  if op = ⟨#[114, 101, 116, 105]⟩ then !b && zeroB m r n l && zeroB m2 r2 n2 l2 && (j == 0)
  else srcB m r n l && zeroB m2 r2 n2 l2 && (j == 0) && (handB op || m != 5) && !(wideB op && b)
set_option maxRecDepth 100000 in
set_option maxHeartbeats 1600000 in
theorem rightOne_reti (b : Bool) (m r n : Int) (l : Bool) (m2 r2 n2 : Int) (l2 : Bool) (j : Int) (w : World) :
    Calls Tryz.prog 56 #[.agg #[.string ⟨#[114, 101, 116, 105]⟩, .bool b, .int .i64 m, .int .i64 r, .int .i64 n, .bool l, .int .i64 m2, .int .i64 r2, .int .i64 n2, .bool l2, .int .i64 j]] w fun e w' => e = .returned (.bool (oneB ⟨#[114, 101, 116, 105]⟩ b m r n l m2 r2 n2 l2 j)) ∧ Below w.heap.size w w' := by
  go_enter Tryz.func56, Tryz.ntmps56
  go_wp2
  all_goals
    go_ret
    exact ⟨ret_bool (by simp_all [oneB, zeroB]), (Below.refl _ _).alloc (Nat.le_refl _) _⟩
set_option maxRecDepth 100000 in
set_option maxHeartbeats 1600000 in
theorem rightOne_swpb (b : Bool) (m r n : Int) (l : Bool) (m2 r2 n2 : Int) (l2 : Bool) (j : Int) (w : World) (hT : Tabs w) :
    Calls Tryz.prog 56 #[.agg #[.string ⟨#[115, 119, 112, 98]⟩, .bool b, .int .i64 m, .int .i64 r, .int .i64 n, .bool l, .int .i64 m2, .int .i64 r2, .int .i64 n2, .bool l2, .int .i64 j]] w fun e w' => e = .returned (.bool (srcB m r n l && zeroB m2 r2 n2 l2 && (j == 0) && (m != 5) && !b)) ∧ Below w.heap.size w w' := by
  have HT : Hid (∀ o, Tabs (w.alloc o)) := fun o => hT.alloc o
  clear hT
  cases b
  case true =>
    go_enter Tryz.func56, Tryz.ntmps56
    go_wp2
    all_goals
      go_ret
      exact ⟨ret_bool (by simp), (Below.refl _ _).alloc (Nat.le_refl _) _⟩
  case false =>
    by_cases hm : m = 5
    · subst hm
      go_enter Tryz.func56, Tryz.ntmps56
      go_wp2
      all_goals
        go_ret
        exact ⟨ret_bool (by simp), (Below.refl _ _).alloc (Nat.le_refl _) _⟩
    have hm2 : (m == 5) = false := by rw [beq_eq_false_iff_ne]; exact hm
    have HM : Hid ((m != 5) = true) := by show _ = _; simp [hm]
    clear hm
    go_enter Tryz.func56, Tryz.ntmps56
    go_wp2_with fail
    refine (rightSrc_any m r n l _ (HT.out _)).mono ?_
    rintro e x1 ⟨rfl, hb⟩
    have HI1 : Hid (_ = _) := heap_keep (heap_alloc_new w _) hb
    have HB1 : Hid (Below w.heap.size w x1) := Below.trans ((Below.refl _ _).alloc (Nat.le_refl _) _) (hb.mono (by simp))
    clear hb
    obtain ⟨c0, c1, c2, c3, c4, c5, c6, c7, c8, c9, c10⟩ := cells11 HI1.out
    cases hs : srcB m r n l
    · go_wp2
      all_goals
        go_ret
        exact ⟨ret_bool (by simp [hs]), HB1.out⟩
    · go_wp2
      all_goals
        go_ret
        exact ⟨ret_bool (by rw [HM.out]; simp_all [zeroB]), HB1.out⟩
set_option maxRecDepth 100000 in
set_option maxHeartbeats 1600000 in
theorem rightOne_sxt (b : Bool) (m r n : Int) (l : Bool) (m2 r2 n2 : Int) (l2 : Bool) (j : Int) (w : World) (hT : Tabs w) :
    Calls Tryz.prog 56 #[.agg #[.string ⟨#[115, 120, 116]⟩, .bool b, .int .i64 m, .int .i64 r, .int .i64 n, .bool l, .int .i64 m2, .int .i64 r2, .int .i64 n2, .bool l2, .int .i64 j]] w fun e w' => e = .returned (.bool (srcB m r n l && zeroB m2 r2 n2 l2 && (j == 0) && (m != 5) && !b)) ∧ Below w.heap.size w w' := by
  have HT : Hid (∀ o, Tabs (w.alloc o)) := fun o => hT.alloc o
  clear hT
  cases b
  case true =>
    go_enter Tryz.func56, Tryz.ntmps56
    go_wp2
    all_goals
      go_ret
      exact ⟨ret_bool (by simp), (Below.refl _ _).alloc (Nat.le_refl _) _⟩
  case false =>
    by_cases hm : m = 5
    · subst hm
      go_enter Tryz.func56, Tryz.ntmps56
      go_wp2
      all_goals
        go_ret
        exact ⟨ret_bool (by simp), (Below.refl _ _).alloc (Nat.le_refl _) _⟩
    have hm2 : (m == 5) = false := by rw [beq_eq_false_iff_ne]; exact hm
    have HM : Hid ((m != 5) = true) := by show _ = _; simp [hm]
    clear hm
    go_enter Tryz.func56, Tryz.ntmps56
    go_wp2_with fail
    refine (rightSrc_any m r n l _ (HT.out _)).mono ?_
    rintro e x1 ⟨rfl, hb⟩
    have HI1 : Hid (_ = _) := heap_keep (heap_alloc_new w _) hb
    have HB1 : Hid (Below w.heap.size w x1) := Below.trans ((Below.refl _ _).alloc (Nat.le_refl _) _) (hb.mono (by simp))
    clear hb
    obtain ⟨c0, c1, c2, c3, c4, c5, c6, c7, c8, c9, c10⟩ := cells11 HI1.out
    cases hs : srcB m r n l
    · go_wp2
      all_goals
        go_ret
        exact ⟨ret_bool (by simp [hs]), HB1.out⟩
    · go_wp2
      all_goals
        go_ret
        exact ⟨ret_bool (by rw [HM.out]; simp_all [zeroB]), HB1.out⟩
set_option maxRecDepth 100000 in
set_option maxHeartbeats 1600000 in
theorem rightOne_call (b : Bool) (m r n : Int) (l : Bool) (m2 r2 n2 : Int) (l2 : Bool) (j : Int) (w : World) (hT : Tabs w) :
    Calls Tryz.prog 56 #[.agg #[.string ⟨#[99, 97, 108, 108]⟩, .bool b, .int .i64 m, .int .i64 r, .int .i64 n, .bool l, .int .i64 m2, .int .i64 r2, .int .i64 n2, .bool l2, .int .i64 j]] w fun e w' => e = .returned (.bool (srcB m r n l && zeroB m2 r2 n2 l2 && (j == 0) && !b)) ∧ Below w.heap.size w w' := by
  have HT : Hid (∀ o, Tabs (w.alloc o)) := fun o => hT.alloc o
  clear hT
  cases b
  case true =>
    go_enter Tryz.func56, Tryz.ntmps56
    go_wp2
    all_goals
      go_ret
      exact ⟨ret_bool (by simp), (Below.refl _ _).alloc (Nat.le_refl _) _⟩
  case false =>
    go_enter Tryz.func56, Tryz.ntmps56
    go_wp2_with fail
    refine (rightSrc_any m r n l _ (HT.out _)).mono ?_
    rintro e x1 ⟨rfl, hb⟩
    have HI1 : Hid (_ = _) := heap_keep (heap_alloc_new w _) hb
    have HB1 : Hid (Below w.heap.size w x1) := Below.trans ((Below.refl _ _).alloc (Nat.le_refl _) _) (hb.mono (by simp))
    clear hb
    obtain ⟨c0, c1, c2, c3, c4, c5, c6, c7, c8, c9, c10⟩ := cells11 HI1.out
    cases hs : srcB m r n l
    · go_wp2
      all_goals
        go_ret
        exact ⟨ret_bool (by simp_all), HB1.out⟩
    · go_wp2
      all_goals
        go_ret
        exact ⟨ret_bool (by simp_all [zeroB]), HB1.out⟩
set_option maxRecDepth 100000 in
set_option maxHeartbeats 1600000 in
theorem rightOne_push (b : Bool) (m r n : Int) (l : Bool) (m2 r2 n2 : Int) (l2 : Bool) (j : Int) (w : World) (hT : Tabs w) :
    Calls Tryz.prog 56 #[.agg #[.string ⟨#[112, 117, 115, 104]⟩, .bool b, .int .i64 m, .int .i64 r, .int .i64 n, .bool l, .int .i64 m2, .int .i64 r2, .int .i64 n2, .bool l2, .int .i64 j]] w fun e w' => e = .returned (.bool (srcB m r n l && zeroB m2 r2 n2 l2 && (j == 0))) ∧ Below w.heap.size w w' := by
  have HT : Hid (∀ o, Tabs (w.alloc o)) := fun o => hT.alloc o
  clear hT
  go_enter Tryz.func56, Tryz.ntmps56
  go_wp2_with fail
  refine (rightSrc_any m r n l _ (HT.out _)).mono ?_
  rintro e x1 ⟨rfl, hb⟩
  have HI1 : Hid (_ = _) := heap_keep (heap_alloc_new w _) hb
  have HB1 : Hid (Below w.heap.size w x1) := Below.trans ((Below.refl _ _).alloc (Nat.le_refl _) _) (hb.mono (by simp))
  clear hb
  obtain ⟨c0, c1, c2, c3, c4, c5, c6, c7, c8, c9, c10⟩ := cells11 HI1.out
  cases hs : srcB m r n l
  · go_wp2
    all_goals
      go_ret
      exact ⟨ret_bool (by simp_all), HB1.out⟩
  · go_wp2
    all_goals
      go_ret
      exact ⟨ret_bool (by simp_all [zeroB]), HB1.out⟩
set_option maxRecDepth 100000 in
set_option maxHeartbeats 1600000 in
theorem rightOne_else (op : ByteArray) (b : Bool) (m r n : Int) (l : Bool) (m2 r2 n2 : Int) (l2 : Bool) (j : Int) (w : World) (hT : Tabs w)
    (h0 : (op.toList == [114, 101, 116, 105]) = false) (h1 : (op.toList == [115, 119, 112, 98]) = false) (h2 : (op.toList == [115, 120, 116]) = false) (h3 : (op.toList == [99, 97, 108, 108]) = false) (h4 : (op.toList == [112, 117, 115, 104]) = false) :
    Calls Tryz.prog 56 #[.agg #[.string op, .bool b, .int .i64 m, .int .i64 r, .int .i64 n, .bool l, .int .i64 m2, .int .i64 r2, .int .i64 n2, .bool l2, .int .i64 j]] w fun e w' => e = .returned (.bool (srcB m r n l && zeroB m2 r2 n2 l2 && (j == 0) && (m != 5))) ∧ Below w.heap.size w w' := by
  have HT : Hid (∀ o, Tabs (w.alloc o)) := fun o => hT.alloc o
  clear hT
  by_cases hm : m = 5
  · subst hm
    go_enter Tryz.func56, Tryz.ntmps56
    go_wp2
    all_goals
      go_ret
      exact ⟨ret_bool (by simp), (Below.refl _ _).alloc (Nat.le_refl _) _⟩
  have hm2 : (m == 5) = false := by rw [beq_eq_false_iff_ne]; exact hm
  have HM : Hid ((m != 5) = true) := by show _ = _; simp [hm]
  clear hm
  go_enter Tryz.func56, Tryz.ntmps56
  go_wp2_with fail
  refine (rightSrc_any m r n l _ (HT.out _)).mono ?_
  rintro e x1 ⟨rfl, hb⟩
  have HI1 : Hid (_ = _) := heap_keep (heap_alloc_new w _) hb
  have HB1 : Hid (Below w.heap.size w x1) := Below.trans ((Below.refl _ _).alloc (Nat.le_refl _) _) (hb.mono (by simp))
  clear hb
  obtain ⟨c0, c1, c2, c3, c4, c5, c6, c7, c8, c9, c10⟩ := cells11 HI1.out
  cases hs : srcB m r n l
  · go_wp2
    all_goals
      go_ret
      exact ⟨ret_bool (by simp [hs]), HB1.out⟩
  · go_wp2
    all_goals
      go_ret
      exact ⟨ret_bool (by rw [HM.out]; simp_all [zeroB]), HB1.out⟩
theorem rightOne_any (op : ByteArray) (b : Bool) (m r n : Int) (l : Bool) (m2 r2 n2 : Int) (l2 : Bool) (j : Int) (w : World) (hT : Tabs w) :
    Calls Tryz.prog 56 #[.agg #[.string op, .bool b, .int .i64 m, .int .i64 r, .int .i64 n, .bool l, .int .i64 m2, .int .i64 r2, .int .i64 n2, .bool l2, .int .i64 j]] w fun e w' => e = .returned (.bool (oneB op b m r n l m2 r2 n2 l2 j)) ∧ Below w.heap.size w w' := by
  by_cases h0 : op = ⟨#[114, 101, 116, 105]⟩
  · subst h0; exact rightOne_reti b m r n l m2 r2 n2 l2 j w
  by_cases h1 : op = ⟨#[115, 119, 112, 98]⟩
  · have e : oneB op b m r n l m2 r2 n2 l2 j = (srcB m r n l && zeroB m2 r2 n2 l2 && (j == 0) && (m != 5) && !b) := by subst h1; simp [oneB, handB, wideB]
    rw [e]; subst h1; exact rightOne_swpb b m r n l m2 r2 n2 l2 j w hT
  by_cases h2 : op = ⟨#[115, 120, 116]⟩
  · have e : oneB op b m r n l m2 r2 n2 l2 j = (srcB m r n l && zeroB m2 r2 n2 l2 && (j == 0) && (m != 5) && !b) := by subst h2; simp [oneB, handB, wideB]
    rw [e]; subst h2; exact rightOne_sxt b m r n l m2 r2 n2 l2 j w hT
  by_cases h3 : op = ⟨#[99, 97, 108, 108]⟩
  · have e : oneB op b m r n l m2 r2 n2 l2 j = (srcB m r n l && zeroB m2 r2 n2 l2 && (j == 0) && !b) := by subst h3; simp [oneB, handB, wideB]
    rw [e]; subst h3; exact rightOne_call b m r n l m2 r2 n2 l2 j w hT
  by_cases h4 : op = ⟨#[112, 117, 115, 104]⟩
  · have e : oneB op b m r n l m2 r2 n2 l2 j = (srcB m r n l && zeroB m2 r2 n2 l2 && (j == 0)) := by subst h4; simp [oneB, handB, wideB]
    rw [e]; subst h4; exact rightOne_push b m r n l m2 r2 n2 l2 j w hT
  have e : oneB op b m r n l m2 r2 n2 l2 j = (srcB m r n l && zeroB m2 r2 n2 l2 && (j == 0) && (m != 5)) := by simp [oneB, handB, wideB, h0, h1, h2, h3, h4]
  rw [e]
  exact rightOne_else op b m r n l m2 r2 n2 l2 j w hT (text_no _ h0) (text_no _ h1) (text_no _ h2) (text_no _ h3) (text_no _ h4)
end Go.Proofs.YtodjccipfonaiaaGreatDoor
namespace Go.Proofs.YtodjccipfonaiaaGreatDoor

theorem atF_cons (s : ByteArray) (L : List ByteArray) (t : ByteArray) (i : Nat) : atF (s :: L) t i = if s = t then (i : Int) else atF L t (i + 1) := rfl
theorem atF_shift (L : List ByteArray) (t : ByteArray) (i c : Nat) : atF L t (i + c) = if 0 ≤ atF L t i then atF L t i + c else -1 := by
  induction L generalizing i with
  | nil => simp [atF]
  | cons s L ih =>
    unfold atF
    by_cases h : s = t
    · simp only [if_pos h]; rw [if_pos (by omega)]; omega
    · simp only [if_neg h]
      rw [show i + c + 1 = (i + 1) + c by omega, ih]
theorem atF_app (A B : List ByteArray) (t : ByteArray) (i : Nat) : atF (A ++ B) t i = if 0 ≤ atF A t i then atF A t i else atF B t (i + A.length) := by
  induction A generalizing i with
  | nil => simp [atF]
  | cons s A ih =>
    rw [List.cons_append, atF_cons, atF_cons]
    by_cases h : s = t
    · simp only [if_pos h]; rw [if_pos (by omega)]
    · simp only [if_neg h]
      rw [ih, List.length_cons, show i + 1 + A.length = i + (A.length + 1) by omega]
theorem atF_rep (n : Nat) (t : ByteArray) (h : ¬ t = ⟨#[]⟩) (i : Nat) : atF (List.replicate n ⟨#[]⟩) t i = -1 := by
  induction n generalizing i with
  | zero => rfl
  | succ n ih =>
    rw [List.replicate_succ]
    unfold atF
    rw [if_neg (fun e => h e.symm), ih]
theorem atF_mem (L : List ByteArray) (t : ByteArray) (i : Nat) (h : 0 ≤ atF L t i) : t ∈ L := by
  induction L generalizing i with
  | nil => simp [atF] at h
  | cons s L ih =>
    unfold atF at h
    by_cases e : s = t
    · exact List.mem_cons.2 (.inl e.symm)
    · rw [if_neg e] at h
      exact List.mem_cons_of_mem _ (ih _ h)
theorem atI_mem {L : List ByteArray} {t : ByteArray} (h : 0 ≤ atI L t) : t ∈ L := atF_mem L t 0 h
theorem atI_lo (L : List ByteArray) (t : ByteArray) : atI L t = -1 ∨ 0 ≤ atI L t := by
  have := atF_ge L t 0
  unfold atI; omega
theorem find_kinds (op : ByteArray) : findI op = if 0 ≤ atI twosL op then (0, 4 + atI twosL op, true) else if 0 ≤ atI onesL op then (1, atI onesL op, true) else if 0 ≤ atI jumpsL op then (2, atI jumpsL op, true) else (0, 0, false) := by
  unfold findI
  by_cases h : op = ⟨#[]⟩
  · subst h
    rw [if_pos rfl]
    decide +kernel
  · rw [if_neg h]
    have h' : ¬ (⟨#[]⟩ : ByteArray) = op := fun e => h e.symm
    have e0 : atI (⟨#[]⟩ :: ⟨#[]⟩ :: ⟨#[]⟩ :: ⟨#[]⟩ :: twosL) op = if 0 ≤ atI twosL op then atI twosL op + 4 else -1 := by
      unfold atI
      rw [atF, if_neg h', atF, if_neg h', atF, if_neg h', atF, if_neg h']
      exact atF_shift twosL op 0 4
    have e1 : atI (onesL ++ List.replicate 9 ⟨#[]⟩) op = if 0 ≤ atI onesL op then atI onesL op else -1 := by
      unfold atI
      rw [atF_app, atF_rep _ _ h]
    have e2 : atI (jumpsL ++ List.replicate 8 ⟨#[]⟩) op = if 0 ≤ atI jumpsL op then atI jumpsL op else -1 := by
      unfold atI
      rw [atF_app, atF_rep _ _ h]
    unfold namesL
    simp only [findRows, e0, e1, e2]
    by_cases a : 0 ≤ atI twosL op
    · simp only [if_pos a]
      rw [if_pos (by omega), Int.add_comm]; rfl
    · simp only [if_neg a]
      rw [if_neg (by omega)]
      by_cases b : 0 ≤ atI onesL op
      · simp only [if_pos b]; rfl
      · simp only [if_neg b]
        rw [if_neg (by omega)]
        by_cases c : 0 ≤ atI jumpsL op
        · simp only [if_pos c]; rfl
        · simp only [if_neg c]
          rw [if_neg (by omega)]
theorem ones_jumps {op : ByteArray} (h : 0 ≤ atI onesL op) : atI jumpsL op = -1 ∧ atI twosL op = -1 := by
  have := atI_mem h
  simp only [onesL, List.mem_cons, List.not_mem_nil, or_false] at this
  rcases this with rfl | rfl | rfl | rfl | rfl | rfl | rfl <;> decide +kernel
theorem reti_at {op : ByteArray} (h : op = ⟨#[114, 101, 116, 105]⟩) : atI onesL op = 6 ∧ atI jumpsL op = -1 ∧ atI twosL op = -1 := by
  subst h; decide +kernel
theorem insn_kinds (op : ByteArray) (b : Bool) (m r n : Int) (l : Bool) (m2 r2 n2 : Int) (l2 : Bool) (j : Int) :
    insnB op b m r n l m2 r2 n2 l2 j = if 0 ≤ atI twosL op then srcB m r n l && dstB m2 r2 n2 l2 && (j == 0) else if 0 ≤ atI onesL op then oneB op b m r n l m2 r2 n2 l2 j else if 0 ≤ atI jumpsL op then !b && zeroB m r n l && zeroB m2 r2 n2 l2 && isB j (-512) 511 else false := by
  unfold insnB rightB oneB handB wideB
  by_cases h1 : 0 ≤ atI twosL op
  · simp only [if_pos h1]
  · simp only [if_neg h1]
    by_cases h3 : 0 ≤ atI onesL op
    · have := (ones_jumps h3).1
      rw [if_pos h3, if_neg (show ¬ 0 ≤ atI jumpsL op by omega), if_neg (show ¬ atI onesL op < 0 by omega)]
    · rw [if_neg h3]
      by_cases h2 : 0 ≤ atI jumpsL op
      · rw [if_pos h2, if_pos h2]
      · rw [if_neg h2, if_neg h2]
        by_cases hr : op = ⟨#[114, 101, 116, 105]⟩
        · have := (reti_at hr).1; omega
        · rw [if_neg hr, if_pos (by omega)]
end Go.Proofs.YtodjccipfonaiaaGreatDoor
namespace Go.Proofs.YtodjccipfonaiaaGreatDoor
open Go.RowKit

theorem below_drewN {B : Nat} {a w : World} (h : Below B a w) (n : Nat) : Below B a (w.drewN n) := ⟨h.os, h.tape, h.output, h.size, h.block⟩
def cellsI (L : List Int) : List Value := L.map (Value.int .i64)
def OwnI (w : World) (B : Nat) (v : Value) (L : List Int) : Prop := w.ownsRow B 2 1 v L.length (cellsI L)
theorem infoI : (Tryz.prog.info? 2).map (fun i => (i.zero, i.size, i.bytes)) = some (some (.int .i64 0), 1, 8) := by kernel_rfl
theorem one_cellI (x : Int) : ∀ u ∈ [Value.int .i64 x], u.oneCell' = true := by intro u hu; simp at hu; subst hu; rfl
theorem OwnI.stays {w w' : World} {B : Nat} {v : Value} {L : List Int} (h : OwnI w B v L) (hb : Below w.heap.size w w') : OwnI w' B v L := by
  obtain ⟨h1, h2⟩ := h
  refine ⟨h1, ?_⟩
  rcases h2 with h2 | ⟨g, cap, cur, hv, hB, hg, rest⟩
  · exact .inl h2
  · exact .inr ⟨g, cap, cur, hv, hB, heap_keep hg hb, rest⟩
theorem OwnI.alloc {w : World} {B : Nat} {v : Value} {L : List Int} (h : OwnI w B v L) (o : Obj) : OwnI (w.alloc o) B v L := h.stays (below_new w o)
theorem OwnI.low {w : World} {B B' : Nat} {v : Value} {L : List Int} (h : OwnI w B v L) (hB : B' ≤ B) : OwnI w B' v L := by
  obtain ⟨h1, h2⟩ := h
  refine ⟨h1, ?_⟩
  rcases h2 with h2 | ⟨g, cap, cur, hv, hg, rest⟩
  · exact .inl h2
  · exact .inr ⟨g, cap, cur, hv, by omega, rest⟩
theorem OwnI.nil (w : World) (B : Nat) : OwnI w B (.slice none 0 0) [] := ⟨rfl, .inl ⟨rfl, rfl⟩⟩
/- What such a row is: nothing, or a block whose first cells are the numbers. -/
theorem OwnI.form {w : World} {B : Nat} {v : Value} {L : List Int} (h : OwnI w B v L) :
    (v = .slice none 0 0 ∧ L = []) ∨ ∃ g cap cur, v = .slice (some ⟨g, 0, none⟩) L.length cap ∧ B ≤ g ∧ w.heap[g]? = some (.cells cur 2 (0, 0)) ∧ L.length ≤ cap ∧ cap ≤ maxLen ∧ cur.size = cap ∧ (∀ i (hi : i < L.length), cur[i]? = some (.int .i64 L[i])) := by
  obtain ⟨h1, h2⟩ := h
  rcases h2 with ⟨h2, h3⟩ | ⟨g, cap, cur, hv, hB, hg, h4, h5, h6, h7⟩
  · exact .inl ⟨h2, List.eq_nil_of_length_eq_zero h3⟩
  · refine .inr ⟨g, cap, cur, hv, hB, hg, h4, h5, by omega, fun i hi => ?_⟩
    have e := congrArg (fun l => l[i]?) h7
    simp only [Nat.mul_one, List.getElem?_take, if_pos hi, cellsI, List.getElem?_map, List.getElem?_eq_getElem hi] at e
    simpa using e
theorem OwnI.mk {w : World} {B g cap : Nat} {cur : Array Value} {L : List Int} (hB : B ≤ g) (hg : w.heap[g]? = some (.cells cur 2 (0, 0))) (h4 : L.length ≤ cap) (h5 : cap ≤ maxLen) (h6 : cur.size = cap) (h7 : ∀ i (hi : i < L.length), cur[i]? = some (.int .i64 L[i])) : OwnI w B (.slice (some ⟨g, 0, none⟩) L.length cap) L := by
  refine ⟨by simp [cellsI], .inr ⟨g, cap, cur, rfl, hB, hg, h4, h5, by omega, ?_⟩⟩
  apply List.ext_getElem?
  intro i
  rw [List.getElem?_take, Nat.mul_one]
  by_cases hi : i < L.length
  · rw [if_pos hi]
    have := h7 i hi
    simp [cellsI, hi]
    simpa using this
  · rw [if_neg hi, List.getElem?_eq_none (by simp [cellsI]; omega)]
theorem eq_step {A B : List Int} (hl : A.length = B.length) (k : Nat) (hk : k < A.length) (he : A[k] = B[k]'(by omega)) : (A.drop k = B.drop k ↔ A.drop (k + 1) = B.drop (k + 1)) := by
  have e1 := List.drop_eq_getElem_cons hk
  have e2 := List.drop_eq_getElem_cons (show k < B.length by omega)
  constructor
  · intro h; rw [e1, e2] at h; exact (List.cons.inj h).2
  · intro h; rw [e1, e2, h, he]
theorem eq_stop {A B : List Int} (k : Nat) (hk : k < A.length) (hk2 : k < B.length) (he : ¬ A[k] = B[k]) : ¬ A = B := fun e => by subst e; exact he rfl
def marksI (k : Int) (n : Nat) : List Int := (List.range n).map fun (i : Nat) => k + (i : Int)
theorem marksI_len (k : Int) (n : Nat) : (marksI k n).length = n := by simp [marksI]
theorem marksI_at (k : Int) (n i : Nat) (h : i < (marksI k n).length) : (marksI k n)[i] = k + i := by simp [marksI]
end Go.Proofs.YtodjccipfonaiaaGreatDoor
namespace Go.Proofs.YtodjccipfonaiaaGreatDoor
open Go.RowKit

set_option maxRecDepth 100000 in
set_option maxHeartbeats 1600000 in
theorem implRight_any (op : ByteArray) (b : Bool) (m r n : Int) (l : Bool) (m2 r2 n2 : Int) (l2 : Bool) (j : Int) (w : World) (hT : Tabs w) :
    Calls Tryz.prog 21 #[.agg #[.string op, .bool b, .int .i64 m, .int .i64 r, .int .i64 n, .bool l, .int .i64 m2, .int .i64 r2, .int .i64 n2, .bool l2, .int .i64 j]] w fun e w' => e = .returned (.bool (insnB op b m r n l m2 r2 n2 l2 j)) ∧ Below w.heap.size w w' := by
  have HF : Hid (_ = _) := find_kinds op
  have HK : Hid (_ = _) := insn_kinds op b m r n l m2 r2 n2 l2 j
  have HT : Hid (∀ o, Tabs (w.alloc o)) := fun o => hT.alloc o
  clear hT
  go_enter Tryz.func21, Tryz.ntmps21
  go_wp2_with fail
  refine (findOp_any op _ (HT.out _)).mono ?_
  rintro e x1 ⟨rfl, hb⟩
  have HI1 : Hid (_ = _) := heap_keep (heap_alloc_new w _) hb
  have HB1 : Hid (Below w.heap.size w x1) := Below.trans ((Below.refl _ _).alloc (Nat.le_refl _) _) (hb.mono (by simp))
  have HT1 : Hid (∀ o, Tabs (x1.alloc o)) := fun o => ((HT.out _).below hb).alloc o
  clear hb
  have hz := heap_lt HI1.out
  obtain ⟨c0, c1, c2, c3, c4, c5, c6, c7, c8, c9, c10⟩ := cells11 HI1.out
  rw [HF.out]
  by_cases h1 : 0 ≤ atI twosL op
  · rw [if_pos h1]
    have HR : Hid (_ = _) := HK.out.trans (if_pos h1)
    generalize atI twosL op = k1 at *
    go_wp2_with fail
    refine (rightTwo_any op b m r n l m2 r2 n2 l2 j _ (HT1.out _)).mono ?_
    rintro e x2 ⟨rfl, hb⟩
    go_wp2
    go_ret
    exact ⟨ret_bool HR.out.symm, (HB1.out.alloc HB1.out.size _).trans (hb.mono (by have := HB1.out.size; simp; omega))⟩
  · rw [if_neg h1]
    replace HK : Hid (_ = _) := HK.out.trans (if_neg h1)
    clear h1
    by_cases h3 : 0 ≤ atI onesL op
    · rw [if_pos h3]
      have HR : Hid (_ = _) := HK.out.trans (if_pos h3)
      generalize atI onesL op = k3 at *
      go_wp2_with fail
      refine (rightOne_any op b m r n l m2 r2 n2 l2 j _ (HT1.out _)).mono ?_
      rintro e x2 ⟨rfl, hb⟩
      go_wp2
      go_ret
      exact ⟨ret_bool HR.out.symm, (HB1.out.alloc HB1.out.size _).trans (hb.mono (by have := HB1.out.size; simp; omega))⟩
    · rw [if_neg h3]
      replace HK : Hid (_ = _) := HK.out.trans (if_neg h3)
      clear h3
      by_cases h2 : 0 ≤ atI jumpsL op
      · rw [if_pos h2]
        have HR : Hid (_ = _) := HK.out.trans (if_pos h2)
        generalize atI jumpsL op = k2 at *
        go_wp2_with fail
        refine (rightJump_any op b m r n l m2 r2 n2 l2 j _).mono ?_
        rintro e x2 ⟨rfl, hb⟩
        go_wp2
        go_ret
        exact ⟨ret_bool HR.out.symm, (HB1.out.alloc HB1.out.size _).trans (hb.mono (by have := HB1.out.size; simp; omega))⟩
      · rw [if_neg h2]
        have HR : Hid (_ = _) := HK.out.trans (if_neg h2)
        clear h2
        go_wp2
        go_ret
        exact ⟨ret_bool HR.out.symm, HB1.out.alloc HB1.out.size _⟩
end Go.Proofs.YtodjccipfonaiaaGreatDoor
