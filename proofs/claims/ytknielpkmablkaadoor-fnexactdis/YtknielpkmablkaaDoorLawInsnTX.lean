/- How instructions are written: InsnText of both sides, and the walk of FnExactInsnText. -/
import Derived.Test.YtknielpkmablkaaDoorRows
import Derived.WalkKit
import Derived.WalkSpells
import Derived.WalkLawsBesides
import Derived.Outline
import Derived.Test.YtknielpkmablkaaDoorBun0
import Derived.Test.YtknielpkmablkaaDoorBun20
import Derived.Test.YtknielpkmablkaaDoorBun10
import Derived.Test.YtknielpkmablkaaDoorBun25
import Derived.Test.YtknielpkmablkaaDoorTextIX
namespace Go.Proofs.YtknielpkmablkaaDoor
open Go.RowKit
set_option linter.unusedVariables false

def insAll (op : ByteArray) (b : Bool) (m r n : Int) (l : Bool) (m2 r2 n2 : Int) (l2 : Bool) (j : Int) : ByteArray := if insnB op b m r n l m2 r2 n2 l2 j = true then insT op b m r n l m2 r2 n2 l2 j else ⟨#[]⟩
/- The kinds of a right Insn, with what the walks ask of each. -/
def Kind (op : ByteArray) (b : Bool) (m r n : Int) (l : Bool) (m2 r2 n2 : Int) (l2 : Bool) (j : Int) : Prop :=
  (0 ≤ atI twosL op ∧ ((0 ≤ m ∧ m ≤ 5) ∧ (-100000 ≤ r ∧ r ≤ 100000) ∧ -100000 ≤ n ∧ n ≤ 100000) ∧ ((0 ≤ m2 ∧ m2 ≤ 5) ∧ (-100000 ≤ r2 ∧ r2 ≤ 100000) ∧ -100000 ≤ n2 ∧ n2 ≤ 100000))
  ∨ (¬ 0 ≤ atI twosL op ∧ 0 ≤ atI onesL op ∧ ¬ op = ⟨#[114, 101, 116, 105]⟩ ∧ ((0 ≤ m ∧ m ≤ 5) ∧ (-100000 ≤ r ∧ r ≤ 100000) ∧ -100000 ≤ n ∧ n ≤ 100000))
  ∨ (¬ 0 ≤ atI twosL op ∧ 0 ≤ atI onesL op ∧ op = ⟨#[114, 101, 116, 105]⟩ ∧ b = false)
  ∨ (¬ 0 ≤ atI twosL op ∧ ¬ 0 ≤ atI onesL op ∧ 0 ≤ atI jumpsL op ∧ b = false ∧ (-600 ≤ j ∧ j ≤ 600))
theorem kind_of (op : ByteArray) (b : Bool) (m r n : Int) (l : Bool) (m2 r2 n2 : Int) (l2 : Bool) (j : Int) (h : insnB op b m r n l m2 r2 n2 l2 j = true) : Kind op b m r n l m2 r2 n2 l2 j := by
  have hK := (insn_kinds op b m r n l m2 r2 n2 l2 j).symm.trans h
  by_cases h1 : 0 ≤ atI twosL op
  · rw [if_pos h1] at hK
    simp only [Bool.and_eq_true] at hK
    exact .inl ⟨h1, src_rng hK.1.1, dst_rng hK.1.2⟩
  rw [if_neg h1] at hK
  by_cases h3 : 0 ≤ atI onesL op
  · rw [if_pos h3] at hK
    unfold oneB at hK
    by_cases hr : op = ⟨#[114, 101, 116, 105]⟩
    · rw [if_pos hr] at hK
      simp only [Bool.and_eq_true] at hK
      exact .inr (.inr (.inl ⟨h1, h3, hr, by simpa using hK.1.1.1⟩))
    · rw [if_neg hr] at hK
      simp only [Bool.and_eq_true] at hK
      exact .inr (.inl ⟨h1, h3, hr, src_rng hK.1.1.1.1⟩)
  rw [if_neg h3] at hK
  by_cases h2 : 0 ≤ atI jumpsL op
  · rw [if_pos h2] at hK
    simp only [Bool.and_eq_true] at hK
    have hj := isB_iff.1 hK.2
    exact .inr (.inr (.inr ⟨h1, h3, h2, by simpa using hK.1.1.1, by omega⟩))
  · rw [if_neg h2] at hK; cases hK
theorem reti_k : ¬ atI opsAll ⟨#[114, 101, 116, 105]⟩ < 12 ∧ ¬ atI opsAll ⟨#[114, 101, 116, 105]⟩ < 18 ∧ (atI opsAll ⟨#[114, 101, 116, 105]⟩ == 18) = true := by decide +kernel
theorem one_size {op : ByteArray} (h : 0 ≤ atI onesL op) : op.size ≤ 10 := by
  have := atI_mem h
  simp only [onesL, List.mem_cons, List.not_mem_nil, or_false] at this
  rcases this with rfl | rfl | rfl | rfl | rfl | rfl | rfl <;> decide +kernel
theorem l03Text_any (op : ByteArray) (b : Bool) (m r n : Int) (l : Bool) (m2 r2 n2 : Int) (l2 : Bool) (j : Int) (w : World) (h : insnB op b m r n l m2 r2 n2 l2 j = true) : Calls Tryd.prog 24 #[.agg #[.string op, .bool b, .int .i64 m, .int .i64 r, .int .i64 n, .bool l, .int .i64 m2, .int .i64 r2, .int .i64 n2, .bool l2, .int .i64 j]] w fun e w' => e = .returned (.string (insT op b m r n l m2 r2 n2 l2 j)) ∧ Below w.heap.size w w' := by
  rcases kind_of op b m r n l m2 r2 n2 l2 j h with ⟨h2, a, c⟩ | ⟨h2, h3, hr, a⟩ | ⟨h2, h3, hr, rfl⟩ | ⟨h2, h3, h4, rfl, a⟩
  · obtain ⟨k1, ho⟩ := at_two h2
    cases b
    · exact specT_two_f op m r n l m2 r2 n2 l2 j _ w rfl k1 h2 ho a.1.1 a.1.2 a.2.1.1 a.2.1.2 a.2.2.1 a.2.2.2 c.1.1 c.1.2 c.2.1.1 c.2.1.2 c.2.2.1 c.2.2.2
    · exact specT_two_t op m r n l m2 r2 n2 l2 j _ w rfl k1 h2 ho a.1.1 a.1.2 a.2.1.1 a.2.1.2 a.2.2.1 a.2.2.2 c.1.1 c.1.2 c.2.1.1 c.2.1.2 c.2.2.1 c.2.2.2
  · obtain ⟨k1, k2, ho⟩ := at_one h3 hr
    cases b
    · exact specT_one_f op m r n l m2 r2 n2 l2 j _ w rfl k1 k2 h2 h3 hr ho a.1.1 a.1.2 a.2.1.1 a.2.1.2 a.2.2.1 a.2.2.2
    · exact specT_one_t op m r n l m2 r2 n2 l2 j _ w rfl k1 k2 h2 h3 hr ho a.1.1 a.1.2 a.2.1.1 a.2.1.2 a.2.2.1 a.2.2.2
  · obtain ⟨k1, k2, k3⟩ := reti_k
    rw [← hr] at k1 k2 k3
    exact specT_reti_f op m r n l m2 r2 n2 l2 j _ w rfl k1 k2 k3 h2 h3 hr
  · obtain ⟨k1, k2, k3, ho⟩ := at_jump h4
    exact specT_jump_f op m r n l m2 r2 n2 l2 j _ w rfl k1 k2 k3 h2 h3 ho a.1 a.2
set_option maxRecDepth 100000 in
set_option maxHeartbeats 1600000 in
theorem implInsnText_no (op : ByteArray) (b : Bool) (m r n : Int) (l : Bool) (m2 r2 n2 : Int) (l2 : Bool) (j : Int) (w : World) (HN : Hid (insnB op b m r n l m2 r2 n2 l2 j = false)) (hT : Tabs w) : Calls Tryd.prog 44 #[.agg #[.string op, .bool b, .int .i64 m, .int .i64 r, .int .i64 n, .bool l, .int .i64 m2, .int .i64 r2, .int .i64 n2, .bool l2, .int .i64 j]] w fun e w' => e = .returned (.string ⟨#[]⟩) ∧ Below w.heap.size w w' := by
  have HT : Hid (Tabs w) := hT
  clear hT
  go_enter Tryd.func44, Tryd.ntmps44
  go_wp2_with fail
  refine (implRight_any op b m r n l m2 r2 n2 l2 j _ (HT.out.alloc _)).mono ?_
  rintro e x1 ⟨rfl, hb⟩
  rw [HN.out]
  go_wp2
  go_ret
  exact ⟨rfl, below_call (below_new _ _) hb⟩
theorem implInsnText_any (op : ByteArray) (b : Bool) (m r n : Int) (l : Bool) (m2 r2 n2 : Int) (l2 : Bool) (j : Int) (w : World) (hT : Tabs w) (hP : Pow w) : Calls Tryd.prog 44 #[.agg #[.string op, .bool b, .int .i64 m, .int .i64 r, .int .i64 n, .bool l, .int .i64 m2, .int .i64 r2, .int .i64 n2, .bool l2, .int .i64 j]] w fun e w' => e = .returned (.string (insAll op b m r n l m2 r2 n2 l2 j)) ∧ Below w.heap.size w w' := by
  unfold insAll
  cases hN : insnB op b m r n l m2 r2 n2 l2 j
  · exact implInsnText_no op b m r n l m2 r2 n2 l2 j w hN hT
  rw [if_pos rfl]
  rcases kind_of op b m r n l m2 r2 n2 l2 j hN with ⟨h2, a, c⟩ | ⟨h2, h3, hr, a⟩ | ⟨h2, h3, hr, rfl⟩ | ⟨h2, h3, h4, rfl, a⟩
  · obtain ⟨k1, ho⟩ := at_two h2
    obtain ⟨kn, hk⟩ := place_two h2
    cases b
    · exact implT_two_f op m r n l m2 r2 n2 l2 j w hT hP kn hk hN h2 ho a.1.1 a.1.2 a.2.1.1 a.2.1.2 a.2.2.1 a.2.2.2 c.1.1 c.1.2 c.2.1.1 c.2.1.2 c.2.2.1 c.2.2.2
    · exact implT_two_t op m r n l m2 r2 n2 l2 j w hT hP kn hk hN h2 ho a.1.1 a.1.2 a.2.1.1 a.2.1.2 a.2.2.1 a.2.2.2 c.1.1 c.1.2 c.2.1.1 c.2.1.2 c.2.2.1 c.2.2.2
  · obtain ⟨kn, hk⟩ := place_one h3
    cases b
    · exact implT_one_f op m r n l m2 r2 n2 l2 j w hT hP kn hk hN h2 h3 hr (one_size h3) a.1.1 a.1.2 a.2.1.1 a.2.1.2 a.2.2.1 a.2.2.2
    · exact implT_one_t op m r n l m2 r2 n2 l2 j w hT hP kn hk hN h2 h3 hr (one_size h3) a.1.1 a.1.2 a.2.1.1 a.2.1.2 a.2.2.1 a.2.2.2
  · obtain ⟨kn, hk⟩ := place_one h3
    exact implT_reti_f op m r n l m2 r2 n2 l2 j w hT hP kn hk hN h2 h3 hr (one_size h3)
  · obtain ⟨kn, hk⟩ := place_jump h4
    exact implT_jump_f op m r n l m2 r2 n2 l2 j w hT hP kn hk hN h2 h3 (at_jump h4).2.2.2 a.1 a.2
structure PowTabs (w : World) : Prop where
  pow : Pow w
  tabs : Tabs w
end Go.Proofs.YtknielpkmablkaaDoor
