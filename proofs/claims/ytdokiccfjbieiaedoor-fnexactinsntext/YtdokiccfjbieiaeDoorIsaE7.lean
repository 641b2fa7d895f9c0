/- Instructions: Encode of the program, all kinds together. -/
import Derived.Test.YtdokiccfjbieiaeDoorRows
import Derived.WalkKit
import Derived.WalkSpells
import Derived.WalkLawsBesides
import Derived.Outline
import Derived.Test.YtdokiccfjbieiaeDoorIsaM
import Derived.Test.YtdokiccfjbieiaeDoorIsaE5
import Derived.Test.YtdokiccfjbieiaeDoorIsaE6
namespace Go.Proofs.YtdokiccfjbieiaeDoor
open Go.RowKit

theorem isB_iff {n a c : Int} : isB n a c = true ↔ a ≤ n ∧ n ≤ c := by simp [isB]
theorem short_as (n : Int) (h : (shortI n).2.2 = true) : 0 ≤ (shortI n).1 ∧ (shortI n).1 ≤ 3 ∧ 0 ≤ (shortI n).2.1 ∧ (shortI n).2.1 ≤ 15 := by
  unfold shortI at h ⊢
  split
  · simp; omega
  · split
    · simp
    · split
      · simp
      · split
        · simp
        · simp_all
theorem src_as {m r n : Int} {l : Bool} (h : srcB m r n l = true) : (0 ≤ m ∧ m ≤ 5) ∧ (0 ≤ (asI m r n l).1 ∧ (asI m r n l).1 ≤ 3) ∧ 0 ≤ (asI m r n l).2.1 ∧ (asI m r n l).2.1 ≤ 15 := by
  unfold srcB at h
  by_cases h0 : m = 0
  · subst h0
    simp [isB_iff] at h
    simp [asI]; omega
  rw [if_neg h0] at h
  by_cases h1 : m = 1
  · subst h1
    simp [plainB, isB_iff] at h
    simp [asI]; omega
  rw [if_neg h1] at h
  by_cases h2 : m = 2
  · subst h2; simp [asI]
  rw [if_neg h2] at h
  by_cases h3 : m = 3
  · subst h3
    simp [plainB, isB_iff] at h
    simp [asI]; omega
  rw [if_neg h3] at h
  by_cases h4 : m = 4
  · subst h4
    simp [plainB, isB_iff] at h
    simp [asI]; omega
  rw [if_neg h4] at h
  by_cases h5 : m = 5
  · subst h5
    have := short_as n
    by_cases hs : (shortI n).2.2 = true
    · cases l
      · simp [asI, hs]; have := this hs; omega
      · simp [asI, hs]
    · simp [asI, hs]
  rw [if_neg h5] at h
  cases h
theorem dst_as {m r n : Int} {l : Bool} (h : dstB m r n l = true) : (0 ≤ m ∧ m ≤ 5) ∧ (0 ≤ (asI m r n l).1 ∧ (asI m r n l).1 ≤ 3) ∧ 0 ≤ (asI m r n l).2.1 ∧ (asI m r n l).2.1 ≤ 15 := by
  unfold dstB at h
  by_cases h0 : m = 0
  · subst h0
    simp [isB_iff] at h
    simp [asI]; omega
  rw [if_neg h0] at h
  by_cases h1 : m = 1 ∨ m = 2
  · rw [if_pos h1] at h; exact src_as h
  · rw [if_neg h1] at h; cases h
theorem zero_is {m r n : Int} {l : Bool} (h : zeroB m r n l = true) : m = 0 ∧ r = 0 ∧ n = 0 ∧ l = false := by
  simpa [zeroB, and_assoc] using h
theorem atF_lt (L : List ByteArray) (t : ByteArray) (i : Nat) : atF L t i < (i + L.length : Nat) := by
  induction L generalizing i with
  | nil => simp [atF]; omega
  | cons s L ih =>
    rw [atF_cons]
    split
    · simp only [List.length_cons]; omega
    · have := ih (i + 1); simp only [List.length_cons]; omega
theorem atI_lt (L : List ByteArray) (t : ByteArray) : atI L t < L.length := by have := atF_lt L t 0; simpa [atI] using this
/- The words of an Insn. -/
def encI (op : ByteArray) (b : Bool) (m r n : Int) (l : Bool) (m2 r2 n2 : Int) (l2 : Bool) (j : Int) : List Int :=
  if 0 ≤ atI twosL op then wordsI (4096 * (4 + atI twosL op) + 256 * (asI m r n l).2.1 + 128 * (asI m2 r2 n2 l2).1 + markI b + 16 * (asI m r n l).1 + (asI m2 r2 n2 l2).2.1) m r n l m2 r2 n2 l2
  else if 0 ≤ atI onesL op then wordsI (4096 + 128 * atI onesL op + markI b + 16 * (asI m r n l).1 + (asI m r n l).2.1) m r n l m2 r2 n2 l2
  else wordsI (8192 + 1024 * atI jumpsL op + j % 1024) m r n l m2 r2 n2 l2
def allI (op : ByteArray) (b : Bool) (m r n : Int) (l : Bool) (m2 r2 n2 : Int) (l2 : Bool) (j : Int) : List Int :=
  if insnB op b m r n l m2 r2 n2 l2 j then encI op b m r n l m2 r2 n2 l2 j else []
theorem one_parts {op : ByteArray} {b : Bool} {m r n : Int} {l : Bool} {m2 r2 n2 : Int} {l2 : Bool} {j : Int} (h : oneB op b m r n l m2 r2 n2 l2 j = true) : ((0 ≤ m ∧ m ≤ 5) ∧ (0 ≤ (asI m r n l).1 ∧ (asI m r n l).1 ≤ 3) ∧ 0 ≤ (asI m r n l).2.1 ∧ (asI m r n l).2.1 ≤ 15) ∧ m2 = 0 ∧ r2 = 0 ∧ n2 = 0 ∧ l2 = false ∧ j = 0 := by
  unfold oneB at h
  by_cases hr : op = ⟨#[114, 101, 116, 105]⟩
  · rw [if_pos hr] at h
    simp only [Bool.and_eq_true] at h
    obtain ⟨⟨⟨h1, h2⟩, h3⟩, h4⟩ := h
    obtain ⟨rfl, rfl, rfl, rfl⟩ := zero_is h2
    obtain ⟨rfl, rfl, rfl, rfl⟩ := zero_is h3
    simp at h4
    simp [asI, h4]
  · rw [if_neg hr] at h
    simp only [Bool.and_eq_true] at h
    obtain ⟨⟨⟨⟨h1, h2⟩, h3⟩, h4⟩, h5⟩ := h
    obtain ⟨rfl, rfl, rfl, rfl⟩ := zero_is h2
    simp at h3
    exact ⟨src_as h1, rfl, rfl, rfl, rfl, h3⟩
theorem implEnc_no (op : ByteArray) (b : Bool) (m r n : Int) (l : Bool) (m2 r2 n2 : Int) (l2 : Bool) (j : Int) (w : World) (HN : Hid (insnB op b m r n l m2 r2 n2 l2 j = false)) (hT : Tabs w) :
    Calls Tryd.prog 13 #[.agg #[.string op, .bool b, .int .i64 m, .int .i64 r, .int .i64 n, .bool l, .int .i64 m2, .int .i64 r2, .int .i64 n2, .bool l2, .int .i64 j]] w fun e w' => ∃ v, e = .returned v ∧ OwnI w' w.heap.size v [] ∧ Below w.heap.size w w' := by
  have HT : Hid (∀ o, Tabs (w.alloc o)) := fun o => hT.alloc o
  clear hT
  go_enter Tryd.func13, Tryd.ntmps13
  go_wp2_with fail
  refine (implRight_any op b m r n l m2 r2 n2 l2 j _ (HT.out _)).mono ?_
  rintro e x1 ⟨rfl, hb⟩
  rw [HN.out]
  go_wp2
  go_ret
  exact ⟨_, rfl, OwnI.nil _ _, below_call (below_new _ _) hb⟩
theorem implEncode_any (op : ByteArray) (b : Bool) (m r n : Int) (l : Bool) (m2 r2 n2 : Int) (l2 : Bool) (j : Int) (w : World) (hT : Tabs w) :
    Calls Tryd.prog 13 #[.agg #[.string op, .bool b, .int .i64 m, .int .i64 r, .int .i64 n, .bool l, .int .i64 m2, .int .i64 r2, .int .i64 n2, .bool l2, .int .i64 j]] w fun e w' => ∃ v, e = .returned v ∧ OwnI w' w.heap.size v (allI op b m r n l m2 r2 n2 l2 j) ∧ Below w.heap.size w w' := by
  unfold allI
  cases hN : insnB op b m r n l m2 r2 n2 l2 j
  · exact implEnc_no op b m r n l m2 r2 n2 l2 j w hN hT
  rw [if_pos rfl]
  have hK := (insn_kinds op b m r n l m2 r2 n2 l2 j).symm.trans hN
  have hF := find_kinds op
  unfold encI
  by_cases h1 : 0 ≤ atI twosL op
  · rw [if_pos h1] at hK hF ⊢
    simp only [Bool.and_eq_true] at hK
    obtain ⟨⟨k1, k2⟩, _⟩ := hK
    obtain ⟨⟨a0, a1⟩, ⟨a2, a3⟩, a4, a5⟩ := src_as k1
    obtain ⟨⟨b0, b1⟩, ⟨b2, b3⟩, b4, b5⟩ := dst_as k2
    have := atI_lt twosL op
    have hl : twosL.length = 12 := rfl
    exact implEnc_two op b m r n l m2 r2 n2 l2 j _ _ _ _ _ w hN hF (by omega) (by omega) a0 a1 b0 b1 rfl rfl rfl rfl a2 a3 a4 a5 b2 b3 b4 b5 hT
  rw [if_neg h1] at hK hF ⊢
  by_cases h3 : 0 ≤ atI onesL op
  · rw [if_pos h3] at hK hF ⊢
    obtain ⟨⟨⟨a0, a1⟩, ⟨a2, a3⟩, a4, a5⟩, e1, e2, e3, e4, e5⟩ := one_parts hK
    have := atI_lt onesL op
    have hl : onesL.length = 7 := rfl
    exact implEnc_one op b m r n l m2 r2 n2 l2 j _ _ _ w hN hF (by omega) (by omega) a0 a1 (by omega) (by omega) rfl rfl a2 a3 a4 a5 hT
  rw [if_neg h3] at hK hF ⊢
  by_cases h2 : 0 ≤ atI jumpsL op
  · rw [if_pos h2] at hK hF
    simp only [Bool.and_eq_true] at hK
    obtain ⟨⟨⟨_, k1⟩, k2⟩, _⟩ := hK
    obtain ⟨rfl, rfl, rfl, rfl⟩ := zero_is k1
    obtain ⟨rfl, rfl, rfl, rfl⟩ := zero_is k2
    have := atI_lt jumpsL op
    have hl : jumpsL.length = 8 := rfl
    exact implEnc_jump op b _ _ _ _ _ _ _ _ j _ w hN hF (by omega) (by omega) (by omega) (by omega) (by omega) (by omega) hT
  · rw [if_neg h2] at hK; cases hK
end Go.Proofs.YtdokiccfjbieiaeDoor
