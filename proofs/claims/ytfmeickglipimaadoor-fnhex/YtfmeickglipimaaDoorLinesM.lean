/- Lines of a text: the plain mathematics. -/
import Derived.Test.YtfmeickglipimaaDoorRows
import Derived.WalkKit
import Derived.Lib.Strings
import Derived.Lib.Split
import Derived.Lib.SplitLaws
import Derived.Lib.IndexBytes
namespace Go.Proofs.YtfmeickglipimaaDoor
open Go.RowKit
set_option linter.unusedVariables false

def splitL : List UInt8 → List (List UInt8)
  | [] => [[]]
  | b :: l => if b = 10 then [] :: splitL l else match splitL l with
    | [] => [[b]]
    | x :: r => (b :: x) :: r
theorem splitL_none : ∀ (l : List UInt8), (10 : UInt8) ∉ l → splitL l = [l]
  | [], _ => rfl
  | b :: l, h => by
    have h1 : ¬ b = 10 := fun e => h (by simp [e])
    have h2 := splitL_none l (fun e => h (by simp [e]))
    unfold splitL
    rw [if_neg h1, h2]
theorem splitL_some : ∀ (a r : List UInt8), (10 : UInt8) ∉ a → splitL (a ++ 10 :: r) = a :: splitL r
  | [], r, _ => by simp [splitL]
  | b :: a, r, h => by
    have h1 : ¬ b = 10 := fun e => h (by simp [e])
    have h2 := splitL_some a r (fun e => h (by simp [e]))
    rw [List.cons_append, splitL, if_neg h1, h2]
theorem index_none : ∀ (l : List UInt8), (10 : UInt8) ∉ l → Lib.indexByte l 10 = -1
  | [], _ => rfl
  | b :: l, h => by
    have h1 : (b == 10) = false := beq_eq_false_iff_ne.2 (fun e => h (by simp [e]))
    have h2 := index_none l (fun e => h (by simp [e]))
    unfold Lib.indexByte
    rw [h1, h2]; rfl
theorem index_some : ∀ (a r : List UInt8), (10 : UInt8) ∉ a → Lib.indexByte (a ++ 10 :: r) 10 = (a.length : Int)
  | [], r, _ => by simp [Lib.indexByte]
  | b :: a, r, h => by
    have h1 : (b == 10) = false := beq_eq_false_iff_ne.2 (fun e => h (by simp [e]))
    have h2 := index_some a r (fun e => h (by simp [e]))
    rw [List.cons_append, Lib.indexByte, h1, h2]
    have : ((a.length : Int) == -1) = false := beq_eq_false_iff_ne.2 (by omega)
    rw [this]
    simp
theorem splitK_eq : ∀ (n : Nat) (l : List UInt8), l.length ≤ n → Lib.splitK [10] 0 (l.count 10) l = splitL l
  | n, l, hn => by
    by_cases h : (10 : UInt8) ∈ l
    · obtain ⟨a, r, rfl, ha⟩ := List.eq_append_cons_of_mem h
      have hc : (a ++ 10 :: r).count 10 = r.count 10 + 1 := by rw [List.count_append, List.count_cons_self, List.count_eq_zero_of_not_mem ha]; omega
      match n, hn with
      | 0, hn => simp at hn
      | n + 1, hn =>
        have ih := splitK_eq n r (by simp at hn; omega)
        rw [hc, splitL_some a r ha, ← ih]
        conv => lhs; unfold Lib.splitK
        rw [Lib.index_one, index_some a r ha]
        have : ((a.length : Int) == -1) = false := beq_eq_false_iff_ne.2 (by omega)
        simp [this]
    · rw [List.count_eq_zero_of_not_mem h, splitL_none l h]
      rfl
def textL (l : List UInt8) : ByteArray := ⟨l.toArray⟩
theorem textL_data (s : ByteArray) : textL s.data.toList = s := rfl
theorem data_textL (l : List UInt8) : (textL l).data.toList = l := by simp [textL]
def trimL (l : List UInt8) : List UInt8 := Lib.trimSuffix l [10]
def linesL (l : List UInt8) : List (List UInt8) := if l = [] then [] else splitL (trimL l)
theorem split_texts (s : ByteArray) : Lib.splitB ⟨#[10]⟩ 0 (Lib.countB s ⟨#[10]⟩) s = (splitL s.data.toList).map textL := by
  have h := Lib.splitB_data ⟨#[10]⟩ 0 (Lib.countB s ⟨#[10]⟩) s
  have hc : Lib.countB s ⟨#[10]⟩ = s.data.toList.count 10 := Lib.count_one 10 s.data.toList
  rw [hc] at h
  have h2 : Lib.splitK (⟨#[10]⟩ : ByteArray).data.toList 0 (s.data.toList.count 10) s.data.toList = splitL s.data.toList := splitK_eq _ _ (Nat.le_refl _)
  rw [h2] at h
  rw [hc, ← h, List.map_map]
  conv => lhs; rw [← List.map_id (Lib.splitB ⟨#[10]⟩ 0 (s.data.toList.count 10) s)]
  apply List.map_congr_left
  intro x _
  rfl
theorem splitL_len : ∀ (l : List UInt8), (splitL l).length ≤ l.length + 1
  | [] => by simp [splitL]
  | b :: l => by
    have ih := splitL_len l
    unfold splitL
    split
    · simp; omega
    · split
      · simp
      · rename_i x r e
        rw [e] at ih
        simp at *; omega
theorem splitL_pos : ∀ (l : List UInt8), 0 < (splitL l).length
  | [] => by simp [splitL]
  | b :: l => by
    unfold splitL
    split
    · simp
    · split <;> simp
theorem splitL_each : ∀ (l : List UInt8), ∀ x ∈ splitL l, x.length ≤ l.length
  | [], x, hx => by simp [splitL] at hx; simp [hx]
  | b :: l, x, hx => by
    have ih := splitL_each l
    unfold splitL at hx
    split at hx
    · rcases List.mem_cons.1 hx with rfl | hx
      · simp
      · have := ih x hx; simp; omega
    · split at hx
      · simp at hx; subst hx; simp
      · rename_i y r e
        rcases List.mem_cons.1 hx with rfl | hx
        · have := ih y (by rw [e]; simp); simp; omega
        · have := ih x (by rw [e]; simp [hx]); simp; omega
theorem trimL_len (l : List UInt8) : (trimL l).length ≤ l.length := by
  unfold trimL Lib.trimSuffix
  split
  · simp
  · omega
theorem linesL_len (l : List UInt8) : (linesL l).length ≤ l.length + 1 := by
  unfold linesL
  split
  · simp
  · have := splitL_len (trimL l); have := trimL_len l; omega
theorem linesL_each (l : List UInt8) : ∀ x ∈ linesL l, x.length ≤ l.length := by
  intro x hx
  unfold linesL at hx
  split at hx
  · cases hx
  · have := splitL_each _ x hx; have := trimL_len l; omega
theorem trimL_end (a : List UInt8) : trimL (a ++ [10]) = a := by
  unfold trimL Lib.trimSuffix Lib.hasSuffix
  rw [if_pos (by simp [List.isSuffixOf_iff_suffix])]
  simp
end Go.Proofs.YtfmeickglipimaaDoor
