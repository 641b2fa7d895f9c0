/- Rows of texts that a call itself makes; the laws' own helpers over them. -/
import Derived.Test.YtnhehdobpibgkaaRows
import Derived.WalkKit
import Derived.WalkSpells
import Derived.WalkLawsBesides
import Derived.Outline
import Derived.RegionTactic
import Derived.BigRegion
import Derived.Deep.QuietTactic
import Derived.BigQuiet
import Derived.Deep.RegionHeld3
import Derived.Lib.ItoaNum
import Derived.Test.YtnhehdobpibgkaaBase
import Derived.Test.YtnhehdobpibgkaaRes
import Derived.Test.YtnhehdobpibgkaaRow
namespace Go.Proofs.Ytnhehdobpibgkaa
open Go.RowKit

theorem textS_ne {s t : ByteArray} (h : ¬ s = t) : (s.toList == t.toList) = false := by
  rw [beq_eq_false_iff_ne]
  intro e
  rw [ByteArray.toList_eq, ByteArray.toList_eq] at e
  apply h
  cases s; cases t
  congr 1
  exact Array.toList_inj.1 e
theorem below_drewS {B : Nat} {a w : World} (h : Below B a w) (n : Nat) : Below B a (w.drewN n) := ⟨h.os, h.tape, h.output, h.size, h.block⟩
def cellsS (L : List ByteArray) : List Value := L.map Value.string
def OwnS (w : World) (B : Nat) (v : Value) (L : List ByteArray) : Prop := w.ownsRow B 9 1 v L.length (cellsS L)
theorem infoS : (Try.prog.info? 9).map (fun i => (i.zero, i.size, i.bytes)) = some (some (.string ⟨#[]⟩), 1, 16) := by kernel_rfl
theorem one_cellS (x : ByteArray) : ∀ u ∈ [Value.string x], u.oneCell' = true := by intro u hu; simp at hu; subst hu; rfl
theorem OwnS.stays {w w' : World} {B : Nat} {v : Value} {L : List ByteArray} (h : OwnS w B v L) (hb : Below w.heap.size w w') : OwnS w' B v L := by
  obtain ⟨h1, h2⟩ := h
  refine ⟨h1, ?_⟩
  rcases h2 with h2 | ⟨g, cap, cur, hv, hB, hg, rest⟩
  · exact .inl h2
  · exact .inr ⟨g, cap, cur, hv, hB, heap_keep hg hb, rest⟩
theorem OwnS.alloc {w : World} {B : Nat} {v : Value} {L : List ByteArray} (h : OwnS w B v L) (o : Obj) : OwnS (w.alloc o) B v L := h.stays (below_new w o)
theorem OwnS.low {w : World} {B B' : Nat} {v : Value} {L : List ByteArray} (h : OwnS w B v L) (hB : B' ≤ B) : OwnS w B' v L := by
  obtain ⟨h1, h2⟩ := h
  refine ⟨h1, ?_⟩
  rcases h2 with h2 | ⟨g, cap, cur, hv, hg, rest⟩
  · exact .inl h2
  · exact .inr ⟨g, cap, cur, hv, by omega, rest⟩
theorem OwnS.nil (w : World) (B : Nat) : OwnS w B (.slice none 0 0) [] := ⟨rfl, .inl ⟨rfl, rfl⟩⟩
/- What such a row is: nothing, or a block whose first cells are the numbers. -/
theorem OwnS.form {w : World} {B : Nat} {v : Value} {L : List ByteArray} (h : OwnS w B v L) :
    (v = .slice none 0 0 ∧ L = []) ∨ ∃ g cap cur, v = .slice (some ⟨g, 0, none⟩) L.length cap ∧ B ≤ g ∧ w.heap[g]? = some (.cells cur 9 (0, 0)) ∧ L.length ≤ cap ∧ cap ≤ maxLen ∧ cur.size = cap ∧ (∀ i (hi : i < L.length), cur[i]? = some (.string L[i])) := by
  obtain ⟨h1, h2⟩ := h
  rcases h2 with ⟨h2, h3⟩ | ⟨g, cap, cur, hv, hB, hg, h4, h5, h6, h7⟩
  · exact .inl ⟨h2, List.eq_nil_of_length_eq_zero h3⟩
  · refine .inr ⟨g, cap, cur, hv, hB, hg, h4, h5, by omega, fun i hi => ?_⟩
    have e := congrArg (fun l => l[i]?) h7
    simp only [Nat.mul_one, List.getElem?_take, if_pos hi, cellsS, List.getElem?_map, List.getElem?_eq_getElem hi] at e
    simpa using e
theorem OwnS.mk {w : World} {B g cap : Nat} {cur : Array Value} {L : List ByteArray} (hB : B ≤ g) (hg : w.heap[g]? = some (.cells cur 9 (0, 0))) (h4 : L.length ≤ cap) (h5 : cap ≤ maxLen) (h6 : cur.size = cap) (h7 : ∀ i (hi : i < L.length), cur[i]? = some (.string L[i])) : OwnS w B (.slice (some ⟨g, 0, none⟩) L.length cap) L := by
  refine ⟨by simp [cellsS], .inr ⟨g, cap, cur, rfl, hB, hg, h4, h5, by omega, ?_⟩⟩
  apply List.ext_getElem?
  intro i
  rw [List.getElem?_take, Nat.mul_one]
  by_cases hi : i < L.length
  · rw [if_pos hi]
    have := h7 i hi
    simp [cellsS, hi]
    simpa using this
  · rw [if_neg hi, List.getElem?_eq_none (by simp [cellsS]; omega)]
theorem eqS_step {A B : List ByteArray} (hl : A.length = B.length) (k : Nat) (hk : k < A.length) (he : A[k] = B[k]'(by omega)) : (A.drop k = B.drop k ↔ A.drop (k + 1) = B.drop (k + 1)) := by
  have e1 := List.drop_eq_getElem_cons hk
  have e2 := List.drop_eq_getElem_cons (show k < B.length by omega)
  constructor
  · intro h; rw [e1, e2] at h; exact (List.cons.inj h).2
  · intro h; rw [e1, e2, h, he]
theorem eqS_stop {A B : List ByteArray} (k : Nat) (hk : k < A.length) (hk2 : k < B.length) (he : ¬ A[k] = B[k]) : ¬ A = B := fun e => by subst e; exact he rfl
def decL (k : Nat) : List UInt8 := if k = 0 then [] else Lib.decDigits k
theorem decL_zero : decL 0 = [] := rfl
theorem decL_step (k : Nat) (h : 0 < k) : decL k = decL (k / 10) ++ [UInt8.ofNat (48 + k % 10)] := by
  have e : decL k = Lib.decDigits k := by unfold decL; rw [if_neg (by omega)]
  rw [e]
  by_cases hb : k < 10
  · rw [Lib.decDigits, dif_pos hb, show k / 10 = 0 by omega, decL_zero, show k % 10 = k by omega]; rfl
  · have e2 : decL (k / 10) = Lib.decDigits (k / 10) := by unfold decL; rw [if_neg (by omega)]
    rw [Lib.decDigits, dif_neg hb, e2]
theorem decL_len : ∀ (n k : Nat), k < 10 ^ n → (decL k).length ≤ n
  | 0, k, h => by
    obtain rfl : k = 0 := by simpa using h
    simp [decL_zero]
  | n + 1, k, h => by
    by_cases hk : k = 0
    · subst hk; simp [decL_zero]
    · rw [decL_step k (by omega)]
      have := decL_len n (k / 10) (by rw [Nat.pow_succ] at h; omega)
      simp; omega
theorem byte_cell (j : Nat) : [Value.int .u8 (48 + (j : Int) % 10)].take 1 = cellsU [UInt8.ofNat (48 + j % 10)] := by
  simp [cellsU]
  omega
theorem text_cat (a b : List UInt8) : (⟨a.toArray⟩ : ByteArray) ++ ⟨b.toArray⟩ = ⟨(a ++ b).toArray⟩ := by
  apply ByteArray.ext
  simp
def markT (k : Nat) : ByteArray := ⟨([109] ++ decL k).toArray⟩
def marksS (k n : Nat) : List ByteArray := (List.range n).map fun (i : Nat) => markT (k + i)
theorem marksS_len (k n : Nat) : (marksS k n).length = n := by simp [marksS]
theorem marksS_at (k n i : Nat) (h : i < (marksS k n).length) : (marksS k n)[i] = markT (k + i) := by simp [marksS]
end Go.Proofs.Ytnhehdobpibgkaa
