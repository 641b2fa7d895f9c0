/- SourcesRight, by the specification and by the program. -/
import Derived.Test.YtcnjeeckkpiilaaRows
import Derived.WalkKit
import Derived.WalkSpells
import Derived.WalkLawsBesides
import Derived.Outline
import Derived.Laws.Cover1
import Derived.RegionTactic
import Derived.BigRegion
import Derived.Deep.QuietTactic
import Derived.BigQuiet
import Derived.Deep.RegionHeld3
import Derived.Test.YtcnjeeckkpiilaaBun0
import Derived.Test.YtcnjeeckkpiilaaBun1
import Derived.Test.YtcnjeeckkpiilaaNameX
import Derived.Test.YtcnjeeckkpiilaaOwnSX
import Derived.Test.YtcnjeeckkpiilaaBun5
import Derived.Test.YtcnjeeckkpiilaaBun3
import Derived.Test.YtcnjeeckkpiilaaBun9
import Derived.Test.YtcnjeeckkpiilaaSymAX
import Derived.Test.YtcnjeeckkpiilaaRefAX
namespace Go.Proofs.Ytcnjeeckkpiilaa
open Go.RowKit
set_option linter.unusedVariables false

theorem less_tri : ∀ (x y : List UInt8), (Op.bytesLess x y || x == y) = !Op.bytesLess y x
  | [], [] => rfl
  | [], b :: y => rfl
  | a :: x, [] => rfl
  | a :: x, b :: y => by
    have ih := less_tri x y
    show ((decide (a < b) || (a == b && Op.bytesLess x y)) || (a :: x) == (b :: y)) = !(decide (b < a) || (b == a && Op.bytesLess y x))
    rw [List.cons_beq_cons]
    rcases Nat.lt_trichotomy a.toNat b.toNat with h | h | h
    · have h1 : a < b := h
      have h2 : ¬ b < a := fun k => by have : b.toNat < a.toNat := k; omega
      have h3 : (b == a) = false := by rw [beq_eq_false_iff_ne]; rintro rfl; omega
      simp [h1, h2, h3]
    · obtain rfl : a = b := UInt8.toNat_inj.1 h
      have h1 : ¬ a < a := fun k => by have : a.toNat < a.toNat := k; omega
      simp only [h1, decide_false, Bool.false_or, beq_self_eq_true, Bool.true_and]
      exact ih
    · have h1 : b < a := h
      have h2 : ¬ a < b := fun k => by have : a.toNat < b.toNat := k; omega
      have h3 : (a == b) = false := by rw [beq_eq_false_iff_ne]; rintro rfl; omega
      simp [h1, h2, h3]
def upB (p q : ByteArray) : Bool := Op.bytesLess p.toList q.toList
/- Is the source at place k right, and behind the one ahead of it? -/
def srcOk (L : List Src) (k : Nat) : Bool := match L[k]? with | none => true | some s => nameB s.1 && decide (s.2.size ≤ 4000) && (match k with | 0 => true | j + 1 => match L[j]? with | none => true | some p => upB p.1 s.1)
def srcsB (L : List Src) : Bool := decide (L.length ≤ 20 ∧ ∀ k, k < L.length → srcOk L k = true)
theorem srcsB_big {L : List Src} (h : 20 < L.length) : srcsB L = false := decide_eq_false (fun k => by omega)
theorem srcsB_no {L : List Src} {k : Nat} (hk : k < L.length) (h : srcOk L k = false) : srcsB L = false := decide_eq_false (fun x => by rw [x.2 k hk] at h; cases h)
theorem srcsB_yes {L : List Src} (h : L.length ≤ 20) (h2 : ∀ k, k < L.length → srcOk L k = true) : srcsB L = true := decide_eq_true ⟨h, h2⟩
theorem all_upto {f : Nat → Bool} {k : Nat} (h : ∀ t, t < k → f t = true) (hk : f k = true) : ∀ t, t < k + 1 → f t = true := fun t ht => by
  by_cases e : t = k
  · subst e; exact hk
  · exact h t (by omega)
theorem src0 {L : List Src} (h : 0 < L.length) : srcOk L 0 = (nameB L[0].1 && decide (L[0].2.size ≤ 4000)) := by
  unfold srcOk
  rw [List.getElem?_eq_getElem h]
  simp
theorem srcS {L : List Src} {k : Nat} (h : k + 1 < L.length) : srcOk L (k + 1) = (nameB L[k + 1].1 && decide (L[k + 1].2.size ≤ 4000) && upB L[k].1 L[k + 1].1) := by
  unfold srcOk
  rw [List.getElem?_eq_getElem h]
  dsimp only
  rw [List.getElem?_eq_getElem (show k < L.length by omega)]
theorem specName_is {s : ByteArray} {b : Bool} (w : World) (hs : s.size ≤ maxLen) (h : nameB s = b) : Calls Try.prog 65 #[.string s] w fun e w' => e = .returned (.bool b) ∧ w' = w := h ▸ specName_any s w hs
theorem implName_is {s : ByteArray} {b : Bool} (w : World) (hs : s.size ≤ maxLen) (h : nameB s = b) : Calls Try.prog 98 #[.string s] w fun e w' => e = .returned (.bool b) ∧ w' = w := h ▸ implName_any s w hs
end Go.Proofs.Ytcnjeeckkpiilaa
namespace Go.Proofs.Ytcnjeeckkpiilaa
open Go.RowKit
set_option linter.unusedVariables false

def symOk (n : Nat) (S : List symE) (k : Nat) : Bool := match S[k]? with | none => true | some s => nameB s.1 && (isB s.2.1 0 n && (match k with | 0 => true | j + 1 => match S[j]? with | none => true | some p => upB p.1 s.1))
def refOk (n : Nat) (R : List refE) (k : Nat) : Bool := match R[k]? with | none => true | some r => nameB r.2.1 && (isB r.1 0 ((n : Int) - 1) && (isB r.2.2.1 (-32767) 32767 && (match k with | 0 => true | j + 1 => match R[j]? with | none => true | some p => decide (p.1 < r.1))))
def symsB (n : Nat) (S : List symE) : Bool := decide (∀ k, k < S.length → symOk n S k = true)
def refsB (n : Nat) (R : List refE) : Bool := decide (∀ k, k < R.length → refOk n R k = true)
def objB (W : List Int) (S : List symE) (R : List refE) : Bool := decide (W.length ≤ 300) && (wordsB W && (symsB W.length S && refsB W.length R))
theorem symsB_no {n : Nat} {S : List symE} {k : Nat} (hk : k < S.length) (h : symOk n S k = false) : symsB n S = false := decide_eq_false (fun x => by rw [x k hk] at h; cases h)
theorem refsB_no {n : Nat} {R : List refE} {k : Nat} (hk : k < R.length) (h : refOk n R k = false) : refsB n R = false := decide_eq_false (fun x => by rw [x k hk] at h; cases h)
theorem sym0 {n : Nat} {S : List symE} (h : 0 < S.length) : symOk n S 0 = (nameB S[0].1 && isB S[0].2.1 0 n) := by
  unfold symOk
  rw [List.getElem?_eq_getElem h]
  simp
theorem symS {n : Nat} {S : List symE} {k : Nat} (h : k + 1 < S.length) : symOk n S (k + 1) = (nameB S[k + 1].1 && (isB S[k + 1].2.1 0 n && upB S[k].1 S[k + 1].1)) := by
  unfold symOk
  rw [List.getElem?_eq_getElem h]
  dsimp only
  rw [List.getElem?_eq_getElem (show k < S.length by omega)]
theorem ref0 {n : Nat} {R : List refE} (h : 0 < R.length) : refOk n R 0 = (nameB R[0].2.1 && (isB R[0].1 0 ((n : Int) - 1) && isB R[0].2.2.1 (-32767) 32767)) := by
  unfold refOk
  rw [List.getElem?_eq_getElem h]
  simp
theorem refS {n : Nat} {R : List refE} {k : Nat} (h : k + 1 < R.length) : refOk n R (k + 1) = (nameB R[k + 1].2.1 && (isB R[k + 1].1 0 ((n : Int) - 1) && (isB R[k + 1].2.2.1 (-32767) 32767 && decide (R[k].1 < R[k + 1].1)))) := by
  unfold refOk
  rw [List.getElem?_eq_getElem h]
  dsimp only
  rw [List.getElem?_eq_getElem (show k < R.length by omega)]
theorem isB_no {n lo hi : Int} (h : isB n lo hi = false) : n < lo ∨ (¬ n < lo ∧ hi < n) := by
  by_cases h1 : n < lo
  · exact .inl h1
  · refine .inr ⟨h1, ?_⟩
    unfold isB at h
    rw [decide_eq_true (show lo ≤ n by omega), Bool.true_and] at h
    have := of_decide_eq_false h
    omega
theorem isB_yes {n lo hi : Int} (h : isB n lo hi = true) : ¬ n < lo ∧ ¬ hi < n := by
  unfold isB at h
  rw [Bool.and_eq_true, decide_eq_true_iff, decide_eq_true_iff] at h
  omega
theorem l02Is_is {n lo hi : Int} {b : Bool} (w : World) (h : isB n lo hi = b) : Calls Try.prog 66 #[.int .i64 n, .int .i64 lo, .int .i64 hi] w fun e w' => e = .returned (.bool b) ∧ w' = w := h ▸ l02Is_any n lo hi w
end Go.Proofs.Ytcnjeeckkpiilaa
