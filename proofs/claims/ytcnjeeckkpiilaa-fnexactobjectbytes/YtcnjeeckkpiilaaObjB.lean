/- When an object is right: closed forms. -/
import Derived.Test.YtcnjeeckkpiilaaRows
import Derived.WalkKit
import Derived.WalkSpells
import Derived.WalkLawsBesides
import Derived.Test.YtcnjeeckkpiilaaBase
import Derived.Test.YtcnjeeckkpiilaaName
import Derived.Test.YtcnjeeckkpiilaaIsa
import Derived.Test.YtcnjeeckkpiilaaWordsR
import Derived.Test.YtcnjeeckkpiilaaSrcR
import Derived.Test.YtcnjeeckkpiilaaSymA
import Derived.Test.YtcnjeeckkpiilaaRefA
namespace Go.Proofs.Ytcnjeeckkpiilaa
open Go.RowKit
set_option linter.unusedVariables false

def symOk (n : Nat) (S : List symE) (k : Nat) : Bool := match S[k]? with | none => true | some s => nameB s.1 && (isB s.2.1 0 n && (match k with | 0 => true | j + 1 => match S[j]? with | none => true | some p => upB p.1 s.1))
def refOk (n : Nat) (R : List refE) (k : Nat) : Bool := match R[k]? with | none => true | some r => nameB r.2.1 && (isB r.1 0 ((n : Int) - 1) && (isB r.2.2.1 (-32767) 32767 && (match k with | 0 => true | j + 1 => match R[j]? with | none => true | some p => decide (p.1 < r.1))))
def symsB (n : Nat) (S : List symE) : Bool := decide (∀ k, k < S.length → symOk n S k = true)
def refsB (n : Nat) (R : List refE) : Bool := decide (∀ k, k < R.length → refOk n R k = true)
def objB (W : List Int) (S : List symE) (R : List refE) : Bool := decide (W.length ≤ 300) && (wordsB W && (symsB W.length S && refsB W.length R))
theorem symsB_no {n : Nat} {S : List symE} {k : Nat} (hk : k < S.length) (h : symOk n S k = false) : symsB n S = false := decide_eq_false (fun x => by rw [x k hk] at h; cases h)
theorem refsB_no {n : Nat} {R : List refE} {k : Nat} (hk : k < R.length) (h : refOk n R k = false) : refsB n R = false := decide_eq_false (fun x => by rw [x k hk] at h; cases h)
theorem sym0 {n : Nat} {S : List symE} (h : 0 < S.length) : symOk n S 0 = (nameB S[0].1 && isB S[0].2.1 0 n) := by
  unfold symOk
  rw [List.getElem?_eq_getElem h]
  simp
theorem symS {n : Nat} {S : List symE} {k : Nat} (h : k + 1 < S.length) : symOk n S (k + 1) = (nameB S[k + 1].1 && (isB S[k + 1].2.1 0 n && upB S[k].1 S[k + 1].1)) := by
  unfold symOk
  rw [List.getElem?_eq_getElem h]
  dsimp only
  rw [List.getElem?_eq_getElem (show k < S.length by omega)]
theorem ref0 {n : Nat} {R : List refE} (h : 0 < R.length) : refOk n R 0 = (nameB R[0].2.1 && (isB R[0].1 0 ((n : Int) - 1) && isB R[0].2.2.1 (-32767) 32767)) := by
  unfold refOk
  rw [List.getElem?_eq_getElem h]
  simp
theorem refS {n : Nat} {R : List refE} {k : Nat} (h : k + 1 < R.length) : refOk n R (k + 1) = (nameB R[k + 1].2.1 && (isB R[k + 1].1 0 ((n : Int) - 1) && (isB R[k + 1].2.2.1 (-32767) 32767 && decide (R[k].1 < R[k + 1].1)))) := by
  unfold refOk
  rw [List.getElem?_eq_getElem h]
  dsimp only
  rw [List.getElem?_eq_getElem (show k < R.length by omega)]
theorem isB_no {n lo hi : Int} (h : isB n lo hi = false) : n < lo ∨ (¬ n < lo ∧ hi < n) := by
  by_cases h1 : n < lo
  · exact .inl h1
  · refine .inr ⟨h1, ?_⟩
    unfold isB at h
    rw [decide_eq_true (show lo ≤ n by omega), Bool.true_and] at h
    have := of_decide_eq_false h
    omega
theorem isB_yes {n lo hi : Int} (h : isB n lo hi = true) : ¬ n < lo ∧ ¬ hi < n := by
  unfold isB at h
  rw [Bool.and_eq_true, decide_eq_true_iff, decide_eq_true_iff] at h
  omega
theorem l02Is_is {n lo hi : Int} {b : Bool} (w : World) (h : isB n lo hi = b) : Calls Try.prog 66 #[.int .i64 n, .int .i64 lo, .int .i64 hi] w fun e w' => e = .returned (.bool b) ∧ w' = w := h ▸ l02Is_any n lo hi w
end Go.Proofs.Ytcnjeeckkpiilaa
