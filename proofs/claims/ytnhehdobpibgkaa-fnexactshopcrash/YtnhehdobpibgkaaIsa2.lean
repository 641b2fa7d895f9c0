/- Instructions: destinations, the lists of operations, the place of a text among others. -/
import Derived.Test.YtnhehdobpibgkaaRows
import Derived.WalkKit
import Derived.WalkSpells
import Derived.WalkLawsBesides
import Derived.Test.YtnhehdobpibgkaaBase
import Derived.Test.YtnhehdobpibgkaaIsa
namespace Go.Proofs.Ytnhehdobpibgkaa
open Go.RowKit

def zeroB (m r n : Int) (l : Bool) : Bool := (m == 0) && (r == 0) && (n == 0) && !l
def dstB (m r n : Int) (l : Bool) : Bool := if m = 0 then isB r 0 15 && (n == 0) && !l else if m = 1 ∨ m = 2 then srcB m r n l else false
def twosL : List ByteArray := [⟨#[109, 111, 118]⟩, ⟨#[97, 100, 100]⟩, ⟨#[97, 100, 100, 99]⟩, ⟨#[115, 117, 98, 99]⟩, ⟨#[115, 117, 98]⟩, ⟨#[99, 109, 112]⟩, ⟨#[100, 97, 100, 100]⟩, ⟨#[98, 105, 116]⟩, ⟨#[98, 105, 99]⟩, ⟨#[98, 105, 115]⟩, ⟨#[120, 111, 114]⟩, ⟨#[97, 110, 100]⟩]
def onesL : List ByteArray := [⟨#[114, 114, 99]⟩, ⟨#[115, 119, 112, 98]⟩, ⟨#[114, 114, 97]⟩, ⟨#[115, 120, 116]⟩, ⟨#[112, 117, 115, 104]⟩, ⟨#[99, 97, 108, 108]⟩, ⟨#[114, 101, 116, 105]⟩]
def jumpsL : List ByteArray := [⟨#[106, 110, 101]⟩, ⟨#[106, 101, 113]⟩, ⟨#[106, 110, 99]⟩, ⟨#[106, 99]⟩, ⟨#[106, 110]⟩, ⟨#[106, 103, 101]⟩, ⟨#[106, 108]⟩, ⟨#[106, 109, 112]⟩]
/- The place of a text among others, or -1. -/
def atF : List ByteArray → ByteArray → Nat → Int
  | [], _, _ => -1
  | s :: L, t, i => if s = t then (i : Int) else atF L t (i + 1)
def atI (L : List ByteArray) (t : ByteArray) : Int := atF L t 0
theorem atF_drop (L : List ByteArray) (t : ByteArray) (k : Nat) (h : k < L.length) : atF (L.drop k) t k = if L[k] = t then (k : Int) else atF (L.drop (k + 1)) t (k + 1) := by
  rw [List.drop_eq_getElem_cons h]; rfl
theorem text_ne {s t : ByteArray} (h : ¬ s = t) : (s.toList == t.toList) = false := by
  rw [beq_eq_false_iff_ne]
  intro e
  rw [ByteArray.toList_eq, ByteArray.toList_eq] at e
  apply h
  cases s; cases t
  congr 1
  exact Array.toList_inj.1 e
end Go.Proofs.Ytnhehdobpibgkaa
