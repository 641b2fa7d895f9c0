/- Instructions: when one is right. -/
import Derived.Test.YtnhehdobpibgkaaRows
import Derived.WalkKit
import Derived.WalkSpells
import Derived.WalkLawsBesides
import Derived.RegionTactic
import Derived.BigRegion
import Derived.Deep.RegionWith
import Derived.Test.YtnhehdobpibgkaaBase
import Derived.Test.YtnhehdobpibgkaaRes
import Derived.Test.YtnhehdobpibgkaaIsa2
namespace Go.Proofs.Ytnhehdobpibgkaa
open Go.RowKit

theorem cells11 {W : World} {B : Nat} {v0 v1 v2 v3 v4 v5 v6 v7 v8 v9 v10 : Value} {t : TypeId} {fr : Nat × Nat} (h : W.heap[B]? = some (.cells #[v0, v1, v2, v3, v4, v5, v6, v7, v8, v9, v10] t fr)) :
    W.cell? ⟨B, 0, none⟩ = some v0 ∧ W.cell? ⟨B, 1, none⟩ = some v1 ∧ W.cell? ⟨B, 2, none⟩ = some v2 ∧ W.cell? ⟨B, 3, none⟩ = some v3 ∧ W.cell? ⟨B, 4, none⟩ = some v4 ∧ W.cell? ⟨B, 5, none⟩ = some v5 ∧ W.cell? ⟨B, 6, none⟩ = some v6 ∧ W.cell? ⟨B, 7, none⟩ = some v7 ∧ W.cell? ⟨B, 8, none⟩ = some v8 ∧ W.cell? ⟨B, 9, none⟩ = some v9 ∧ W.cell? ⟨B, 10, none⟩ = some v10 := by
  refine ⟨?_, ?_, ?_, ?_, ?_, ?_, ?_, ?_, ?_, ?_, ?_⟩ <;> simp [World.cell?, h]
theorem text_no {s : ByteArray} (l : List UInt8) (h : ¬ s = ⟨l.toArray⟩) : (s.toList == l) = false := by
  have h2 := text_ne h
  rw [ByteArray.toList_eq (bs := ⟨l.toArray⟩)] at h2
  exact h2
def wideB (op : ByteArray) : Bool := decide (op = ⟨#[115, 119, 112, 98]⟩) || decide (op = ⟨#[115, 120, 116]⟩) || decide (op = ⟨#[99, 97, 108, 108]⟩)
def handB (op : ByteArray) : Bool := decide (op = ⟨#[112, 117, 115, 104]⟩) || decide (op = ⟨#[99, 97, 108, 108]⟩)
def rightB (k1 k2 k3 : Int) (op : ByteArray) (b : Bool) (m r n : Int) (l : Bool) (m2 r2 n2 : Int) (l2 : Bool) (j : Int) : Bool :=
  if 0 ≤ k1 then srcB m r n l && dstB m2 r2 n2 l2 && (j == 0)
  else if 0 ≤ k2 then !b && zeroB m r n l && zeroB m2 r2 n2 l2 && isB j (-512) 511
  else if op = ⟨#[114, 101, 116, 105]⟩ then !b && zeroB m r n l && zeroB m2 r2 n2 l2 && (j == 0)
  else if k3 < 0 then false
  else srcB m r n l && zeroB m2 r2 n2 l2 && (j == 0) && (decide (op = ⟨#[112, 117, 115, 104]⟩) || decide (op = ⟨#[99, 97, 108, 108]⟩) || m != 5) && !((decide (op = ⟨#[115, 119, 112, 98]⟩) || decide (op = ⟨#[115, 120, 116]⟩) || decide (op = ⟨#[99, 97, 108, 108]⟩)) && b)
def insnB (op : ByteArray) (b : Bool) (m r n : Int) (l : Bool) (m2 r2 n2 : Int) (l2 : Bool) (j : Int) : Bool :=
  rightB (atI twosL op) (atI jumpsL op) (atI onesL op) op b m r n l m2 r2 n2 l2 j
end Go.Proofs.Ytnhehdobpibgkaa
