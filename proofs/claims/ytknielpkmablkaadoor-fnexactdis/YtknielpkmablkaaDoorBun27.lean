/- Instructions: the first word of two operands, by the program. -/
import Derived.Test.YtknielpkmablkaaDoorRows
import Derived.WalkKit
import Derived.WalkSpells
import Derived.WalkLawsBesides
import Derived.Outline
import Derived.RegionTactic
import Derived.BigRegion
import Derived.Deep.RegionHeld3
import Derived.Deep.CutRange
import Derived.Deep.Light
import Derived.Laws.Bits128
import Derived.Test.YtknielpkmablkaaDoorBun0
import Derived.Test.YtknielpkmablkaaDoorBun1
import Derived.Test.YtknielpkmablkaaDoorBun4
import Derived.Test.YtknielpkmablkaaDoorBun11
import Derived.Test.YtknielpkmablkaaDoorIsaE2X
import Derived.Laws.EntriesVeiled
import Derived.Test.YtknielpkmablkaaDoorBun10
import Derived.Laws.BytesArg
namespace Go.Proofs.YtknielpkmablkaaDoor
open Go.RowKit

end Go.Proofs.YtknielpkmablkaaDoor
namespace Go.Proofs.YtknielpkmablkaaDoor
open Go.RowKit
set_option linter.unusedVariables false

theorem three_cells {W : World} {B : Nat} {t : TypeId} {fr : Nat × Nat} {v0 v1 v2 : Value} (h : W.heap[B]? = some (.cells #[v0, v1, v2] t fr)) :
    W.cell? ⟨B, 0, none⟩ = some v0 ∧ W.cell? ⟨B, 1, none⟩ = some v1 ∧ W.cell? ⟨B, 2, none⟩ = some v2 := by
  refine ⟨?_, ?_, ?_⟩ <;> simp [World.cell?, h]
def optI (b : Bool) (n : Int) : List Int := if b then [n] else []
def wordsI (f m r n : Int) (l : Bool) (m2 r2 n2 : Int) (l2 : Bool) : List Int := f :: (optI (asI m r n l).2.2 n ++ optI (asI m2 r2 n2 l2).2.2 n2)
def partI (f m r n : Int) (l : Bool) (m2 r2 n2 : Int) (l2 : Bool) (t : Nat) : List Int := if t = 0 then [f] else if t = 1 then f :: optI (asI m r n l).2.2 n else wordsI f m r n l m2 r2 n2 l2
theorem len_small (k : Nat) (h : k < 1000000) : k + 1 ≤ maxLen := by unfold maxLen; omega
theorem OwnI.more {w : World} {B : Nat} {v : Value} {L : List Int} {x : Int} (h : w.ownsRow B 2 1 v (L.length + 1) (cellsI L ++ [.int .i64 x])) : OwnI w B v (L ++ [x]) := by
  unfold OwnI
  rw [List.length_append, List.length_singleton]
  simpa [cellsI] using h
end Go.Proofs.YtknielpkmablkaaDoor
namespace Go.Proofs.YtknielpkmablkaaDoor
open Go.RowKit
set_option linter.unusedVariables false

end Go.Proofs.YtknielpkmablkaaDoor
namespace Go.Proofs.YtknielpkmablkaaDoor
open Go.RowKit
set_option linter.unusedVariables false

end Go.Proofs.YtknielpkmablkaaDoor
namespace Go.Proofs.YtknielpkmablkaaDoor
open Go.RowKit

theorem isB_iff {n a c : Int} : isB n a c = true ↔ a ≤ n ∧ n ≤ c := by simp [isB]
theorem short_as (n : Int) (h : (shortI n).2.2 = true) : 0 ≤ (shortI n).1 ∧ (shortI n).1 ≤ 3 ∧ 0 ≤ (shortI n).2.1 ∧ (shortI n).2.1 ≤ 15 := by
  unfold shortI at h ⊢
  split
  · simp; omega
  · split
    · simp
    · split
      · simp
      · split
        · simp
        · simp_all
theorem src_as {m r n : Int} {l : Bool} (h : srcB m r n l = true) : (0 ≤ m ∧ m ≤ 5) ∧ (0 ≤ (asI m r n l).1 ∧ (asI m r n l).1 ≤ 3) ∧ 0 ≤ (asI m r n l).2.1 ∧ (asI m r n l).2.1 ≤ 15 := by
  unfold srcB at h
  by_cases h0 : m = 0
  · subst h0
    simp [isB_iff] at h
    simp [asI]; omega
  rw [if_neg h0] at h
  by_cases h1 : m = 1
  · subst h1
    simp [plainB, isB_iff] at h
    simp [asI]; omega
  rw [if_neg h1] at h
  by_cases h2 : m = 2
  · subst h2; simp [asI]
  rw [if_neg h2] at h
  by_cases h3 : m = 3
  · subst h3
    simp [plainB, isB_iff] at h
    simp [asI]; omega
  rw [if_neg h3] at h
  by_cases h4 : m = 4
  · subst h4
    simp [plainB, isB_iff] at h
    simp [asI]; omega
  rw [if_neg h4] at h
  by_cases h5 : m = 5
  · subst h5
    have := short_as n
    by_cases hs : (shortI n).2.2 = true
    · cases l
      · simp [asI, hs]; have := this hs; omega
      · simp [asI, hs]
    · simp [asI, hs]
  rw [if_neg h5] at h
  cases h
theorem dst_as {m r n : Int} {l : Bool} (h : dstB m r n l = true) : (0 ≤ m ∧ m ≤ 5) ∧ (0 ≤ (asI m r n l).1 ∧ (asI m r n l).1 ≤ 3) ∧ 0 ≤ (asI m r n l).2.1 ∧ (asI m r n l).2.1 ≤ 15 := by
  unfold dstB at h
  by_cases h0 : m = 0
  · subst h0
    simp [isB_iff] at h
    simp [asI]; omega
  rw [if_neg h0] at h
  by_cases h1 : m = 1 ∨ m = 2
  · rw [if_pos h1] at h; exact src_as h
  · rw [if_neg h1] at h; cases h
theorem zero_is {m r n : Int} {l : Bool} (h : zeroB m r n l = true) : m = 0 ∧ r = 0 ∧ n = 0 ∧ l = false := by
  simpa [zeroB, and_assoc] using h
theorem atF_lt (L : List ByteArray) (t : ByteArray) (i : Nat) : atF L t i < (i + L.length : Nat) := by
  induction L generalizing i with
  | nil => simp [atF]; omega
  | cons s L ih =>
    rw [atF_cons]
    split
    · simp only [List.length_cons]; omega
    · have := ih (i + 1); simp only [List.length_cons]; omega
theorem atI_lt (L : List ByteArray) (t : ByteArray) : atI L t < L.length := by have := atF_lt L t 0; simpa [atI] using this
/- The words of an Insn. -/
def encI (op : ByteArray) (b : Bool) (m r n : Int) (l : Bool) (m2 r2 n2 : Int) (l2 : Bool) (j : Int) : List Int :=
  if 0 ≤ atI twosL op then wordsI (4096 * (4 + atI twosL op) + 256 * (asI m r n l).2.1 + 128 * (asI m2 r2 n2 l2).1 + markI b + 16 * (asI m r n l).1 + (asI m2 r2 n2 l2).2.1) m r n l m2 r2 n2 l2
  else if 0 ≤ atI onesL op then wordsI (4096 + 128 * atI onesL op + markI b + 16 * (asI m r n l).1 + (asI m r n l).2.1) m r n l m2 r2 n2 l2
  else wordsI (8192 + 1024 * atI jumpsL op + j % 1024) m r n l m2 r2 n2 l2
def allI (op : ByteArray) (b : Bool) (m r n : Int) (l : Bool) (m2 r2 n2 : Int) (l2 : Bool) (j : Int) : List Int :=
  if insnB op b m r n l m2 r2 n2 l2 j then encI op b m r n l m2 r2 n2 l2 j else []
theorem one_parts {op : ByteArray} {b : Bool} {m r n : Int} {l : Bool} {m2 r2 n2 : Int} {l2 : Bool} {j : Int} (h : oneB op b m r n l m2 r2 n2 l2 j = true) : ((0 ≤ m ∧ m ≤ 5) ∧ (0 ≤ (asI m r n l).1 ∧ (asI m r n l).1 ≤ 3) ∧ 0 ≤ (asI m r n l).2.1 ∧ (asI m r n l).2.1 ≤ 15) ∧ m2 = 0 ∧ r2 = 0 ∧ n2 = 0 ∧ l2 = false ∧ j = 0 := by
  unfold oneB at h
  by_cases hr : op = ⟨#[114, 101, 116, 105]⟩
  · rw [if_pos hr] at h
    simp only [Bool.and_eq_true] at h
    obtain ⟨⟨⟨h1, h2⟩, h3⟩, h4⟩ := h
    obtain ⟨rfl, rfl, rfl, rfl⟩ := zero_is h2
    obtain ⟨rfl, rfl, rfl, rfl⟩ := zero_is h3
    simp at h4
    simp [asI, h4]
  · rw [if_neg hr] at h
    simp only [Bool.and_eq_true] at h
    obtain ⟨⟨⟨⟨h1, h2⟩, h3⟩, h4⟩, h5⟩ := h
    obtain ⟨rfl, rfl, rfl, rfl⟩ := zero_is h2
    simp at h3
    exact ⟨src_as h1, rfl, rfl, rfl, rfl, h3⟩
end Go.Proofs.YtknielpkmablkaaDoor
namespace Go.Proofs.YtknielpkmablkaaDoor
open Go.RowKit

def cellsU (L : List UInt8) : List Value := L.map fun b => Value.int .u8 (b.toNat : Int)
theorem strOf (L : List UInt8) : strOfNums (L.map fun b => (b.toNat : Int)) = ⟨L.toArray⟩ := by
  unfold strOfNums
  have h : (L.map fun b : UInt8 => (b.toNat : Int)).map (fun n => UInt8.ofNat n.toNat) = L := by
    rw [List.map_map]
    conv => rhs; rw [← List.map_id L]
    apply List.map_congr_left
    intro b _
    simp
  rw [h]
theorem conv_row (W : World) (B n cap : Nat) (t : TypeId) (R : List Value) (L : List UInt8) (hR : W.heap[B]? = some (.cells R.toArray t (0, 0))) (hl : L.length = n) (hT : R.take n = cellsU L) :
    (convert 40 9 (.slice (some ⟨B, 0, none⟩) n cap)).run Tryd.prog W = .ok (.string ⟨L.toArray⟩) W := by
  have h := run_convert_bytes_arg (P := Tryd.prog) W 40 5 Tryd.underlying40 Tryd.underlying5 B 0 n cap (L.map fun b => (b.toNat : Int)) (by simp [hl]) (fun i hi => ?_) 9 Tryd.underlying9
  · rw [h, strOf]
  · have e : R[i]? = (R.take n)[i]? := by rw [List.getElem?_take, if_pos hi]
    have hi2 : i < L.length := by omega
    simp [World.cell?, hR, e, hT, cellsU, List.getD, List.getElem?_eq_getElem hi2]
theorem row_cell {W : World} {B k : Nat} {t : TypeId} {R : List Value} (hR : W.heap[B]? = some (.cells R.toArray t (0, 0))) (h : k < R.length) : W.cell? ⟨B, k, none⟩ = some R[k] ∧ W.frozen? ⟨B, k, none⟩ = false := by
  constructor
  · simp [World.cell?, hR, h]
  · simp [World.frozen?, hR]
theorem row_set {W : World} {B k : Nat} {t : TypeId} {R : List Value} (hR : W.heap[B]? = some (.cells R.toArray t (0, 0))) (v : Value) : (W.setCell ⟨B, k, none⟩ v).heap[B]? = some (.cells (R.set k v).toArray t (0, 0)) := by
  rw [setCell_eq_setRow W B k R.toArray t (0, 0) v hR]
  rw [setRow_heap W B R.toArray _ t _ hR]
  simp
theorem set_take {R : List Value} {k : Nat} {L : List UInt8} (h : k < R.length) (hT : R.take k = cellsU L) (b : UInt8) : (R.set k (.int .u8 (b.toNat : Int))).take (k + 1) = cellsU (L ++ [b]) := by
  have hl : L.length = k := by have := congrArg List.length hT; simp [cellsU] at this; omega
  apply List.ext_getElem?
  intro j
  rw [List.getElem?_take]
  have e := congrArg (fun l => l[j]?) hT
  simp only [List.getElem?_take, cellsU] at e
  simp only [cellsU, List.map_append, List.getElem?_append, List.length_map, List.getElem?_set, hl]
  by_cases h1 : j < k
  · rw [if_pos (by omega), if_neg (by omega), if_pos h1]; rw [if_pos h1] at e; exact e
  · by_cases h2 : j = k
    · subst h2; simp [h]
    · rw [if_neg (by omega), if_neg h1]
      have : ¬ j - k < 1 := by omega
      simp; omega

theorem own_conv (W : World) (B : Nat) (v : Value) (n : Nat) (L : List UInt8) (h : W.ownsRow B 5 1 v n (cellsU L)) (hn : 0 < n) :
    (convert 40 9 v).run Tryd.prog W = .ok (.string ⟨L.toArray⟩) W := by
  obtain ⟨hl, h2⟩ := h
  rcases h2 with ⟨_, h0⟩ | ⟨g, cap, cur, rfl, _, hg, _, _, _, hT⟩
  · omega
  · exact conv_row W g n cap 5 cur.toList L (by simpa using hg) (by simp [cellsU] at hl; omega) (by simpa using hT)

theorem one_cell (x : Int) : ∀ u ∈ [Value.int .u8 x], u.oneCell' = true := by intro u hu; simp at hu; subst hu; rfl
end Go.Proofs.YtknielpkmablkaaDoor
