/- A text's bytes in new memory, one of them set anew, and the text of it. -/
import Derived.Test.YtfmeickglipimaaDoorRow
import Derived.Laws.IdiomStrings
import Derived.Test.YtfmeickglipimaaDoorLinesM
namespace Go.Proofs.YtfmeickglipimaaDoor
open Go.RowKit

theorem conv_anyB (W : World) (B n cap : Nat) (t : TypeId) (fr : Nat × Nat) (R : List Value) (L : List UInt8) (hR : W.heap[B]? = some (.cells R.toArray t fr)) (hl : L.length = n) (hT : R.take n = cellsU L) :
    (convert 22 9 (.slice (some ⟨B, 0, none⟩) n cap)).run Tryd.prog W = .ok (.string ⟨L.toArray⟩) W := by
  have h := run_convert_bytes_arg (P := Tryd.prog) W 22 5 Tryd.underlying22 Tryd.underlying5 B 0 n cap (L.map fun b => (b.toNat : Int)) (by simp [hl]) (fun i hi => ?_) 9 Tryd.underlying9
  · rw [h, strOf]
  · have e : R[i]? = (R.take n)[i]? := by rw [List.getElem?_take, if_pos hi]
    have hi2 : i < L.length := by omega
    simp [World.cell?, hR, e, hT, cellsU, List.getD, List.getElem?_eq_getElem hi2]
theorem bytes_ofB (s : ByteArray) (w : World) : ∃ (cap : Nat) (W : World) (R : List Value) (fr : Nat), (convert 9 22 (.string s)).run Tryd.prog w = .ok (.slice (some ⟨w.heap.size, 0, none⟩) s.size cap) W ∧
    W.heap[w.heap.size]? = some (.cells R.toArray 5 (fr, fr + 1)) ∧ s.size ≤ fr ∧ s.size ≤ R.length ∧ R.take s.size = cellsU s.data.toList ∧ Below w.heap.size w W ∧ w.heap.size < W.heap.size := by
  have h := run_bytes_of_string (P := Tryd.prog) w 9 22 5 s Tryd.underlying9 Tryd.underlying22 Tryd.underlying5
  have hc := grownCap_ge w s.size 0 5
  generalize grownCap w s.size 0 5 = cap at h hc
  refine ⟨cap, _, (bytesRow s cap).toList, (bytesRow s cap).size, h, ?_, ?_, ?_, ?_, ?_, ?_⟩
  · simpa using heap_alloc_new w.drew _
  · simp [bytesRow]
  · simp [bytesRow]
  · simp [bytesRow, cellsU]
  · exact (Below.refl _ _).drew.alloc (Nat.le_refl _) _
  · show w.heap.size < (w.drew.alloc _).heap.size
    simp
theorem mark_cellB {W : World} {B n fr j : Nat} {R : List Value} {s : ByteArray} (hR : W.heap[B]? = some (.cells R.toArray 5 (fr, fr + 1))) (hf : s.size ≤ fr) (hn : n = s.size) (hT : R.take n = cellsU s.data.toList) (hj : j < s.size) :
    W.cell? ⟨B, j, none⟩ = some (.int .u8 (s[j].toNat : Int)) ∧ W.frozen? ⟨B, j, none⟩ = false := by
  subst hn
  constructor
  · have e : R[j]? = (R.take s.size)[j]? := by rw [List.getElem?_take, if_pos hj]
    have hj2 : j < s.data.toList.length := by simpa using hj
    have e2 : s.data.toList[j]'hj2 = s[j] := by simp; rfl
    simp only [World.cell?, hR]
    simp [e, hT, cellsU, List.getElem?_eq_getElem hj2, e2]
  · simp [World.frozen?, hR]; omega
theorem mark_afterB {W W2 : World} {B fr j cap : Nat} {R : List Value} {s : ByteArray} (hR : W.heap[B]? = some (.cells R.toArray 5 (fr, fr + 1))) (hT : R.take s.size = cellsU s.data.toList) (x : Int) (y : UInt8) (hy : x = (y.toNat : Int))
    (hb : Below (W.setCell ⟨B, j, none⟩ (.int .u8 x)).drew.heap.size (W.setCell ⟨B, j, none⟩ (.int .u8 x)).drew W2) :
    (convert 22 9 (.slice (some ⟨B, 0, none⟩) s.size cap)).run Tryd.prog W2 = .ok (.string (textL (s.data.toList.set j y))) W2 := by
  have h1 : (W.setCell ⟨B, j, none⟩ (.int .u8 x)).heap[B]? = some (.cells (R.set j (.int .u8 x)).toArray 5 (fr, fr + 1)) := by
    rw [setCell_eq_setRow W B j R.toArray _ _ _ hR, setRow_heap W B _ _ _ _ hR]; simp
  have h2 : W2.heap[B]? = some (.cells (R.set j (.int .u8 x)).toArray 5 (fr, fr + 1)) := (hb.block B (Array.getElem?_eq_some_iff.1 h1).1).trans h1
  refine conv_anyB _ B s.size cap 5 (fr, fr + 1) (R.set j (.int .u8 x)) (s.data.toList.set j y) h2 (by simp) ?_
  rw [List.take_set, hT, hy]
  simp [cellsU, List.map_set]
end Go.Proofs.YtfmeickglipimaaDoor
