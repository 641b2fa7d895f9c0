/- A text's bytes in new memory, one of them turned, and the text of it. -/
import Derived.Test.YthmobogbaijndaaRow
import Derived.Laws.IdiomStrings
import Derived.Test.YthmobogbaijndaaSealMath
namespace Go.Proofs.Ythmobogbaijndaa
open Go.RowKit

theorem conv_any (W : World) (B n cap : Nat) (t : TypeId) (fr : Nat × Nat) (R : List Value) (L : List UInt8) (hR : W.heap[B]? = some (.cells R.toArray t fr)) (hl : L.length = n) (hT : R.take n = cellsU L) :
    (convert 22 9 (.slice (some ⟨B, 0, none⟩) n cap)).run Try.prog W = .ok (.string ⟨L.toArray⟩) W := by
  have h := run_convert_bytes_arg (P := Try.prog) W 22 5 Try.underlying22 Try.underlying5 B 0 n cap (L.map fun b => (b.toNat : Int)) (by simp [hl]) (fun i hi => ?_) 9 Try.underlying9
  · rw [h, strOf]
  · have e : R[i]? = (R.take n)[i]? := by rw [List.getElem?_take, if_pos hi]
    have hi2 : i < L.length := by omega
    simp [World.cell?, hR, e, hT, cellsU, List.getD, List.getElem?_eq_getElem hi2]
theorem bytes_of (s : ByteArray) (w : World) : ∃ (cap : Nat) (W : World) (R : List Value) (fr : Nat), (convert 9 22 (.string s)).run Try.prog w = .ok (.slice (some ⟨w.heap.size, 0, none⟩) s.size cap) W ∧
    W.heap[w.heap.size]? = some (.cells R.toArray 5 (fr, fr + 1)) ∧ s.size ≤ fr ∧ s.size ≤ R.length ∧ R.take s.size = cellsU s.data.toList ∧ Below w.heap.size w W ∧ w.heap.size < W.heap.size := by
  have h := run_bytes_of_string (P := Try.prog) w 9 22 5 s Try.underlying9 Try.underlying22 Try.underlying5
  have hc := grownCap_ge w s.size 0 5
  generalize grownCap w s.size 0 5 = cap at h hc
  refine ⟨cap, _, (bytesRow s cap).toList, (bytesRow s cap).size, h, ?_, ?_, ?_, ?_, ?_, ?_⟩
  · simpa using heap_alloc_new w.drew _
  · simp [bytesRow]
  · simp [bytesRow]
  · simp [bytesRow, cellsU]
  · exact (Below.refl _ _).drew.alloc (Nat.le_refl _) _
  · show w.heap.size < (w.drew.alloc _).heap.size
    simp
theorem mark_cell {W : World} {B n fr j : Nat} {R : List Value} {s : ByteArray} (hR : W.heap[B]? = some (.cells R.toArray 5 (fr, fr + 1))) (hf : s.size ≤ fr) (hn : n = s.size) (hT : R.take n = cellsU s.data.toList) (hj : j < s.size) :
    W.cell? ⟨B, j, none⟩ = some (.int .u8 (s[j].toNat : Int)) ∧ W.frozen? ⟨B, j, none⟩ = false := by
  subst hn
  constructor
  · have e : R[j]? = (R.take s.size)[j]? := by rw [List.getElem?_take, if_pos hj]
    have hj2 : j < s.data.toList.length := by simpa using hj
    have e2 : s.data.toList[j]'hj2 = s[j] := by simp; rfl
    simp only [World.cell?, hR]
    simp [e, hT, cellsU, List.getElem?_eq_getElem hj2, e2]
  · simp [World.frozen?, hR]; omega
theorem mark_after {W W2 : World} {B fr j cap : Nat} {R : List Value} {s : ByteArray} (hR : W.heap[B]? = some (.cells R.toArray 5 (fr, fr + 1))) (hT : R.take s.size = cellsU s.data.toList) (x : Int) (y : UInt8) (hy : x = (y.toNat : Int))
    (hb : Below (W.setCell ⟨B, j, none⟩ (.int .u8 x)).drew.heap.size (W.setCell ⟨B, j, none⟩ (.int .u8 x)).drew W2) :
    (convert 22 9 (.slice (some ⟨B, 0, none⟩) s.size cap)).run Try.prog W2 = .ok (.string (turned s j y)) W2 := by
  have h1 : (W.setCell ⟨B, j, none⟩ (.int .u8 x)).heap[B]? = some (.cells (R.set j (.int .u8 x)).toArray 5 (fr, fr + 1)) := by
    rw [setCell_eq_setRow W B j R.toArray _ _ _ hR, setRow_heap W B _ _ _ _ hR]; simp
  have h2 : W2.heap[B]? = some (.cells (R.set j (.int .u8 x)).toArray 5 (fr, fr + 1)) := (hb.block B (Array.getElem?_eq_some_iff.1 h1).1).trans h1
  refine conv_any _ B s.size cap 5 (fr, fr + 1) (R.set j (.int .u8 x)) (s.data.toList.set j y) h2 (by simp) ?_
  rw [List.take_set, hT, hy]
  simp [cellsU, List.map_set]
theorem xor_u8 (a d : Nat) (ha : a < 256) (hd : d < 256) : bits BinOp.xor IntKind.u8 (a : Int) (d : Int) = (((UInt8.ofNat (a ^^^ d)).toNat : Nat) : Int) := by
  rw [u8_xor_nat a d ha hd]
  have h : a ^^^ d < 256 := Nat.xor_lt_two_pow (n := 8) ha hd
  rw [UInt8.toNat_ofNat_of_lt' (by simpa using h)]
theorem xor_turn (a : UInt8) (D : Nat) (h : D < 255) : bits BinOp.xor IntKind.u8 (a.toNat : Int) (IntKind.u8.wrap (IntKind.i64.wrap (1 + (D : Int)))) = (((UInt8.ofNat (a.toNat ^^^ (1 + D))).toNat : Nat) : Int) := by
  have e : IntKind.u8.wrap (IntKind.i64.wrap (1 + (D : Int))) = ((1 + D : Nat) : Int) := by
    rw [IntKind.wrap_i64, IntKind.wrap_u8']; omega
  rw [e]; exact xor_u8 a.toNat (1 + D) a.toNat_lt (by omega)
theorem xor_ne (a : UInt8) (d : Nat) (h0 : 0 < d) (hd : d < 256) : UInt8.ofNat (a.toNat ^^^ d) ≠ a := by
  intro h
  have hlt : a.toNat ^^^ d < 256 := Nat.xor_lt_two_pow (n := 8) a.toNat_lt hd
  have e := congrArg UInt8.toNat h
  rw [UInt8.toNat_ofNat_of_lt' (by simpa using hlt)] at e
  have := xor_lc (a := d) (b := 0) (c := a.toNat) (by rw [e]; simp)
  omega
theorem xor_ex (a : UInt8) (D : Nat) (h : D < 255) : ∃ X : UInt8, bits BinOp.xor IntKind.u8 (a.toNat : Int) (IntKind.u8.wrap (IntKind.i64.wrap (1 + (D : Int)))) = ((X.toNat : Nat) : Int) ∧ Hid (X ≠ a) :=
  ⟨_, xor_turn a D h, xor_ne a (1 + D) (by omega) (by omega)⟩
end Go.Proofs.Ythmobogbaijndaa
