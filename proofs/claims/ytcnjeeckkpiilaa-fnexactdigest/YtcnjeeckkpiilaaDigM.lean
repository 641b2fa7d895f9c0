/- The mathematics of Digest: a number of 64 bits for a text, and its eight bytes, the highest first. -/
import Derived.Test.YtcnjeeckkpiilaaRows
import Derived.WalkKit
import Derived.WalkSpells
import Derived.WalkLawsBesides
import Derived.Laws.BitsAllLaws
import Derived.Test.YtcnjeeckkpiilaaBase
import Derived.Test.YtcnjeeckkpiilaaRow
import Derived.Test.YtcnjeeckkpiilaaCopy
namespace Go.Proofs.Ytcnjeeckkpiilaa
open Go.RowKit

def dgB (n b : Nat) : Nat := (n ^^^ b) * 1099511628211 % 18446744073709551616
def dgL (l : List UInt8) : Nat := l.foldl (fun n b => dgB n b.toNat) 14695981039346656037
def dg8 (n : Nat) : List UInt8 := [UInt8.ofNat (n / 72057594037927936), UInt8.ofNat (n / 281474976710656), UInt8.ofNat (n / 1099511627776), UInt8.ofNat (n / 4294967296), UInt8.ofNat (n / 16777216), UInt8.ofNat (n / 65536), UInt8.ofNat (n / 256), UInt8.ofNat n]
def digB (t : ByteArray) : ByteArray := ⟨(dg8 (dgL t.data.toList) ++ dg8 (dgB (dgL t.data.toList) 1)).toArray⟩
def digI (t : ByteArray) : ByteArray := if 8000 < t.size then ⟨#[]⟩ else digB t
theorem dgB_lt (n b : Nat) : dgB n b < 18446744073709551616 := Nat.mod_lt _ (by omega)
theorem dgL_lt (l : List UInt8) : dgL l < 18446744073709551616 := by
  have h : ∀ (l : List UInt8) (n : Nat), n < 18446744073709551616 → l.foldl (fun n b => dgB n b.toNat) n < 18446744073709551616 := by
    intro l
    induction l with
    | nil => intro n h; rw [List.foldl_nil]; exact h
    | cons b l ih => intro n _; rw [List.foldl_cons]; exact ih _ (dgB_lt _ _)
  unfold dgL
  exact h l _ (by omega)
theorem dgL_app (l m : List UInt8) : dgL (l ++ m) = m.foldl (fun n b => dgB n b.toNat) (dgL l) := by
  unfold dgL
  rw [List.foldl_append]
theorem dg_take (s : ByteArray) (k : Nat) (h : k < s.size) : s.data.toList.take (k + 1) = s.data.toList.take k ++ [s[k]] := by
  rw [List.take_succ_eq_append_getElem (by simpa using h)]; rfl
theorem dgL_take (s : ByteArray) (k : Nat) (h : k < s.size) : dgL (s.data.toList.take (k + 1)) = dgB (dgL (s.data.toList.take k)) s[k].toNat := by
  rw [dg_take s k h, dgL_app, List.foldl_cons, List.foldl_nil]
theorem dgL_one (s : ByteArray) : dgL (s ++ ⟨#[1]⟩).data.toList = dgB (dgL s.data.toList) 1 := by
  rw [show (s ++ (⟨#[1]⟩ : ByteArray)).data.toList = s.data.toList ++ [1] by simp, dgL_app, List.foldl_cons, List.foldl_nil]
  rw [show (1 : UInt8).toNat = 1 from rfl]
theorem dg8_len (n : Nat) : (dg8 n).length = 8 := rfl
theorem digB_size (t : ByteArray) : (digB t).size = 16 := by
  unfold digB
  generalize dgL t.data.toList = a
  generalize dgB a 1 = b
  rfl
theorem dg_take_all (s : ByteArray) : s.data.toList.take s.size = s.data.toList := List.take_of_length_le (by simp)
theorem u8_of (x : Nat) : ((UInt8.ofNat x).toNat : Int) = (x : Int) % 256 := by
  rw [show (UInt8.ofNat x).toNat = x % 256 by simp]; omega
theorem dg8_cells (n : Nat) (h : n < 18446744073709551616) : cellsU (dg8 n) = [Value.int .u8 ((n : Int) / 72057594037927936), .int .u8 ((n : Int) / 281474976710656 % 256), .int .u8 ((n : Int) / 1099511627776 % 256), .int .u8 ((n : Int) / 4294967296 % 256), .int .u8 ((n : Int) / 16777216 % 256), .int .u8 ((n : Int) / 65536 % 256), .int .u8 ((n : Int) / 256 % 256), .int .u8 ((n : Int) % 256)] := by
  have e0 : (n : Int) / 72057594037927936 = ((n / 72057594037927936 : Nat) : Int) % 256 := by omega
  rw [e0]
  simp only [cellsU, dg8, List.map_cons, List.map_nil, u8_of]
  rfl
theorem dg8_conv {g : Nat} (n : Nat) (h : n < 18446744073709551616) (t : TypeId) (w : World) (hg : w.heap[g]? = some (.cells #[Value.int .u8 ((n : Int) / 72057594037927936), .int .u8 ((n : Int) / 281474976710656 % 256), .int .u8 ((n : Int) / 1099511627776 % 256), .int .u8 ((n : Int) / 4294967296 % 256), .int .u8 ((n : Int) / 16777216 % 256), .int .u8 ((n : Int) / 65536 % 256), .int .u8 ((n : Int) / 256 % 256), .int .u8 ((n : Int) % 256)] t (0, 0))) :
    (convert 99 9 (.slice (some ⟨g, 0, none⟩) 8 8)).run Try.prog w = .ok (.string ⟨(dg8 n).toArray⟩) w :=
  conv_row w g 8 8 t _ (dg8 n) hg (dg8_len n) (dg8_cells n h).symm
theorem dgE {a b x : Nat} {i : Nat} (h : i = 0 ∧ x = a ∨ i = 1 ∧ x = b) (j : Nat) (hj : j < 8) (y : Int) (hy : y = (x : Int) / ((2 ^ (56 - 8 * j) : Nat) : Int) % 256) : cellsU ((dg8 a ++ dg8 b).take (8 * i + (j + 1))) = cellsU ((dg8 a ++ dg8 b).take (8 * i + j)) ++ [.int .u8 y] := by
  have e : (dg8 a ++ dg8 b).take (8 * i + (j + 1)) = (dg8 a ++ dg8 b).take (8 * i + j) ++ [UInt8.ofNat (x / 2 ^ (56 - 8 * j))] := by
    rcases h with ⟨rfl, rfl⟩ | ⟨rfl, rfl⟩ <;>
    match j, hj with
    | 0, _ => simp [dg8]
    | 1, _ => simp [dg8]
    | 2, _ => simp [dg8]
    | 3, _ => simp [dg8]
    | 4, _ => simp [dg8]
    | 5, _ => simp [dg8]
    | 6, _ => simp [dg8]
    | 7, _ => simp [dg8]
  rw [e, hy]
  simp only [cellsU, List.map_append, List.map_cons, List.map_nil, u8_of]
  rfl
end Go.Proofs.Ytcnjeeckkpiilaa
