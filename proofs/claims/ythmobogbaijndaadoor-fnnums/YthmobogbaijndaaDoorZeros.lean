/- Zero bytes in new memory, and the text of them. -/
import Derived.Test.YthmobogbaijndaaDoorRows
import Derived.WalkKit
import Derived.WalkSpells
import Derived.WalkLawsBesides
import Derived.Test.YthmobogbaijndaaDoorRow
import Derived.Test.YthmobogbaijndaaDoorDraw
namespace Go.Proofs.YthmobogbaijndaaDoor
open Go.RowKit

def zrow (n : Nat) : Array Value := (cellsU (List.replicate n 0)).toArray
theorem made_zero (w : World) (c : Int) (h0 : 0 ≤ c) (h1 : c ≤ 1000000) :
    (Instr.makeSlice 22 (.int .i64 c) (.int .i64 c)).run Tryd.prog w = .ok (.slice (some ⟨w.heap.size, 0, none⟩) c.toNat c.toNat) (w.alloc (.cells (zrow c.toNat) 5)) := by
  obtain ⟨i0, hi, hz0, hz1, hz2⟩ := info_parts info5
  rw [run_make (P := Tryd.prog) w 22 5 i0 (.int .u8 0) Tryd.underlying22 hi hz0 .i64 .i64 c c h0 (by omega) (by rw [hz2]; omega) (by omega)]
  have e : madeCells (Value.int .u8 0).cells (c.toNat * i0.size) = zrow c.toNat := by
    rw [hz1]
    apply Array.ext
    · simp [madeCells, zrow, cellsU]
    · intro i h1 h2
      simp [madeCells, zrow, cellsU, Value.cells]
      rw [show i % 1 = 0 by omega]; rfl
  rw [e]
theorem conv_zero (w : World) (n cap : Nat) : (convert 22 9 (.slice (some ⟨w.heap.size, 0, none⟩) n cap)).run Tryd.prog (w.alloc (.cells (zrow n) 5)) = .ok (.string ⟨(List.replicate n 0).toArray⟩) (w.alloc (.cells (zrow n) 5)) :=
  conv_row _ w.heap.size n cap 5 (cellsU (List.replicate n 0)) (List.replicate n 0) (heap_alloc_new _ _) (by simp) (List.take_of_length_le (by simp [cellsU]))
end Go.Proofs.YthmobogbaijndaaDoor
