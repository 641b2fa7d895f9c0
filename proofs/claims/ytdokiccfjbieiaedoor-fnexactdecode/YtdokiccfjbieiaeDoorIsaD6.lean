/- The comparison of two InsnOuts. -/
import Derived.Test.YtdokiccfjbieiaeDoorRows
import Derived.WalkKit
import Derived.WalkSpells
import Derived.WalkLawsBesides
import Derived.Outline
import Derived.Test.YtdokiccfjbieiaeDoorBase
import Derived.Test.YtdokiccfjbieiaeDoorRes2
import Derived.Test.YtdokiccfjbieiaeDoorIsa3
import Derived.Test.YtdokiccfjbieiaeDoorIsaD5
namespace Go.Proofs.YtdokiccfjbieiaeDoor
open Go.RowKit
set_option linter.unusedVariables false

set_option maxHeartbeats 800000 in
theorem eqOperand_any (m r n : Int) (l : Bool) (w : World) :
    Calls Tryd.prog 72 #[.agg #[.int .i64 m, .int .i64 r, .int .i64 n, .bool l], .agg #[.int .i64 m, .int .i64 r, .int .i64 n, .bool l]] w fun e w' => e = .returned (.bool true) ∧ Below w.heap.size w w' := by
  go_enter Tryd.func72, Tryd.ntmps72
  go_wp2
  go_ret
  exact ⟨rfl, ((Below.refl _ _).alloc (Nat.le_refl _) _).alloc (by simp) _⟩
set_option maxRecDepth 100000 in
set_option maxHeartbeats 1600000 in
theorem eqInsn_any (op : ByteArray) (b : Bool) (m r n : Int) (l : Bool) (m2 r2 n2 : Int) (l2 : Bool) (j : Int) (w : World) :
    Calls Tryd.prog 50 #[.agg #[.string op, .bool b, .int .i64 m, .int .i64 r, .int .i64 n, .bool l, .int .i64 m2, .int .i64 r2, .int .i64 n2, .bool l2, .int .i64 j], .agg #[.string op, .bool b, .int .i64 m, .int .i64 r, .int .i64 n, .bool l, .int .i64 m2, .int .i64 r2, .int .i64 n2, .bool l2, .int .i64 j]] w fun e w' => e = .returned (.bool true) ∧ Below w.heap.size w w' := by
  go_enter Tryd.func50, Tryd.ntmps50
  go_wp2_with fail
  refine (eqOperand_any m r n l _).mono ?_
  rintro e x1 ⟨rfl, hb⟩
  have HI1 : Hid (_ = _) := heap_keep (heap_more (heap_alloc_new w _) _) hb
  have HJ1 : Hid (_ = _) := heap_keep (heap_new2 w _ _) hb
  have HB1 : Hid (Below w.heap.size w x1) := below_call (below_more (below_new _ _) _) hb
  clear hb
  obtain ⟨c0, c1, c2, c3, c4, c5, c6, c7, c8, c9, c10⟩ := cells11 HI1.out
  obtain ⟨d0, d1, d2, d3, d4, d5, d6, d7, d8, d9, d10⟩ := cells11 HJ1.out
  go_wp2_with fail
  refine (eqOperand_any m2 r2 n2 l2 _).mono ?_
  rintro e x2 ⟨rfl, hb⟩
  have HI2 : Hid (_ = _) := heap_keep HI1.out hb
  have HJ2 : Hid (_ = _) := heap_keep HJ1.out hb
  have HB2 : Hid (Below w.heap.size w x2) := below_call HB1.out hb
  clear hb c0 c1 c2 c3 c4 c5 c6 c7 c8 c9 c10 d0 d1 d2 d3 d4 d5 d6 d7 d8 d9 d10
  obtain ⟨c0, c1, c2, c3, c4, c5, c6, c7, c8, c9, c10⟩ := cells11 HI2.out
  obtain ⟨d0, d1, d2, d3, d4, d5, d6, d7, d8, d9, d10⟩ := cells11 HJ2.out
  go_wp2
  go_ret
  exact ⟨rfl, HB2.out⟩
theorem cells13 {W : World} {B : Nat} {v0 v1 v2 v3 v4 v5 v6 v7 v8 v9 v10 v11 v12 : Value} {t : TypeId} {fr : Nat × Nat} (h : W.heap[B]? = some (.cells #[v0, v1, v2, v3, v4, v5, v6, v7, v8, v9, v10, v11, v12] t fr)) :
    W.cell? ⟨B, 11, none⟩ = some v11 ∧ W.cell? ⟨B, 12, none⟩ = some v12 :=
  ⟨cell_of_row W B 11 _ t fr h, cell_of_row W B 12 _ t fr h⟩
set_option maxRecDepth 100000 in
set_option maxHeartbeats 1600000 in
theorem eqInsnOut_any (i : Ins) (k c : Int) (w : World) :
    Calls Tryd.prog 20 #[.agg (outV i.vals k c), .agg (outV i.vals k c)] w fun e w' => e = .returned (.bool true) ∧ Below w.heap.size w w' := by
  have ho : outV i.vals k c = #[.string i.op, .bool i.b, .int .i64 i.m, .int .i64 i.r, .int .i64 i.n, .bool i.l, .int .i64 i.m2, .int .i64 i.r2, .int .i64 i.n2, .bool i.l2, .int .i64 i.j, .int .i64 k, .int .i64 c] := rfl
  rw [ho]
  clear ho
  go_enter Tryd.func20, Tryd.ntmps20
  go_wp2_with fail
  refine (eqInsn_any i.op i.b i.m i.r i.n i.l i.m2 i.r2 i.n2 i.l2 i.j _).mono ?_
  rintro e x1 ⟨rfl, hb⟩
  have HI1 : Hid (_ = _) := heap_keep (heap_more (heap_alloc_new w _) _) hb
  have HJ1 : Hid (_ = _) := heap_keep (heap_new2 w _ _) hb
  have HB1 : Hid (Below w.heap.size w x1) := below_call (below_more (below_new _ _) _) hb
  clear hb
  obtain ⟨c0, c1⟩ := cells13 HI1.out
  obtain ⟨d0, d1⟩ := cells13 HJ1.out
  go_wp2
  go_ret
  exact ⟨rfl, HB1.out⟩
end Go.Proofs.YtdokiccfjbieiaeDoor
