/- Instructions: Decode of the program, words that begin with one. -/
import Derived.Test.YtknielpkmablkaaDoorRows
import Derived.WalkKit
import Derived.WalkSpells
import Derived.WalkLawsBesides
import Derived.Outline
import Derived.Test.YtknielpkmablkaaDoorBun0
import Derived.Test.YtknielpkmablkaaDoorBun1
import Derived.Test.YtknielpkmablkaaDoorBun10
import Derived.Test.YtknielpkmablkaaDoorBun11
import Derived.Test.YtknielpkmablkaaDoorBun15
import Derived.Test.YtknielpkmablkaaDoorIsaD12X
import Derived.RegionTactic
import Derived.BigRegion
import Derived.Deep.RegionHeld3
namespace Go.Proofs.YtknielpkmablkaaDoor
open Go.RowKit
set_option linter.unusedVariables false

theorem words_at {L : List Int} {x : Int} {k : Nat} (hw : wordsB L = true) (hx : L[k]? = some x) : 0 ≤ x ∧ x ≤ 65535 := by
  have h := List.all_eq_true.1 hw x (List.mem_of_getElem? hx)
  simp [isB] at h
  omega
theorem read_at {w : World} {p : Addr} {L : List Int} (h : ReadI w (some p) L) (k : Nat) (hk : k < L.length) : w.cell? (p.add k) = some (.int .i64 (L.getD k 0)) := by
  obtain ⟨q, e, _, hc⟩ := h (by omega)
  cases e
  rw [hc k hk]
  simp [List.getD, List.getElem?_eq_getElem hk]
theorem set_thirteen {W : World} {g : Nat} {z0 z1 z2 z3 z4 z5 z6 z7 z8 z9 z10 z11 z12 a0 a1 a2 a3 a4 a5 a6 a7 a8 a9 a10 a11 a12 : Value} {t : TypeId} (h : W.heap[g]? = some (.cells #[z0, z1, z2, z3, z4, z5, z6, z7, z8, z9, z10, z11, z12] t (0, 0))) : (((((((((((((W.setCell ⟨g, 0, none⟩ a0).setCell ⟨g, 1, none⟩ a1).setCell ⟨g, 2, none⟩ a2).setCell ⟨g, 3, none⟩ a3).setCell ⟨g, 4, none⟩ a4).setCell ⟨g, 5, none⟩ a5).setCell ⟨g, 6, none⟩ a6).setCell ⟨g, 7, none⟩ a7).setCell ⟨g, 8, none⟩ a8).setCell ⟨g, 9, none⟩ a9).setCell ⟨g, 10, none⟩ a10).setCell ⟨g, 11, none⟩ a11).setCell ⟨g, 12, none⟩ a12).heap[g]? = some (.cells #[a0, a1, a2, a3, a4, a5, a6, a7, a8, a9, a10, a11, a12] t (0, 0)) := by
  have k := heap_set (heap_set (heap_set (heap_set (heap_set (heap_set (heap_set (heap_set (heap_set (heap_set (heap_set (heap_set (heap_set h 0 a0) 1 a1) 2 a2) 3 a3) 4 a4) 5 a5) 6 a6) 7 a7) 8 a8) 9 a9) 10 a10) 11 a11) 12 a12
  simp only [List.setIfInBounds_toArray, List.set_cons_zero, List.set_cons_succ] at k
  exact k
theorem cellsD {W : World} {B : Nat} {v0 v1 v2 v3 v4 v5 v6 v7 v8 v9 v10 v11 v12 : Value} {t : TypeId} {fr : Nat × Nat} (h : W.heap[B]? = some (.cells #[v0, v1, v2, v3, v4, v5, v6, v7, v8, v9, v10, v11, v12] t fr)) :
    W.cell? ⟨B, 0, none⟩ = some v0 ∧ W.cell? ⟨B, 1, none⟩ = some v1 ∧ W.cell? ⟨B, 2, none⟩ = some v2 ∧ W.cell? ⟨B, 3, none⟩ = some v3 ∧ W.cell? ⟨B, 4, none⟩ = some v4 ∧ W.cell? ⟨B, 5, none⟩ = some v5 ∧ W.cell? ⟨B, 6, none⟩ = some v6 ∧ W.cell? ⟨B, 7, none⟩ = some v7 ∧ W.cell? ⟨B, 8, none⟩ = some v8 ∧ W.cell? ⟨B, 9, none⟩ = some v9 ∧ W.cell? ⟨B, 10, none⟩ = some v10 ∧ W.cell? ⟨B, 11, none⟩ = some v11 ∧ W.cell? ⟨B, 12, none⟩ = some v12 :=
  ⟨cell_of_row W B 0 _ t fr h, cell_of_row W B 1 _ t fr h, cell_of_row W B 2 _ t fr h, cell_of_row W B 3 _ t fr h, cell_of_row W B 4 _ t fr h, cell_of_row W B 5 _ t fr h, cell_of_row W B 6 _ t fr h, cell_of_row W B 7 _ t fr h, cell_of_row W B 8 _ t fr h, cell_of_row W B 9 _ t fr h, cell_of_row W B 10 _ t fr h, cell_of_row W B 11 _ t fr h, cell_of_row W B 12 _ t fr h⟩
theorem add0 (p : Addr) : p.add 0 = p := by
  obtain ⟨b, o, s⟩ := p
  cases s <;> simp [Addr.add]
theorem below_thirteen {B : Nat} {v W : World} {g : Nat} {a0 a1 a2 a3 a4 a5 a6 a7 a8 a9 a10 a11 a12 : Value} (hg : B ≤ g) (h : Below B v W) : Below B v (((((((((((((W.setCell ⟨g, 0, none⟩ a0).setCell ⟨g, 1, none⟩ a1).setCell ⟨g, 2, none⟩ a2).setCell ⟨g, 3, none⟩ a3).setCell ⟨g, 4, none⟩ a4).setCell ⟨g, 5, none⟩ a5).setCell ⟨g, 6, none⟩ a6).setCell ⟨g, 7, none⟩ a7).setCell ⟨g, 8, none⟩ a8).setCell ⟨g, 9, none⟩ a9).setCell ⟨g, 10, none⟩ a10).setCell ⟨g, 11, none⟩ a11).setCell ⟨g, 12, none⟩ a12) :=
  ((((((((((((h.setCell hg _).setCell hg _).setCell hg _).setCell hg _).setCell hg _).setCell hg _).setCell hg _).setCell hg _).setCell hg _).setCell hg _).setCell hg _).setCell hg _).setCell hg _
set_option maxRecDepth 100000 in
set_option maxHeartbeats 6400000 in
theorem implDec_no (a : Option Addr) (L : List Int) (x : Int) (op : ByteArray) (b : Bool) (m r n : Int) (l : Bool) (m2 r2 n2 : Int) (l2 : Bool) (j : Int) (cap : Nat) (w : World) (hl : L.length ≤ 400) (h0 : 0 < L.length) (hx : L[0]? = some x) (hR : ReadI w a L) (hw : wordsB L = true) (hT : Tabs w) (hi : insI x = ⟨op, b, m, r, n, l, m2, r2, n2, l2, j⟩) (HN : Hid (insnB op b m r n l m2 r2 n2 l2 j = false)) :
    Calls Tryd.prog 30 #[.slice a L.length cap] w fun e w' => e = .returned (.agg (outV zeroIns.vals 0 3)) ∧ Below w.heap.size w w' := by
  obtain ⟨hx0, hx1⟩ := words_at hw hx
  have HW : Hid (_ = _) := hw
  have HT : Hid (Tabs w) := hT
  obtain ⟨p, rfl, hp, hc⟩ := hR h0
  have HR : Hid (ReadI w (some p) L) := hR
  have hc1 : w.cell? p = some (.int .i64 x) := by
    have h := hc 0 h0
    rw [List.getElem?_eq_getElem h0] at hx
    rw [Option.some.inj hx] at h
    rw [add0] at h
    exact h
  have HC : Hid (∀ o, (w.alloc o).cell? p = some (.int .i64 x)) := fun o => ((below_new w o).cell hp).trans hc1
  have HI : Hid (∀ W, Tabs W → Calls Tryd.prog 40 #[.int .i64 x] W fun e w' => e = .returned (.agg #[.string op, .bool b, .int .i64 m, .int .i64 r, .int .i64 n, .bool l, .int .i64 m2, .int .i64 r2, .int .i64 n2, .bool l2, .int .i64 j]) ∧ Below W.heap.size W w') := fun W hW => by
    have h := insnOf_any x W hx0 hx1 hW
    rw [hi] at h
    exact h
  clear hw hR hT hc hc1 hi hx
  have hl' : ¬ (400 : Int) < (L.length : Int) := by omega
  have hl2 : ((L.length : Int) == 0) = false := by rw [beq_eq_false_iff_ne]; omega
  have hl3 : (0 : Int) < (L.length : Int) := by omega
  go_enter Tryd.func30, Tryd.ntmps30
  go_wp2_with fail
  refine (areWords_any (some p) L cap _ (HR.out.alloc _) (by omega)).mono ?_
  rintro e w1 ⟨rfl, rfl⟩
  rw [HW.out]
  have hc0 := HC.out (.cells #[.string ⟨#[]⟩, .bool false, .int .i64 0, .int .i64 0, .int .i64 0, .bool false, .int .i64 0, .int .i64 0, .int .i64 0, .bool false, .int .i64 0, .int .i64 0, .int .i64 0] 47)
  go_wp2_with fail
  refine (HI.out _ (HT.out.alloc _)).mono ?_
  rintro e x1 ⟨rfl, hb⟩
  have HR1 : Hid (_ = _) := heap_keep (heap_alloc_new w _) hb
  have HB1 : Hid (Below w.heap.size w x1) := below_call (below_new _ _) hb
  clear hb hc0
  go_wp2_with fail
  refine (implRight_any op b m r n l m2 r2 n2 l2 j _ ((HT.out.below HB1.out).alloc _)).mono ?_
  rintro e x2 ⟨rfl, hb⟩
  rw [HN.out]
  have HR2 : Hid (_ = _) := heap_keep (heap_more HR1.out _) hb
  have HB2 : Hid (Below w.heap.size w x2) := below_call (below_more HB1.out _) hb
  clear hb
  obtain ⟨q0, q1, q2, q3, q4, q5, q6, q7, q8, q9, q10, q11, q12⟩ := cellsD HR2.out
  have y0 := frozen_of_row _ _ 0 _ _ HR2.out
  have y1 := frozen_of_row _ _ 1 _ _ HR2.out
  have y2 := frozen_of_row _ _ 2 _ _ HR2.out
  have y3 := frozen_of_row _ _ 3 _ _ HR2.out
  have y4 := frozen_of_row _ _ 4 _ _ HR2.out
  have y5 := frozen_of_row _ _ 5 _ _ HR2.out
  have y6 := frozen_of_row _ _ 6 _ _ HR2.out
  have y7 := frozen_of_row _ _ 7 _ _ HR2.out
  have y8 := frozen_of_row _ _ 8 _ _ HR2.out
  have y9 := frozen_of_row _ _ 9 _ _ HR2.out
  have y10 := frozen_of_row _ _ 10 _ _ HR2.out
  have y11 := frozen_of_row _ _ 11 _ _ HR2.out
  have y12 := frozen_of_row _ _ 12 _ _ HR2.out
  go_wp2
  exact bodyPost_ret (results_cell_row Tryd.results30 _ _ w.heap.size 47 _ (0, 0) _ rfl (set_thirteen HR2.out) Tryd.underlying47 rfl (by kernel_rfl)) rfl ⟨rfl, below_thirteen (Nat.le_refl _) HB2.out⟩
end Go.Proofs.YtknielpkmablkaaDoor
namespace Go.Proofs.YtknielpkmablkaaDoor
open Go.RowKit

end Go.Proofs.YtknielpkmablkaaDoor
