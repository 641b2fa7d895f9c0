/- Instructions: words that are words; a word of its own that is taken. -/
import Derived.Test.YtknielpkmablkaaDoorRows
import Derived.WalkKit
import Derived.WalkSpells
import Derived.WalkLawsBesides
import Derived.Outline
import Derived.RegionTactic
import Derived.BigRegion
import Derived.Test.YtknielpkmablkaaDoorBun0
import Derived.Test.YtknielpkmablkaaDoorBun1
import Derived.Test.YtknielpkmablkaaDoorBun4
import Derived.Test.YtknielpkmablkaaDoorIsaRX
import Derived.Test.YtknielpkmablkaaDoorBun3
namespace Go.Proofs.YtknielpkmablkaaDoor
open Go.RowKit
set_option linter.unusedVariables false

theorem Tabs.set {w : World} (h : Tabs w) {B : Nat} (h0 : 0 ≠ B) (h1 : 1 ≠ B) (p : Addr) (v : Value) (hp : p.block = B) : Tabs (w.setCell p v) := by
  subst hp
  obtain ⟨⟨t, fr, g1⟩, ⟨u, fs, g2⟩⟩ := h
  exact ⟨⟨t, fr, heap_set_other g1 p h0 v⟩, ⟨u, fs, heap_set_other g2 p h1 v⟩⟩
set_option maxRecDepth 100000 in
set_option maxHeartbeats 1600000 in
theorem takeWord_src (B : Nat) (v0 v1 v6 v7 v8 v9 v10 : Value) (m r n0 n : Int) (l0 : Bool) (w : World) (h : w.heap[B]? = some (.cells #[v0, v1, .int .i64 m, .int .i64 r, .int .i64 n0, .bool l0, v6, v7, v8, v9, v10] 45 (0, 0))) (hg0 : 0 ≠ B) (hg1 : 1 ≠ B) (hT : Tabs w) :
    Calls Tryd.prog 43 #[.pointer (some ⟨B, 2, none⟩), .int .i64 n] w fun e w' => e = .returned (.tuple #[]) ∧ w'.heap[B]? = some (.cells #[v0, v1, .int .i64 m, .int .i64 r, .int .i64 n, .bool (m == 5 && (shortI n).2.2), v6, v7, v8, v9, v10] 45 (0, 0)) ∧ Below B w w' := by
  have HH : Hid (_ = _) := h
  have HT : Hid (_) := hT.set hg0 hg1 ⟨B, 4, none⟩ (.int .i64 n) rfl
  obtain ⟨c0, c1, c2, c3, c4, c5, c6, c7, c8, c9, c10⟩ := cells11 h
  have f4 := frozen_of_row _ _ 4 _ _ h
  have f5 := frozen_of_row _ _ 5 _ _ h
  clear h hT hg0 hg1
  by_cases hm : m = 5
  · subst hm
    have HS : Hid (_ = _) := heap_set HH.out 4 (.int .i64 n)
    go_enter Tryd.func43, Tryd.ntmps43
    go_wp2_with fail
    refine (isShort_any n _ HT.out).mono ?_
    rintro e x1 ⟨rfl, hb⟩
    have HX : Hid (_ = _) := heap_keep HS.out hb
    have HB1 : Hid (Below B w x1) := ((Below.refl B w).setCell (p := ⟨B, 4, none⟩) (Nat.le_refl _) _).trans (hb.mono (Nat.le_of_lt (heap_lt HS.out)))
    have HX2 : Hid (_ = _) := HX.out
    simp only [List.setIfInBounds_toArray, List.set_cons_zero, List.set_cons_succ] at HX2
    clear hb c0 c1 c2 c3 c4 c5 c6 c7 c8 c9 c10 f4 f5
    obtain ⟨c0, c1, c2, c3, c4, c5, c6, c7, c8, c9, c10⟩ := cells11 HX2.out
    have f5 := frozen_of_row _ _ 5 _ _ HX2.out
    go_wp2
    go_end0
    refine ⟨rfl, ?_, HB1.out.setCell (Nat.le_refl _) _⟩
    have k := heap_set HX2.out 5 (.bool (shortI n).2.2)
    simp only [List.setIfInBounds_toArray, List.set_cons_zero, List.set_cons_succ] at k
    simpa using k
  · have hm' : (m == 5) = false := by rw [beq_eq_false_iff_ne]; exact hm
    clear hm
    go_enter Tryd.func43, Tryd.ntmps43
    go_wp2
    go_end0
    refine ⟨rfl, ?_, ((Below.refl B w).setCell (p := ⟨B, 4, none⟩) (Nat.le_refl _) _).setCell (Nat.le_refl _) _⟩
    have k := heap_set (heap_set HH.out 4 (.int .i64 n)) 5 (.bool false)
    simp only [List.setIfInBounds_toArray, List.set_cons_zero, List.set_cons_succ] at k
    rw [hm']
    exact k
set_option maxRecDepth 100000 in
set_option maxHeartbeats 1600000 in
theorem takeWord_dst (B : Nat) (v0 v1 v2 v3 v4 v5 v10 : Value) (m r n0 n : Int) (l0 : Bool) (w : World) (h : w.heap[B]? = some (.cells #[v0, v1, v2, v3, v4, v5, .int .i64 m, .int .i64 r, .int .i64 n0, .bool l0, v10] 45 (0, 0))) (hg0 : 0 ≠ B) (hg1 : 1 ≠ B) (hT : Tabs w) :
    Calls Tryd.prog 43 #[.pointer (some ⟨B, 6, none⟩), .int .i64 n] w fun e w' => e = .returned (.tuple #[]) ∧ w'.heap[B]? = some (.cells #[v0, v1, v2, v3, v4, v5, .int .i64 m, .int .i64 r, .int .i64 n, .bool (m == 5 && (shortI n).2.2), v10] 45 (0, 0)) ∧ Below B w w' := by
  have HH : Hid (_ = _) := h
  have HT : Hid (_) := hT.set hg0 hg1 ⟨B, 8, none⟩ (.int .i64 n) rfl
  obtain ⟨c0, c1, c2, c3, c4, c5, c6, c7, c8, c9, c10⟩ := cells11 h
  have f4 := frozen_of_row _ _ 8 _ _ h
  have f5 := frozen_of_row _ _ 9 _ _ h
  clear h hT hg0 hg1
  by_cases hm : m = 5
  · subst hm
    have HS : Hid (_ = _) := heap_set HH.out 8 (.int .i64 n)
    go_enter Tryd.func43, Tryd.ntmps43
    go_wp2_with fail
    refine (isShort_any n _ HT.out).mono ?_
    rintro e x1 ⟨rfl, hb⟩
    have HX : Hid (_ = _) := heap_keep HS.out hb
    have HB1 : Hid (Below B w x1) := ((Below.refl B w).setCell (p := ⟨B, 8, none⟩) (Nat.le_refl _) _).trans (hb.mono (Nat.le_of_lt (heap_lt HS.out)))
    have HX2 : Hid (_ = _) := HX.out
    simp only [List.setIfInBounds_toArray, List.set_cons_zero, List.set_cons_succ] at HX2
    clear hb c0 c1 c2 c3 c4 c5 c6 c7 c8 c9 c10 f4 f5
    obtain ⟨c0, c1, c2, c3, c4, c5, c6, c7, c8, c9, c10⟩ := cells11 HX2.out
    have f5 := frozen_of_row _ _ 9 _ _ HX2.out
    go_wp2
    go_end0
    refine ⟨rfl, ?_, HB1.out.setCell (Nat.le_refl _) _⟩
    have k := heap_set HX2.out 9 (.bool (shortI n).2.2)
    simp only [List.setIfInBounds_toArray, List.set_cons_zero, List.set_cons_succ] at k
    simpa using k
  · have hm' : (m == 5) = false := by rw [beq_eq_false_iff_ne]; exact hm
    clear hm
    go_enter Tryd.func43, Tryd.ntmps43
    go_wp2
    go_end0
    refine ⟨rfl, ?_, ((Below.refl B w).setCell (p := ⟨B, 8, none⟩) (Nat.le_refl _) _).setCell (Nat.le_refl _) _⟩
    have k := heap_set (heap_set HH.out 8 (.int .i64 n)) 9 (.bool false)
    simp only [List.setIfInBounds_toArray, List.set_cons_zero, List.set_cons_succ] at k
    rw [hm']
    exact k
end Go.Proofs.YtknielpkmablkaaDoor
namespace Go.Proofs.YtknielpkmablkaaDoor
open Go.RowKit

theorem cells4h {W : World} {B : Nat} {t : TypeId} {fr : Nat × Nat} {v0 v1 v2 v3 : Value} (h : W.heap[B]? = some (.cells #[v0, v1, v2, v3] t fr)) :
    W.cell? ⟨B, 0, none⟩ = some v0 ∧ W.cell? ⟨B, 1, none⟩ = some v1 ∧ W.cell? ⟨B, 2, none⟩ = some v2 ∧ W.cell? ⟨B, 3, none⟩ = some v3 := by
  refine ⟨?_, ?_, ?_, ?_⟩ <;> simp [World.cell?, h]
def asI (m r n : Int) (l : Bool) : Int × Int × Bool :=
  if m = 0 then (0, r, false) else if m = 1 then (1, r, true) else if m = 2 then (1, 2, true) else if m = 3 then (2, r, false) else if m = 4 then (3, r, false)
  else if (shortI n).2.2 && !l then ((shortI n).1, (shortI n).2.1, false) else (3, 0, true)
set_option maxHeartbeats 400000 in
theorem hasWord_any (m r n : Int) (l : Bool) (w : World) (h0 : 0 ≤ m) (h5 : m ≤ 5) (hT : Tabs w) : Calls Tryd.prog 42 #[.agg #[.int .i64 m, .int .i64 r, .int .i64 n, .bool l]] w fun e w' => e = .returned (.bool (asI m r n l).2.2) ∧ Below w.heap.size w w' := by
  have HT : Hid (∀ o, Tabs (w.alloc o)) := fun o => hT.alloc o
  clear hT
  by_cases hm : m = 5
  · subst hm
    have HA : Hid ((asI 5 r n l).2.2 = (l || !(shortI n).2.2)) := by
      show _ = _
      cases h : (shortI n).2.2 <;> cases l <;> simp [asI, h]
    generalize (asI 5 r n l).2.2 = y at *
    cases l
    · go_enter Tryd.func42, Tryd.ntmps42
      go_wp2_with fail
      refine (isShort_any n _ (HT.out _)).mono ?_
      rintro e w1 ⟨rfl, hb⟩
      go_wp2
      go_ret
      exact ⟨ret_bool (by rw [HA.out]; rfl), below_call (below_new _ _) hb⟩
    · go_enter Tryd.func42, Tryd.ntmps42
      go_wp2
      go_ret
      exact ⟨ret_bool (by rw [HA.out]; rfl), below_new _ _⟩
  · obtain rfl | rfl | rfl | rfl | rfl : m = 0 ∨ m = 1 ∨ m = 2 ∨ m = 3 ∨ m = 4 := by omega
    all_goals
      go_enter Tryd.func42, Tryd.ntmps42
      go_wp2
      go_ret
      exact ⟨rfl, below_new _ _⟩
end Go.Proofs.YtknielpkmablkaaDoor
