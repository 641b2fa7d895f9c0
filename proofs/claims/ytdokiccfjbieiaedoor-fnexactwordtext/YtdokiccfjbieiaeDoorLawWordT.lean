/- The walk of FnExactWordText. -/
import Derived.Test.YtdokiccfjbieiaeDoorRows
import Derived.WalkKit
import Derived.WalkSpells
import Derived.WalkLawsBesides
import Derived.Outline
import Derived.Test.YtdokiccfjbieiaeDoorBase
import Derived.Test.YtdokiccfjbieiaeDoorRes
import Derived.Test.YtdokiccfjbieiaeDoorWordB
namespace Go.Proofs.YtdokiccfjbieiaeDoor
open Go.RowKit
set_option linter.unusedVariables false

set_option maxRecDepth 100000 in
set_option maxHeartbeats 1600000 in
theorem szWord_any (nm : ByteArray) (v1 : Value) (left : Int) (w : World) (hs : nm.size ≤ maxLen) (h0 : 0 ≤ left) (h1 : left ≤ 1048576) :
    Calls Tryd.prog 21 #[.agg #[.string nm, v1], .int .i64 left] w fun e w' => e = .returned (.int .i64 (if left < nm.size then -1 else left - nm.size)) ∧ Below w.heap.size w w' := by
  unfold maxLen at hs
  by_cases h : left < nm.size
  · rw [if_pos h]
    have h' : left - nm.size < 0 := by omega
    go_enter Tryd.func21, Tryd.ntmps21
    go_wp2
    go_ret
    exact ⟨rfl, (Below.refl _ _).alloc (Nat.le_refl _) _⟩
  · rw [if_neg h]
    have h' : ¬ left - nm.size < 0 := by omega
    go_enter Tryd.func21, Tryd.ntmps21
    go_wp2
    go_ret
    exact ⟨rfl, (Below.refl _ _).alloc (Nat.le_refl _) _⟩
set_option maxRecDepth 100000 in
set_option maxHeartbeats 1600000 in
theorem toWord_any (nm : ByteArray) (n : Int) (w : World) : Calls Tryd.prog 23 #[.agg #[.string nm, .int .i64 n]] w fun e w' => e = .returned (.agg #[.string nm, .int .i64 n]) ∧ Below w.heap.size w w' := by
  go_enter Tryd.func23, Tryd.ntmps23
  go_wp2
  refine bodyPost_ret (results_cell_row Tryd.results23 _ _ (w.heap.size + 1) 47 #[.string nm, .int .i64 n] (0, 0) _ rfl (heap_more (heap_new2 _ _ _) _) Tryd.underlying47 rfl (by kernel_rfl)) rfl ⟨rfl, ?_⟩
  repeat (first | exact Below.refl _ _ | refine below_more ?_ _)
set_option maxRecDepth 100000 in
set_option maxHeartbeats 1600000 in
theorem lawWordT_walk (nm : ByteArray) (n : Int) (w : World) (w0 : nm.size ≤ maxLen) (hP : Pow w) :
    Calls Tryd.prog 6 #[.agg #[.string nm, .int .i64 n]] w fun e w' => e = .returned (.bool true) ∧ Below w.heap.size w w' := by
  have HP : Hid (Pow w) := hP
  clear hP
  by_cases hbig : 1048576 < nm.size
  · go_enter Tryd.func6, Tryd.ntmps6
    go_wp2_with fail
    refine (szWord_any nm _ 1048576 _ w0 (by omega) (by omega)).mono ?_
    rintro e x1 ⟨rfl, hb⟩
    rw [if_pos (by omega)]
    go_wp2
    go_ret
    exact ⟨rfl, below_call (below_new _ _) hb⟩
  · have hnb : ¬ ((1048576 : Int) - nm.size < 0) := by omega
    go_enter Tryd.func6, Tryd.ntmps6
    go_wp2_with fail
    refine (szWord_any nm _ 1048576 _ w0 (by omega) (by omega)).mono ?_
    rintro e x1 ⟨rfl, hb⟩
    rw [if_neg (by omega)]
    have HI1 : Hid (_ = _) := heap_keep (heap_alloc_new w _) hb
    have HB1 : Hid (Below w.heap.size w x1) := below_call (below_new _ _) hb
    clear hb
    obtain ⟨c0, c1, _, _⟩ := two_cells HI1.out
    go_wp2_with fail
    refine (toWord_any nm n _).mono ?_
    rintro e x2 ⟨rfl, hb⟩
    have HI2 : Hid (_ = _) := heap_keep HI1.out hb
    have HB2 : Hid (Below w.heap.size w x2) := below_call HB1.out hb
    clear hb c0 c1
    obtain ⟨c0, c1, _, _⟩ := two_cells HI2.out
    go_wp2_with fail
    refine (specWordText_any nm n _ w0).mono ?_
    rintro e x3 ⟨rfl, hb⟩
    have HI3 : Hid (_ = _) := heap_keep HI2.out hb
    have HB3 : Hid (Below w.heap.size w x3) := below_call HB2.out hb
    clear hb c0 c1
    obtain ⟨c0, c1, _, _⟩ := two_cells HI3.out
    go_wp2_with fail
    refine (toWord_any nm n _).mono ?_
    rintro e x4 ⟨rfl, hb⟩
    have HB4 : Hid (Below w.heap.size w x4) := below_call HB3.out hb
    clear hb c0 c1
    go_wp2_with fail
    refine (implWordText_any nm n _ w0 (HP.out.below HB4.out)).mono ?_
    rintro e x5 ⟨rfl, hb⟩
    go_wp2
    go_ret
    exact ⟨rfl, below_call HB4.out hb⟩
end Go.Proofs.YtdokiccfjbieiaeDoor
