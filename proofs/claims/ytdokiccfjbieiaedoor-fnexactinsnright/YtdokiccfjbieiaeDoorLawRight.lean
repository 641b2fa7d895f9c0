/- The walk of FnExactInsnRight. -/
import Derived.Test.YtdokiccfjbieiaeDoorRows
import Derived.WalkKit
import Derived.WalkSpells
import Derived.WalkLawsBesides
import Derived.Outline
import Derived.Test.YtdokiccfjbieiaeDoorBase
import Derived.Test.YtdokiccfjbieiaeDoorRes
import Derived.Test.YtdokiccfjbieiaeDoorIsa3
import Derived.Test.YtdokiccfjbieiaeDoorIsaK
import Derived.Test.YtdokiccfjbieiaeDoorIsaP
import Derived.Test.YtdokiccfjbieiaeDoorToInsn
namespace Go.Proofs.YtdokiccfjbieiaeDoor
open Go.RowKit

set_option maxRecDepth 100000 in
set_option maxHeartbeats 1600000 in
theorem lawRight_walk (op : ByteArray) (b : Bool) (m r n : Int) (l : Bool) (m2 r2 n2 : Int) (l2 : Bool) (j : Int) (w : World) (w0 : op.size ≤ maxLen) (hT : Tabs w) :
    Calls Tryd.prog 3 #[.agg #[.string op, .bool b, .int .i64 m, .int .i64 r, .int .i64 n, .bool l, .int .i64 m2, .int .i64 r2, .int .i64 n2, .bool l2, .int .i64 j]] w fun e w' => e = .returned (.bool true) ∧ Below w.heap.size w w' := by
  have HT : Hid (_) := hT
  clear hT
  by_cases hbig : 1048576 < op.size
  · go_enter Tryd.func3, Tryd.ntmps3
    go_wp2_with fail
    refine (szInsn_any op _ _ _ _ _ _ _ _ _ _ 1048576 _ w0 (by omega) (by omega)).mono ?_
    rintro e x1 ⟨rfl, hb⟩
    rw [if_pos (by omega)]
    go_wp2
    go_ret
    exact ⟨rfl, below_call (below_new _ _) hb⟩
  · have hnb : ¬ ((1048576 : Int) - op.size < 0) := by omega
    go_enter Tryd.func3, Tryd.ntmps3
    go_wp2_with fail
    refine (szInsn_any op _ _ _ _ _ _ _ _ _ _ 1048576 _ w0 (by omega) (by omega)).mono ?_
    rintro e x1 ⟨rfl, hb⟩
    rw [if_neg (by omega)]
    have HI1 : Hid (_ = _) := heap_keep (heap_alloc_new w _) hb
    have HB1 : Hid (Below w.heap.size w x1) := below_call (below_new _ _) hb
    clear hb
    obtain ⟨c0, c1, c2, c3, c4, c5, c6, c7, c8, c9, c10⟩ := cells11 HI1.out
    go_wp2_with fail
    refine (toInsn_any op b m r n l m2 r2 n2 l2 j _).mono ?_
    rintro e x2 ⟨rfl, hb⟩
    have HI2 : Hid (_ = _) := heap_keep HI1.out hb
    have HB2 : Hid (Below w.heap.size w x2) := below_call HB1.out hb
    clear hb c0 c1 c2 c3 c4 c5 c6 c7 c8 c9 c10
    obtain ⟨c0, c1, c2, c3, c4, c5, c6, c7, c8, c9, c10⟩ := cells11 HI2.out
    go_wp2_with fail
    refine (specRight_any op b m r n l m2 r2 n2 l2 j _).mono ?_
    rintro e x3 ⟨rfl, hb⟩
    have HI3 : Hid (_ = _) := heap_keep HI2.out hb
    have HB3 : Hid (Below w.heap.size w x3) := below_call HB2.out hb
    clear hb c0 c1 c2 c3 c4 c5 c6 c7 c8 c9 c10
    obtain ⟨c0, c1, c2, c3, c4, c5, c6, c7, c8, c9, c10⟩ := cells11 HI3.out
    go_wp2_with fail
    refine (toInsn_any op b m r n l m2 r2 n2 l2 j _).mono ?_
    rintro e x4 ⟨rfl, hb⟩
    have HB4 : Hid (Below w.heap.size w x4) := below_call HB3.out hb
    clear hb c0 c1 c2 c3 c4 c5 c6 c7 c8 c9 c10
    go_wp2_with fail
    refine (implRight_any op b m r n l m2 r2 n2 l2 j _ (HT.out.below HB4.out)).mono ?_
    rintro e x5 ⟨rfl, hb⟩
    go_wp2
    go_ret
    exact ⟨rfl, below_call HB4.out hb⟩
end Go.Proofs.YtdokiccfjbieiaeDoor
