/- Instructions: the words of one, by the specification. -/
import Derived.Test.YtdokiccfjbieiaeDoorRows
import Derived.WalkKit
import Derived.WalkSpells
import Derived.WalkLawsBesides
import Derived.RegionTactic
import Derived.BigRegion
import Derived.Outline
import Derived.Deep.RegionHeld3
import Derived.Test.YtdokiccfjbieiaeDoorBase
import Derived.Test.YtdokiccfjbieiaeDoorRes2
import Derived.Test.YtdokiccfjbieiaeDoorOwn
import Derived.Test.YtdokiccfjbieiaeDoorIsaP
import Derived.Test.YtdokiccfjbieiaeDoorIsaE4
namespace Go.Proofs.YtdokiccfjbieiaeDoor
open Go.RowKit
set_option linter.unusedVariables false

theorem own_one {w x : World} {g : Nat} (h : Below w.heap.size w x) (hg : x.heap.size = g) {f f' : Int} (hf : f = f') : OwnI (x.alloc (.cells #[.int .i64 f] 2)) w.heap.size (.slice (some ⟨g, 0, none⟩) 1 1) [f'] := by
  subst hg hf
  exact OwnI.mk (L := [f]) h.size (heap_alloc_new x _) (by simp) (by simp [maxLen]) rfl (fun i hi => by obtain rfl : i = 0 := (by simpa using hi); rfl)
set_option maxRecDepth 100000 in
set_option maxHeartbeats 4000000 in
theorem specEnc_reti (op : ByteArray) (b : Bool) (m r n : Int) (l : Bool) (m2 r2 n2 : Int) (l2 : Bool) (j : Int) (w : World) (h3 : (op.toList == [114, 101, 116, 105]) = true) :
    Calls Tryd.prog 40 #[.agg #[.string op, .bool b, .int .i64 m, .int .i64 r, .int .i64 n, .bool l, .int .i64 m2, .int .i64 r2, .int .i64 n2, .bool l2, .int .i64 j]] w fun e w' => ∃ v, e = .returned v ∧ OwnI w' w.heap.size v [4864] ∧ Below w.heap.size w w' := by
  go_enter Tryd.func40, Tryd.ntmps40
  go_wp2
  go_ret
  exact ⟨_, rfl, own_one (below_new _ _) (by simp) rfl, below_more (below_new _ _) _⟩
set_option maxRecDepth 100000 in
set_option maxHeartbeats 4000000 in
theorem specEnc_jump (k2 : Int) (op : ByteArray) (b : Bool) (m r n : Int) (l : Bool) (m2 r2 n2 : Int) (l2 : Bool) (j : Int) (w : World) (HK2 : Hid (atI jumpsL op = k2)) (h3 : (op.toList == [114, 101, 116, 105]) = false) (h2 : 0 ≤ k2) (h7 : k2 ≤ 7) (hj0 : -512 ≤ j) (hj1 : j ≤ 511) :
    Calls Tryd.prog 40 #[.agg #[.string op, .bool b, .int .i64 m, .int .i64 r, .int .i64 n, .bool l, .int .i64 m2, .int .i64 r2, .int .i64 n2, .bool l2, .int .i64 j]] w fun e w' => ∃ v, e = .returned v ∧ OwnI w' w.heap.size v [8192 + 1024 * k2 + j % 1024] ∧ Below w.heap.size w w' := by
  go_enter Tryd.func40, Tryd.ntmps40
  go_wp2_with fail
  have HI0 : Hid (_ = _) := heap_alloc_new w (.cells #[.string op, .bool b, .int .i64 m, .int .i64 r, .int .i64 n, .bool l, .int .i64 m2, .int .i64 r2, .int .i64 n2, .bool l2, .int .i64 j] 30)
  have HB0 : Hid (Below w.heap.size w _) := below_new w (.cells #[.string op, .bool b, .int .i64 m, .int .i64 r, .int .i64 n, .bool l, .int .i64 m2, .int .i64 r2, .int .i64 n2, .bool l2, .int .i64 j] 30)
  generalize w.alloc (.cells #[.string op, .bool b, .int .i64 m, .int .i64 r, .int .i64 n, .bool l, .int .i64 m2, .int .i64 r2, .int .i64 n2, .bool l2, .int .i64 j] 30) = x0 at *
  obtain ⟨c0, c1, c2, c3, c4, c5, c6, c7, c8, c9, c10⟩ := cells11 HI0.out
  go_region_held3 (fun w' => w'.cell? ⟨w.heap.size, 0, none⟩ = some (.string op)) (go_keep) (first
    | (go_at_call 31; refine (jumps_b _).mono ?_; rintro e x1 ⟨rfl, HT, hb⟩; have HI1 : Hid (_ = _) := heap_keep (by exact HI0.out) hb; obtain ⟨d0, d1, d2, d3, d4, d5, d6, d7, d8, d9, d10⟩ := cells11 HI1.out; have HB1 : Hid (Below w.heap.size w x1) := below_call (by exact HB0.out.drew) hb; clear hb c0 c1 c2 c3 c4 c5 c6 c7 c8 c9 c10)
    | (go_at_call 27; refine (at_row jumpsL op k2 HK2.out _ 8 _ 9 rfl (by omega) HT.out).mono ?_; rintro e x2 ⟨rfl, rfl⟩))
  go_wp2
  go_ret
  exact ⟨_, rfl, own_one HB1.out rfl (by omega), below_more HB1.out _⟩
end Go.Proofs.YtdokiccfjbieiaeDoor
