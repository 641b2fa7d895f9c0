/- Instructions: the first word, by the program. -/
import Derived.Test.YtdokiccfjbieiaeDoorRows
import Derived.WalkKit
import Derived.WalkSpells
import Derived.WalkLawsBesides
import Derived.Outline
import Derived.RegionTactic
import Derived.BigRegion
import Derived.Deep.RegionHeld3
import Derived.Laws.Bits128
import Derived.Test.YtdokiccfjbieiaeDoorBase
import Derived.Test.YtdokiccfjbieiaeDoorRes
import Derived.Test.YtdokiccfjbieiaeDoorIsa3
import Derived.Test.YtdokiccfjbieiaeDoorIsaE1
namespace Go.Proofs.YtdokiccfjbieiaeDoor
open Go.RowKit

theorem i64_and1023 (n : Int) : bits .and .i64 n 1023 = n % 1024 := by
  have h127 : (BitVec.ofInt 64 1023).toNat = 2 ^ 10 - 1 := by decide
  have key : (BitVec.ofInt 64 n &&& BitVec.ofInt 64 1023).toNat = (n % ((2 ^ 64 : Nat) : Int)).toNat % 2 ^ 10 := by
    rw [BitVec.toNat_and, BitVec.toNat_ofInt, h127, Nat.and_two_pow_sub_one_eq_mod]
  show IntKind.i64.wrap ((BitVec.ofInt 64 n &&& BitVec.ofInt 64 1023).toNat : Nat) = n % 1024
  rw [key, IntKind.wrap_i64]
  omega
theorem wr (x : Int) (h0 : -1000000 ≤ x) (h1 : x ≤ 1000000) : IntKind.i64.wrap x = x := by
  rw [IntKind.wrap_i64]; omega
def markI (b : Bool) : Int := if b then 64 else 0
theorem byteMark_any (op : ByteArray) (b : Bool) (m r n : Int) (l : Bool) (m2 r2 n2 : Int) (l2 : Bool) (j : Int) (w : World) :
    Calls Tryd.prog 66 #[.agg #[.string op, .bool b, .int .i64 m, .int .i64 r, .int .i64 n, .bool l, .int .i64 m2, .int .i64 r2, .int .i64 n2, .bool l2, .int .i64 j]] w fun e w' => e = .returned (.int .i64 (markI b)) ∧ Below w.heap.size w w' := by
  cases b
  all_goals
    go_enter Tryd.func66, Tryd.ntmps66
    go_wp2
    go_ret
    exact ⟨rfl, below_new _ _⟩
set_option maxRecDepth 100000 in
set_option maxHeartbeats 1600000 in
theorem firstOfJump_any (op : ByteArray) (b : Bool) (m r n : Int) (l : Bool) (m2 r2 n2 : Int) (l2 : Bool) (j : Int) (k : Int) (w : World) (hk0 : 0 ≤ k) (hk1 : k ≤ 7) :
    Calls Tryd.prog 43 #[.agg #[.string op, .bool b, .int .i64 m, .int .i64 r, .int .i64 n, .bool l, .int .i64 m2, .int .i64 r2, .int .i64 n2, .bool l2, .int .i64 j], .int .i64 k] w fun e w' => e = .returned (.int .i64 (8192 + 1024 * k + j % 1024)) ∧ Below w.heap.size w w' := by
  have hand := i64_and1023 j
  have h0 : 0 ≤ j % 1024 := by omega
  have h1 : j % 1024 < 1024 := by omega
  generalize j % 1024 = y at *
  go_enter Tryd.func43, Tryd.ntmps43
  go_wp2
  go_ret
  exact ⟨ret_int rfl, below_new _ _⟩
set_option maxRecDepth 100000 in
set_option maxHeartbeats 1600000 in
theorem firstOfOne_any (op : ByteArray) (b : Bool) (m r n : Int) (l : Bool) (m2 r2 n2 : Int) (l2 : Bool) (j : Int) (k a1 a2 : Int) (w : World) (hk0 : 0 ≤ k) (hk1 : k ≤ 7) (h0 : 0 ≤ m) (h5 : m ≤ 5) (H1 : Hid ((asI m r n l).1 = a1)) (H2 : Hid ((asI m r n l).2.1 = a2)) (ha0 : 0 ≤ a1) (ha1 : a1 ≤ 3) (hb0 : 0 ≤ a2) (hb1 : a2 ≤ 15) (hT : Tabs w) :
    Calls Tryd.prog 42 #[.agg #[.string op, .bool b, .int .i64 m, .int .i64 r, .int .i64 n, .bool l, .int .i64 m2, .int .i64 r2, .int .i64 n2, .bool l2, .int .i64 j], .int .i64 k] w fun e w' => e = .returned (.int .i64 (4096 + 128 * k + markI b + 16 * a1 + a2)) ∧ Below w.heap.size w w' := by
  have HT : Hid (∀ o, Tabs (w.alloc o)) := fun o => hT.alloc o
  clear hT
  go_enter Tryd.func42, Tryd.ntmps42
  go_wp2_with fail
  refine (inFirst_any m r n l _ h0 h5 (HT.out _)).mono ?_
  rintro e x1 ⟨rfl, hb⟩
  rw [H1.out, H2.out]
  have HI : Hid (_ = _) := heap_keep (heap_alloc_new w _) hb
  have HB : Hid (Below w.heap.size w x1) := below_call (below_new _ _) hb
  clear hb
  obtain ⟨c0, c1, c2, c3, c4, c5, c6, c7, c8, c9, c10⟩ := cells11 HI.out
  have hz := heap_lt HI.out
  have hm0 : 0 ≤ markI b := by cases b <;> simp [markI]
  have hm1 : markI b ≤ 64 := by cases b <;> simp [markI]
  have e1 := wr (128 * k) (by omega) (by omega)
  have e2 := wr (4096 + 128 * k) (by omega) (by omega)
  have e3 := wr (4096 + 128 * k + markI b) (by omega) (by omega)
  have e4 := wr (16 * a1) (by omega) (by omega)
  have e5 := wr (4096 + 128 * k + markI b + 16 * a1) (by omega) (by omega)
  have e6 := wr (4096 + 128 * k + markI b + 16 * a1 + a2) (by omega) (by omega)
  go_wp2_with fail
  go_region_held3 (fun w' => (w'.cell? ⟨w.heap.size, 0, none⟩ = some (.string op) ∧ w'.cell? ⟨w.heap.size, 1, none⟩ = some (.bool b) ∧ w'.cell? ⟨w.heap.size, 2, none⟩ = some (.int .i64 m) ∧ w'.cell? ⟨w.heap.size, 3, none⟩ = some (.int .i64 r) ∧ w'.cell? ⟨w.heap.size, 4, none⟩ = some (.int .i64 n) ∧ w'.cell? ⟨w.heap.size, 5, none⟩ = some (.bool l) ∧ w'.cell? ⟨w.heap.size, 6, none⟩ = some (.int .i64 m2) ∧ w'.cell? ⟨w.heap.size, 7, none⟩ = some (.int .i64 r2) ∧ w'.cell? ⟨w.heap.size, 8, none⟩ = some (.int .i64 n2) ∧ w'.cell? ⟨w.heap.size, 9, none⟩ = some (.bool l2) ∧ w'.cell? ⟨w.heap.size, 10, none⟩ = some (.int .i64 j)) ∧ w'.cell? ⟨x1.heap.size, 0, none⟩ = some (.int .i64 a1) ∧ w'.cell? ⟨x1.heap.size, 1, none⟩ = some (.int .i64 a2)) (go_keep) (first
    | (go_at_call 66; refine (byteMark_any op b m r n l m2 r2 n2 l2 j _).mono ?_; rintro e x2 ⟨rfl, hb⟩; have HI2 : Hid (_ = _) := heap_keep (by exact heap_more HI.out _) hb; have HR2 : Hid (_ = _) := heap_keep (by exact heap_alloc_new x1 _) hb; have HB2 : Hid (Below w.heap.size w x2) := below_call (by exact (below_more HB.out _).drew) hb; obtain ⟨d0, d1, d2, d3, d4, d5, d6, d7, d8, d9, d10⟩ := cells11 HI2.out; obtain ⟨q0, q1, f0, f1⟩ := two_cells HR2.out; clear hb c0 c1 c2 c3 c4 c5 c6 c7 c8 c9 c10))
  go_wp2
  go_ret
  exact ⟨rfl, HB2.out⟩
end Go.Proofs.YtdokiccfjbieiaeDoor
