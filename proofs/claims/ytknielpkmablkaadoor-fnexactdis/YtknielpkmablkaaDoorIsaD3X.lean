/- Instructions: an Insn out of a first word, by the program. -/
import Derived.Test.YtknielpkmablkaaDoorRows
import Derived.WalkKit
import Derived.WalkSpells
import Derived.WalkLawsBesides
import Derived.Outline
import Derived.RegionTactic
import Derived.BigRegion
import Derived.Deep.RegionHeld3
import Derived.Laws.Bits128
import Derived.Test.YtknielpkmablkaaDoorBun0
import Derived.Test.YtknielpkmablkaaDoorBun1
import Derived.Test.YtknielpkmablkaaDoorIsaD1X
import Derived.Test.YtknielpkmablkaaDoorIsaE2X
import Derived.Test.YtknielpkmablkaaDoorBun4
namespace Go.Proofs.YtknielpkmablkaaDoor
open Go.RowKit
set_option linter.unusedVariables false

theorem ret_insn {op : Value} {a b c d e f g h i : Value} {j j' : Int} (hj : j = j') : Ending.returned (.agg #[op, a, b, c, d, e, f, g, h, i, .int .i64 j]) = .returned (.agg #[op, a, b, c, d, e, f, g, h, i, .int .i64 j']) := by rw [hj]
theorem set_eleven {W : World} {g : Nat} {z0 z1 z2 z3 z4 z5 z6 z7 z8 z9 z10 a0 a1 a2 a3 a4 a5 a6 a7 a8 a9 a10 : Value} {t : TypeId} (h : W.heap[g]? = some (.cells #[z0, z1, z2, z3, z4, z5, z6, z7, z8, z9, z10] t (0, 0))) : (((((((((((W.setCell ⟨g, 0, none⟩ a0).setCell ⟨g, 1, none⟩ a1).setCell ⟨g, 2, none⟩ a2).setCell ⟨g, 3, none⟩ a3).setCell ⟨g, 4, none⟩ a4).setCell ⟨g, 5, none⟩ a5).setCell ⟨g, 6, none⟩ a6).setCell ⟨g, 7, none⟩ a7).setCell ⟨g, 8, none⟩ a8).setCell ⟨g, 9, none⟩ a9).setCell ⟨g, 10, none⟩ a10).heap[g]? = some (.cells #[a0, a1, a2, a3, a4, a5, a6, a7, a8, a9, a10] t (0, 0)) := by
  have k := (heap_set (heap_set (heap_set (heap_set (heap_set (heap_set (heap_set (heap_set (heap_set (heap_set (heap_set h 0 a0) 1 a1) 2 a2) 3 a3) 4 a4) 5 a5) 6 a6) 7 a7) 8 a8) 9 a9) 10 a10)
  simp only [List.setIfInBounds_toArray, List.set_cons_zero, List.set_cons_succ] at k
  exact k
theorem below_eleven {B : Nat} {v W : World} {g : Nat} {a0 a1 a2 a3 a4 a5 a6 a7 a8 a9 a10 : Value} (hg : B ≤ g) (h : Below B v W) : Below B v (((((((((((W.setCell ⟨g, 0, none⟩ a0).setCell ⟨g, 1, none⟩ a1).setCell ⟨g, 2, none⟩ a2).setCell ⟨g, 3, none⟩ a3).setCell ⟨g, 4, none⟩ a4).setCell ⟨g, 5, none⟩ a5).setCell ⟨g, 6, none⟩ a6).setCell ⟨g, 7, none⟩ a7).setCell ⟨g, 8, none⟩ a8).setCell ⟨g, 9, none⟩ a9).setCell ⟨g, 10, none⟩ a10) :=
  (((((((((((h.setCell hg a0).setCell hg a1).setCell hg a2).setCell hg a3).setCell hg a4).setCell hg a5).setCell hg a6).setCell hg a7).setCell hg a8).setCell hg a9).setCell hg a10)
theorem ret_insnb {op : Value} {x x' : Bool} {b c d e f g h i j : Value} (hj : x = x') : Ending.returned (.agg #[op, .bool x, b, c, d, e, f, g, h, i, j]) = .returned (.agg #[op, .bool x', b, c, d, e, f, g, h, i, j]) := by rw [hj]
theorem quo_in (x y : Int) (h0 : 0 ≤ x) (h1 : x ≤ 65535) (hy : 1 ≤ y) : IntKind.i64.wrap (x.tdiv y) = x / y := IntWalk.i64_quo x y ⟨h0, by omega, hy⟩
theorem rem_in (x y : Int) (h0 : 0 ≤ x) : x.tmod y = x % y := Int.tmod_eq_emod_of_nonneg h0
theorem rem_wr (x y : Int) (h0 : 0 ≤ x) (hy : 1 ≤ y) (h2 : y ≤ 65536) : IntKind.i64.wrap (x.tmod y) = x % y := by
  rw [rem_in x y h0]
  have h3 := Int.emod_nonneg x (show y ≠ 0 by omega)
  have h4 := Int.emod_lt_of_pos x (show 0 < y by omega)
  exact wr _ (by omega) (by omega)
theorem and64 (n : Int) (h0 : 0 ≤ n) (h1 : n ≤ 65535) : (bits .and .i64 n 64 != 0) = (n / 64 % 2 == 1) := by
  have hk : (64 : Int) = 2 ^ 6 := by decide
  obtain ⟨a, rfl⟩ := Int.eq_ofNat_of_zero_le h0
  have h := (bits_nat .i64 16 (by decide) (fun x hx0 hx1 => by rw [IntKind.wrap_i64]; omega) a 64 (by omega) (by omega)).1
  rw [show ((64 : Nat) : Int) = 64 from rfl] at h
  rw [h]
  have e : a &&& 64 = (a / 64 % 2) * 64 := by
    have h127 : a &&& 127 = a % 128 := Nat.and_two_pow_sub_one_eq_mod a 7
    have hd : ∀ r : Fin 128, r.1 &&& 64 = (r.1 / 64 % 2) * 64 := by decide +kernel
    have h2 := hd ⟨a % 128, by omega⟩
    simp only at h2
    have h3 : a &&& 64 = (a &&& 127) &&& 64 := by rw [Nat.and_assoc]; rfl
    rw [h3, h127, h2]
    congr 1
    omega
  rw [e]
  have : a / 64 % 2 = 0 ∨ a / 64 % 2 = 1 := by omega
  have c : ((a : Int) / 64 % 2) = ((a / 64 % 2 : Nat) : Int) := by omega
  rw [c]
  rcases this with h2 | h2 <;> simp [h2]
set_option maxRecDepth 100000 in
set_option maxHeartbeats 3200000 in
theorem insnOf_jump (word : Int) (K : Nat) (op : ByteArray) (w : World) (h0 : 8192 ≤ word) (h1 : word < 16384) (hK : word / 1024 % 8 = (K : Int)) (hK8 : K < 8) (hc : w.cell? ⟨0, 32 + K, none⟩ = some (.string op)) :
    Calls Tryd.prog 40 #[.int .i64 word] w fun e w' => e = .returned (.agg #[.string op, .bool false, .int .i64 0, .int .i64 0, .int .i64 0, .bool false, .int .i64 0, .int .i64 0, .int .i64 0, .bool false, .int .i64 ((word + 512) % 1024 - 512)]) ∧ Below w.heap.size w w' := by
  have hn : ¬ 16384 ≤ word := by omega
  have hlt := World.block_lt_of_cell? w _ hc
  go_enter Tryd.func40, Tryd.ntmps40
  go_wp2
  exact bodyPost_ret (results_cell_row Tryd.results40 _ _ w.heap.size 45 _ (0, 0) _ rfl (heap_alloc_new _ _) Tryd.underlying45 rfl (by kernel_rfl)) rfl ⟨ret_insn (by omega), below_new _ _⟩
set_option maxRecDepth 100000 in
set_option maxHeartbeats 3200000 in
theorem insnOf_one (word : Int) (K : Nat) (op : ByteArray) (w : World) (h0 : 4096 ≤ word) (h1 : word < 5120) (hK : word / 128 % 8 = (K : Int)) (hK8 : K < 8) (hc : w.cell? ⟨0, 16 + K, none⟩ = some (.string op)) (hT : Tabs w) :
    Calls Tryd.prog 40 #[.int .i64 word] w fun e w' => e = .returned (.agg #[.string op, .bool (word / 64 % 2 == 1), .int .i64 (srcT (word / 16 % 4) (word % 16)).1, .int .i64 (srcT (word / 16 % 4) (word % 16)).2.1, .int .i64 (srcT (word / 16 % 4) (word % 16)).2.2.1, .bool (srcT (word / 16 % 4) (word % 16)).2.2.2, .int .i64 0, .int .i64 0, .int .i64 0, .bool false, .int .i64 0]) ∧ Below w.heap.size w w' := by
  have hn : ¬ 16384 ≤ word := by omega
  have hn2 : ¬ 8192 ≤ word := by omega
  have hlt := World.block_lt_of_cell? w _ hc
  have HT : Hid (_) := hT
  clear hT
  go_enter Tryd.func40, Tryd.ntmps40
  have f1 := quo_in word 128 (by omega) (by omega) (by omega)
  have f2 := rem_in (word / 128) 8 (by omega)
  have f2' := rem_wr (word / 128) 8 (by omega) (by omega) (by omega)
  have f3 := quo_in word 16 (by omega) (by omega) (by omega)
  have f4 := rem_in (word / 16) 4 (by omega)
  have f4' := rem_wr (word / 16) 4 (by omega) (by omega) (by omega)
  have f5 := rem_in word 16 (by omega)
  have f5' := rem_wr word 16 (by omega) (by omega) (by omega)
  have k0 : (0 : Int) ≤ (K : Int) := by omega
  have k1 : (K : Int) < 8 := by omega
  have k2 : (K : Int) < 16 := by omega
  have hn0 : ¬ 0 = w.heap.size := Nat.ne_of_lt hlt
  have hn1 : ¬ w.heap.size = 0 := fun e => hn0 e.symm
  have HA : Hid (_ = _) := and64 word (by omega) (by omega)
  generalize hbb : (bits BinOp.and IntKind.i64 word 64 != 0) = bb at *
  have HBB : Hid (bb = (word / 64 % 2 == 1)) := HA.out
  clear HA
  have a0 : 0 ≤ word / 16 % 4 := by omega
  have a1 : word / 16 % 4 ≤ 3 := by omega
  go_wp2_with fail
  go_region_held3 (fun w' => w'.cell? ⟨0, 16 + K, none⟩ = some (.string op)) (go_keep) (first
    | (go_at_call 52; refine (srcOf_any (word / 16 % 4) (word % 16) _ a0 a1 (by exact (HT.out.alloc _).drew)).mono ?_; rintro e x1 ⟨rfl, hb⟩; have HR1 : Hid (_ = _) := heap_keep (by exact heap_alloc_new w _) hb; have HB1 : Hid (Below w.heap.size w x1) := below_call (by exact (below_new _ _).drew) hb; have hc1 : x1.cell? ⟨0, 16 + K, none⟩ = some (.string op) := (HB1.out.cell (p := ⟨0, 16 + K, none⟩) hlt).trans hc; obtain ⟨d0, d1, d2, d3, d4, d5, d6, d7, d8, d9, d10⟩ := cells11 HR1.out; have z0 := frozen_of_row _ _ 0 _ _ HR1.out; have z1 := frozen_of_row _ _ 1 _ _ HR1.out; have z2 := frozen_of_row _ _ 2 _ _ HR1.out; have z3 := frozen_of_row _ _ 3 _ _ HR1.out; have z4 := frozen_of_row _ _ 4 _ _ HR1.out; have z5 := frozen_of_row _ _ 5 _ _ HR1.out; have z6 := frozen_of_row _ _ 6 _ _ HR1.out; have z7 := frozen_of_row _ _ 7 _ _ HR1.out; have z8 := frozen_of_row _ _ 8 _ _ HR1.out; have z9 := frozen_of_row _ _ 9 _ _ HR1.out; have z10 := frozen_of_row _ _ 10 _ _ HR1.out; clear hb))
  go_wp2
  exact bodyPost_ret (results_cell_row Tryd.results40 _ _ w.heap.size 45 _ (0, 0) _ rfl (set_eleven HR1.out) Tryd.underlying45 rfl (by kernel_rfl)) rfl ⟨ret_insnb HBB.out, below_eleven (Nat.le_refl _) HB1.out⟩
set_option maxRecDepth 100000 in
set_option maxHeartbeats 3200000 in
theorem insnOf_two (word : Int) (K : Nat) (op : ByteArray) (w : World) (h0 : 16384 ≤ word) (h1 : word ≤ 65535) (hK : word / 4096 = (K : Int)) (hK8 : K < 16) (hc : w.cell? ⟨0, K, none⟩ = some (.string op)) (hT : Tabs w) :
    Calls Tryd.prog 40 #[.int .i64 word] w fun e w' => e = .returned (.agg #[.string op, .bool (word / 64 % 2 == 1), .int .i64 (srcT (word / 16 % 4) (word / 256 % 16)).1, .int .i64 (srcT (word / 16 % 4) (word / 256 % 16)).2.1, .int .i64 (srcT (word / 16 % 4) (word / 256 % 16)).2.2.1, .bool (srcT (word / 16 % 4) (word / 256 % 16)).2.2.2, .int .i64 (dstT (word / 128 % 2) (word % 16)).1, .int .i64 (dstT (word / 128 % 2) (word % 16)).2, .int .i64 0, .bool false, .int .i64 0]) ∧ Below w.heap.size w w' := by
  have hlt := World.block_lt_of_cell? w _ hc
  have HT : Hid (_) := hT
  clear hT
  go_enter Tryd.func40, Tryd.ntmps40
  have f1 := quo_in word 4096 (by omega) (by omega) (by omega)
  have f6 := quo_in word 128 (by omega) (by omega) (by omega)
  have f7 := rem_in (word / 128) 2 (by omega)
  have f7' := rem_wr (word / 128) 2 (by omega) (by omega) (by omega)
  have f8 := quo_in word 256 (by omega) (by omega) (by omega)
  have f9 := rem_in (word / 256) 16 (by omega)
  have f9' := rem_wr (word / 256) 16 (by omega) (by omega) (by omega)
  have f3 := quo_in word 16 (by omega) (by omega) (by omega)
  have f4 := rem_in (word / 16) 4 (by omega)
  have f4' := rem_wr (word / 16) 4 (by omega) (by omega) (by omega)
  have f5 := rem_in word 16 (by omega)
  have f5' := rem_wr word 16 (by omega) (by omega) (by omega)
  have k0 : (0 : Int) ≤ (K : Int) := by omega
  have k2 : (K : Int) < 16 := by omega
  have hn0 : ¬ 0 = w.heap.size := Nat.ne_of_lt hlt
  have hn1 : ¬ w.heap.size = 0 := fun e => hn0 e.symm
  have HA : Hid (_ = _) := and64 word (by omega) (by omega)
  generalize hbb : (bits BinOp.and IntKind.i64 word 64 != 0) = bb at *
  have HBB : Hid (bb = (word / 64 % 2 == 1)) := HA.out
  clear HA
  have a0 : 0 ≤ word / 16 % 4 := by omega
  have a1 : word / 16 % 4 ≤ 3 := by omega
  have b0 : 0 ≤ word / 128 % 2 := by omega
  have b1 : word / 128 % 2 ≤ 3 := by omega
  go_wp2_with fail
  go_region_held3 (fun w' => w'.cell? ⟨0, K, none⟩ = some (.string op)) (go_keep) (first
    | (go_at_call 52; refine (srcOf_any (word / 16 % 4) (word / 256 % 16) _ a0 a1 (by exact (HT.out.alloc _).drew)).mono ?_; rintro e x1 ⟨rfl, hb⟩; have HR1 : Hid (_ = _) := heap_keep (by exact heap_alloc_new w _) hb; have HB1 : Hid (Below w.heap.size w x1) := below_call (by exact (below_new _ _).drew) hb; have hc1 : x1.cell? ⟨0, K, none⟩ = some (.string op) := (HB1.out.cell (p := ⟨0, K, none⟩) hlt).trans hc; clear hb)
    | (go_at_call 53; refine (dstOf_any (word / 128 % 2) (word % 16) _ b0 b1).mono ?_; rintro e x2 ⟨rfl, hb⟩; have HR2 : Hid (_ = _) := heap_keep (by exact HR1.out) hb; have HB2 : Hid (Below w.heap.size w x2) := below_call (by exact HB1.out) hb; have hc2 : x2.cell? ⟨0, K, none⟩ = some (.string op) := (HB2.out.cell (p := ⟨0, K, none⟩) hlt).trans hc; obtain ⟨d0, d1, d2, d3, d4, d5, d6, d7, d8, d9, d10⟩ := cells11 HR2.out; have z0 := frozen_of_row _ _ 0 _ _ HR2.out; have z1 := frozen_of_row _ _ 1 _ _ HR2.out; have z2 := frozen_of_row _ _ 2 _ _ HR2.out; have z3 := frozen_of_row _ _ 3 _ _ HR2.out; have z4 := frozen_of_row _ _ 4 _ _ HR2.out; have z5 := frozen_of_row _ _ 5 _ _ HR2.out; have z6 := frozen_of_row _ _ 6 _ _ HR2.out; have z7 := frozen_of_row _ _ 7 _ _ HR2.out; have z8 := frozen_of_row _ _ 8 _ _ HR2.out; have z9 := frozen_of_row _ _ 9 _ _ HR2.out; have z10 := frozen_of_row _ _ 10 _ _ HR2.out; clear hb))
  go_wp2
  exact bodyPost_ret (results_cell_row Tryd.results40 _ _ w.heap.size 45 _ (0, 0) _ rfl (set_eleven HR2.out) Tryd.underlying45 rfl (by kernel_rfl)) rfl ⟨ret_insnb HBB.out, below_eleven (Nat.le_refl _) HB2.out⟩
set_option maxRecDepth 100000 in
theorem insnOf_no (word : Int) (w : World) (h0 : 0 ≤ word) (h1 : word < 4096 ∨ 5120 ≤ word ∧ word < 8192) :
    Calls Tryd.prog 40 #[.int .i64 word] w fun e w' => e = .returned (.agg #[.string ⟨#[]⟩, .bool false, .int .i64 0, .int .i64 0, .int .i64 0, .bool false, .int .i64 0, .int .i64 0, .int .i64 0, .bool false, .int .i64 0]) ∧ Below w.heap.size w w' := by
  have hn : ¬ 16384 ≤ word := by omega
  have hn2 : ¬ 8192 ≤ word := by omega
  rcases h1 with h1 | ⟨h1, h2⟩
  · have hn3 : ¬ 4096 ≤ word := by omega
    go_enter Tryd.func40, Tryd.ntmps40
    go_wp2
    exact bodyPost_ret (results_cell_row Tryd.results40 _ _ w.heap.size 45 _ (0, 0) _ rfl (heap_alloc_new _ _) Tryd.underlying45 rfl (by kernel_rfl)) rfl ⟨rfl, below_new _ _⟩
  · have hn3 : 4096 ≤ word := by omega
    have hn4 : ¬ word < 5120 := by omega
    go_enter Tryd.func40, Tryd.ntmps40
    go_wp2
    exact bodyPost_ret (results_cell_row Tryd.results40 _ _ w.heap.size 45 _ (0, 0) _ rfl (heap_alloc_new _ _) Tryd.underlying45 rfl (by kernel_rfl)) rfl ⟨rfl, below_new _ _⟩
end Go.Proofs.YtknielpkmablkaaDoor
