/- How instructions are written, by the specification: whole ones. -/
import Derived.Test.YtknielpkmablkaaDoorRows
import Derived.WalkKit
import Derived.WalkSpells
import Derived.WalkLawsBesides
import Derived.Outline
import Derived.Deep.RegionHeld3
import Derived.Deep.RegionWith
import Derived.Test.YtknielpkmablkaaDoorBun0
import Derived.Test.YtknielpkmablkaaDoorBun1
import Derived.Test.YtknielpkmablkaaDoorBun4
import Derived.Test.YtknielpkmablkaaDoorBun27
import Derived.Test.YtknielpkmablkaaDoorBun20
import Derived.Test.YtknielpkmablkaaDoorOpsAX
import Derived.Test.YtknielpkmablkaaDoorTextSX
namespace Go.Proofs.YtknielpkmablkaaDoor
open Go.RowKit
set_option linter.unusedVariables false

def tOp (op : ByteArray) (b : Bool) : ByteArray := if b then op ++ ⟨#[46, 98]⟩ else op
theorem tOp_size (op : ByteArray) (b : Bool) (h : op.size ≤ 10) : (tOp op b).size ≤ 12 := by
  unfold tOp; split
  · rw [ByteArray.size_append, two_b]; omega
  · omega
def insT (op : ByteArray) (b : Bool) (m r n : Int) (l : Bool) (m2 r2 n2 : Int) (l2 : Bool) (j : Int) : ByteArray :=
  if 0 ≤ atI twosL op then catL [tOp op b, ⟨#[32]⟩, opdB m r n l, ⟨#[44, 32]⟩, opdB m2 r2 n2 l2]
  else if 0 ≤ atI onesL op then (if op = ⟨#[114, 101, 116, 105]⟩ then tOp op b else catL [tOp op b, ⟨#[32]⟩, opdB m r n l])
  else catL [tOp op b, ⟨#[32, 36]⟩, sgnB (2 * j + 2)]
theorem src_rng {m r n : Int} {l : Bool} (h : srcB m r n l = true) : (0 ≤ m ∧ m ≤ 5) ∧ (-100000 ≤ r ∧ r ≤ 100000) ∧ -100000 ≤ n ∧ n ≤ 100000 := by
  have h5 := (src_as h).1
  unfold srcB at h
  obtain rfl | rfl | rfl | rfl | rfl | rfl : m = 0 ∨ m = 1 ∨ m = 2 ∨ m = 3 ∨ m = 4 ∨ m = 5 := by omega
  all_goals simp [plainB, isB] at h; omega
theorem dst_rng {m r n : Int} {l : Bool} (h : dstB m r n l = true) : (0 ≤ m ∧ m ≤ 5) ∧ (-100000 ≤ r ∧ r ≤ 100000) ∧ -100000 ≤ n ∧ n ≤ 100000 := by
  unfold dstB at h
  by_cases h0 : m = 0
  · subst h0; simp [isB] at h; omega
  rw [if_neg h0] at h
  by_cases h1 : m = 1 ∨ m = 2
  · rw [if_pos h1] at h; exact src_rng h
  · rw [if_neg h1] at h; cases h
/- Where an operation stands among all: of two operands, of one, none, a jump. -/
theorem at_two {op : ByteArray} (h : 0 ≤ atI twosL op) : atI opsAll op < 12 ∧ op.size ≤ 10 := by
  have := atI_mem h
  simp only [twosL, List.mem_cons, List.not_mem_nil, or_false] at this
  rcases this with rfl | rfl | rfl | rfl | rfl | rfl | rfl | rfl | rfl | rfl | rfl | rfl <;> decide +kernel
theorem at_one {op : ByteArray} (h : 0 ≤ atI onesL op) (hr : ¬ op = ⟨#[114, 101, 116, 105]⟩) : ¬ atI opsAll op < 12 ∧ atI opsAll op < 18 ∧ op.size ≤ 10 := by
  have := atI_mem h
  simp only [onesL, List.mem_cons, List.not_mem_nil, or_false] at this
  rcases this with rfl | rfl | rfl | rfl | rfl | rfl | rfl
  · decide +kernel
  · decide +kernel
  · decide +kernel
  · decide +kernel
  · decide +kernel
  · decide +kernel
  · exact absurd rfl hr
theorem at_jump {op : ByteArray} (h : 0 ≤ atI jumpsL op) : ¬ atI opsAll op < 12 ∧ ¬ atI opsAll op < 18 ∧ (atI opsAll op == 18) = false ∧ op.size ≤ 10 := by
  have := atI_mem h
  simp only [jumpsL, List.mem_cons, List.not_mem_nil, or_false] at this
  rcases this with rfl | rfl | rfl | rfl | rfl | rfl | rfl | rfl <;> decide +kernel
theorem ops_form {w : World} {B : Nat} {v : Value} (h : OwnS w B v opsAll) : ∃ q c, v = .slice (some ⟨q, 0, none⟩) 27 c ∧ ∀ i (h : i < 27), w.cell? ⟨q, i, none⟩ = some (.string (opsAll[i]'h)) := by
  rcases h.form with ⟨_, e⟩ | ⟨g, cap, cur, e, hB, hg, h4, h5, h6, h7⟩
  · exact absurd e (by decide +kernel)
  · exact ⟨g, cap, e, fun i hi => by rw [cell_of_row w g i _ _ _ hg]; exact h7 i hi⟩
theorem ops_atT (q cap : Nat) (t : ByteArray) (w : World) (k : Int) (hk : atI opsAll t = k) (hc : ∀ i (h : i < 27), w.cell? ⟨q, i, none⟩ = some (.string (opsAll[i]'h))) : Calls Tryd.prog 36 #[.slice (some ⟨q, 0, none⟩) 27 cap, .string t] w fun e w' => e = .returned (.int .i64 k) ∧ w' = w := by
  subst hk
  exact l02At_any q opsAll cap t w (by decide +kernel) hc
set_option maxRecDepth 100000 in
set_option maxHeartbeats 3200000 in
theorem specT_two_f (op : ByteArray) (m r n : Int) (l : Bool) (m2 r2 n2 : Int) (l2 : Bool) (j : Int) (k : Int) (w : World) (HK : Hid (atI opsAll op = k)) (k1 : k < 12) (h2 : 0 ≤ atI twosL op) (ho : op.size ≤ 10) (m0 : 0 ≤ m) (m5 : m ≤ 5) (g0 : -100000 ≤ r) (g1 : r ≤ 100000) (h0 : -100000 ≤ n) (h1 : n ≤ 100000) (p0 : 0 ≤ m2) (p5 : m2 ≤ 5) (q0 : -100000 ≤ r2) (q1 : r2 ≤ 100000) (s0 : -100000 ≤ n2) (s1 : n2 ≤ 100000) : Calls Tryd.prog 24 #[.agg #[.string op, .bool false, .int .i64 m, .int .i64 r, .int .i64 n, .bool l, .int .i64 m2, .int .i64 r2, .int .i64 n2, .bool l2, .int .i64 j]] w fun e w' => e = .returned (.string (insT op false m r n l m2 r2 n2 l2 j)) ∧ Below w.heap.size w w' := by
  have hA := opd_size m r n l g0 g1 h0 h1
  have hB := opd_size m2 r2 n2 l2 q0 q1 s0 s1
  have HT : Hid (insT op false m r n l m2 r2 n2 l2 j = catL [op, ⟨#[32]⟩, opdB m r n l, ⟨#[44, 32]⟩, opdB m2 r2 n2 l2]) := by show _ = _; unfold insT tOp; rw [if_pos h2]; rfl
  have HA : Hid (∀ W : World, Calls Tryd.prog 38 #[.agg #[.int .i64 m, .int .i64 r, .int .i64 n, .bool l]] W fun e w' => e = .returned (.string (opdB m r n l)) ∧ Below W.heap.size W w') := fun W => specOpd_any m r n l W m0 m5 g0 g1 h0 h1
  have HD : Hid (∀ W : World, Calls Tryd.prog 38 #[.agg #[.int .i64 m2, .int .i64 r2, .int .i64 n2, .bool l2]] W fun e w' => e = .returned (.string (opdB m2 r2 n2 l2)) ∧ Below W.heap.size W w') := fun W => specOpd_any m2 r2 n2 l2 W p0 p5 q0 q1 s0 s1
  clear m0 m5 g0 g1 h0 h1 p0 p5 q0 q1 s0 s1 h2
  generalize opdB m r n l = A at *
  generalize opdB m2 r2 n2 l2 = D at *
  have z0 := one_b 32
  have z1 := two_b 44 32
  have e0 := addS (op) (⟨#[32]⟩) (by omega) (by omega)
  have e1 := addS (op ++ ⟨#[32]⟩) (A) (by simp only [ByteArray.size_append]; omega) (by omega)
  have e2 := addS (op ++ ⟨#[32]⟩ ++ A) (⟨#[44, 32]⟩) (by simp only [ByteArray.size_append]; omega) (by omega)
  have e3 := addS (op ++ ⟨#[32]⟩ ++ A ++ ⟨#[44, 32]⟩) (D) (by simp only [ByteArray.size_append]; omega) (by omega)
  clear z0 z1
  go_enter Tryd.func24, Tryd.ntmps24
  go_wp2_with fail
  have HIc : Hid (_ = _) := heap_alloc_new w (.cells #[.string op, .bool false, .int .i64 m, .int .i64 r, .int .i64 n, .bool l, .int .i64 m2, .int .i64 r2, .int .i64 n2, .bool l2, .int .i64 j] 45)
  have HBc : Hid (Below w.heap.size w _) := below_new w (.cells #[.string op, .bool false, .int .i64 m, .int .i64 r, .int .i64 n, .bool l, .int .i64 m2, .int .i64 r2, .int .i64 n2, .bool l2, .int .i64 j] 45)
  generalize w.alloc (.cells #[.string op, .bool false, .int .i64 m, .int .i64 r, .int .i64 n, .bool l, .int .i64 m2, .int .i64 r2, .int .i64 n2, .bool l2, .int .i64 j] 45) = x0 at *
  obtain ⟨c0, c1, c2, c3, c4, c5, c6, c7, c8, c9, c10⟩ := cells11 HIc.out
  go_region_held3 (fun w' => w'.cell? ⟨w.heap.size, 0, none⟩ = some (.string op)) (first | exact (cells11 (by repeat (first | with_reducible exact HIc.out | with_reducible apply heap_drewn))).1) (first
    | (go_at_call 37; refine (specOps_any _).mono ?_; rintro e xc ⟨vo, rfl, ho, hb⟩; have HIc : Hid (_ = _) := heap_keep (by repeat (first | with_reducible exact HIc.out | with_reducible apply heap_drewn)) hb; have HBc : Hid (Below w.heap.size w xc) := below_call (by repeat (first | with_reducible exact HBc.out | with_reducible refine Below.drew ?_)) hb; obtain ⟨q, qc, rfl, hq⟩ := ops_form ho; have HQ : Hid (∀ i (h : i < 27), xc.cell? ⟨q, i, none⟩ = some (.string (opsAll[i]'h))) := hq; clear ho hq; clear hb)
    | (go_at_call 36; refine (ops_atT q qc op _ k HK.out HQ.out).mono ?_; rintro e xd ⟨rfl, hxd⟩; have hxe := hxd.symm; subst hxe; clear hxd))
  clear c0 c1 c2 c3 c4 c5 c6 c7 c8 c9 c10
  obtain ⟨c0, c1, c2, c3, c4, c5, c6, c7, c8, c9, c10⟩ := cells11 HIc.out
  go_wp2_with fail
  go_region_held3 (fun w' => w'.cell? ⟨w.heap.size, 0, none⟩ = some (.string op) ∧ w'.cell? ⟨w.heap.size, 1, none⟩ = some (.bool false) ∧ w'.cell? ⟨w.heap.size, 2, none⟩ = some (.int .i64 m) ∧ w'.cell? ⟨w.heap.size, 3, none⟩ = some (.int .i64 r) ∧ w'.cell? ⟨w.heap.size, 4, none⟩ = some (.int .i64 n) ∧ w'.cell? ⟨w.heap.size, 5, none⟩ = some (.bool l) ∧ w'.cell? ⟨w.heap.size, 6, none⟩ = some (.int .i64 m2) ∧ w'.cell? ⟨w.heap.size, 7, none⟩ = some (.int .i64 r2) ∧ w'.cell? ⟨w.heap.size, 8, none⟩ = some (.int .i64 n2) ∧ w'.cell? ⟨w.heap.size, 9, none⟩ = some (.bool l2) ∧ w'.cell? ⟨w.heap.size, 10, none⟩ = some (.int .i64 j)) (exact cells11 (by repeat (first | with_reducible exact HIc.out | with_reducible apply heap_drewn))) (first
    | (go_at_call_of 38 (Value.agg #[.int .i64 m, .int .i64 r, .int .i64 n, .bool l]); refine (HA.out _).mono ?_; rintro e xc ⟨rfl, hb⟩; have HIc : Hid (_ = _) := heap_keep (by repeat (first | with_reducible exact HIc.out | with_reducible apply heap_drewn)) hb; have HBc : Hid (Below w.heap.size w xc) := below_call (by repeat (first | with_reducible exact HBc.out | with_reducible refine Below.drew ?_)) hb; clear hb)
    | (go_at_call_of 38 (Value.agg #[.int .i64 m2, .int .i64 r2, .int .i64 n2, .bool l2]); refine (HD.out _).mono ?_; rintro e xc ⟨rfl, hb⟩; have HIc : Hid (_ = _) := heap_keep (by repeat (first | with_reducible exact HIc.out | with_reducible apply heap_drewn)) hb; have HBc : Hid (Below w.heap.size w xc) := below_call (by repeat (first | with_reducible exact HBc.out | with_reducible refine Below.drew ?_)) hb; clear hb))
  all_goals
    go_wp2
    go_ret
    exact ⟨ret_str (by rw [HT.out]; simp [catL, ByteArray.append_assoc]), HBc.out⟩
set_option maxRecDepth 100000 in
set_option maxHeartbeats 3200000 in
theorem specT_one_f (op : ByteArray) (m r n : Int) (l : Bool) (m2 r2 n2 : Int) (l2 : Bool) (j : Int) (k : Int) (w : World) (HK : Hid (atI opsAll op = k)) (k1 : ¬ k < 12) (k2 : k < 18) (h2 : ¬ 0 ≤ atI twosL op) (h3 : 0 ≤ atI onesL op) (hr : ¬ op = ⟨#[114, 101, 116, 105]⟩) (ho : op.size ≤ 10) (m0 : 0 ≤ m) (m5 : m ≤ 5) (g0 : -100000 ≤ r) (g1 : r ≤ 100000) (h0 : -100000 ≤ n) (h1 : n ≤ 100000) : Calls Tryd.prog 24 #[.agg #[.string op, .bool false, .int .i64 m, .int .i64 r, .int .i64 n, .bool l, .int .i64 m2, .int .i64 r2, .int .i64 n2, .bool l2, .int .i64 j]] w fun e w' => e = .returned (.string (insT op false m r n l m2 r2 n2 l2 j)) ∧ Below w.heap.size w w' := by
  have hA := opd_size m r n l g0 g1 h0 h1
  have HT : Hid (insT op false m r n l m2 r2 n2 l2 j = catL [op, ⟨#[32]⟩, opdB m r n l]) := by show _ = _; unfold insT tOp; rw [if_neg h2, if_pos h3, if_neg hr]; rfl
  have HA : Hid (∀ W : World, Calls Tryd.prog 38 #[.agg #[.int .i64 m, .int .i64 r, .int .i64 n, .bool l]] W fun e w' => e = .returned (.string (opdB m r n l)) ∧ Below W.heap.size W w') := fun W => specOpd_any m r n l W m0 m5 g0 g1 h0 h1
  clear m0 m5 g0 g1 h0 h1 h2 h3 hr
  generalize opdB m r n l = A at *
  have z0 := one_b 32
  have e0 := addS (op) (⟨#[32]⟩) (by omega) (by omega)
  have e1 := addS (op ++ ⟨#[32]⟩) (A) (by simp only [ByteArray.size_append]; omega) (by omega)
  clear z0
  go_enter Tryd.func24, Tryd.ntmps24
  go_wp2_with fail
  have HIc : Hid (_ = _) := heap_alloc_new w (.cells #[.string op, .bool false, .int .i64 m, .int .i64 r, .int .i64 n, .bool l, .int .i64 m2, .int .i64 r2, .int .i64 n2, .bool l2, .int .i64 j] 45)
  have HBc : Hid (Below w.heap.size w _) := below_new w (.cells #[.string op, .bool false, .int .i64 m, .int .i64 r, .int .i64 n, .bool l, .int .i64 m2, .int .i64 r2, .int .i64 n2, .bool l2, .int .i64 j] 45)
  generalize w.alloc (.cells #[.string op, .bool false, .int .i64 m, .int .i64 r, .int .i64 n, .bool l, .int .i64 m2, .int .i64 r2, .int .i64 n2, .bool l2, .int .i64 j] 45) = x0 at *
  obtain ⟨c0, c1, c2, c3, c4, c5, c6, c7, c8, c9, c10⟩ := cells11 HIc.out
  go_region_held3 (fun w' => w'.cell? ⟨w.heap.size, 0, none⟩ = some (.string op)) (first | exact (cells11 (by repeat (first | with_reducible exact HIc.out | with_reducible apply heap_drewn))).1) (first
    | (go_at_call 37; refine (specOps_any _).mono ?_; rintro e xc ⟨vo, rfl, ho, hb⟩; have HIc : Hid (_ = _) := heap_keep (by repeat (first | with_reducible exact HIc.out | with_reducible apply heap_drewn)) hb; have HBc : Hid (Below w.heap.size w xc) := below_call (by repeat (first | with_reducible exact HBc.out | with_reducible refine Below.drew ?_)) hb; obtain ⟨q, qc, rfl, hq⟩ := ops_form ho; have HQ : Hid (∀ i (h : i < 27), xc.cell? ⟨q, i, none⟩ = some (.string (opsAll[i]'h))) := hq; clear ho hq; clear hb)
    | (go_at_call 36; refine (ops_atT q qc op _ k HK.out HQ.out).mono ?_; rintro e xd ⟨rfl, hxd⟩; have hxe := hxd.symm; subst hxe; clear hxd))
  clear c0 c1 c2 c3 c4 c5 c6 c7 c8 c9 c10
  obtain ⟨c0, c1, c2, c3, c4, c5, c6, c7, c8, c9, c10⟩ := cells11 HIc.out
  go_wp2_with fail
  refine (HA.out _).mono ?_
  rintro e x3 ⟨rfl, hb⟩
  go_wp2
  go_ret
  exact ⟨ret_str (by rw [HT.out]; simp [catL, ByteArray.append_assoc]), below_call HBc.out hb⟩
set_option maxRecDepth 100000 in
set_option maxHeartbeats 3200000 in
theorem specT_two_t (op : ByteArray) (m r n : Int) (l : Bool) (m2 r2 n2 : Int) (l2 : Bool) (j : Int) (k : Int) (w : World) (HK : Hid (atI opsAll op = k)) (k1 : k < 12) (h2 : 0 ≤ atI twosL op) (ho : op.size ≤ 10) (m0 : 0 ≤ m) (m5 : m ≤ 5) (g0 : -100000 ≤ r) (g1 : r ≤ 100000) (h0 : -100000 ≤ n) (h1 : n ≤ 100000) (p0 : 0 ≤ m2) (p5 : m2 ≤ 5) (q0 : -100000 ≤ r2) (q1 : r2 ≤ 100000) (s0 : -100000 ≤ n2) (s1 : n2 ≤ 100000) : Calls Tryd.prog 24 #[.agg #[.string op, .bool true, .int .i64 m, .int .i64 r, .int .i64 n, .bool l, .int .i64 m2, .int .i64 r2, .int .i64 n2, .bool l2, .int .i64 j]] w fun e w' => e = .returned (.string (insT op true m r n l m2 r2 n2 l2 j)) ∧ Below w.heap.size w w' := by
  have hA := opd_size m r n l g0 g1 h0 h1
  have hB := opd_size m2 r2 n2 l2 q0 q1 s0 s1
  have HT : Hid (insT op true m r n l m2 r2 n2 l2 j = catL [(op ++ ⟨#[46, 98]⟩), ⟨#[32]⟩, opdB m r n l, ⟨#[44, 32]⟩, opdB m2 r2 n2 l2]) := by show _ = _; unfold insT tOp; rw [if_pos h2]; rfl
  have HA : Hid (∀ W : World, Calls Tryd.prog 38 #[.agg #[.int .i64 m, .int .i64 r, .int .i64 n, .bool l]] W fun e w' => e = .returned (.string (opdB m r n l)) ∧ Below W.heap.size W w') := fun W => specOpd_any m r n l W m0 m5 g0 g1 h0 h1
  have HD : Hid (∀ W : World, Calls Tryd.prog 38 #[.agg #[.int .i64 m2, .int .i64 r2, .int .i64 n2, .bool l2]] W fun e w' => e = .returned (.string (opdB m2 r2 n2 l2)) ∧ Below W.heap.size W w') := fun W => specOpd_any m2 r2 n2 l2 W p0 p5 q0 q1 s0 s1
  clear m0 m5 g0 g1 h0 h1 p0 p5 q0 q1 s0 s1 h2
  generalize opdB m r n l = A at *
  generalize opdB m2 r2 n2 l2 = D at *
  have z0 := one_b 32
  have z1 := two_b 44 32
  have z2 := two_b 46 98
  have e0 := addS (op) (⟨#[46, 98]⟩) (by omega) (by omega)
  have e1 := addS ((op ++ ⟨#[46, 98]⟩)) (⟨#[32]⟩) (by simp only [ByteArray.size_append]; omega) (by omega)
  have e2 := addS ((op ++ ⟨#[46, 98]⟩) ++ ⟨#[32]⟩) (A) (by simp only [ByteArray.size_append]; omega) (by omega)
  have e3 := addS ((op ++ ⟨#[46, 98]⟩) ++ ⟨#[32]⟩ ++ A) (⟨#[44, 32]⟩) (by simp only [ByteArray.size_append]; omega) (by omega)
  have e4 := addS ((op ++ ⟨#[46, 98]⟩) ++ ⟨#[32]⟩ ++ A ++ ⟨#[44, 32]⟩) (D) (by simp only [ByteArray.size_append]; omega) (by omega)
  clear z0 z1 z2
  go_enter Tryd.func24, Tryd.ntmps24
  go_wp2_with fail
  have HIc : Hid (_ = _) := heap_alloc_new w (.cells #[.string op, .bool true, .int .i64 m, .int .i64 r, .int .i64 n, .bool l, .int .i64 m2, .int .i64 r2, .int .i64 n2, .bool l2, .int .i64 j] 45)
  have HBc : Hid (Below w.heap.size w _) := below_new w (.cells #[.string op, .bool true, .int .i64 m, .int .i64 r, .int .i64 n, .bool l, .int .i64 m2, .int .i64 r2, .int .i64 n2, .bool l2, .int .i64 j] 45)
  generalize w.alloc (.cells #[.string op, .bool true, .int .i64 m, .int .i64 r, .int .i64 n, .bool l, .int .i64 m2, .int .i64 r2, .int .i64 n2, .bool l2, .int .i64 j] 45) = x0 at *
  obtain ⟨c0, c1, c2, c3, c4, c5, c6, c7, c8, c9, c10⟩ := cells11 HIc.out
  go_region_held3 (fun w' => w'.cell? ⟨w.heap.size, 0, none⟩ = some (.string op)) (first | exact (cells11 (by repeat (first | with_reducible exact HIc.out | with_reducible apply heap_drewn))).1) (first
    | (go_at_call 37; refine (specOps_any _).mono ?_; rintro e xc ⟨vo, rfl, ho, hb⟩; have HIc : Hid (_ = _) := heap_keep (by repeat (first | with_reducible exact HIc.out | with_reducible apply heap_drewn)) hb; have HBc : Hid (Below w.heap.size w xc) := below_call (by repeat (first | with_reducible exact HBc.out | with_reducible refine Below.drew ?_)) hb; obtain ⟨q, qc, rfl, hq⟩ := ops_form ho; have HQ : Hid (∀ i (h : i < 27), xc.cell? ⟨q, i, none⟩ = some (.string (opsAll[i]'h))) := hq; clear ho hq; clear hb)
    | (go_at_call 36; refine (ops_atT q qc op _ k HK.out HQ.out).mono ?_; rintro e xd ⟨rfl, hxd⟩; have hxe := hxd.symm; subst hxe; clear hxd))
  clear c0 c1 c2 c3 c4 c5 c6 c7 c8 c9 c10
  obtain ⟨c0, c1, c2, c3, c4, c5, c6, c7, c8, c9, c10⟩ := cells11 HIc.out
  go_wp2_with fail
  go_region_held3 (fun w' => w'.cell? ⟨w.heap.size, 0, none⟩ = some (.string op) ∧ w'.cell? ⟨w.heap.size, 1, none⟩ = some (.bool true) ∧ w'.cell? ⟨w.heap.size, 2, none⟩ = some (.int .i64 m) ∧ w'.cell? ⟨w.heap.size, 3, none⟩ = some (.int .i64 r) ∧ w'.cell? ⟨w.heap.size, 4, none⟩ = some (.int .i64 n) ∧ w'.cell? ⟨w.heap.size, 5, none⟩ = some (.bool l) ∧ w'.cell? ⟨w.heap.size, 6, none⟩ = some (.int .i64 m2) ∧ w'.cell? ⟨w.heap.size, 7, none⟩ = some (.int .i64 r2) ∧ w'.cell? ⟨w.heap.size, 8, none⟩ = some (.int .i64 n2) ∧ w'.cell? ⟨w.heap.size, 9, none⟩ = some (.bool l2) ∧ w'.cell? ⟨w.heap.size, 10, none⟩ = some (.int .i64 j)) (exact cells11 (by repeat (first | with_reducible exact HIc.out | with_reducible apply heap_drewn))) (first
    | (go_at_call_of 38 (Value.agg #[.int .i64 m, .int .i64 r, .int .i64 n, .bool l]); refine (HA.out _).mono ?_; rintro e xc ⟨rfl, hb⟩; have HIc : Hid (_ = _) := heap_keep (by repeat (first | with_reducible exact HIc.out | with_reducible apply heap_drewn)) hb; have HBc : Hid (Below w.heap.size w xc) := below_call (by repeat (first | with_reducible exact HBc.out | with_reducible refine Below.drew ?_)) hb; clear hb)
    | (go_at_call_of 38 (Value.agg #[.int .i64 m2, .int .i64 r2, .int .i64 n2, .bool l2]); refine (HD.out _).mono ?_; rintro e xc ⟨rfl, hb⟩; have HIc : Hid (_ = _) := heap_keep (by repeat (first | with_reducible exact HIc.out | with_reducible apply heap_drewn)) hb; have HBc : Hid (Below w.heap.size w xc) := below_call (by repeat (first | with_reducible exact HBc.out | with_reducible refine Below.drew ?_)) hb; clear hb))
  all_goals
    go_wp2
    go_ret
    exact ⟨ret_str (by rw [HT.out]; simp [catL, ByteArray.append_assoc]), HBc.out⟩
set_option maxRecDepth 100000 in
set_option maxHeartbeats 3200000 in
theorem specT_one_t (op : ByteArray) (m r n : Int) (l : Bool) (m2 r2 n2 : Int) (l2 : Bool) (j : Int) (k : Int) (w : World) (HK : Hid (atI opsAll op = k)) (k1 : ¬ k < 12) (k2 : k < 18) (h2 : ¬ 0 ≤ atI twosL op) (h3 : 0 ≤ atI onesL op) (hr : ¬ op = ⟨#[114, 101, 116, 105]⟩) (ho : op.size ≤ 10) (m0 : 0 ≤ m) (m5 : m ≤ 5) (g0 : -100000 ≤ r) (g1 : r ≤ 100000) (h0 : -100000 ≤ n) (h1 : n ≤ 100000) : Calls Tryd.prog 24 #[.agg #[.string op, .bool true, .int .i64 m, .int .i64 r, .int .i64 n, .bool l, .int .i64 m2, .int .i64 r2, .int .i64 n2, .bool l2, .int .i64 j]] w fun e w' => e = .returned (.string (insT op true m r n l m2 r2 n2 l2 j)) ∧ Below w.heap.size w w' := by
  have hA := opd_size m r n l g0 g1 h0 h1
  have HT : Hid (insT op true m r n l m2 r2 n2 l2 j = catL [(op ++ ⟨#[46, 98]⟩), ⟨#[32]⟩, opdB m r n l]) := by show _ = _; unfold insT tOp; rw [if_neg h2, if_pos h3, if_neg hr]; rfl
  have HA : Hid (∀ W : World, Calls Tryd.prog 38 #[.agg #[.int .i64 m, .int .i64 r, .int .i64 n, .bool l]] W fun e w' => e = .returned (.string (opdB m r n l)) ∧ Below W.heap.size W w') := fun W => specOpd_any m r n l W m0 m5 g0 g1 h0 h1
  clear m0 m5 g0 g1 h0 h1 h2 h3 hr
  generalize opdB m r n l = A at *
  have z0 := one_b 32
  have z1 := two_b 46 98
  have e0 := addS (op) (⟨#[46, 98]⟩) (by omega) (by omega)
  have e1 := addS ((op ++ ⟨#[46, 98]⟩)) (⟨#[32]⟩) (by simp only [ByteArray.size_append]; omega) (by omega)
  have e2 := addS ((op ++ ⟨#[46, 98]⟩) ++ ⟨#[32]⟩) (A) (by simp only [ByteArray.size_append]; omega) (by omega)
  clear z0 z1
  go_enter Tryd.func24, Tryd.ntmps24
  go_wp2_with fail
  have HIc : Hid (_ = _) := heap_alloc_new w (.cells #[.string op, .bool true, .int .i64 m, .int .i64 r, .int .i64 n, .bool l, .int .i64 m2, .int .i64 r2, .int .i64 n2, .bool l2, .int .i64 j] 45)
  have HBc : Hid (Below w.heap.size w _) := below_new w (.cells #[.string op, .bool true, .int .i64 m, .int .i64 r, .int .i64 n, .bool l, .int .i64 m2, .int .i64 r2, .int .i64 n2, .bool l2, .int .i64 j] 45)
  generalize w.alloc (.cells #[.string op, .bool true, .int .i64 m, .int .i64 r, .int .i64 n, .bool l, .int .i64 m2, .int .i64 r2, .int .i64 n2, .bool l2, .int .i64 j] 45) = x0 at *
  obtain ⟨c0, c1, c2, c3, c4, c5, c6, c7, c8, c9, c10⟩ := cells11 HIc.out
  go_region_held3 (fun w' => w'.cell? ⟨w.heap.size, 0, none⟩ = some (.string op)) (first | exact (cells11 (by repeat (first | with_reducible exact HIc.out | with_reducible apply heap_drewn))).1) (first
    | (go_at_call 37; refine (specOps_any _).mono ?_; rintro e xc ⟨vo, rfl, ho, hb⟩; have HIc : Hid (_ = _) := heap_keep (by repeat (first | with_reducible exact HIc.out | with_reducible apply heap_drewn)) hb; have HBc : Hid (Below w.heap.size w xc) := below_call (by repeat (first | with_reducible exact HBc.out | with_reducible refine Below.drew ?_)) hb; obtain ⟨q, qc, rfl, hq⟩ := ops_form ho; have HQ : Hid (∀ i (h : i < 27), xc.cell? ⟨q, i, none⟩ = some (.string (opsAll[i]'h))) := hq; clear ho hq; clear hb)
    | (go_at_call 36; refine (ops_atT q qc op _ k HK.out HQ.out).mono ?_; rintro e xd ⟨rfl, hxd⟩; have hxe := hxd.symm; subst hxe; clear hxd))
  clear c0 c1 c2 c3 c4 c5 c6 c7 c8 c9 c10
  obtain ⟨c0, c1, c2, c3, c4, c5, c6, c7, c8, c9, c10⟩ := cells11 HIc.out
  go_wp2_with fail
  refine (HA.out _).mono ?_
  rintro e x3 ⟨rfl, hb⟩
  go_wp2
  go_ret
  exact ⟨ret_str (by rw [HT.out]; simp [catL, ByteArray.append_assoc]), below_call HBc.out hb⟩
set_option maxRecDepth 100000 in
set_option maxHeartbeats 3200000 in
theorem specT_jump_f (op : ByteArray) (m r n : Int) (l : Bool) (m2 r2 n2 : Int) (l2 : Bool) (j : Int) (k : Int) (w : World) (HK : Hid (atI opsAll op = k)) (k1 : ¬ k < 12) (k2 : ¬ k < 18) (k3 : (k == 18) = false) (h2 : ¬ 0 ≤ atI twosL op) (h3 : ¬ 0 ≤ atI onesL op) (ho : op.size ≤ 10) (j0 : -600 ≤ j) (j1 : j ≤ 600) : Calls Tryd.prog 24 #[.agg #[.string op, .bool false, .int .i64 m, .int .i64 r, .int .i64 n, .bool l, .int .i64 m2, .int .i64 r2, .int .i64 n2, .bool l2, .int .i64 j]] w fun e w' => e = .returned (.string (insT op false m r n l m2 r2 n2 l2 j)) ∧ Below w.heap.size w w' := by
  have hA := sgn_size (2 * j + 2) (by omega) (by omega)
  have hd := dg_size (2 * j + 2) (by omega) (by omega)
  have HT : Hid (insT op false m r n l m2 r2 n2 l2 j = catL [op, ⟨#[32, 36]⟩, sgnB (2 * j + 2)]) := by show _ = _; unfold insT tOp; rw [if_neg h2, if_neg h3]; rfl
  have HA : Hid (∀ W : World, Calls Tryd.prog 25 #[.int .i64 (2 * j + 2)] W fun e w' => e = .returned (.string (dg (2 * j + 2))) ∧ Below W.heap.size W w') := fun W => dgS_any (2 * j + 2) W (by omega) (by omega)
  have HS : Hid (sgnB (2 * j + 2) = if 2 * j + 2 < 0 then dg (2 * j + 2) else ⟨#[43]⟩ ++ dg (2 * j + 2)) := rfl
  clear h2 h3
  generalize dg (2 * j + 2) = D at *
  have z0 := three_b 32 36 43
  have z1 := two_b 32 36
  have e0 := addS (op) (⟨#[32, 36]⟩) (by omega) (by omega)
  have e1 := addS (op ++ ⟨#[32, 36]⟩) (D) (by simp only [ByteArray.size_append]; omega) (by omega)
  have e2 := addS (op) (⟨#[32, 36, 43]⟩) (by omega) (by omega)
  have e3 := addS (op ++ ⟨#[32, 36, 43]⟩) (D) (by simp only [ByteArray.size_append]; omega) (by omega)
  clear z0 z1
  by_cases hneg : 2 * j + 2 < 0
  · have HNg : Hid (2 * j + 2 < 0) := hneg
    go_enter Tryd.func24, Tryd.ntmps24
    go_wp2_with fail
    have HIc : Hid (_ = _) := heap_alloc_new w (.cells #[.string op, .bool false, .int .i64 m, .int .i64 r, .int .i64 n, .bool l, .int .i64 m2, .int .i64 r2, .int .i64 n2, .bool l2, .int .i64 j] 45)
    have HBc : Hid (Below w.heap.size w _) := below_new w (.cells #[.string op, .bool false, .int .i64 m, .int .i64 r, .int .i64 n, .bool l, .int .i64 m2, .int .i64 r2, .int .i64 n2, .bool l2, .int .i64 j] 45)
    generalize w.alloc (.cells #[.string op, .bool false, .int .i64 m, .int .i64 r, .int .i64 n, .bool l, .int .i64 m2, .int .i64 r2, .int .i64 n2, .bool l2, .int .i64 j] 45) = x0 at *
    obtain ⟨c0, c1, c2, c3, c4, c5, c6, c7, c8, c9, c10⟩ := cells11 HIc.out
    go_region_held3 (fun w' => w'.cell? ⟨w.heap.size, 0, none⟩ = some (.string op)) (first | exact (cells11 (by repeat (first | with_reducible exact HIc.out | with_reducible apply heap_drewn))).1) (first
      | (go_at_call 37; refine (specOps_any _).mono ?_; rintro e xc ⟨vo, rfl, ho, hb⟩; have HIc : Hid (_ = _) := heap_keep (by repeat (first | with_reducible exact HIc.out | with_reducible apply heap_drewn)) hb; have HBc : Hid (Below w.heap.size w xc) := below_call (by repeat (first | with_reducible exact HBc.out | with_reducible refine Below.drew ?_)) hb; obtain ⟨q, qc, rfl, hq⟩ := ops_form ho; have HQ : Hid (∀ i (h : i < 27), xc.cell? ⟨q, i, none⟩ = some (.string (opsAll[i]'h))) := hq; clear ho hq; clear hb)
      | (go_at_call 36; refine (ops_atT q qc op _ k HK.out HQ.out).mono ?_; rintro e xd ⟨rfl, hxd⟩; have hxe := hxd.symm; subst hxe; clear hxd))
    clear c0 c1 c2 c3 c4 c5 c6 c7 c8 c9 c10
    obtain ⟨c0, c1, c2, c3, c4, c5, c6, c7, c8, c9, c10⟩ := cells11 HIc.out
    go_wp2_with fail
    refine (HA.out _).mono ?_
    rintro e x3 ⟨rfl, hb⟩
    go_wp2
    go_ret
    exact ⟨ret_str (by rw [HT.out, HS.out, if_pos HNg.out]; apply ByteArray.ext; simp [catL]), below_call HBc.out hb⟩
  · have HNg : Hid (¬ 2 * j + 2 < 0) := hneg
    go_enter Tryd.func24, Tryd.ntmps24
    go_wp2_with fail
    have HIc : Hid (_ = _) := heap_alloc_new w (.cells #[.string op, .bool false, .int .i64 m, .int .i64 r, .int .i64 n, .bool l, .int .i64 m2, .int .i64 r2, .int .i64 n2, .bool l2, .int .i64 j] 45)
    have HBc : Hid (Below w.heap.size w _) := below_new w (.cells #[.string op, .bool false, .int .i64 m, .int .i64 r, .int .i64 n, .bool l, .int .i64 m2, .int .i64 r2, .int .i64 n2, .bool l2, .int .i64 j] 45)
    generalize w.alloc (.cells #[.string op, .bool false, .int .i64 m, .int .i64 r, .int .i64 n, .bool l, .int .i64 m2, .int .i64 r2, .int .i64 n2, .bool l2, .int .i64 j] 45) = x0 at *
    obtain ⟨c0, c1, c2, c3, c4, c5, c6, c7, c8, c9, c10⟩ := cells11 HIc.out
    go_region_held3 (fun w' => w'.cell? ⟨w.heap.size, 0, none⟩ = some (.string op)) (first | exact (cells11 (by repeat (first | with_reducible exact HIc.out | with_reducible apply heap_drewn))).1) (first
      | (go_at_call 37; refine (specOps_any _).mono ?_; rintro e xc ⟨vo, rfl, ho, hb⟩; have HIc : Hid (_ = _) := heap_keep (by repeat (first | with_reducible exact HIc.out | with_reducible apply heap_drewn)) hb; have HBc : Hid (Below w.heap.size w xc) := below_call (by repeat (first | with_reducible exact HBc.out | with_reducible refine Below.drew ?_)) hb; obtain ⟨q, qc, rfl, hq⟩ := ops_form ho; have HQ : Hid (∀ i (h : i < 27), xc.cell? ⟨q, i, none⟩ = some (.string (opsAll[i]'h))) := hq; clear ho hq; clear hb)
      | (go_at_call 36; refine (ops_atT q qc op _ k HK.out HQ.out).mono ?_; rintro e xd ⟨rfl, hxd⟩; have hxe := hxd.symm; subst hxe; clear hxd))
    clear c0 c1 c2 c3 c4 c5 c6 c7 c8 c9 c10
    obtain ⟨c0, c1, c2, c3, c4, c5, c6, c7, c8, c9, c10⟩ := cells11 HIc.out
    go_wp2_with fail
    refine (HA.out _).mono ?_
    rintro e x3 ⟨rfl, hb⟩
    go_wp2
    go_ret
    exact ⟨ret_str (by rw [HT.out, HS.out, if_neg (by have h := HNg.out; omega)]; apply ByteArray.ext; simp [catL]), below_call HBc.out hb⟩
set_option maxRecDepth 100000 in
set_option maxHeartbeats 3200000 in
theorem specT_reti_f (op : ByteArray) (m r n : Int) (l : Bool) (m2 r2 n2 : Int) (l2 : Bool) (j : Int) (k : Int) (w : World) (HK : Hid (atI opsAll op = k)) (k1 : ¬ k < 12) (k2 : ¬ k < 18) (k3 : (k == 18) = true) (h2 : ¬ 0 ≤ atI twosL op) (h3 : 0 ≤ atI onesL op) (hr : op = ⟨#[114, 101, 116, 105]⟩) : Calls Tryd.prog 24 #[.agg #[.string op, .bool false, .int .i64 m, .int .i64 r, .int .i64 n, .bool l, .int .i64 m2, .int .i64 r2, .int .i64 n2, .bool l2, .int .i64 j]] w fun e w' => e = .returned (.string (insT op false m r n l m2 r2 n2 l2 j)) ∧ Below w.heap.size w w' := by
  have HT : Hid (insT op false m r n l m2 r2 n2 l2 j = op) := by show _ = _; unfold insT tOp; rw [if_neg h2, if_pos h3, if_pos hr]; rfl
  clear h2 h3 hr
  go_enter Tryd.func24, Tryd.ntmps24
  go_wp2_with fail
  have HIc : Hid (_ = _) := heap_alloc_new w (.cells #[.string op, .bool false, .int .i64 m, .int .i64 r, .int .i64 n, .bool l, .int .i64 m2, .int .i64 r2, .int .i64 n2, .bool l2, .int .i64 j] 45)
  have HBc : Hid (Below w.heap.size w _) := below_new w (.cells #[.string op, .bool false, .int .i64 m, .int .i64 r, .int .i64 n, .bool l, .int .i64 m2, .int .i64 r2, .int .i64 n2, .bool l2, .int .i64 j] 45)
  generalize w.alloc (.cells #[.string op, .bool false, .int .i64 m, .int .i64 r, .int .i64 n, .bool l, .int .i64 m2, .int .i64 r2, .int .i64 n2, .bool l2, .int .i64 j] 45) = x0 at *
  obtain ⟨c0, c1, c2, c3, c4, c5, c6, c7, c8, c9, c10⟩ := cells11 HIc.out
  go_region_held3 (fun w' => w'.cell? ⟨w.heap.size, 0, none⟩ = some (.string op)) (first | exact (cells11 (by repeat (first | with_reducible exact HIc.out | with_reducible apply heap_drewn))).1) (first
    | (go_at_call 37; refine (specOps_any _).mono ?_; rintro e xc ⟨vo, rfl, ho, hb⟩; have HIc : Hid (_ = _) := heap_keep (by repeat (first | with_reducible exact HIc.out | with_reducible apply heap_drewn)) hb; have HBc : Hid (Below w.heap.size w xc) := below_call (by repeat (first | with_reducible exact HBc.out | with_reducible refine Below.drew ?_)) hb; obtain ⟨q, qc, rfl, hq⟩ := ops_form ho; have HQ : Hid (∀ i (h : i < 27), xc.cell? ⟨q, i, none⟩ = some (.string (opsAll[i]'h))) := hq; clear ho hq; clear hb)
    | (go_at_call 36; refine (ops_atT q qc op _ k HK.out HQ.out).mono ?_; rintro e xd ⟨rfl, hxd⟩; have hxe := hxd.symm; subst hxe; clear hxd))
  clear c0 c1 c2 c3 c4 c5 c6 c7 c8 c9 c10
  obtain ⟨c0, c1, c2, c3, c4, c5, c6, c7, c8, c9, c10⟩ := cells11 HIc.out
  go_wp2
  go_ret
  exact ⟨ret_str HT.out.symm, HBc.out⟩
end Go.Proofs.YtknielpkmablkaaDoor
