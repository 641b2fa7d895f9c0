/- Instructions: how an operand stands in the first word. -/
import Derived.Test.YtodjccipfonaiaaGreatDoorRows
import Derived.WalkKit
import Derived.WalkSpells
import Derived.WalkLawsBesides
import Derived.Outline
import Derived.RegionTactic
import Derived.BigRegion
import Derived.Test.YtodjccipfonaiaaGreatDoorBun0
import Derived.Test.YtodjccipfonaiaaGreatDoorBun2
import Derived.Deep.RegionHeld3
import Derived.Laws.Bits128
import Derived.Test.YtodjccipfonaiaaGreatDoorBun1
namespace Go.Proofs.YtodjccipfonaiaaGreatDoor
open Go.RowKit

theorem cells4h {W : World} {B : Nat} {t : TypeId} {fr : Nat × Nat} {v0 v1 v2 v3 : Value} (h : W.heap[B]? = some (.cells #[v0, v1, v2, v3] t fr)) :
    W.cell? ⟨B, 0, none⟩ = some v0 ∧ W.cell? ⟨B, 1, none⟩ = some v1 ∧ W.cell? ⟨B, 2, none⟩ = some v2 ∧ W.cell? ⟨B, 3, none⟩ = some v3 := by
  refine ⟨?_, ?_, ?_, ?_⟩ <;> simp [World.cell?, h]
def asI (m r n : Int) (l : Bool) : Int × Int × Bool :=
  if m = 0 then (0, r, false) else if m = 1 then (1, r, true) else if m = 2 then (1, 2, true) else if m = 3 then (2, r, false) else if m = 4 then (3, r, false)
  else if (shortI n).2.2 && !l then ((shortI n).1, (shortI n).2.1, false) else (3, 0, true)
set_option maxHeartbeats 400000 in
theorem l02As_any (m r n : Int) (l : Bool) (w : World) (h0 : 0 ≤ m) (h5 : m ≤ 5) : Calls Tryz.prog 87 #[.agg #[.int .i64 m, .int .i64 r, .int .i64 n, .bool l]] w fun e w' => e = .returned (.tuple #[.int .i64 (asI m r n l).1, .int .i64 (asI m r n l).2.1, .bool (asI m r n l).2.2]) ∧ Below w.heap.size w w' := by
  by_cases hm : m = 5
  · subst hm
    have HA : Hid (asI 5 r n l = if (shortI n).2.2 && !l then ((shortI n).1, (shortI n).2.1, false) else (3, 0, true)) := by show _ = _; simp [asI]
    generalize asI 5 r n l = y at *
    obtain ⟨s1, s2, s3, hs⟩ : ∃ a b c, shortI n = (a, b, c) := ⟨_, _, _, rfl⟩
    have HS : Hid (_ = _) := hs
    clear hs
    go_enter Tryz.func87, Tryz.ntmps87
    go_wp2_with fail
    refine (l02Short_any n _).mono ?_
    rintro e w1 ⟨rfl, rfl⟩
    rw [HS.out]
    cases s3
    · go_wp2
      (try simp only [Exit.inBlock, Exit.then]); refine bodyPost_ret (results3 rfl _ _ _) rfl ?_
      exact ⟨ret_three (by rw [HA.out, HS.out]; rfl), below_new _ _⟩
    · cases l
      · go_wp2
        (try simp only [Exit.inBlock, Exit.then]); refine bodyPost_ret (results3 rfl _ _ _) rfl ?_
        exact ⟨ret_three (by rw [HA.out, HS.out]; rfl), below_new _ _⟩
      · go_wp2
        (try simp only [Exit.inBlock, Exit.then]); refine bodyPost_ret (results3 rfl _ _ _) rfl ?_
        exact ⟨ret_three (by rw [HA.out, HS.out]; rfl), below_new _ _⟩
  · by_cases h2 : m = 2
    · subst h2
      go_enter Tryz.func87, Tryz.ntmps87
      go_wp2
      (try simp only [Exit.inBlock, Exit.then]); refine bodyPost_ret (results3 rfl _ _ _) rfl ?_
      exact ⟨rfl, below_new _ _⟩
    obtain rfl | rfl | rfl | rfl : m = 0 ∨ m = 1 ∨ m = 3 ∨ m = 4 := by omega
    all_goals
      go_enter Tryz.func87, Tryz.ntmps87
      go_wp2
      go_region
      go_wp2
      (try simp only [Exit.inBlock, Exit.then]); refine bodyPost_ret (results3 rfl _ _ _) rfl ?_
      exact ⟨rfl, (below_new _ _).drew⟩
set_option maxHeartbeats 400000 in
theorem hasWord_any (m r n : Int) (l : Bool) (w : World) (h0 : 0 ≤ m) (h5 : m ≤ 5) (hT : Tabs w) : Calls Tryz.prog 41 #[.agg #[.int .i64 m, .int .i64 r, .int .i64 n, .bool l]] w fun e w' => e = .returned (.bool (asI m r n l).2.2) ∧ Below w.heap.size w w' := by
  have HT : Hid (∀ o, Tabs (w.alloc o)) := fun o => hT.alloc o
  clear hT
  by_cases hm : m = 5
  · subst hm
    have HA : Hid ((asI 5 r n l).2.2 = (l || !(shortI n).2.2)) := by
      show _ = _
      cases h : (shortI n).2.2 <;> cases l <;> simp [asI, h]
    generalize (asI 5 r n l).2.2 = y at *
    cases l
    · go_enter Tryz.func41, Tryz.ntmps41
      go_wp2_with fail
      refine (isShort_any n _ (HT.out _)).mono ?_
      rintro e w1 ⟨rfl, hb⟩
      go_wp2
      go_ret
      exact ⟨ret_bool (by rw [HA.out]; rfl), below_call (below_new _ _) hb⟩
    · go_enter Tryz.func41, Tryz.ntmps41
      go_wp2
      go_ret
      exact ⟨ret_bool (by rw [HA.out]; rfl), below_new _ _⟩
  · obtain rfl | rfl | rfl | rfl | rfl : m = 0 ∨ m = 1 ∨ m = 2 ∨ m = 3 ∨ m = 4 := by omega
    all_goals
      go_enter Tryz.func41, Tryz.ntmps41
      go_wp2
      go_ret
      exact ⟨rfl, below_new _ _⟩
set_option maxHeartbeats 1000000 in
theorem inFirst_any (m r n : Int) (l : Bool) (w : World) (h0 : 0 ≤ m) (h5 : m ≤ 5) (hT : Tabs w) : Calls Tryz.prog 78 #[.agg #[.int .i64 m, .int .i64 r, .int .i64 n, .bool l]] w fun e w' => e = .returned (.agg #[.int .i64 (asI m r n l).1, .int .i64 (asI m r n l).2.1]) ∧ Below w.heap.size w w' := by
  have HT : Hid (∀ o p, Tabs ((w.alloc o).alloc p)) := fun o p => (hT.alloc o).alloc p
  clear hT
  by_cases hm : m = 5
  · subst hm
    have HA : Hid (asI 5 r n l = if (shortI n).2.2 && !l then ((shortI n).1, (shortI n).2.1, false) else (3, 0, true)) := by show _ = _; simp [asI]
    generalize asI 5 r n l = y at *
    have HF : Hid ((shortI n).2.2 = true → shortF n = shortI n) := fun h => by simp [shortF, h]
    have HG : Hid (_ = _) := shortF_b n
    obtain ⟨s1, s2, s3, hs⟩ : ∃ a b c, shortF n = (a, b, c) := ⟨_, _, _, rfl⟩
    have HS : Hid (_ = _) := hs
    clear hs
    go_enter Tryz.func78, Tryz.ntmps78
    go_wp2_with fail
    refine (shortField_any n _ (HT.out _ _)).mono ?_
    rintro e x1 ⟨rfl, hb⟩
    rw [HS.out]
    have HI : Hid (_ = _) := heap_keep (heap_more (heap_alloc_new w _) _) hb
    have HR : Hid (_ = _) := heap_keep (heap_new2 w _ _) hb
    have HB : Hid (Below w.heap.size w x1) := below_call (below_more (below_new _ _) _) hb
    clear hb
    obtain ⟨c0, c1, c2, c3⟩ := cells4h HI.out
    obtain ⟨q0, q1, f0, f1⟩ := two_cells HR.out
    have hz := heap_lt HR.out
    have hz2 : w.heap.size < x1.heap.size := by omega
    cases s3
    · have HY : Hid (y = (3, 0, true)) := by
        show _ = _
        have : (shortI n).2.2 = false := by rw [← HG.out, HS.out]
        rw [HA.out, this]; rfl
      go_wp2
      refine bodyPost_ret (results_cell_row Tryz.results78 _ _ (w.heap.size + 1) 103 #[.int .i64 3, .int .i64 0] (0, 0) _ rfl (heap_more (heap_set (heap_set HR.out 0 _) 1 _) _) Tryz.underlying103 rfl (by kernel_rfl)) rfl ⟨by rw [HY.out], ?_⟩
      exact below_more ((HB.out.setCell (by simp) _).setCell (by simp) _) _
    · have ht : (shortI n).2.2 = true := by rw [← HG.out, HS.out]
      have he : shortI n = (s1, s2, true) := by rw [← HF.out ht, HS.out]
      have HT2 : Hid (_) := ht
      have HE : Hid (_ = _) := he
      clear ht he
      cases l
      · have HY : Hid (y = (s1, s2, false)) := by show _ = _; rw [HA.out, HT2.out, HE.out]; rfl
        go_wp2
        refine bodyPost_ret (results_cell_row Tryz.results78 _ _ (w.heap.size + 1) 103 #[.int .i64 s1, .int .i64 s2] (0, 0) _ rfl (heap_more (heap_set (heap_set HR.out 0 _) 1 _) _) Tryz.underlying103 rfl (by kernel_rfl)) rfl ⟨by rw [HY.out], ?_⟩
        exact below_more ((HB.out.setCell (by simp) _).setCell (by simp) _) _
      · have HY : Hid (y = (3, 0, true)) := by show _ = _; rw [HA.out, HT2.out]; rfl
        go_wp2
        refine bodyPost_ret (results_cell_row Tryz.results78 _ _ (w.heap.size + 1) 103 #[.int .i64 3, .int .i64 0] (0, 0) _ rfl (heap_more (heap_set (heap_set HR.out 0 _) 1 _) _) Tryz.underlying103 rfl (by kernel_rfl)) rfl ⟨by rw [HY.out], ?_⟩
        exact below_more ((HB.out.setCell (by simp) _).setCell (by simp) _) _
  · obtain rfl | rfl | rfl | rfl | rfl : m = 0 ∨ m = 1 ∨ m = 2 ∨ m = 3 ∨ m = 4 := by omega
    all_goals
      go_enter Tryz.func78, Tryz.ntmps78
      go_wp2
      exact bodyPost_ret (results_cell_row Tryz.results78 _ _ (w.heap.size + 1) 103 _ (0, 0) _ rfl (heap_new2 _ _ _) Tryz.underlying103 rfl (by kernel_rfl)) rfl ⟨rfl, below_more (below_new _ _) _⟩
end Go.Proofs.YtodjccipfonaiaaGreatDoor
namespace Go.Proofs.YtodjccipfonaiaaGreatDoor
open Go.RowKit
set_option linter.unusedVariables false

def modeI (a : Int) : Int := if a = 0 then 0 else if a = 1 then 1 else if a = 2 then 3 else 4
def dstT (a r : Int) : Int × Int := if a = 1 ∧ r = 2 then (2, 0) else (modeI a, r)
/- mode, register, N, Long of the operand of As and a register. -/
def srcT (a r : Int) : Int × Int × Int × Bool :=
  if a = 0 ∧ r = 3 then (5, 0, 0, false) else if a = 1 ∧ r = 3 then (5, 0, 1, false) else if a = 2 ∧ r = 3 then (5, 0, 2, false) else if a = 3 ∧ r = 3 then (5, 0, 65535, false)
  else if a = 2 ∧ r = 2 then (5, 0, 4, false) else if a = 3 ∧ r = 2 then (5, 0, 8, false) else if a = 3 ∧ r = 0 then (5, 0, 0, true) else ((dstT a r).1, (dstT a r).2, 0, false)
def pairK (k : Nat) : Int × Int := (shortsL.getD (3 * k + 1) 0, shortsL.getD (3 * k + 2) 0)
theorem notS_more {a r : Int} {k : Nat} (h : ∀ j, j < k → ¬ (a = (pairK j).1 ∧ r = (pairK j).2)) (hk : ¬ (a = (pairK k).1 ∧ r = (pairK k).2)) : ∀ j, j < k + 1 → ¬ (a = (pairK j).1 ∧ r = (pairK j).2) := by
  intro j hj
  by_cases e : j = k
  · subst e; exact hk
  · exact h j (by omega)
theorem srcT_not {a r : Int} (h : ∀ j, j < 6 → ¬ (a = (pairK j).1 ∧ r = (pairK j).2)) : srcT a r = if a = 3 ∧ r = 0 then (5, 0, 0, true) else ((dstT a r).1, (dstT a r).2, 0, false) := by
  have h0 : ¬ (a = 0 ∧ r = 3) := h 0 (by omega)
  have h1 : ¬ (a = 1 ∧ r = 3) := h 1 (by omega)
  have h2 : ¬ (a = 2 ∧ r = 3) := h 2 (by omega)
  have h3 : ¬ (a = 3 ∧ r = 3) := h 3 (by omega)
  have h4 : ¬ (a = 2 ∧ r = 2) := h 4 (by omega)
  have h5 : ¬ (a = 3 ∧ r = 2) := h 5 (by omega)
  unfold srcT
  rw [if_neg h0, if_neg h1, if_neg h2, if_neg h3, if_neg h4, if_neg h5]
end Go.Proofs.YtodjccipfonaiaaGreatDoor
namespace Go.Proofs.YtodjccipfonaiaaGreatDoor
open Go.RowKit

theorem i64_and1023 (n : Int) : bits .and .i64 n 1023 = n % 1024 := by
  have h127 : (BitVec.ofInt 64 1023).toNat = 2 ^ 10 - 1 := by decide
  have key : (BitVec.ofInt 64 n &&& BitVec.ofInt 64 1023).toNat = (n % ((2 ^ 64 : Nat) : Int)).toNat % 2 ^ 10 := by
    rw [BitVec.toNat_and, BitVec.toNat_ofInt, h127, Nat.and_two_pow_sub_one_eq_mod]
  show IntKind.i64.wrap ((BitVec.ofInt 64 n &&& BitVec.ofInt 64 1023).toNat : Nat) = n % 1024
  rw [key, IntKind.wrap_i64]
  omega
theorem wr (x : Int) (h0 : -1000000 ≤ x) (h1 : x ≤ 1000000) : IntKind.i64.wrap x = x := by
  rw [IntKind.wrap_i64]; omega
def markI (b : Bool) : Int := if b then 64 else 0
theorem byteMark_any (op : ByteArray) (b : Bool) (m r n : Int) (l : Bool) (m2 r2 n2 : Int) (l2 : Bool) (j : Int) (w : World) :
    Calls Tryz.prog 79 #[.agg #[.string op, .bool b, .int .i64 m, .int .i64 r, .int .i64 n, .bool l, .int .i64 m2, .int .i64 r2, .int .i64 n2, .bool l2, .int .i64 j]] w fun e w' => e = .returned (.int .i64 (markI b)) ∧ Below w.heap.size w w' := by
  cases b
  all_goals
    go_enter Tryz.func79, Tryz.ntmps79
    go_wp2
    go_ret
    exact ⟨rfl, below_new _ _⟩
set_option maxRecDepth 100000 in
set_option maxHeartbeats 1600000 in
theorem firstOfJump_any (op : ByteArray) (b : Bool) (m r n : Int) (l : Bool) (m2 r2 n2 : Int) (l2 : Bool) (j : Int) (k : Int) (w : World) (hk0 : 0 ≤ k) (hk1 : k ≤ 7) :
    Calls Tryz.prog 39 #[.agg #[.string op, .bool b, .int .i64 m, .int .i64 r, .int .i64 n, .bool l, .int .i64 m2, .int .i64 r2, .int .i64 n2, .bool l2, .int .i64 j], .int .i64 k] w fun e w' => e = .returned (.int .i64 (8192 + 1024 * k + j % 1024)) ∧ Below w.heap.size w w' := by
  have hand := i64_and1023 j
  have h0 : 0 ≤ j % 1024 := by omega
  have h1 : j % 1024 < 1024 := by omega
  generalize j % 1024 = y at *
  go_enter Tryz.func39, Tryz.ntmps39
  go_wp2
  go_ret
  exact ⟨ret_int rfl, below_new _ _⟩
set_option maxRecDepth 100000 in
set_option maxHeartbeats 1600000 in
theorem firstOfOne_any (op : ByteArray) (b : Bool) (m r n : Int) (l : Bool) (m2 r2 n2 : Int) (l2 : Bool) (j : Int) (k a1 a2 : Int) (w : World) (hk0 : 0 ≤ k) (hk1 : k ≤ 7) (h0 : 0 ≤ m) (h5 : m ≤ 5) (H1 : Hid ((asI m r n l).1 = a1)) (H2 : Hid ((asI m r n l).2.1 = a2)) (ha0 : 0 ≤ a1) (ha1 : a1 ≤ 3) (hb0 : 0 ≤ a2) (hb1 : a2 ≤ 15) (hT : Tabs w) :
    Calls Tryz.prog 38 #[.agg #[.string op, .bool b, .int .i64 m, .int .i64 r, .int .i64 n, .bool l, .int .i64 m2, .int .i64 r2, .int .i64 n2, .bool l2, .int .i64 j], .int .i64 k] w fun e w' => e = .returned (.int .i64 (4096 + 128 * k + markI b + 16 * a1 + a2)) ∧ Below w.heap.size w w' := by
  have HT : Hid (∀ o, Tabs (w.alloc o)) := fun o => hT.alloc o
  clear hT
  go_enter Tryz.func38, Tryz.ntmps38
  go_wp2_with fail
  refine (inFirst_any m r n l _ h0 h5 (HT.out _)).mono ?_
  rintro e x1 ⟨rfl, hb⟩
  rw [H1.out, H2.out]
  have HI : Hid (_ = _) := heap_keep (heap_alloc_new w _) hb
  have HB : Hid (Below w.heap.size w x1) := below_call (below_new _ _) hb
  clear hb
  obtain ⟨c0, c1, c2, c3, c4, c5, c6, c7, c8, c9, c10⟩ := cells11 HI.out
  have hz := heap_lt HI.out
  have hm0 : 0 ≤ markI b := by cases b <;> simp [markI]
  have hm1 : markI b ≤ 64 := by cases b <;> simp [markI]
  have e1 := wr (128 * k) (by omega) (by omega)
  have e2 := wr (4096 + 128 * k) (by omega) (by omega)
  have e3 := wr (4096 + 128 * k + markI b) (by omega) (by omega)
  have e4 := wr (16 * a1) (by omega) (by omega)
  have e5 := wr (4096 + 128 * k + markI b + 16 * a1) (by omega) (by omega)
  have e6 := wr (4096 + 128 * k + markI b + 16 * a1 + a2) (by omega) (by omega)
  go_wp2_with fail
  go_region_held3 (fun w' => (w'.cell? ⟨w.heap.size, 0, none⟩ = some (.string op) ∧ w'.cell? ⟨w.heap.size, 1, none⟩ = some (.bool b) ∧ w'.cell? ⟨w.heap.size, 2, none⟩ = some (.int .i64 m) ∧ w'.cell? ⟨w.heap.size, 3, none⟩ = some (.int .i64 r) ∧ w'.cell? ⟨w.heap.size, 4, none⟩ = some (.int .i64 n) ∧ w'.cell? ⟨w.heap.size, 5, none⟩ = some (.bool l) ∧ w'.cell? ⟨w.heap.size, 6, none⟩ = some (.int .i64 m2) ∧ w'.cell? ⟨w.heap.size, 7, none⟩ = some (.int .i64 r2) ∧ w'.cell? ⟨w.heap.size, 8, none⟩ = some (.int .i64 n2) ∧ w'.cell? ⟨w.heap.size, 9, none⟩ = some (.bool l2) ∧ w'.cell? ⟨w.heap.size, 10, none⟩ = some (.int .i64 j)) ∧ w'.cell? ⟨x1.heap.size, 0, none⟩ = some (.int .i64 a1) ∧ w'.cell? ⟨x1.heap.size, 1, none⟩ = some (.int .i64 a2)) (go_keep) (first
    | (go_at_call 79; refine (byteMark_any op b m r n l m2 r2 n2 l2 j _).mono ?_; rintro e x2 ⟨rfl, hb⟩; have HI2 : Hid (_ = _) := heap_keep (by exact heap_more HI.out _) hb; have HR2 : Hid (_ = _) := heap_keep (by exact heap_alloc_new x1 _) hb; have HB2 : Hid (Below w.heap.size w x2) := below_call (by exact (below_more HB.out _).drew) hb; obtain ⟨d0, d1, d2, d3, d4, d5, d6, d7, d8, d9, d10⟩ := cells11 HI2.out; obtain ⟨q0, q1, f0, f1⟩ := two_cells HR2.out; clear hb c0 c1 c2 c3 c4 c5 c6 c7 c8 c9 c10))
  go_wp2
  go_ret
  exact ⟨rfl, HB2.out⟩
end Go.Proofs.YtodjccipfonaiaaGreatDoor
namespace Go.Proofs.YtodjccipfonaiaaGreatDoor
open Go.RowKit
set_option linter.unusedVariables false

theorem ret_insn {op : Value} {a b c d e f g h i : Value} {j j' : Int} (hj : j = j') : Ending.returned (.agg #[op, a, b, c, d, e, f, g, h, i, .int .i64 j]) = .returned (.agg #[op, a, b, c, d, e, f, g, h, i, .int .i64 j']) := by rw [hj]
theorem set_eleven {W : World} {g : Nat} {z0 z1 z2 z3 z4 z5 z6 z7 z8 z9 z10 a0 a1 a2 a3 a4 a5 a6 a7 a8 a9 a10 : Value} {t : TypeId} (h : W.heap[g]? = some (.cells #[z0, z1, z2, z3, z4, z5, z6, z7, z8, z9, z10] t (0, 0))) : (((((((((((W.setCell ⟨g, 0, none⟩ a0).setCell ⟨g, 1, none⟩ a1).setCell ⟨g, 2, none⟩ a2).setCell ⟨g, 3, none⟩ a3).setCell ⟨g, 4, none⟩ a4).setCell ⟨g, 5, none⟩ a5).setCell ⟨g, 6, none⟩ a6).setCell ⟨g, 7, none⟩ a7).setCell ⟨g, 8, none⟩ a8).setCell ⟨g, 9, none⟩ a9).setCell ⟨g, 10, none⟩ a10).heap[g]? = some (.cells #[a0, a1, a2, a3, a4, a5, a6, a7, a8, a9, a10] t (0, 0)) := by
  have k := (heap_set (heap_set (heap_set (heap_set (heap_set (heap_set (heap_set (heap_set (heap_set (heap_set (heap_set h 0 a0) 1 a1) 2 a2) 3 a3) 4 a4) 5 a5) 6 a6) 7 a7) 8 a8) 9 a9) 10 a10)
  simp only [List.setIfInBounds_toArray, List.set_cons_zero, List.set_cons_succ] at k
  exact k
theorem below_eleven {B : Nat} {v W : World} {g : Nat} {a0 a1 a2 a3 a4 a5 a6 a7 a8 a9 a10 : Value} (hg : B ≤ g) (h : Below B v W) : Below B v (((((((((((W.setCell ⟨g, 0, none⟩ a0).setCell ⟨g, 1, none⟩ a1).setCell ⟨g, 2, none⟩ a2).setCell ⟨g, 3, none⟩ a3).setCell ⟨g, 4, none⟩ a4).setCell ⟨g, 5, none⟩ a5).setCell ⟨g, 6, none⟩ a6).setCell ⟨g, 7, none⟩ a7).setCell ⟨g, 8, none⟩ a8).setCell ⟨g, 9, none⟩ a9).setCell ⟨g, 10, none⟩ a10) :=
  (((((((((((h.setCell hg a0).setCell hg a1).setCell hg a2).setCell hg a3).setCell hg a4).setCell hg a5).setCell hg a6).setCell hg a7).setCell hg a8).setCell hg a9).setCell hg a10)
theorem ret_insnb {op : Value} {x x' : Bool} {b c d e f g h i j : Value} (hj : x = x') : Ending.returned (.agg #[op, .bool x, b, c, d, e, f, g, h, i, j]) = .returned (.agg #[op, .bool x', b, c, d, e, f, g, h, i, j]) := by rw [hj]
theorem quo_in (x y : Int) (h0 : 0 ≤ x) (h1 : x ≤ 65535) (hy : 1 ≤ y) : IntKind.i64.wrap (x.tdiv y) = x / y := IntWalk.i64_quo x y ⟨h0, by omega, hy⟩
theorem rem_in (x y : Int) (h0 : 0 ≤ x) : x.tmod y = x % y := Int.tmod_eq_emod_of_nonneg h0
theorem rem_wr (x y : Int) (h0 : 0 ≤ x) (hy : 1 ≤ y) (h2 : y ≤ 65536) : IntKind.i64.wrap (x.tmod y) = x % y := by
  rw [rem_in x y h0]
  have h3 := Int.emod_nonneg x (show y ≠ 0 by omega)
  have h4 := Int.emod_lt_of_pos x (show 0 < y by omega)
  exact wr _ (by omega) (by omega)
theorem and64 (n : Int) (h0 : 0 ≤ n) (h1 : n ≤ 65535) : (bits .and .i64 n 64 != 0) = (n / 64 % 2 == 1) := by
  have hk : (64 : Int) = 2 ^ 6 := by decide
  obtain ⟨a, rfl⟩ := Int.eq_ofNat_of_zero_le h0
  have h := (bits_nat .i64 16 (by decide) (fun x hx0 hx1 => by rw [IntKind.wrap_i64]; omega) a 64 (by omega) (by omega)).1
  rw [show ((64 : Nat) : Int) = 64 from rfl] at h
  rw [h]
  have e : a &&& 64 = (a / 64 % 2) * 64 := by
    have h127 : a &&& 127 = a % 128 := Nat.and_two_pow_sub_one_eq_mod a 7
    have hd : ∀ r : Fin 128, r.1 &&& 64 = (r.1 / 64 % 2) * 64 := by decide +kernel
    have h2 := hd ⟨a % 128, by omega⟩
    simp only at h2
    have h3 : a &&& 64 = (a &&& 127) &&& 64 := by rw [Nat.and_assoc]; rfl
    rw [h3, h127, h2]
    congr 1
    omega
  rw [e]
  have : a / 64 % 2 = 0 ∨ a / 64 % 2 = 1 := by omega
  have c : ((a : Int) / 64 % 2) = ((a / 64 % 2 : Nat) : Int) := by omega
  rw [c]
  rcases this with h2 | h2 <;> simp [h2]
end Go.Proofs.YtodjccipfonaiaaGreatDoor
namespace Go.Proofs.YtodjccipfonaiaaGreatDoor
open Go.RowKit
set_option linter.unusedVariables false

theorem Tabs.set {w : World} (h : Tabs w) {B : Nat} (h0 : 0 ≠ B) (h1 : 1 ≠ B) (p : Addr) (v : Value) (hp : p.block = B) : Tabs (w.setCell p v) := by
  subst hp
  obtain ⟨⟨t, fr, g1⟩, ⟨u, fs, g2⟩⟩ := h
  exact ⟨⟨t, fr, heap_set_other g1 p h0 v⟩, ⟨u, fs, heap_set_other g2 p h1 v⟩⟩
end Go.Proofs.YtodjccipfonaiaaGreatDoor
namespace Go.Proofs.YtodjccipfonaiaaGreatDoor
open Go.RowKit
set_option linter.unusedVariables false

structure Ins where
  op : ByteArray
  b : Bool
  m : Int
  r : Int
  n : Int
  l : Bool
  m2 : Int
  r2 : Int
  n2 : Int
  l2 : Bool
  j : Int
def Ins.vals (i : Ins) : Array Value := #[.string i.op, .bool i.b, .int .i64 i.m, .int .i64 i.r, .int .i64 i.n, .bool i.l, .int .i64 i.m2, .int .i64 i.r2, .int .i64 i.n2, .bool i.l2, .int .i64 i.j]
def nameAt (k : Nat) : ByteArray := namesL.flatten.getD k ⟨#[]⟩
/- The program's Insn of a first word. -/
def insI (w : Int) : Ins :=
  if 16384 ≤ w then { op := nameAt (w / 4096).toNat, b := w / 64 % 2 == 1, m := (srcT (w / 16 % 4) (w / 256 % 16)).1, r := (srcT (w / 16 % 4) (w / 256 % 16)).2.1, n := (srcT (w / 16 % 4) (w / 256 % 16)).2.2.1, l := (srcT (w / 16 % 4) (w / 256 % 16)).2.2.2, m2 := (dstT (w / 128 % 2) (w % 16)).1, r2 := (dstT (w / 128 % 2) (w % 16)).2, n2 := 0, l2 := false, j := 0 }
  else if 8192 ≤ w then { op := nameAt (32 + (w / 1024 % 8).toNat), b := false, m := 0, r := 0, n := 0, l := false, m2 := 0, r2 := 0, n2 := 0, l2 := false, j := (w + 512) % 1024 - 512 }
  else if 4096 ≤ w ∧ w < 5120 then { op := nameAt (16 + (w / 128 % 8).toNat), b := w / 64 % 2 == 1, m := (srcT (w / 16 % 4) (w % 16)).1, r := (srcT (w / 16 % 4) (w % 16)).2.1, n := (srcT (w / 16 % 4) (w % 16)).2.2.1, l := (srcT (w / 16 % 4) (w % 16)).2.2.2, m2 := 0, r2 := 0, n2 := 0, l2 := false, j := 0 }
  else { op := ⟨#[]⟩, b := false, m := 0, r := 0, n := 0, l := false, m2 := 0, r2 := 0, n2 := 0, l2 := false, j := 0 }
theorem names_flat : namesL.flatten.length = 48 := by decide +kernel
theorem name_cell {w : World} (hT : Tabs w) (k : Nat) (hk : k < 48) : w.cell? ⟨0, k, none⟩ = some (.string (nameAt k)) := by
  obtain ⟨t, fr, h⟩ := hT.ops
  have hl : k < namesL.flatten.length := by rw [names_flat]; exact hk
  rw [cell_of_row w _ k _ t fr h]
  simp only [namesV, nameAt, List.getElem?_toArray, List.getElem?_map, List.getElem?_eq_getElem hl, Option.map_some, List.getD, Option.getD_some]
def Ins.right (i : Ins) : Bool := insnB i.op i.b i.m i.r i.n i.l i.m2 i.r2 i.n2 i.l2 i.j
def outV (i : Array Value) (many code : Int) : Array Value := i ++ #[.int .i64 many, .int .i64 code]
def zeroIns : Ins := { op := ⟨#[]⟩, b := false, m := 0, r := 0, n := 0, l := false, m2 := 0, r2 := 0, n2 := 0, l2 := false, j := 0 }
end Go.Proofs.YtodjccipfonaiaaGreatDoor
namespace Go.Proofs.YtodjccipfonaiaaGreatDoor
open Go.RowKit
set_option linter.unusedVariables false

set_option maxHeartbeats 800000 in
theorem eqOperand_any (m r n : Int) (l : Bool) (w : World) :
    Calls Tryz.prog 89 #[.agg #[.int .i64 m, .int .i64 r, .int .i64 n, .bool l], .agg #[.int .i64 m, .int .i64 r, .int .i64 n, .bool l]] w fun e w' => e = .returned (.bool true) ∧ Below w.heap.size w w' := by
  go_enter Tryz.func89, Tryz.ntmps89
  go_wp2
  go_ret
  exact ⟨rfl, ((Below.refl _ _).alloc (Nat.le_refl _) _).alloc (by simp) _⟩
set_option maxRecDepth 100000 in
set_option maxHeartbeats 1600000 in
theorem eqInsn_any (op : ByteArray) (b : Bool) (m r n : Int) (l : Bool) (m2 r2 n2 : Int) (l2 : Bool) (j : Int) (w : World) :
    Calls Tryz.prog 50 #[.agg #[.string op, .bool b, .int .i64 m, .int .i64 r, .int .i64 n, .bool l, .int .i64 m2, .int .i64 r2, .int .i64 n2, .bool l2, .int .i64 j], .agg #[.string op, .bool b, .int .i64 m, .int .i64 r, .int .i64 n, .bool l, .int .i64 m2, .int .i64 r2, .int .i64 n2, .bool l2, .int .i64 j]] w fun e w' => e = .returned (.bool true) ∧ Below w.heap.size w w' := by
  go_enter Tryz.func50, Tryz.ntmps50
  go_wp2_with fail
  refine (eqOperand_any m r n l _).mono ?_
  rintro e x1 ⟨rfl, hb⟩
  have HI1 : Hid (_ = _) := heap_keep (heap_more (heap_alloc_new w _) _) hb
  have HJ1 : Hid (_ = _) := heap_keep (heap_new2 w _ _) hb
  have HB1 : Hid (Below w.heap.size w x1) := below_call (below_more (below_new _ _) _) hb
  clear hb
  obtain ⟨c0, c1, c2, c3, c4, c5, c6, c7, c8, c9, c10⟩ := cells11 HI1.out
  obtain ⟨d0, d1, d2, d3, d4, d5, d6, d7, d8, d9, d10⟩ := cells11 HJ1.out
  go_wp2_with fail
  refine (eqOperand_any m2 r2 n2 l2 _).mono ?_
  rintro e x2 ⟨rfl, hb⟩
  have HI2 : Hid (_ = _) := heap_keep HI1.out hb
  have HJ2 : Hid (_ = _) := heap_keep HJ1.out hb
  have HB2 : Hid (Below w.heap.size w x2) := below_call HB1.out hb
  clear hb c0 c1 c2 c3 c4 c5 c6 c7 c8 c9 c10 d0 d1 d2 d3 d4 d5 d6 d7 d8 d9 d10
  obtain ⟨c0, c1, c2, c3, c4, c5, c6, c7, c8, c9, c10⟩ := cells11 HI2.out
  obtain ⟨d0, d1, d2, d3, d4, d5, d6, d7, d8, d9, d10⟩ := cells11 HJ2.out
  go_wp2
  go_ret
  exact ⟨rfl, HB2.out⟩
theorem cells13 {W : World} {B : Nat} {v0 v1 v2 v3 v4 v5 v6 v7 v8 v9 v10 v11 v12 : Value} {t : TypeId} {fr : Nat × Nat} (h : W.heap[B]? = some (.cells #[v0, v1, v2, v3, v4, v5, v6, v7, v8, v9, v10, v11, v12] t fr)) :
    W.cell? ⟨B, 11, none⟩ = some v11 ∧ W.cell? ⟨B, 12, none⟩ = some v12 :=
  ⟨cell_of_row W B 11 _ t fr h, cell_of_row W B 12 _ t fr h⟩
set_option maxRecDepth 100000 in
set_option maxHeartbeats 1600000 in
theorem eqInsnOut_any (i : Ins) (k c : Int) (w : World) :
    Calls Tryz.prog 18 #[.agg (outV i.vals k c), .agg (outV i.vals k c)] w fun e w' => e = .returned (.bool true) ∧ Below w.heap.size w w' := by
  have ho : outV i.vals k c = #[.string i.op, .bool i.b, .int .i64 i.m, .int .i64 i.r, .int .i64 i.n, .bool i.l, .int .i64 i.m2, .int .i64 i.r2, .int .i64 i.n2, .bool i.l2, .int .i64 i.j, .int .i64 k, .int .i64 c] := rfl
  rw [ho]
  clear ho
  go_enter Tryz.func18, Tryz.ntmps18
  go_wp2_with fail
  refine (eqInsn_any i.op i.b i.m i.r i.n i.l i.m2 i.r2 i.n2 i.l2 i.j _).mono ?_
  rintro e x1 ⟨rfl, hb⟩
  have HI1 : Hid (_ = _) := heap_keep (heap_more (heap_alloc_new w _) _) hb
  have HJ1 : Hid (_ = _) := heap_keep (heap_new2 w _ _) hb
  have HB1 : Hid (Below w.heap.size w x1) := below_call (below_more (below_new _ _) _) hb
  clear hb
  obtain ⟨c0, c1⟩ := cells13 HI1.out
  obtain ⟨d0, d1⟩ := cells13 HJ1.out
  go_wp2
  go_ret
  exact ⟨rfl, HB1.out⟩
end Go.Proofs.YtodjccipfonaiaaGreatDoor
