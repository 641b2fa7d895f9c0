/- Instructions: how an operand stands in the first word. -/
import Derived.Test.YtdokiccfjbieiaeDoorRows
import Derived.WalkKit
import Derived.WalkSpells
import Derived.WalkLawsBesides
import Derived.Outline
import Derived.RegionTactic
import Derived.BigRegion
import Derived.Test.YtdokiccfjbieiaeDoorBase
import Derived.Test.YtdokiccfjbieiaeDoorRes
import Derived.Test.YtdokiccfjbieiaeDoorIsaR
namespace Go.Proofs.YtdokiccfjbieiaeDoor
open Go.RowKit

theorem cells4h {W : World} {B : Nat} {t : TypeId} {fr : Nat × Nat} {v0 v1 v2 v3 : Value} (h : W.heap[B]? = some (.cells #[v0, v1, v2, v3] t fr)) :
    W.cell? ⟨B, 0, none⟩ = some v0 ∧ W.cell? ⟨B, 1, none⟩ = some v1 ∧ W.cell? ⟨B, 2, none⟩ = some v2 ∧ W.cell? ⟨B, 3, none⟩ = some v3 := by
  refine ⟨?_, ?_, ?_, ?_⟩ <;> simp [World.cell?, h]
def asI (m r n : Int) (l : Bool) : Int × Int × Bool :=
  if m = 0 then (0, r, false) else if m = 1 then (1, r, true) else if m = 2 then (1, 2, true) else if m = 3 then (2, r, false) else if m = 4 then (3, r, false)
  else if (shortI n).2.2 && !l then ((shortI n).1, (shortI n).2.1, false) else (3, 0, true)
set_option maxHeartbeats 400000 in
theorem l02As_any (m r n : Int) (l : Bool) (w : World) (h0 : 0 ≤ m) (h5 : m ≤ 5) : Calls Tryd.prog 64 #[.agg #[.int .i64 m, .int .i64 r, .int .i64 n, .bool l]] w fun e w' => e = .returned (.tuple #[.int .i64 (asI m r n l).1, .int .i64 (asI m r n l).2.1, .bool (asI m r n l).2.2]) ∧ Below w.heap.size w w' := by
  by_cases hm : m = 5
  · subst hm
    have HA : Hid (asI 5 r n l = if (shortI n).2.2 && !l then ((shortI n).1, (shortI n).2.1, false) else (3, 0, true)) := by show _ = _; simp [asI]
    generalize asI 5 r n l = y at *
    obtain ⟨s1, s2, s3, hs⟩ : ∃ a b c, shortI n = (a, b, c) := ⟨_, _, _, rfl⟩
    have HS : Hid (_ = _) := hs
    clear hs
    go_enter Tryd.func64, Tryd.ntmps64
    go_wp2_with fail
    refine (l02Short_any n _).mono ?_
    rintro e w1 ⟨rfl, rfl⟩
    rw [HS.out]
    cases s3
    · go_wp2
      (try simp only [Exit.inBlock, Exit.then]); refine bodyPost_ret (results3 rfl _ _ _) rfl ?_
      exact ⟨ret_three (by rw [HA.out, HS.out]; rfl), below_new _ _⟩
    · cases l
      · go_wp2
        (try simp only [Exit.inBlock, Exit.then]); refine bodyPost_ret (results3 rfl _ _ _) rfl ?_
        exact ⟨ret_three (by rw [HA.out, HS.out]; rfl), below_new _ _⟩
      · go_wp2
        (try simp only [Exit.inBlock, Exit.then]); refine bodyPost_ret (results3 rfl _ _ _) rfl ?_
        exact ⟨ret_three (by rw [HA.out, HS.out]; rfl), below_new _ _⟩
  · by_cases h2 : m = 2
    · subst h2
      go_enter Tryd.func64, Tryd.ntmps64
      go_wp2
      (try simp only [Exit.inBlock, Exit.then]); refine bodyPost_ret (results3 rfl _ _ _) rfl ?_
      exact ⟨rfl, below_new _ _⟩
    obtain rfl | rfl | rfl | rfl : m = 0 ∨ m = 1 ∨ m = 3 ∨ m = 4 := by omega
    all_goals
      go_enter Tryd.func64, Tryd.ntmps64
      go_wp2
      go_region
      go_wp2
      (try simp only [Exit.inBlock, Exit.then]); refine bodyPost_ret (results3 rfl _ _ _) rfl ?_
      exact ⟨rfl, (below_new _ _).drew⟩
set_option maxHeartbeats 400000 in
theorem hasWord_any (m r n : Int) (l : Bool) (w : World) (h0 : 0 ≤ m) (h5 : m ≤ 5) (hT : Tabs w) : Calls Tryd.prog 44 #[.agg #[.int .i64 m, .int .i64 r, .int .i64 n, .bool l]] w fun e w' => e = .returned (.bool (asI m r n l).2.2) ∧ Below w.heap.size w w' := by
  have HT : Hid (∀ o, Tabs (w.alloc o)) := fun o => hT.alloc o
  clear hT
  by_cases hm : m = 5
  · subst hm
    have HA : Hid ((asI 5 r n l).2.2 = (l || !(shortI n).2.2)) := by
      show _ = _
      cases h : (shortI n).2.2 <;> cases l <;> simp [asI, h]
    generalize (asI 5 r n l).2.2 = y at *
    cases l
    · go_enter Tryd.func44, Tryd.ntmps44
      go_wp2_with fail
      refine (isShort_any n _ (HT.out _)).mono ?_
      rintro e w1 ⟨rfl, hb⟩
      go_wp2
      go_ret
      exact ⟨ret_bool (by rw [HA.out]; rfl), below_call (below_new _ _) hb⟩
    · go_enter Tryd.func44, Tryd.ntmps44
      go_wp2
      go_ret
      exact ⟨ret_bool (by rw [HA.out]; rfl), below_new _ _⟩
  · obtain rfl | rfl | rfl | rfl | rfl : m = 0 ∨ m = 1 ∨ m = 2 ∨ m = 3 ∨ m = 4 := by omega
    all_goals
      go_enter Tryd.func44, Tryd.ntmps44
      go_wp2
      go_ret
      exact ⟨rfl, below_new _ _⟩
set_option maxHeartbeats 1000000 in
theorem inFirst_any (m r n : Int) (l : Bool) (w : World) (h0 : 0 ≤ m) (h5 : m ≤ 5) (hT : Tabs w) : Calls Tryd.prog 65 #[.agg #[.int .i64 m, .int .i64 r, .int .i64 n, .bool l]] w fun e w' => e = .returned (.agg #[.int .i64 (asI m r n l).1, .int .i64 (asI m r n l).2.1]) ∧ Below w.heap.size w w' := by
  have HT : Hid (∀ o p, Tabs ((w.alloc o).alloc p)) := fun o p => (hT.alloc o).alloc p
  clear hT
  by_cases hm : m = 5
  · subst hm
    have HA : Hid (asI 5 r n l = if (shortI n).2.2 && !l then ((shortI n).1, (shortI n).2.1, false) else (3, 0, true)) := by show _ = _; simp [asI]
    generalize asI 5 r n l = y at *
    have HF : Hid ((shortI n).2.2 = true → shortF n = shortI n) := fun h => by simp [shortF, h]
    have HG : Hid (_ = _) := shortF_b n
    obtain ⟨s1, s2, s3, hs⟩ : ∃ a b c, shortF n = (a, b, c) := ⟨_, _, _, rfl⟩
    have HS : Hid (_ = _) := hs
    clear hs
    go_enter Tryd.func65, Tryd.ntmps65
    go_wp2_with fail
    refine (shortField_any n _ (HT.out _ _)).mono ?_
    rintro e x1 ⟨rfl, hb⟩
    rw [HS.out]
    have HI : Hid (_ = _) := heap_keep (heap_more (heap_alloc_new w _) _) hb
    have HR : Hid (_ = _) := heap_keep (heap_new2 w _ _) hb
    have HB : Hid (Below w.heap.size w x1) := below_call (below_more (below_new _ _) _) hb
    clear hb
    obtain ⟨c0, c1, c2, c3⟩ := cells4h HI.out
    obtain ⟨q0, q1, f0, f1⟩ := two_cells HR.out
    have hz := heap_lt HR.out
    have hz2 : w.heap.size < x1.heap.size := by omega
    cases s3
    · have HY : Hid (y = (3, 0, true)) := by
        show _ = _
        have : (shortI n).2.2 = false := by rw [← HG.out, HS.out]
        rw [HA.out, this]; rfl
      go_wp2
      refine bodyPost_ret (results_cell_row Tryd.results65 _ _ (w.heap.size + 1) 84 #[.int .i64 3, .int .i64 0] (0, 0) _ rfl (heap_more (heap_set (heap_set HR.out 0 _) 1 _) _) Tryd.underlying84 rfl (by kernel_rfl)) rfl ⟨by rw [HY.out], ?_⟩
      exact below_more ((HB.out.setCell (by simp) _).setCell (by simp) _) _
    · have ht : (shortI n).2.2 = true := by rw [← HG.out, HS.out]
      have he : shortI n = (s1, s2, true) := by rw [← HF.out ht, HS.out]
      have HT2 : Hid (_) := ht
      have HE : Hid (_ = _) := he
      clear ht he
      cases l
      · have HY : Hid (y = (s1, s2, false)) := by show _ = _; rw [HA.out, HT2.out, HE.out]; rfl
        go_wp2
        refine bodyPost_ret (results_cell_row Tryd.results65 _ _ (w.heap.size + 1) 84 #[.int .i64 s1, .int .i64 s2] (0, 0) _ rfl (heap_more (heap_set (heap_set HR.out 0 _) 1 _) _) Tryd.underlying84 rfl (by kernel_rfl)) rfl ⟨by rw [HY.out], ?_⟩
        exact below_more ((HB.out.setCell (by simp) _).setCell (by simp) _) _
      · have HY : Hid (y = (3, 0, true)) := by show _ = _; rw [HA.out, HT2.out]; rfl
        go_wp2
        refine bodyPost_ret (results_cell_row Tryd.results65 _ _ (w.heap.size + 1) 84 #[.int .i64 3, .int .i64 0] (0, 0) _ rfl (heap_more (heap_set (heap_set HR.out 0 _) 1 _) _) Tryd.underlying84 rfl (by kernel_rfl)) rfl ⟨by rw [HY.out], ?_⟩
        exact below_more ((HB.out.setCell (by simp) _).setCell (by simp) _) _
  · obtain rfl | rfl | rfl | rfl | rfl : m = 0 ∨ m = 1 ∨ m = 2 ∨ m = 3 ∨ m = 4 := by omega
    all_goals
      go_enter Tryd.func65, Tryd.ntmps65
      go_wp2
      exact bodyPost_ret (results_cell_row Tryd.results65 _ _ (w.heap.size + 1) 84 _ (0, 0) _ rfl (heap_new2 _ _ _) Tryd.underlying84 rfl (by kernel_rfl)) rfl ⟨rfl, below_more (below_new _ _) _⟩
end Go.Proofs.YtdokiccfjbieiaeDoor
