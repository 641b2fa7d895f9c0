/- The draws of instructions: a whole Insn. -/
import Derived.Test.YtdokiccfjbieiaaDoorRows
import Derived.WalkKit
import Derived.WalkSpells
import Derived.WalkLawsBesides
import Derived.Outline
import Derived.Deep.RegionHeld3
import Derived.Test.YtdokiccfjbieiaaDoorBun0
import Derived.Test.YtdokiccfjbieiaaDoorBun6
import Derived.Test.YtdokiccfjbieiaaDoorIsaD3X
import Derived.Test.YtdokiccfjbieiaaDoorOpsAX
import Derived.Test.YtdokiccfjbieiaaDoorDrawI1X
namespace Go.Proofs.YtdokiccfjbieiaaDoor
open Go.RowKit
set_option linter.unusedVariables false

theorem DrI.set11 {w0 w : World} {g : Nat} {a : Option Addr} {len cap : Nat} (h : DrI w0 w g a len cap) {B : Nat} (hB : w0.heap.size ≤ B) {a0 a1 a2 a3 a4 a5 a6 a7 a8 a9 a10 : Value} : DrI w0 (((((((((((w.setCell ⟨B, 0, none⟩ a0).setCell ⟨B, 1, none⟩ a1).setCell ⟨B, 2, none⟩ a2).setCell ⟨B, 3, none⟩ a3).setCell ⟨B, 4, none⟩ a4).setCell ⟨B, 5, none⟩ a5).setCell ⟨B, 6, none⟩ a6).setCell ⟨B, 7, none⟩ a7).setCell ⟨B, 8, none⟩ a8).setCell ⟨B, 9, none⟩ a9).setCell ⟨B, 10, none⟩ a10) g a len cap :=
  ((((((((((h.set hB 0 _).set hB 1 _).set hB 2 _).set hB 3 _).set hB 4 _).set hB 5 _).set hB 6 _).set hB 7 _).set hB 8 _).set hB 9 _).set hB 10 _
theorem ops_at (q cap : Nat) (t : ByteArray) (w : World) (hc : ∀ i (h : i < 27), w.cell? ⟨q, i, none⟩ = some (.string (opsAll[i]'h))) : Calls Tryd.prog 45 #[.slice (some ⟨q, 0, none⟩) 27 cap, .string t] w fun e w' => e = .returned (.int .i64 (atI opsAll t)) ∧ w' = w :=
  l02At_any q opsAll cap t w (by decide +kernel) hc
def InsOut (w : World) (g : Nat) (a : Option Addr) (len cap : Nat) (e : Ending) (w' : World) : Prop := ∃ (op : ByteArray) (b : Bool) (m r n : Int) (l : Bool) (m2 r2 n2 : Int) (l2 : Bool) (j : Int), e = .returned (.agg #[.string op, .bool b, .int .i64 m, .int .i64 r, .int .i64 n, .bool l, .int .i64 m2, .int .i64 r2, .int .i64 n2, .bool l2, .int .i64 j]) ∧ Dr w' g a len cap ∧ w.grownBy w' (some g)
set_option maxRecDepth 100000 in
set_option maxHeartbeats 40000000 in
theorem drawInsn_any (g : Nat) (a : Option Addr) (len cap : Nat) (w : World) (h : Dr w g a len cap) : Calls Tryd.prog 35 #[.pointer (some ⟨g, 0, none⟩)] w (InsOut w g a len cap) := by
  unfold InsOut
  have HD0 : Hid (DrI w w g a len cap) := DrI.start h
  have hgl := h.lt
  clear h
  go_enter Tryd.func35, Tryd.ntmps35
  go_wp2_with fail
  refine (specOps_any _).mono ?_
  rintro e x1 ⟨v, rfl, ho, hb⟩
  have HR1 : Hid (_ = _) := heap_keep (heap_alloc_new w _) hb
  have HD1 : Hid (DrI w x1 g a len cap) := (HD0.out.alloc _).below hb
  clear hb
  rcases ho.form with ⟨_, e⟩ | ⟨q, qc, cur, rfl, hq, hqh, hq1, hq2, hq3, hq4⟩
  · exact absurd e (by decide +kernel)
  have HQ1 : Hid (_ = _) := hqh
  have HC : Hid (∀ i (h : i < 27), cur[i]? = some (.string (opsAll[i]'h))) := hq4
  have hqn : w.heap.size < q := by simp at hq; omega
  have e27 : opsAll.length = 27 := by decide +kernel
  rw [e27]
  clear ho hq hqh hq1 hq2 hq3 hq4 HD0 e27
  go_wp2_with fail
  refine (n_any g a len cap 27 _ HD1.out.d (by omega) (by omega)).mono ?_
  rintro e x2 ⟨u, rfl, hv0, hv1, hD, hG⟩
  have HQ2 : Hid (_ = _) := heap_grown HQ1.out hG (by omega)
  have HR2 : Hid (_ = _) := heap_grown HR1.out hG (by omega)
  have HD2 : Hid (DrI w x2 g a len cap) := HD1.out.call hD hG
  obtain ⟨U, rfl⟩ := Int.eq_ofNat_of_zero_le hv0
  have hU : U < 27 := by omega
  have hcu : x2.cell? ⟨q, U, none⟩ = some (.string (opsAll[U]'hU)) := by simp [World.cell?, HQ2.out, HC.out U hU]
  have hi0 : (0 : Int) ≤ (U : Int) := by omega
  have hi1 : (U : Int) < 27 := by omega
  clear hv0 hv1 hD hG HQ1 HR1 HD1
  generalize (opsAll[U]'hU) = op at *
  have hzx := heap_lt HQ2.out
  go_wp2_with fail
  refine (ops_at q qc op _ (fun i h => by rw [cell_of_row _ _ i _ _ _ (heap_more HQ2.out _)]; exact HC.out i h)).mono ?_
  rintro e x3 ⟨rfl, rfl⟩
  generalize atI opsAll op = k at *
  have HIa : Hid (_ = _) := heap_alloc_new x2 (.cells #[.string op, .bool false, .int .i64 0, .int .i64 0, .int .i64 0, .bool false, .int .i64 0, .int .i64 0, .int .i64 0, .bool false, .int .i64 0] 37)
  have HRa : Hid (_ = _) := heap_more HR2.out (.cells #[.string op, .bool false, .int .i64 0, .int .i64 0, .int .i64 0, .bool false, .int .i64 0, .int .i64 0, .int .i64 0, .bool false, .int .i64 0] 37)
  have HDa : Hid (DrI w _ g a len cap) := HD2.out.alloc (.cells #[.string op, .bool false, .int .i64 0, .int .i64 0, .int .i64 0, .bool false, .int .i64 0, .int .i64 0, .int .i64 0, .bool false, .int .i64 0] 37)
  have hz1 : w.heap.size < x2.heap.size := heap_lt HR2.out
  clear hcu HQ2 HR2 HD2
  generalize x2.alloc (.cells #[.string op, .bool false, .int .i64 0, .int .i64 0, .int .i64 0, .bool false, .int .i64 0, .int .i64 0, .int .i64 0, .bool false, .int .i64 0] 37) = ya at *
  generalize x2.heap.size = B at *
  have hB : w.heap.size ≤ B := Nat.le_of_lt hz1
  have hne : w.heap.size ≠ B := Nat.ne_of_lt hz1
  by_cases k1 : k < 12
  · go_wp2_with fail
    refine (one_any g a len cap 3 _ HDa.out.d (by omega) (by omega)).mono ?_
    rintro e xb ⟨b1, rfl, hD, hG⟩
    have HIxb : Hid (_ = _) := heap_grown HIa.out hG (by omega)
    have HRxb : Hid (_ = _) := heap_grown HRa.out hG (by omega)
    have HDxb : Hid (DrI w xb g a len cap) := HDa.out.call hD hG
    clear hD hG
    obtain ⟨c0, c1, c2, c3, c4, c5, c6, c7, c8, c9, c10⟩ := cells11 HIxb.out
    have f1 := frozen_of_row _ _ 1 _ _ HIxb.out
    go_wp2_with fail
    have HIxc : Hid (_ = _) := (heap_set HIxb.out 1 (.bool b1))
    have HRxc : Hid (_ = _) := (set_far (a := ⟨B, 1, none⟩) (v := .bool b1) hne HRxb.out)
    have HDxc : Hid (DrI w _ g a len cap) := (HDxb.out.set hB 1 (.bool b1))
    simp only [List.setIfInBounds_toArray, List.set_cons_zero, List.set_cons_succ] at HIxc
    clear c0 c1 c2 c3 c4 c5 c6 c7 c8 c9 c10 f1
    refine (drawOperand_any false g a len cap _ HDxc.out.d).mono ?_
    rintro e xd ⟨m, r, n, l, rfl, hD, hG⟩
    have HIxd : Hid (_ = _) := heap_grown HIxc.out hG (by omega)
    have HRxd : Hid (_ = _) := heap_grown HRxc.out hG (by omega)
    have HDxd : Hid (DrI w xd g a len cap) := HDxc.out.call hD hG
    clear hD hG
    obtain ⟨c0, c1, c2, c3, c4, c5, c6, c7, c8, c9, c10⟩ := cells11 HIxd.out
    have f2 := frozen_of_row _ _ 2 _ _ HIxd.out
    have f3 := frozen_of_row _ _ 3 _ _ HIxd.out
    have f4 := frozen_of_row _ _ 4 _ _ HIxd.out
    have f5 := frozen_of_row _ _ 5 _ _ HIxd.out
    go_wp2_with fail
    have HIxe : Hid (_ = _) := (heap_set (heap_set (heap_set (heap_set HIxd.out 2 (.int .i64 m)) 3 (.int .i64 r)) 4 (.int .i64 n)) 5 (.bool l))
    have HRxe : Hid (_ = _) := (set_far (a := ⟨B, 5, none⟩) (v := .bool l) hne (set_far (a := ⟨B, 4, none⟩) (v := .int .i64 n) hne (set_far (a := ⟨B, 3, none⟩) (v := .int .i64 r) hne (set_far (a := ⟨B, 2, none⟩) (v := .int .i64 m) hne HRxd.out))))
    have HDxe : Hid (DrI w _ g a len cap) := ((((HDxd.out.set hB 2 (.int .i64 m)).set hB 3 (.int .i64 r)).set hB 4 (.int .i64 n)).set hB 5 (.bool l))
    simp only [List.setIfInBounds_toArray, List.set_cons_zero, List.set_cons_succ] at HIxe
    clear c0 c1 c2 c3 c4 c5 c6 c7 c8 c9 c10 f2 f3 f4 f5
    refine (drawOperand_any true g a len cap _ HDxe.out.d).mono ?_
    rintro e xf ⟨m2, r2, n2, l2, rfl, hD, hG⟩
    have HIxf : Hid (_ = _) := heap_grown HIxe.out hG (by omega)
    have HRxf : Hid (_ = _) := heap_grown HRxe.out hG (by omega)
    have HDxf : Hid (DrI w xf g a len cap) := HDxe.out.call hD hG
    clear hD hG
    obtain ⟨c0, c1, c2, c3, c4, c5, c6, c7, c8, c9, c10⟩ := cells11 HIxf.out
    have f6 := frozen_of_row _ _ 6 _ _ HIxf.out
    have f7 := frozen_of_row _ _ 7 _ _ HIxf.out
    have f8 := frozen_of_row _ _ 8 _ _ HIxf.out
    have f9 := frozen_of_row _ _ 9 _ _ HIxf.out
    go_wp2_with fail
    have HIxg : Hid (_ = _) := (heap_set (heap_set (heap_set (heap_set HIxf.out 6 (.int .i64 m2)) 7 (.int .i64 r2)) 8 (.int .i64 n2)) 9 (.bool l2))
    have HRxg : Hid (_ = _) := (set_far (a := ⟨B, 9, none⟩) (v := .bool l2) hne (set_far (a := ⟨B, 8, none⟩) (v := .int .i64 n2) hne (set_far (a := ⟨B, 7, none⟩) (v := .int .i64 r2) hne (set_far (a := ⟨B, 6, none⟩) (v := .int .i64 m2) hne HRxf.out))))
    have HDxg : Hid (DrI w _ g a len cap) := ((((HDxf.out.set hB 6 (.int .i64 m2)).set hB 7 (.int .i64 r2)).set hB 8 (.int .i64 n2)).set hB 9 (.bool l2))
    simp only [List.setIfInBounds_toArray, List.set_cons_zero, List.set_cons_succ] at HIxg
    clear c0 c1 c2 c3 c4 c5 c6 c7 c8 c9 c10 f6 f7 f8 f9
    refine (one_any g a len cap 20 _ HDxg.out.d (by omega) (by omega)).mono ?_
    rintro e t1 ⟨bb, rfl, hD, hG⟩
    have HIt1 : Hid (_ = _) := heap_grown HIxg.out hG (by omega)
    have HRt1 : Hid (_ = _) := heap_grown HRxg.out hG (by omega)
    have HDt1 : Hid (DrI w t1 g a len cap) := HDxg.out.call hD hG
    clear hD hG
    cases bb
    · obtain ⟨r0, r1, r2, r3, r4, r5, r6, r7, r8, r9, r10⟩ := cells11 HRt1.out
      have y0 := frozen_of_row _ _ 0 _ _ HRt1.out
      have y1 := frozen_of_row _ _ 1 _ _ HRt1.out
      have y2 := frozen_of_row _ _ 2 _ _ HRt1.out
      have y3 := frozen_of_row _ _ 3 _ _ HRt1.out
      have y4 := frozen_of_row _ _ 4 _ _ HRt1.out
      have y5 := frozen_of_row _ _ 5 _ _ HRt1.out
      have y6 := frozen_of_row _ _ 6 _ _ HRt1.out
      have y7 := frozen_of_row _ _ 7 _ _ HRt1.out
      have y8 := frozen_of_row _ _ 8 _ _ HRt1.out
      have y9 := frozen_of_row _ _ 9 _ _ HRt1.out
      have y10 := frozen_of_row _ _ 10 _ _ HRt1.out
      obtain ⟨c0, c1, c2, c3, c4, c5, c6, c7, c8, c9, c10⟩ := cells11 HIt1.out
      go_wp2
      exact bodyPost_ret (results_cell_row Tryd.results35 _ _ w.heap.size 37 _ (0, 0) _ rfl (set_eleven HRt1.out) Tryd.underlying37 rfl (by kernel_rfl)) rfl ⟨_, _, _, _, _, _, _, _, _, _, _, rfl, (DrI.set11 HDt1.out (Nat.le_refl _)).d, (DrI.set11 HDt1.out (Nat.le_refl _)).gr⟩
    · go_wp2_with fail
      refine (n_any g a len cap 6 _ HDt1.out.d (by omega) (by omega)).mono ?_
      rintro e t2 ⟨v6, rfl, hv0, hv1, hD, hG⟩
      have HIt2 : Hid (_ = _) := heap_grown HIt1.out hG (by omega)
      have HRt2 : Hid (_ = _) := heap_grown HRt1.out hG (by omega)
      have HDt2 : Hid (DrI w t2 g a len cap) := HDt1.out.call hD hG
      have hv : v6 = 0 ∨ v6 = 1 ∨ v6 = 2 ∨ v6 = 3 ∨ v6 = 4 ∨ v6 = 5 := by omega
      clear hv0 hv1 hD hG
      rcases hv with rfl | rfl | rfl | rfl | rfl | rfl
      · go_wp2_with fail
        refine (n_any g a len cap 3 _ (HDt2.out.alloc _).d (by omega) (by omega)).mono ?_
        rintro e t3 ⟨u3, rfl, hv0, hv1, hD, hG⟩
        have HIt3 : Hid (_ = _) := heap_grown (heap_more HIt2.out _) hG (by omega)
        have HRt3 : Hid (_ = _) := heap_grown (heap_more HRt2.out _) hG (by omega)
        have HDt3 : Hid (DrI w t3 g a len cap) := (HDt2.out.alloc _).call hD hG
        obtain ⟨V, rfl⟩ := Int.eq_ofNat_of_zero_le hv0
        have hV : V < 3 := by omega
        obtain ⟨y, hy, hyc⟩ := tab_cell (t := 2) [-513, 512, 1] V hV t3 hG (by have := heap_lt HIt2.out; omega)
        have hi0 : (0 : Int) ≤ (V : Int) := by omega
        have hi1 : (V : Int) < 3 := by omega
        clear hv0 hv1 hD hG hy
        obtain ⟨r0, r1, r2, r3, r4, r5, r6, r7, r8, r9, r10⟩ := cells11 HRt3.out
        have y0 := frozen_of_row _ _ 0 _ _ HRt3.out
        have y1 := frozen_of_row _ _ 1 _ _ HRt3.out
        have y2 := frozen_of_row _ _ 2 _ _ HRt3.out
        have y3 := frozen_of_row _ _ 3 _ _ HRt3.out
        have y4 := frozen_of_row _ _ 4 _ _ HRt3.out
        have y5 := frozen_of_row _ _ 5 _ _ HRt3.out
        have y6 := frozen_of_row _ _ 6 _ _ HRt3.out
        have y7 := frozen_of_row _ _ 7 _ _ HRt3.out
        have y8 := frozen_of_row _ _ 8 _ _ HRt3.out
        have y9 := frozen_of_row _ _ 9 _ _ HRt3.out
        have y10 := frozen_of_row _ _ 10 _ _ HRt3.out
        obtain ⟨c0, c1, c2, c3, c4, c5, c6, c7, c8, c9, c10⟩ := cells11 HIt3.out
        have f10 := frozen_of_row _ _ 10 _ _ HIt3.out
        go_wp2
        exact bodyPost_ret (results_cell_row Tryd.results35 _ _ w.heap.size 37 _ (0, 0) _ rfl (set_eleven (set_far hne HRt3.out)) Tryd.underlying37 rfl (by kernel_rfl)) rfl ⟨_, _, _, _, _, _, _, _, _, _, _, rfl, (DrI.set11 (HDt3.out.set hB 10 _) (Nat.le_refl _)).d, (DrI.set11 (HDt3.out.set hB 10 _) (Nat.le_refl _)).gr⟩
      · obtain ⟨r0, r1, r2, r3, r4, r5, r6, r7, r8, r9, r10⟩ := cells11 HRt2.out
        have y0 := frozen_of_row _ _ 0 _ _ HRt2.out
        have y1 := frozen_of_row _ _ 1 _ _ HRt2.out
        have y2 := frozen_of_row _ _ 2 _ _ HRt2.out
        have y3 := frozen_of_row _ _ 3 _ _ HRt2.out
        have y4 := frozen_of_row _ _ 4 _ _ HRt2.out
        have y5 := frozen_of_row _ _ 5 _ _ HRt2.out
        have y6 := frozen_of_row _ _ 6 _ _ HRt2.out
        have y7 := frozen_of_row _ _ 7 _ _ HRt2.out
        have y8 := frozen_of_row _ _ 8 _ _ HRt2.out
        have y9 := frozen_of_row _ _ 9 _ _ HRt2.out
        have y10 := frozen_of_row _ _ 10 _ _ HRt2.out
        obtain ⟨c0, c1, c2, c3, c4, c5, c6, c7, c8, c9, c10⟩ := cells11 HIt2.out
        have f1 := frozen_of_row _ _ 1 _ _ HIt2.out
        go_wp2
        exact bodyPost_ret (results_cell_row Tryd.results35 _ _ w.heap.size 37 _ (0, 0) _ rfl (set_eleven (set_far hne HRt2.out)) Tryd.underlying37 rfl (by kernel_rfl)) rfl ⟨_, _, _, _, _, _, _, _, _, _, _, rfl, (DrI.set11 (HDt2.out.set hB 1 _) (Nat.le_refl _)).d, (DrI.set11 (HDt2.out.set hB 1 _) (Nat.le_refl _)).gr⟩
      · go_wp2_with fail
        refine (n_any g a len cap 4 _ (HDt2.out.alloc _).d (by omega) (by omega)).mono ?_
        rintro e t3 ⟨u3, rfl, hv0, hv1, hD, hG⟩
        have HIt3 : Hid (_ = _) := heap_grown (heap_more HIt2.out _) hG (by omega)
        have HRt3 : Hid (_ = _) := heap_grown (heap_more HRt2.out _) hG (by omega)
        have HDt3 : Hid (DrI w t3 g a len cap) := (HDt2.out.alloc _).call hD hG
        obtain ⟨V, rfl⟩ := Int.eq_ofNat_of_zero_le hv0
        have hV : V < 4 := by omega
        obtain ⟨y, hy, hyc⟩ := tab_cell (t := 2) [2, 3, 16, -1] V hV t3 hG (by have := heap_lt HIt2.out; omega)
        have hi0 : (0 : Int) ≤ (V : Int) := by omega
        have hi1 : (V : Int) < 4 := by omega
        clear hv0 hv1 hD hG hy
        obtain ⟨r0, r1, r2, r3, r4, r5, r6, r7, r8, r9, r10⟩ := cells11 HRt3.out
        have y0 := frozen_of_row _ _ 0 _ _ HRt3.out
        have y1 := frozen_of_row _ _ 1 _ _ HRt3.out
        have y2 := frozen_of_row _ _ 2 _ _ HRt3.out
        have y3 := frozen_of_row _ _ 3 _ _ HRt3.out
        have y4 := frozen_of_row _ _ 4 _ _ HRt3.out
        have y5 := frozen_of_row _ _ 5 _ _ HRt3.out
        have y6 := frozen_of_row _ _ 6 _ _ HRt3.out
        have y7 := frozen_of_row _ _ 7 _ _ HRt3.out
        have y8 := frozen_of_row _ _ 8 _ _ HRt3.out
        have y9 := frozen_of_row _ _ 9 _ _ HRt3.out
        have y10 := frozen_of_row _ _ 10 _ _ HRt3.out
        obtain ⟨c0, c1, c2, c3, c4, c5, c6, c7, c8, c9, c10⟩ := cells11 HIt3.out
        have f3 := frozen_of_row _ _ 3 _ _ HIt3.out
        go_wp2
        exact bodyPost_ret (results_cell_row Tryd.results35 _ _ w.heap.size 37 _ (0, 0) _ rfl (set_eleven (set_far hne HRt3.out)) Tryd.underlying37 rfl (by kernel_rfl)) rfl ⟨_, _, _, _, _, _, _, _, _, _, _, rfl, (DrI.set11 (HDt3.out.set hB 3 _) (Nat.le_refl _)).d, (DrI.set11 (HDt3.out.set hB 3 _) (Nat.le_refl _)).gr⟩
      · go_wp2_with fail
        refine (n_any g a len cap 3 _ (HDt2.out.alloc _).d (by omega) (by omega)).mono ?_
        rintro e t3 ⟨u3, rfl, hv0, hv1, hD, hG⟩
        have HIt3 : Hid (_ = _) := heap_grown (heap_more HIt2.out _) hG (by omega)
        have HRt3 : Hid (_ = _) := heap_grown (heap_more HRt2.out _) hG (by omega)
        have HDt3 : Hid (DrI w t3 g a len cap) := (HDt2.out.alloc _).call hD hG
        obtain ⟨V, rfl⟩ := Int.eq_ofNat_of_zero_le hv0
        have hV : V < 3 := by omega
        obtain ⟨y, hy, hyc⟩ := tab_cell (t := 2) [-1, 65536, 1] V hV t3 hG (by have := heap_lt HIt2.out; omega)
        have hi0 : (0 : Int) ≤ (V : Int) := by omega
        have hi1 : (V : Int) < 3 := by omega
        clear hv0 hv1 hD hG hy
        obtain ⟨r0, r1, r2, r3, r4, r5, r6, r7, r8, r9, r10⟩ := cells11 HRt3.out
        have y0 := frozen_of_row _ _ 0 _ _ HRt3.out
        have y1 := frozen_of_row _ _ 1 _ _ HRt3.out
        have y2 := frozen_of_row _ _ 2 _ _ HRt3.out
        have y3 := frozen_of_row _ _ 3 _ _ HRt3.out
        have y4 := frozen_of_row _ _ 4 _ _ HRt3.out
        have y5 := frozen_of_row _ _ 5 _ _ HRt3.out
        have y6 := frozen_of_row _ _ 6 _ _ HRt3.out
        have y7 := frozen_of_row _ _ 7 _ _ HRt3.out
        have y8 := frozen_of_row _ _ 8 _ _ HRt3.out
        have y9 := frozen_of_row _ _ 9 _ _ HRt3.out
        have y10 := frozen_of_row _ _ 10 _ _ HRt3.out
        obtain ⟨c0, c1, c2, c3, c4, c5, c6, c7, c8, c9, c10⟩ := cells11 HIt3.out
        have f8 := frozen_of_row _ _ 8 _ _ HIt3.out
        go_wp2
        exact bodyPost_ret (results_cell_row Tryd.results35 _ _ w.heap.size 37 _ (0, 0) _ rfl (set_eleven (set_far hne HRt3.out)) Tryd.underlying37 rfl (by kernel_rfl)) rfl ⟨_, _, _, _, _, _, _, _, _, _, _, rfl, (DrI.set11 (HDt3.out.set hB 8 _) (Nat.le_refl _)).d, (DrI.set11 (HDt3.out.set hB 8 _) (Nat.le_refl _)).gr⟩
      · obtain ⟨r0, r1, r2, r3, r4, r5, r6, r7, r8, r9, r10⟩ := cells11 HRt2.out
        have y0 := frozen_of_row _ _ 0 _ _ HRt2.out
        have y1 := frozen_of_row _ _ 1 _ _ HRt2.out
        have y2 := frozen_of_row _ _ 2 _ _ HRt2.out
        have y3 := frozen_of_row _ _ 3 _ _ HRt2.out
        have y4 := frozen_of_row _ _ 4 _ _ HRt2.out
        have y5 := frozen_of_row _ _ 5 _ _ HRt2.out
        have y6 := frozen_of_row _ _ 6 _ _ HRt2.out
        have y7 := frozen_of_row _ _ 7 _ _ HRt2.out
        have y8 := frozen_of_row _ _ 8 _ _ HRt2.out
        have y9 := frozen_of_row _ _ 9 _ _ HRt2.out
        have y10 := frozen_of_row _ _ 10 _ _ HRt2.out
        obtain ⟨c0, c1, c2, c3, c4, c5, c6, c7, c8, c9, c10⟩ := cells11 HIt2.out
        have f0 := frozen_of_row _ _ 0 _ _ HIt2.out
        go_wp2
        exact bodyPost_ret (results_cell_row Tryd.results35 _ _ w.heap.size 37 _ (0, 0) _ rfl (set_eleven (set_far hne HRt2.out)) Tryd.underlying37 rfl (by kernel_rfl)) rfl ⟨_, _, _, _, _, _, _, _, _, _, _, rfl, (DrI.set11 (HDt2.out.set hB 0 _) (Nat.le_refl _)).d, (DrI.set11 (HDt2.out.set hB 0 _) (Nat.le_refl _)).gr⟩
      · obtain ⟨r0, r1, r2, r3, r4, r5, r6, r7, r8, r9, r10⟩ := cells11 HRt2.out
        have y0 := frozen_of_row _ _ 0 _ _ HRt2.out
        have y1 := frozen_of_row _ _ 1 _ _ HRt2.out
        have y2 := frozen_of_row _ _ 2 _ _ HRt2.out
        have y3 := frozen_of_row _ _ 3 _ _ HRt2.out
        have y4 := frozen_of_row _ _ 4 _ _ HRt2.out
        have y5 := frozen_of_row _ _ 5 _ _ HRt2.out
        have y6 := frozen_of_row _ _ 6 _ _ HRt2.out
        have y7 := frozen_of_row _ _ 7 _ _ HRt2.out
        have y8 := frozen_of_row _ _ 8 _ _ HRt2.out
        have y9 := frozen_of_row _ _ 9 _ _ HRt2.out
        have y10 := frozen_of_row _ _ 10 _ _ HRt2.out
        obtain ⟨c0, c1, c2, c3, c4, c5, c6, c7, c8, c9, c10⟩ := cells11 HIt2.out
        have f5 := frozen_of_row _ _ 5 _ _ HIt2.out
        go_wp2
        exact bodyPost_ret (results_cell_row Tryd.results35 _ _ w.heap.size 37 _ (0, 0) _ rfl (set_eleven (set_far hne HRt2.out)) Tryd.underlying37 rfl (by kernel_rfl)) rfl ⟨_, _, _, _, _, _, _, _, _, _, _, rfl, (DrI.set11 (HDt2.out.set hB 5 _) (Nat.le_refl _)).d, (DrI.set11 (HDt2.out.set hB 5 _) (Nat.le_refl _)).gr⟩
  by_cases k2 : k < 18
  · go_wp2_with fail
    refine (drawOperand_any false g a len cap _ HDa.out.d).mono ?_
    rintro e xd ⟨m, r, n, l, rfl, hD, hG⟩
    have HIxd : Hid (_ = _) := heap_grown HIa.out hG (by omega)
    have HRxd : Hid (_ = _) := heap_grown HRa.out hG (by omega)
    have HDxd : Hid (DrI w xd g a len cap) := HDa.out.call hD hG
    clear hD hG
    obtain ⟨c0, c1, c2, c3, c4, c5, c6, c7, c8, c9, c10⟩ := cells11 HIxd.out
    have f2 := frozen_of_row _ _ 2 _ _ HIxd.out
    have f3 := frozen_of_row _ _ 3 _ _ HIxd.out
    have f4 := frozen_of_row _ _ 4 _ _ HIxd.out
    have f5 := frozen_of_row _ _ 5 _ _ HIxd.out
    go_wp2_with fail
    have HIxe : Hid (_ = _) := (heap_set (heap_set (heap_set (heap_set HIxd.out 2 (.int .i64 m)) 3 (.int .i64 r)) 4 (.int .i64 n)) 5 (.bool l))
    have HRxe : Hid (_ = _) := (set_far (a := ⟨B, 5, none⟩) (v := .bool l) hne (set_far (a := ⟨B, 4, none⟩) (v := .int .i64 n) hne (set_far (a := ⟨B, 3, none⟩) (v := .int .i64 r) hne (set_far (a := ⟨B, 2, none⟩) (v := .int .i64 m) hne HRxd.out))))
    have HDxe : Hid (DrI w _ g a len cap) := ((((HDxd.out.set hB 2 (.int .i64 m)).set hB 3 (.int .i64 r)).set hB 4 (.int .i64 n)).set hB 5 (.bool l))
    simp only [List.setIfInBounds_toArray, List.set_cons_zero, List.set_cons_succ] at HIxe
    clear c0 c1 c2 c3 c4 c5 c6 c7 c8 c9 c10 f2 f3 f4 f5
    refine (one_any g a len cap 4 _ HDxe.out.d (by omega) (by omega)).mono ?_
    rintro e xf ⟨b4, rfl, hD, hG⟩
    have HIxf : Hid (_ = _) := heap_grown HIxe.out hG (by omega)
    have HRxf : Hid (_ = _) := heap_grown HRxe.out hG (by omega)
    have HDxf : Hid (DrI w xf g a len cap) := HDxe.out.call hD hG
    clear hD hG
    obtain ⟨c0, c1, c2, c3, c4, c5, c6, c7, c8, c9, c10⟩ := cells11 HIxf.out
    have f1 := frozen_of_row _ _ 1 _ _ HIxf.out
    cases b4
    · go_wp2_with fail
      have HIxg : Hid (_ = _) := (heap_set HIxf.out 1 (.bool false))
      have HRxg : Hid (_ = _) := (set_far (a := ⟨B, 1, none⟩) (v := .bool false) hne HRxf.out)
      have HDxg : Hid (DrI w _ g a len cap) := (HDxf.out.set hB 1 (.bool false))
      simp only [List.setIfInBounds_toArray, List.set_cons_zero, List.set_cons_succ] at HIxg
      clear c0 c1 c2 c3 c4 c5 c6 c7 c8 c9 c10 f1
      refine (one_any g a len cap 20 _ HDxg.out.d (by omega) (by omega)).mono ?_
      rintro e t1 ⟨bb, rfl, hD, hG⟩
      have HIt1 : Hid (_ = _) := heap_grown HIxg.out hG (by omega)
      have HRt1 : Hid (_ = _) := heap_grown HRxg.out hG (by omega)
      have HDt1 : Hid (DrI w t1 g a len cap) := HDxg.out.call hD hG
      clear hD hG
      cases bb
      · obtain ⟨r0, r1, r2, r3, r4, r5, r6, r7, r8, r9, r10⟩ := cells11 HRt1.out
        have y0 := frozen_of_row _ _ 0 _ _ HRt1.out
        have y1 := frozen_of_row _ _ 1 _ _ HRt1.out
        have y2 := frozen_of_row _ _ 2 _ _ HRt1.out
        have y3 := frozen_of_row _ _ 3 _ _ HRt1.out
        have y4 := frozen_of_row _ _ 4 _ _ HRt1.out
        have y5 := frozen_of_row _ _ 5 _ _ HRt1.out
        have y6 := frozen_of_row _ _ 6 _ _ HRt1.out
        have y7 := frozen_of_row _ _ 7 _ _ HRt1.out
        have y8 := frozen_of_row _ _ 8 _ _ HRt1.out
        have y9 := frozen_of_row _ _ 9 _ _ HRt1.out
        have y10 := frozen_of_row _ _ 10 _ _ HRt1.out
        obtain ⟨c0, c1, c2, c3, c4, c5, c6, c7, c8, c9, c10⟩ := cells11 HIt1.out
        go_wp2
        exact bodyPost_ret (results_cell_row Tryd.results35 _ _ w.heap.size 37 _ (0, 0) _ rfl (set_eleven HRt1.out) Tryd.underlying37 rfl (by kernel_rfl)) rfl ⟨_, _, _, _, _, _, _, _, _, _, _, rfl, (DrI.set11 HDt1.out (Nat.le_refl _)).d, (DrI.set11 HDt1.out (Nat.le_refl _)).gr⟩
      · go_wp2_with fail
        refine (n_any g a len cap 6 _ HDt1.out.d (by omega) (by omega)).mono ?_
        rintro e t2 ⟨v6, rfl, hv0, hv1, hD, hG⟩
        have HIt2 : Hid (_ = _) := heap_grown HIt1.out hG (by omega)
        have HRt2 : Hid (_ = _) := heap_grown HRt1.out hG (by omega)
        have HDt2 : Hid (DrI w t2 g a len cap) := HDt1.out.call hD hG
        have hv : v6 = 0 ∨ v6 = 1 ∨ v6 = 2 ∨ v6 = 3 ∨ v6 = 4 ∨ v6 = 5 := by omega
        clear hv0 hv1 hD hG
        rcases hv with rfl | rfl | rfl | rfl | rfl | rfl
        · go_wp2_with fail
          refine (n_any g a len cap 3 _ (HDt2.out.alloc _).d (by omega) (by omega)).mono ?_
          rintro e t3 ⟨u3, rfl, hv0, hv1, hD, hG⟩
          have HIt3 : Hid (_ = _) := heap_grown (heap_more HIt2.out _) hG (by omega)
          have HRt3 : Hid (_ = _) := heap_grown (heap_more HRt2.out _) hG (by omega)
          have HDt3 : Hid (DrI w t3 g a len cap) := (HDt2.out.alloc _).call hD hG
          obtain ⟨V, rfl⟩ := Int.eq_ofNat_of_zero_le hv0
          have hV : V < 3 := by omega
          obtain ⟨y, hy, hyc⟩ := tab_cell (t := 2) [-513, 512, 1] V hV t3 hG (by have := heap_lt HIt2.out; omega)
          have hi0 : (0 : Int) ≤ (V : Int) := by omega
          have hi1 : (V : Int) < 3 := by omega
          clear hv0 hv1 hD hG hy
          obtain ⟨r0, r1, r2, r3, r4, r5, r6, r7, r8, r9, r10⟩ := cells11 HRt3.out
          have y0 := frozen_of_row _ _ 0 _ _ HRt3.out
          have y1 := frozen_of_row _ _ 1 _ _ HRt3.out
          have y2 := frozen_of_row _ _ 2 _ _ HRt3.out
          have y3 := frozen_of_row _ _ 3 _ _ HRt3.out
          have y4 := frozen_of_row _ _ 4 _ _ HRt3.out
          have y5 := frozen_of_row _ _ 5 _ _ HRt3.out
          have y6 := frozen_of_row _ _ 6 _ _ HRt3.out
          have y7 := frozen_of_row _ _ 7 _ _ HRt3.out
          have y8 := frozen_of_row _ _ 8 _ _ HRt3.out
          have y9 := frozen_of_row _ _ 9 _ _ HRt3.out
          have y10 := frozen_of_row _ _ 10 _ _ HRt3.out
          obtain ⟨c0, c1, c2, c3, c4, c5, c6, c7, c8, c9, c10⟩ := cells11 HIt3.out
          have f10 := frozen_of_row _ _ 10 _ _ HIt3.out
          go_wp2
          exact bodyPost_ret (results_cell_row Tryd.results35 _ _ w.heap.size 37 _ (0, 0) _ rfl (set_eleven (set_far hne HRt3.out)) Tryd.underlying37 rfl (by kernel_rfl)) rfl ⟨_, _, _, _, _, _, _, _, _, _, _, rfl, (DrI.set11 (HDt3.out.set hB 10 _) (Nat.le_refl _)).d, (DrI.set11 (HDt3.out.set hB 10 _) (Nat.le_refl _)).gr⟩
        · obtain ⟨r0, r1, r2, r3, r4, r5, r6, r7, r8, r9, r10⟩ := cells11 HRt2.out
          have y0 := frozen_of_row _ _ 0 _ _ HRt2.out
          have y1 := frozen_of_row _ _ 1 _ _ HRt2.out
          have y2 := frozen_of_row _ _ 2 _ _ HRt2.out
          have y3 := frozen_of_row _ _ 3 _ _ HRt2.out
          have y4 := frozen_of_row _ _ 4 _ _ HRt2.out
          have y5 := frozen_of_row _ _ 5 _ _ HRt2.out
          have y6 := frozen_of_row _ _ 6 _ _ HRt2.out
          have y7 := frozen_of_row _ _ 7 _ _ HRt2.out
          have y8 := frozen_of_row _ _ 8 _ _ HRt2.out
          have y9 := frozen_of_row _ _ 9 _ _ HRt2.out
          have y10 := frozen_of_row _ _ 10 _ _ HRt2.out
          obtain ⟨c0, c1, c2, c3, c4, c5, c6, c7, c8, c9, c10⟩ := cells11 HIt2.out
          have f1 := frozen_of_row _ _ 1 _ _ HIt2.out
          go_wp2
          exact bodyPost_ret (results_cell_row Tryd.results35 _ _ w.heap.size 37 _ (0, 0) _ rfl (set_eleven (set_far hne HRt2.out)) Tryd.underlying37 rfl (by kernel_rfl)) rfl ⟨_, _, _, _, _, _, _, _, _, _, _, rfl, (DrI.set11 (HDt2.out.set hB 1 _) (Nat.le_refl _)).d, (DrI.set11 (HDt2.out.set hB 1 _) (Nat.le_refl _)).gr⟩
        · go_wp2_with fail
          refine (n_any g a len cap 4 _ (HDt2.out.alloc _).d (by omega) (by omega)).mono ?_
          rintro e t3 ⟨u3, rfl, hv0, hv1, hD, hG⟩
          have HIt3 : Hid (_ = _) := heap_grown (heap_more HIt2.out _) hG (by omega)
          have HRt3 : Hid (_ = _) := heap_grown (heap_more HRt2.out _) hG (by omega)
          have HDt3 : Hid (DrI w t3 g a len cap) := (HDt2.out.alloc _).call hD hG
          obtain ⟨V, rfl⟩ := Int.eq_ofNat_of_zero_le hv0
          have hV : V < 4 := by omega
          obtain ⟨y, hy, hyc⟩ := tab_cell (t := 2) [2, 3, 16, -1] V hV t3 hG (by have := heap_lt HIt2.out; omega)
          have hi0 : (0 : Int) ≤ (V : Int) := by omega
          have hi1 : (V : Int) < 4 := by omega
          clear hv0 hv1 hD hG hy
          obtain ⟨r0, r1, r2, r3, r4, r5, r6, r7, r8, r9, r10⟩ := cells11 HRt3.out
          have y0 := frozen_of_row _ _ 0 _ _ HRt3.out
          have y1 := frozen_of_row _ _ 1 _ _ HRt3.out
          have y2 := frozen_of_row _ _ 2 _ _ HRt3.out
          have y3 := frozen_of_row _ _ 3 _ _ HRt3.out
          have y4 := frozen_of_row _ _ 4 _ _ HRt3.out
          have y5 := frozen_of_row _ _ 5 _ _ HRt3.out
          have y6 := frozen_of_row _ _ 6 _ _ HRt3.out
          have y7 := frozen_of_row _ _ 7 _ _ HRt3.out
          have y8 := frozen_of_row _ _ 8 _ _ HRt3.out
          have y9 := frozen_of_row _ _ 9 _ _ HRt3.out
          have y10 := frozen_of_row _ _ 10 _ _ HRt3.out
          obtain ⟨c0, c1, c2, c3, c4, c5, c6, c7, c8, c9, c10⟩ := cells11 HIt3.out
          have f3 := frozen_of_row _ _ 3 _ _ HIt3.out
          go_wp2
          exact bodyPost_ret (results_cell_row Tryd.results35 _ _ w.heap.size 37 _ (0, 0) _ rfl (set_eleven (set_far hne HRt3.out)) Tryd.underlying37 rfl (by kernel_rfl)) rfl ⟨_, _, _, _, _, _, _, _, _, _, _, rfl, (DrI.set11 (HDt3.out.set hB 3 _) (Nat.le_refl _)).d, (DrI.set11 (HDt3.out.set hB 3 _) (Nat.le_refl _)).gr⟩
        · go_wp2_with fail
          refine (n_any g a len cap 3 _ (HDt2.out.alloc _).d (by omega) (by omega)).mono ?_
          rintro e t3 ⟨u3, rfl, hv0, hv1, hD, hG⟩
          have HIt3 : Hid (_ = _) := heap_grown (heap_more HIt2.out _) hG (by omega)
          have HRt3 : Hid (_ = _) := heap_grown (heap_more HRt2.out _) hG (by omega)
          have HDt3 : Hid (DrI w t3 g a len cap) := (HDt2.out.alloc _).call hD hG
          obtain ⟨V, rfl⟩ := Int.eq_ofNat_of_zero_le hv0
          have hV : V < 3 := by omega
          obtain ⟨y, hy, hyc⟩ := tab_cell (t := 2) [-1, 65536, 1] V hV t3 hG (by have := heap_lt HIt2.out; omega)
          have hi0 : (0 : Int) ≤ (V : Int) := by omega
          have hi1 : (V : Int) < 3 := by omega
          clear hv0 hv1 hD hG hy
          obtain ⟨r0, r1, r2, r3, r4, r5, r6, r7, r8, r9, r10⟩ := cells11 HRt3.out
          have y0 := frozen_of_row _ _ 0 _ _ HRt3.out
          have y1 := frozen_of_row _ _ 1 _ _ HRt3.out
          have y2 := frozen_of_row _ _ 2 _ _ HRt3.out
          have y3 := frozen_of_row _ _ 3 _ _ HRt3.out
          have y4 := frozen_of_row _ _ 4 _ _ HRt3.out
          have y5 := frozen_of_row _ _ 5 _ _ HRt3.out
          have y6 := frozen_of_row _ _ 6 _ _ HRt3.out
          have y7 := frozen_of_row _ _ 7 _ _ HRt3.out
          have y8 := frozen_of_row _ _ 8 _ _ HRt3.out
          have y9 := frozen_of_row _ _ 9 _ _ HRt3.out
          have y10 := frozen_of_row _ _ 10 _ _ HRt3.out
          obtain ⟨c0, c1, c2, c3, c4, c5, c6, c7, c8, c9, c10⟩ := cells11 HIt3.out
          have f8 := frozen_of_row _ _ 8 _ _ HIt3.out
          go_wp2
          exact bodyPost_ret (results_cell_row Tryd.results35 _ _ w.heap.size 37 _ (0, 0) _ rfl (set_eleven (set_far hne HRt3.out)) Tryd.underlying37 rfl (by kernel_rfl)) rfl ⟨_, _, _, _, _, _, _, _, _, _, _, rfl, (DrI.set11 (HDt3.out.set hB 8 _) (Nat.le_refl _)).d, (DrI.set11 (HDt3.out.set hB 8 _) (Nat.le_refl _)).gr⟩
        · obtain ⟨r0, r1, r2, r3, r4, r5, r6, r7, r8, r9, r10⟩ := cells11 HRt2.out
          have y0 := frozen_of_row _ _ 0 _ _ HRt2.out
          have y1 := frozen_of_row _ _ 1 _ _ HRt2.out
          have y2 := frozen_of_row _ _ 2 _ _ HRt2.out
          have y3 := frozen_of_row _ _ 3 _ _ HRt2.out
          have y4 := frozen_of_row _ _ 4 _ _ HRt2.out
          have y5 := frozen_of_row _ _ 5 _ _ HRt2.out
          have y6 := frozen_of_row _ _ 6 _ _ HRt2.out
          have y7 := frozen_of_row _ _ 7 _ _ HRt2.out
          have y8 := frozen_of_row _ _ 8 _ _ HRt2.out
          have y9 := frozen_of_row _ _ 9 _ _ HRt2.out
          have y10 := frozen_of_row _ _ 10 _ _ HRt2.out
          obtain ⟨c0, c1, c2, c3, c4, c5, c6, c7, c8, c9, c10⟩ := cells11 HIt2.out
          have f0 := frozen_of_row _ _ 0 _ _ HIt2.out
          go_wp2
          exact bodyPost_ret (results_cell_row Tryd.results35 _ _ w.heap.size 37 _ (0, 0) _ rfl (set_eleven (set_far hne HRt2.out)) Tryd.underlying37 rfl (by kernel_rfl)) rfl ⟨_, _, _, _, _, _, _, _, _, _, _, rfl, (DrI.set11 (HDt2.out.set hB 0 _) (Nat.le_refl _)).d, (DrI.set11 (HDt2.out.set hB 0 _) (Nat.le_refl _)).gr⟩
        · obtain ⟨r0, r1, r2, r3, r4, r5, r6, r7, r8, r9, r10⟩ := cells11 HRt2.out
          have y0 := frozen_of_row _ _ 0 _ _ HRt2.out
          have y1 := frozen_of_row _ _ 1 _ _ HRt2.out
          have y2 := frozen_of_row _ _ 2 _ _ HRt2.out
          have y3 := frozen_of_row _ _ 3 _ _ HRt2.out
          have y4 := frozen_of_row _ _ 4 _ _ HRt2.out
          have y5 := frozen_of_row _ _ 5 _ _ HRt2.out
          have y6 := frozen_of_row _ _ 6 _ _ HRt2.out
          have y7 := frozen_of_row _ _ 7 _ _ HRt2.out
          have y8 := frozen_of_row _ _ 8 _ _ HRt2.out
          have y9 := frozen_of_row _ _ 9 _ _ HRt2.out
          have y10 := frozen_of_row _ _ 10 _ _ HRt2.out
          obtain ⟨c0, c1, c2, c3, c4, c5, c6, c7, c8, c9, c10⟩ := cells11 HIt2.out
          have f5 := frozen_of_row _ _ 5 _ _ HIt2.out
          go_wp2
          exact bodyPost_ret (results_cell_row Tryd.results35 _ _ w.heap.size 37 _ (0, 0) _ rfl (set_eleven (set_far hne HRt2.out)) Tryd.underlying37 rfl (by kernel_rfl)) rfl ⟨_, _, _, _, _, _, _, _, _, _, _, rfl, (DrI.set11 (HDt2.out.set hB 5 _) (Nat.le_refl _)).d, (DrI.set11 (HDt2.out.set hB 5 _) (Nat.le_refl _)).gr⟩
    · cases q1 : (op.toList == [114, 114, 99])
      · cases q2 : (op.toList == [114, 114, 97])
        · cases q3 : (op.toList == [112, 117, 115, 104])
          · go_wp2_with fail
            have HIxg : Hid (_ = _) := (heap_set HIxf.out 1 (.bool false))
            have HRxg : Hid (_ = _) := (set_far (a := ⟨B, 1, none⟩) (v := .bool false) hne HRxf.out)
            have HDxg : Hid (DrI w _ g a len cap) := (HDxf.out.set hB 1 (.bool false))
            simp only [List.setIfInBounds_toArray, List.set_cons_zero, List.set_cons_succ] at HIxg
            clear c0 c1 c2 c3 c4 c5 c6 c7 c8 c9 c10 f1
            refine (one_any g a len cap 20 _ HDxg.out.d (by omega) (by omega)).mono ?_
            rintro e t1 ⟨bb, rfl, hD, hG⟩
            have HIt1 : Hid (_ = _) := heap_grown HIxg.out hG (by omega)
            have HRt1 : Hid (_ = _) := heap_grown HRxg.out hG (by omega)
            have HDt1 : Hid (DrI w t1 g a len cap) := HDxg.out.call hD hG
            clear hD hG
            cases bb
            · obtain ⟨r0, r1, r2, r3, r4, r5, r6, r7, r8, r9, r10⟩ := cells11 HRt1.out
              have y0 := frozen_of_row _ _ 0 _ _ HRt1.out
              have y1 := frozen_of_row _ _ 1 _ _ HRt1.out
              have y2 := frozen_of_row _ _ 2 _ _ HRt1.out
              have y3 := frozen_of_row _ _ 3 _ _ HRt1.out
              have y4 := frozen_of_row _ _ 4 _ _ HRt1.out
              have y5 := frozen_of_row _ _ 5 _ _ HRt1.out
              have y6 := frozen_of_row _ _ 6 _ _ HRt1.out
              have y7 := frozen_of_row _ _ 7 _ _ HRt1.out
              have y8 := frozen_of_row _ _ 8 _ _ HRt1.out
              have y9 := frozen_of_row _ _ 9 _ _ HRt1.out
              have y10 := frozen_of_row _ _ 10 _ _ HRt1.out
              obtain ⟨c0, c1, c2, c3, c4, c5, c6, c7, c8, c9, c10⟩ := cells11 HIt1.out
              go_wp2
              exact bodyPost_ret (results_cell_row Tryd.results35 _ _ w.heap.size 37 _ (0, 0) _ rfl (set_eleven HRt1.out) Tryd.underlying37 rfl (by kernel_rfl)) rfl ⟨_, _, _, _, _, _, _, _, _, _, _, rfl, (DrI.set11 HDt1.out (Nat.le_refl _)).d, (DrI.set11 HDt1.out (Nat.le_refl _)).gr⟩
            · go_wp2_with fail
              refine (n_any g a len cap 6 _ HDt1.out.d (by omega) (by omega)).mono ?_
              rintro e t2 ⟨v6, rfl, hv0, hv1, hD, hG⟩
              have HIt2 : Hid (_ = _) := heap_grown HIt1.out hG (by omega)
              have HRt2 : Hid (_ = _) := heap_grown HRt1.out hG (by omega)
              have HDt2 : Hid (DrI w t2 g a len cap) := HDt1.out.call hD hG
              have hv : v6 = 0 ∨ v6 = 1 ∨ v6 = 2 ∨ v6 = 3 ∨ v6 = 4 ∨ v6 = 5 := by omega
              clear hv0 hv1 hD hG
              rcases hv with rfl | rfl | rfl | rfl | rfl | rfl
              · go_wp2_with fail
                refine (n_any g a len cap 3 _ (HDt2.out.alloc _).d (by omega) (by omega)).mono ?_
                rintro e t3 ⟨u3, rfl, hv0, hv1, hD, hG⟩
                have HIt3 : Hid (_ = _) := heap_grown (heap_more HIt2.out _) hG (by omega)
                have HRt3 : Hid (_ = _) := heap_grown (heap_more HRt2.out _) hG (by omega)
                have HDt3 : Hid (DrI w t3 g a len cap) := (HDt2.out.alloc _).call hD hG
                obtain ⟨V, rfl⟩ := Int.eq_ofNat_of_zero_le hv0
                have hV : V < 3 := by omega
                obtain ⟨y, hy, hyc⟩ := tab_cell (t := 2) [-513, 512, 1] V hV t3 hG (by have := heap_lt HIt2.out; omega)
                have hi0 : (0 : Int) ≤ (V : Int) := by omega
                have hi1 : (V : Int) < 3 := by omega
                clear hv0 hv1 hD hG hy
                obtain ⟨r0, r1, r2, r3, r4, r5, r6, r7, r8, r9, r10⟩ := cells11 HRt3.out
                have y0 := frozen_of_row _ _ 0 _ _ HRt3.out
                have y1 := frozen_of_row _ _ 1 _ _ HRt3.out
                have y2 := frozen_of_row _ _ 2 _ _ HRt3.out
                have y3 := frozen_of_row _ _ 3 _ _ HRt3.out
                have y4 := frozen_of_row _ _ 4 _ _ HRt3.out
                have y5 := frozen_of_row _ _ 5 _ _ HRt3.out
                have y6 := frozen_of_row _ _ 6 _ _ HRt3.out
                have y7 := frozen_of_row _ _ 7 _ _ HRt3.out
                have y8 := frozen_of_row _ _ 8 _ _ HRt3.out
                have y9 := frozen_of_row _ _ 9 _ _ HRt3.out
                have y10 := frozen_of_row _ _ 10 _ _ HRt3.out
                obtain ⟨c0, c1, c2, c3, c4, c5, c6, c7, c8, c9, c10⟩ := cells11 HIt3.out
                have f10 := frozen_of_row _ _ 10 _ _ HIt3.out
                go_wp2
                exact bodyPost_ret (results_cell_row Tryd.results35 _ _ w.heap.size 37 _ (0, 0) _ rfl (set_eleven (set_far hne HRt3.out)) Tryd.underlying37 rfl (by kernel_rfl)) rfl ⟨_, _, _, _, _, _, _, _, _, _, _, rfl, (DrI.set11 (HDt3.out.set hB 10 _) (Nat.le_refl _)).d, (DrI.set11 (HDt3.out.set hB 10 _) (Nat.le_refl _)).gr⟩
              · obtain ⟨r0, r1, r2, r3, r4, r5, r6, r7, r8, r9, r10⟩ := cells11 HRt2.out
                have y0 := frozen_of_row _ _ 0 _ _ HRt2.out
                have y1 := frozen_of_row _ _ 1 _ _ HRt2.out
                have y2 := frozen_of_row _ _ 2 _ _ HRt2.out
                have y3 := frozen_of_row _ _ 3 _ _ HRt2.out
                have y4 := frozen_of_row _ _ 4 _ _ HRt2.out
                have y5 := frozen_of_row _ _ 5 _ _ HRt2.out
                have y6 := frozen_of_row _ _ 6 _ _ HRt2.out
                have y7 := frozen_of_row _ _ 7 _ _ HRt2.out
                have y8 := frozen_of_row _ _ 8 _ _ HRt2.out
                have y9 := frozen_of_row _ _ 9 _ _ HRt2.out
                have y10 := frozen_of_row _ _ 10 _ _ HRt2.out
                obtain ⟨c0, c1, c2, c3, c4, c5, c6, c7, c8, c9, c10⟩ := cells11 HIt2.out
                have f1 := frozen_of_row _ _ 1 _ _ HIt2.out
                go_wp2
                exact bodyPost_ret (results_cell_row Tryd.results35 _ _ w.heap.size 37 _ (0, 0) _ rfl (set_eleven (set_far hne HRt2.out)) Tryd.underlying37 rfl (by kernel_rfl)) rfl ⟨_, _, _, _, _, _, _, _, _, _, _, rfl, (DrI.set11 (HDt2.out.set hB 1 _) (Nat.le_refl _)).d, (DrI.set11 (HDt2.out.set hB 1 _) (Nat.le_refl _)).gr⟩
              · go_wp2_with fail
                refine (n_any g a len cap 4 _ (HDt2.out.alloc _).d (by omega) (by omega)).mono ?_
                rintro e t3 ⟨u3, rfl, hv0, hv1, hD, hG⟩
                have HIt3 : Hid (_ = _) := heap_grown (heap_more HIt2.out _) hG (by omega)
                have HRt3 : Hid (_ = _) := heap_grown (heap_more HRt2.out _) hG (by omega)
                have HDt3 : Hid (DrI w t3 g a len cap) := (HDt2.out.alloc _).call hD hG
                obtain ⟨V, rfl⟩ := Int.eq_ofNat_of_zero_le hv0
                have hV : V < 4 := by omega
                obtain ⟨y, hy, hyc⟩ := tab_cell (t := 2) [2, 3, 16, -1] V hV t3 hG (by have := heap_lt HIt2.out; omega)
                have hi0 : (0 : Int) ≤ (V : Int) := by omega
                have hi1 : (V : Int) < 4 := by omega
                clear hv0 hv1 hD hG hy
                obtain ⟨r0, r1, r2, r3, r4, r5, r6, r7, r8, r9, r10⟩ := cells11 HRt3.out
                have y0 := frozen_of_row _ _ 0 _ _ HRt3.out
                have y1 := frozen_of_row _ _ 1 _ _ HRt3.out
                have y2 := frozen_of_row _ _ 2 _ _ HRt3.out
                have y3 := frozen_of_row _ _ 3 _ _ HRt3.out
                have y4 := frozen_of_row _ _ 4 _ _ HRt3.out
                have y5 := frozen_of_row _ _ 5 _ _ HRt3.out
                have y6 := frozen_of_row _ _ 6 _ _ HRt3.out
                have y7 := frozen_of_row _ _ 7 _ _ HRt3.out
                have y8 := frozen_of_row _ _ 8 _ _ HRt3.out
                have y9 := frozen_of_row _ _ 9 _ _ HRt3.out
                have y10 := frozen_of_row _ _ 10 _ _ HRt3.out
                obtain ⟨c0, c1, c2, c3, c4, c5, c6, c7, c8, c9, c10⟩ := cells11 HIt3.out
                have f3 := frozen_of_row _ _ 3 _ _ HIt3.out
                go_wp2
                exact bodyPost_ret (results_cell_row Tryd.results35 _ _ w.heap.size 37 _ (0, 0) _ rfl (set_eleven (set_far hne HRt3.out)) Tryd.underlying37 rfl (by kernel_rfl)) rfl ⟨_, _, _, _, _, _, _, _, _, _, _, rfl, (DrI.set11 (HDt3.out.set hB 3 _) (Nat.le_refl _)).d, (DrI.set11 (HDt3.out.set hB 3 _) (Nat.le_refl _)).gr⟩
              · go_wp2_with fail
                refine (n_any g a len cap 3 _ (HDt2.out.alloc _).d (by omega) (by omega)).mono ?_
                rintro e t3 ⟨u3, rfl, hv0, hv1, hD, hG⟩
                have HIt3 : Hid (_ = _) := heap_grown (heap_more HIt2.out _) hG (by omega)
                have HRt3 : Hid (_ = _) := heap_grown (heap_more HRt2.out _) hG (by omega)
                have HDt3 : Hid (DrI w t3 g a len cap) := (HDt2.out.alloc _).call hD hG
                obtain ⟨V, rfl⟩ := Int.eq_ofNat_of_zero_le hv0
                have hV : V < 3 := by omega
                obtain ⟨y, hy, hyc⟩ := tab_cell (t := 2) [-1, 65536, 1] V hV t3 hG (by have := heap_lt HIt2.out; omega)
                have hi0 : (0 : Int) ≤ (V : Int) := by omega
                have hi1 : (V : Int) < 3 := by omega
                clear hv0 hv1 hD hG hy
                obtain ⟨r0, r1, r2, r3, r4, r5, r6, r7, r8, r9, r10⟩ := cells11 HRt3.out
                have y0 := frozen_of_row _ _ 0 _ _ HRt3.out
                have y1 := frozen_of_row _ _ 1 _ _ HRt3.out
                have y2 := frozen_of_row _ _ 2 _ _ HRt3.out
                have y3 := frozen_of_row _ _ 3 _ _ HRt3.out
                have y4 := frozen_of_row _ _ 4 _ _ HRt3.out
                have y5 := frozen_of_row _ _ 5 _ _ HRt3.out
                have y6 := frozen_of_row _ _ 6 _ _ HRt3.out
                have y7 := frozen_of_row _ _ 7 _ _ HRt3.out
                have y8 := frozen_of_row _ _ 8 _ _ HRt3.out
                have y9 := frozen_of_row _ _ 9 _ _ HRt3.out
                have y10 := frozen_of_row _ _ 10 _ _ HRt3.out
                obtain ⟨c0, c1, c2, c3, c4, c5, c6, c7, c8, c9, c10⟩ := cells11 HIt3.out
                have f8 := frozen_of_row _ _ 8 _ _ HIt3.out
                go_wp2
                exact bodyPost_ret (results_cell_row Tryd.results35 _ _ w.heap.size 37 _ (0, 0) _ rfl (set_eleven (set_far hne HRt3.out)) Tryd.underlying37 rfl (by kernel_rfl)) rfl ⟨_, _, _, _, _, _, _, _, _, _, _, rfl, (DrI.set11 (HDt3.out.set hB 8 _) (Nat.le_refl _)).d, (DrI.set11 (HDt3.out.set hB 8 _) (Nat.le_refl _)).gr⟩
              · obtain ⟨r0, r1, r2, r3, r4, r5, r6, r7, r8, r9, r10⟩ := cells11 HRt2.out
                have y0 := frozen_of_row _ _ 0 _ _ HRt2.out
                have y1 := frozen_of_row _ _ 1 _ _ HRt2.out
                have y2 := frozen_of_row _ _ 2 _ _ HRt2.out
                have y3 := frozen_of_row _ _ 3 _ _ HRt2.out
                have y4 := frozen_of_row _ _ 4 _ _ HRt2.out
                have y5 := frozen_of_row _ _ 5 _ _ HRt2.out
                have y6 := frozen_of_row _ _ 6 _ _ HRt2.out
                have y7 := frozen_of_row _ _ 7 _ _ HRt2.out
                have y8 := frozen_of_row _ _ 8 _ _ HRt2.out
                have y9 := frozen_of_row _ _ 9 _ _ HRt2.out
                have y10 := frozen_of_row _ _ 10 _ _ HRt2.out
                obtain ⟨c0, c1, c2, c3, c4, c5, c6, c7, c8, c9, c10⟩ := cells11 HIt2.out
                have f0 := frozen_of_row _ _ 0 _ _ HIt2.out
                go_wp2
                exact bodyPost_ret (results_cell_row Tryd.results35 _ _ w.heap.size 37 _ (0, 0) _ rfl (set_eleven (set_far hne HRt2.out)) Tryd.underlying37 rfl (by kernel_rfl)) rfl ⟨_, _, _, _, _, _, _, _, _, _, _, rfl, (DrI.set11 (HDt2.out.set hB 0 _) (Nat.le_refl _)).d, (DrI.set11 (HDt2.out.set hB 0 _) (Nat.le_refl _)).gr⟩
              · obtain ⟨r0, r1, r2, r3, r4, r5, r6, r7, r8, r9, r10⟩ := cells11 HRt2.out
                have y0 := frozen_of_row _ _ 0 _ _ HRt2.out
                have y1 := frozen_of_row _ _ 1 _ _ HRt2.out
                have y2 := frozen_of_row _ _ 2 _ _ HRt2.out
                have y3 := frozen_of_row _ _ 3 _ _ HRt2.out
                have y4 := frozen_of_row _ _ 4 _ _ HRt2.out
                have y5 := frozen_of_row _ _ 5 _ _ HRt2.out
                have y6 := frozen_of_row _ _ 6 _ _ HRt2.out
                have y7 := frozen_of_row _ _ 7 _ _ HRt2.out
                have y8 := frozen_of_row _ _ 8 _ _ HRt2.out
                have y9 := frozen_of_row _ _ 9 _ _ HRt2.out
                have y10 := frozen_of_row _ _ 10 _ _ HRt2.out
                obtain ⟨c0, c1, c2, c3, c4, c5, c6, c7, c8, c9, c10⟩ := cells11 HIt2.out
                have f5 := frozen_of_row _ _ 5 _ _ HIt2.out
                go_wp2
                exact bodyPost_ret (results_cell_row Tryd.results35 _ _ w.heap.size 37 _ (0, 0) _ rfl (set_eleven (set_far hne HRt2.out)) Tryd.underlying37 rfl (by kernel_rfl)) rfl ⟨_, _, _, _, _, _, _, _, _, _, _, rfl, (DrI.set11 (HDt2.out.set hB 5 _) (Nat.le_refl _)).d, (DrI.set11 (HDt2.out.set hB 5 _) (Nat.le_refl _)).gr⟩
          · go_wp2_with fail
            have HIxg : Hid (_ = _) := (heap_set HIxf.out 1 (.bool true))
            have HRxg : Hid (_ = _) := (set_far (a := ⟨B, 1, none⟩) (v := .bool true) hne HRxf.out)
            have HDxg : Hid (DrI w _ g a len cap) := (HDxf.out.set hB 1 (.bool true))
            simp only [List.setIfInBounds_toArray, List.set_cons_zero, List.set_cons_succ] at HIxg
            clear c0 c1 c2 c3 c4 c5 c6 c7 c8 c9 c10 f1
            refine (one_any g a len cap 20 _ HDxg.out.d (by omega) (by omega)).mono ?_
            rintro e t1 ⟨bb, rfl, hD, hG⟩
            have HIt1 : Hid (_ = _) := heap_grown HIxg.out hG (by omega)
            have HRt1 : Hid (_ = _) := heap_grown HRxg.out hG (by omega)
            have HDt1 : Hid (DrI w t1 g a len cap) := HDxg.out.call hD hG
            clear hD hG
            cases bb
            · obtain ⟨r0, r1, r2, r3, r4, r5, r6, r7, r8, r9, r10⟩ := cells11 HRt1.out
              have y0 := frozen_of_row _ _ 0 _ _ HRt1.out
              have y1 := frozen_of_row _ _ 1 _ _ HRt1.out
              have y2 := frozen_of_row _ _ 2 _ _ HRt1.out
              have y3 := frozen_of_row _ _ 3 _ _ HRt1.out
              have y4 := frozen_of_row _ _ 4 _ _ HRt1.out
              have y5 := frozen_of_row _ _ 5 _ _ HRt1.out
              have y6 := frozen_of_row _ _ 6 _ _ HRt1.out
              have y7 := frozen_of_row _ _ 7 _ _ HRt1.out
              have y8 := frozen_of_row _ _ 8 _ _ HRt1.out
              have y9 := frozen_of_row _ _ 9 _ _ HRt1.out
              have y10 := frozen_of_row _ _ 10 _ _ HRt1.out
              obtain ⟨c0, c1, c2, c3, c4, c5, c6, c7, c8, c9, c10⟩ := cells11 HIt1.out
              go_wp2
              exact bodyPost_ret (results_cell_row Tryd.results35 _ _ w.heap.size 37 _ (0, 0) _ rfl (set_eleven HRt1.out) Tryd.underlying37 rfl (by kernel_rfl)) rfl ⟨_, _, _, _, _, _, _, _, _, _, _, rfl, (DrI.set11 HDt1.out (Nat.le_refl _)).d, (DrI.set11 HDt1.out (Nat.le_refl _)).gr⟩
            · go_wp2_with fail
              refine (n_any g a len cap 6 _ HDt1.out.d (by omega) (by omega)).mono ?_
              rintro e t2 ⟨v6, rfl, hv0, hv1, hD, hG⟩
              have HIt2 : Hid (_ = _) := heap_grown HIt1.out hG (by omega)
              have HRt2 : Hid (_ = _) := heap_grown HRt1.out hG (by omega)
              have HDt2 : Hid (DrI w t2 g a len cap) := HDt1.out.call hD hG
              have hv : v6 = 0 ∨ v6 = 1 ∨ v6 = 2 ∨ v6 = 3 ∨ v6 = 4 ∨ v6 = 5 := by omega
              clear hv0 hv1 hD hG
              rcases hv with rfl | rfl | rfl | rfl | rfl | rfl
              · go_wp2_with fail
                refine (n_any g a len cap 3 _ (HDt2.out.alloc _).d (by omega) (by omega)).mono ?_
                rintro e t3 ⟨u3, rfl, hv0, hv1, hD, hG⟩
                have HIt3 : Hid (_ = _) := heap_grown (heap_more HIt2.out _) hG (by omega)
                have HRt3 : Hid (_ = _) := heap_grown (heap_more HRt2.out _) hG (by omega)
                have HDt3 : Hid (DrI w t3 g a len cap) := (HDt2.out.alloc _).call hD hG
                obtain ⟨V, rfl⟩ := Int.eq_ofNat_of_zero_le hv0
                have hV : V < 3 := by omega
                obtain ⟨y, hy, hyc⟩ := tab_cell (t := 2) [-513, 512, 1] V hV t3 hG (by have := heap_lt HIt2.out; omega)
                have hi0 : (0 : Int) ≤ (V : Int) := by omega
                have hi1 : (V : Int) < 3 := by omega
                clear hv0 hv1 hD hG hy
                obtain ⟨r0, r1, r2, r3, r4, r5, r6, r7, r8, r9, r10⟩ := cells11 HRt3.out
                have y0 := frozen_of_row _ _ 0 _ _ HRt3.out
                have y1 := frozen_of_row _ _ 1 _ _ HRt3.out
                have y2 := frozen_of_row _ _ 2 _ _ HRt3.out
                have y3 := frozen_of_row _ _ 3 _ _ HRt3.out
                have y4 := frozen_of_row _ _ 4 _ _ HRt3.out
                have y5 := frozen_of_row _ _ 5 _ _ HRt3.out
                have y6 := frozen_of_row _ _ 6 _ _ HRt3.out
                have y7 := frozen_of_row _ _ 7 _ _ HRt3.out
                have y8 := frozen_of_row _ _ 8 _ _ HRt3.out
                have y9 := frozen_of_row _ _ 9 _ _ HRt3.out
                have y10 := frozen_of_row _ _ 10 _ _ HRt3.out
                obtain ⟨c0, c1, c2, c3, c4, c5, c6, c7, c8, c9, c10⟩ := cells11 HIt3.out
                have f10 := frozen_of_row _ _ 10 _ _ HIt3.out
                go_wp2
                exact bodyPost_ret (results_cell_row Tryd.results35 _ _ w.heap.size 37 _ (0, 0) _ rfl (set_eleven (set_far hne HRt3.out)) Tryd.underlying37 rfl (by kernel_rfl)) rfl ⟨_, _, _, _, _, _, _, _, _, _, _, rfl, (DrI.set11 (HDt3.out.set hB 10 _) (Nat.le_refl _)).d, (DrI.set11 (HDt3.out.set hB 10 _) (Nat.le_refl _)).gr⟩
              · obtain ⟨r0, r1, r2, r3, r4, r5, r6, r7, r8, r9, r10⟩ := cells11 HRt2.out
                have y0 := frozen_of_row _ _ 0 _ _ HRt2.out
                have y1 := frozen_of_row _ _ 1 _ _ HRt2.out
                have y2 := frozen_of_row _ _ 2 _ _ HRt2.out
                have y3 := frozen_of_row _ _ 3 _ _ HRt2.out
                have y4 := frozen_of_row _ _ 4 _ _ HRt2.out
                have y5 := frozen_of_row _ _ 5 _ _ HRt2.out
                have y6 := frozen_of_row _ _ 6 _ _ HRt2.out
                have y7 := frozen_of_row _ _ 7 _ _ HRt2.out
                have y8 := frozen_of_row _ _ 8 _ _ HRt2.out
                have y9 := frozen_of_row _ _ 9 _ _ HRt2.out
                have y10 := frozen_of_row _ _ 10 _ _ HRt2.out
                obtain ⟨c0, c1, c2, c3, c4, c5, c6, c7, c8, c9, c10⟩ := cells11 HIt2.out
                have f1 := frozen_of_row _ _ 1 _ _ HIt2.out
                go_wp2
                exact bodyPost_ret (results_cell_row Tryd.results35 _ _ w.heap.size 37 _ (0, 0) _ rfl (set_eleven (set_far hne HRt2.out)) Tryd.underlying37 rfl (by kernel_rfl)) rfl ⟨_, _, _, _, _, _, _, _, _, _, _, rfl, (DrI.set11 (HDt2.out.set hB 1 _) (Nat.le_refl _)).d, (DrI.set11 (HDt2.out.set hB 1 _) (Nat.le_refl _)).gr⟩
              · go_wp2_with fail
                refine (n_any g a len cap 4 _ (HDt2.out.alloc _).d (by omega) (by omega)).mono ?_
                rintro e t3 ⟨u3, rfl, hv0, hv1, hD, hG⟩
                have HIt3 : Hid (_ = _) := heap_grown (heap_more HIt2.out _) hG (by omega)
                have HRt3 : Hid (_ = _) := heap_grown (heap_more HRt2.out _) hG (by omega)
                have HDt3 : Hid (DrI w t3 g a len cap) := (HDt2.out.alloc _).call hD hG
                obtain ⟨V, rfl⟩ := Int.eq_ofNat_of_zero_le hv0
                have hV : V < 4 := by omega
                obtain ⟨y, hy, hyc⟩ := tab_cell (t := 2) [2, 3, 16, -1] V hV t3 hG (by have := heap_lt HIt2.out; omega)
                have hi0 : (0 : Int) ≤ (V : Int) := by omega
                have hi1 : (V : Int) < 4 := by omega
                clear hv0 hv1 hD hG hy
                obtain ⟨r0, r1, r2, r3, r4, r5, r6, r7, r8, r9, r10⟩ := cells11 HRt3.out
                have y0 := frozen_of_row _ _ 0 _ _ HRt3.out
                have y1 := frozen_of_row _ _ 1 _ _ HRt3.out
                have y2 := frozen_of_row _ _ 2 _ _ HRt3.out
                have y3 := frozen_of_row _ _ 3 _ _ HRt3.out
                have y4 := frozen_of_row _ _ 4 _ _ HRt3.out
                have y5 := frozen_of_row _ _ 5 _ _ HRt3.out
                have y6 := frozen_of_row _ _ 6 _ _ HRt3.out
                have y7 := frozen_of_row _ _ 7 _ _ HRt3.out
                have y8 := frozen_of_row _ _ 8 _ _ HRt3.out
                have y9 := frozen_of_row _ _ 9 _ _ HRt3.out
                have y10 := frozen_of_row _ _ 10 _ _ HRt3.out
                obtain ⟨c0, c1, c2, c3, c4, c5, c6, c7, c8, c9, c10⟩ := cells11 HIt3.out
                have f3 := frozen_of_row _ _ 3 _ _ HIt3.out
                go_wp2
                exact bodyPost_ret (results_cell_row Tryd.results35 _ _ w.heap.size 37 _ (0, 0) _ rfl (set_eleven (set_far hne HRt3.out)) Tryd.underlying37 rfl (by kernel_rfl)) rfl ⟨_, _, _, _, _, _, _, _, _, _, _, rfl, (DrI.set11 (HDt3.out.set hB 3 _) (Nat.le_refl _)).d, (DrI.set11 (HDt3.out.set hB 3 _) (Nat.le_refl _)).gr⟩
              · go_wp2_with fail
                refine (n_any g a len cap 3 _ (HDt2.out.alloc _).d (by omega) (by omega)).mono ?_
                rintro e t3 ⟨u3, rfl, hv0, hv1, hD, hG⟩
                have HIt3 : Hid (_ = _) := heap_grown (heap_more HIt2.out _) hG (by omega)
                have HRt3 : Hid (_ = _) := heap_grown (heap_more HRt2.out _) hG (by omega)
                have HDt3 : Hid (DrI w t3 g a len cap) := (HDt2.out.alloc _).call hD hG
                obtain ⟨V, rfl⟩ := Int.eq_ofNat_of_zero_le hv0
                have hV : V < 3 := by omega
                obtain ⟨y, hy, hyc⟩ := tab_cell (t := 2) [-1, 65536, 1] V hV t3 hG (by have := heap_lt HIt2.out; omega)
                have hi0 : (0 : Int) ≤ (V : Int) := by omega
                have hi1 : (V : Int) < 3 := by omega
                clear hv0 hv1 hD hG hy
                obtain ⟨r0, r1, r2, r3, r4, r5, r6, r7, r8, r9, r10⟩ := cells11 HRt3.out
                have y0 := frozen_of_row _ _ 0 _ _ HRt3.out
                have y1 := frozen_of_row _ _ 1 _ _ HRt3.out
                have y2 := frozen_of_row _ _ 2 _ _ HRt3.out
                have y3 := frozen_of_row _ _ 3 _ _ HRt3.out
                have y4 := frozen_of_row _ _ 4 _ _ HRt3.out
                have y5 := frozen_of_row _ _ 5 _ _ HRt3.out
                have y6 := frozen_of_row _ _ 6 _ _ HRt3.out
                have y7 := frozen_of_row _ _ 7 _ _ HRt3.out
                have y8 := frozen_of_row _ _ 8 _ _ HRt3.out
                have y9 := frozen_of_row _ _ 9 _ _ HRt3.out
                have y10 := frozen_of_row _ _ 10 _ _ HRt3.out
                obtain ⟨c0, c1, c2, c3, c4, c5, c6, c7, c8, c9, c10⟩ := cells11 HIt3.out
                have f8 := frozen_of_row _ _ 8 _ _ HIt3.out
                go_wp2
                exact bodyPost_ret (results_cell_row Tryd.results35 _ _ w.heap.size 37 _ (0, 0) _ rfl (set_eleven (set_far hne HRt3.out)) Tryd.underlying37 rfl (by kernel_rfl)) rfl ⟨_, _, _, _, _, _, _, _, _, _, _, rfl, (DrI.set11 (HDt3.out.set hB 8 _) (Nat.le_refl _)).d, (DrI.set11 (HDt3.out.set hB 8 _) (Nat.le_refl _)).gr⟩
              · obtain ⟨r0, r1, r2, r3, r4, r5, r6, r7, r8, r9, r10⟩ := cells11 HRt2.out
                have y0 := frozen_of_row _ _ 0 _ _ HRt2.out
                have y1 := frozen_of_row _ _ 1 _ _ HRt2.out
                have y2 := frozen_of_row _ _ 2 _ _ HRt2.out
                have y3 := frozen_of_row _ _ 3 _ _ HRt2.out
                have y4 := frozen_of_row _ _ 4 _ _ HRt2.out
                have y5 := frozen_of_row _ _ 5 _ _ HRt2.out
                have y6 := frozen_of_row _ _ 6 _ _ HRt2.out
                have y7 := frozen_of_row _ _ 7 _ _ HRt2.out
                have y8 := frozen_of_row _ _ 8 _ _ HRt2.out
                have y9 := frozen_of_row _ _ 9 _ _ HRt2.out
                have y10 := frozen_of_row _ _ 10 _ _ HRt2.out
                obtain ⟨c0, c1, c2, c3, c4, c5, c6, c7, c8, c9, c10⟩ := cells11 HIt2.out
                have f0 := frozen_of_row _ _ 0 _ _ HIt2.out
                go_wp2
                exact bodyPost_ret (results_cell_row Tryd.results35 _ _ w.heap.size 37 _ (0, 0) _ rfl (set_eleven (set_far hne HRt2.out)) Tryd.underlying37 rfl (by kernel_rfl)) rfl ⟨_, _, _, _, _, _, _, _, _, _, _, rfl, (DrI.set11 (HDt2.out.set hB 0 _) (Nat.le_refl _)).d, (DrI.set11 (HDt2.out.set hB 0 _) (Nat.le_refl _)).gr⟩
              · obtain ⟨r0, r1, r2, r3, r4, r5, r6, r7, r8, r9, r10⟩ := cells11 HRt2.out
                have y0 := frozen_of_row _ _ 0 _ _ HRt2.out
                have y1 := frozen_of_row _ _ 1 _ _ HRt2.out
                have y2 := frozen_of_row _ _ 2 _ _ HRt2.out
                have y3 := frozen_of_row _ _ 3 _ _ HRt2.out
                have y4 := frozen_of_row _ _ 4 _ _ HRt2.out
                have y5 := frozen_of_row _ _ 5 _ _ HRt2.out
                have y6 := frozen_of_row _ _ 6 _ _ HRt2.out
                have y7 := frozen_of_row _ _ 7 _ _ HRt2.out
                have y8 := frozen_of_row _ _ 8 _ _ HRt2.out
                have y9 := frozen_of_row _ _ 9 _ _ HRt2.out
                have y10 := frozen_of_row _ _ 10 _ _ HRt2.out
                obtain ⟨c0, c1, c2, c3, c4, c5, c6, c7, c8, c9, c10⟩ := cells11 HIt2.out
                have f5 := frozen_of_row _ _ 5 _ _ HIt2.out
                go_wp2
                exact bodyPost_ret (results_cell_row Tryd.results35 _ _ w.heap.size 37 _ (0, 0) _ rfl (set_eleven (set_far hne HRt2.out)) Tryd.underlying37 rfl (by kernel_rfl)) rfl ⟨_, _, _, _, _, _, _, _, _, _, _, rfl, (DrI.set11 (HDt2.out.set hB 5 _) (Nat.le_refl _)).d, (DrI.set11 (HDt2.out.set hB 5 _) (Nat.le_refl _)).gr⟩
        · go_wp2_with fail
          have HIxg : Hid (_ = _) := (heap_set HIxf.out 1 (.bool true))
          have HRxg : Hid (_ = _) := (set_far (a := ⟨B, 1, none⟩) (v := .bool true) hne HRxf.out)
          have HDxg : Hid (DrI w _ g a len cap) := (HDxf.out.set hB 1 (.bool true))
          simp only [List.setIfInBounds_toArray, List.set_cons_zero, List.set_cons_succ] at HIxg
          clear c0 c1 c2 c3 c4 c5 c6 c7 c8 c9 c10 f1
          refine (one_any g a len cap 20 _ HDxg.out.d (by omega) (by omega)).mono ?_
          rintro e t1 ⟨bb, rfl, hD, hG⟩
          have HIt1 : Hid (_ = _) := heap_grown HIxg.out hG (by omega)
          have HRt1 : Hid (_ = _) := heap_grown HRxg.out hG (by omega)
          have HDt1 : Hid (DrI w t1 g a len cap) := HDxg.out.call hD hG
          clear hD hG
          cases bb
          · obtain ⟨r0, r1, r2, r3, r4, r5, r6, r7, r8, r9, r10⟩ := cells11 HRt1.out
            have y0 := frozen_of_row _ _ 0 _ _ HRt1.out
            have y1 := frozen_of_row _ _ 1 _ _ HRt1.out
            have y2 := frozen_of_row _ _ 2 _ _ HRt1.out
            have y3 := frozen_of_row _ _ 3 _ _ HRt1.out
            have y4 := frozen_of_row _ _ 4 _ _ HRt1.out
            have y5 := frozen_of_row _ _ 5 _ _ HRt1.out
            have y6 := frozen_of_row _ _ 6 _ _ HRt1.out
            have y7 := frozen_of_row _ _ 7 _ _ HRt1.out
            have y8 := frozen_of_row _ _ 8 _ _ HRt1.out
            have y9 := frozen_of_row _ _ 9 _ _ HRt1.out
            have y10 := frozen_of_row _ _ 10 _ _ HRt1.out
            obtain ⟨c0, c1, c2, c3, c4, c5, c6, c7, c8, c9, c10⟩ := cells11 HIt1.out
            go_wp2
            exact bodyPost_ret (results_cell_row Tryd.results35 _ _ w.heap.size 37 _ (0, 0) _ rfl (set_eleven HRt1.out) Tryd.underlying37 rfl (by kernel_rfl)) rfl ⟨_, _, _, _, _, _, _, _, _, _, _, rfl, (DrI.set11 HDt1.out (Nat.le_refl _)).d, (DrI.set11 HDt1.out (Nat.le_refl _)).gr⟩
          · go_wp2_with fail
            refine (n_any g a len cap 6 _ HDt1.out.d (by omega) (by omega)).mono ?_
            rintro e t2 ⟨v6, rfl, hv0, hv1, hD, hG⟩
            have HIt2 : Hid (_ = _) := heap_grown HIt1.out hG (by omega)
            have HRt2 : Hid (_ = _) := heap_grown HRt1.out hG (by omega)
            have HDt2 : Hid (DrI w t2 g a len cap) := HDt1.out.call hD hG
            have hv : v6 = 0 ∨ v6 = 1 ∨ v6 = 2 ∨ v6 = 3 ∨ v6 = 4 ∨ v6 = 5 := by omega
            clear hv0 hv1 hD hG
            rcases hv with rfl | rfl | rfl | rfl | rfl | rfl
            · go_wp2_with fail
              refine (n_any g a len cap 3 _ (HDt2.out.alloc _).d (by omega) (by omega)).mono ?_
              rintro e t3 ⟨u3, rfl, hv0, hv1, hD, hG⟩
              have HIt3 : Hid (_ = _) := heap_grown (heap_more HIt2.out _) hG (by omega)
              have HRt3 : Hid (_ = _) := heap_grown (heap_more HRt2.out _) hG (by omega)
              have HDt3 : Hid (DrI w t3 g a len cap) := (HDt2.out.alloc _).call hD hG
              obtain ⟨V, rfl⟩ := Int.eq_ofNat_of_zero_le hv0
              have hV : V < 3 := by omega
              obtain ⟨y, hy, hyc⟩ := tab_cell (t := 2) [-513, 512, 1] V hV t3 hG (by have := heap_lt HIt2.out; omega)
              have hi0 : (0 : Int) ≤ (V : Int) := by omega
              have hi1 : (V : Int) < 3 := by omega
              clear hv0 hv1 hD hG hy
              obtain ⟨r0, r1, r2, r3, r4, r5, r6, r7, r8, r9, r10⟩ := cells11 HRt3.out
              have y0 := frozen_of_row _ _ 0 _ _ HRt3.out
              have y1 := frozen_of_row _ _ 1 _ _ HRt3.out
              have y2 := frozen_of_row _ _ 2 _ _ HRt3.out
              have y3 := frozen_of_row _ _ 3 _ _ HRt3.out
              have y4 := frozen_of_row _ _ 4 _ _ HRt3.out
              have y5 := frozen_of_row _ _ 5 _ _ HRt3.out
              have y6 := frozen_of_row _ _ 6 _ _ HRt3.out
              have y7 := frozen_of_row _ _ 7 _ _ HRt3.out
              have y8 := frozen_of_row _ _ 8 _ _ HRt3.out
              have y9 := frozen_of_row _ _ 9 _ _ HRt3.out
              have y10 := frozen_of_row _ _ 10 _ _ HRt3.out
              obtain ⟨c0, c1, c2, c3, c4, c5, c6, c7, c8, c9, c10⟩ := cells11 HIt3.out
              have f10 := frozen_of_row _ _ 10 _ _ HIt3.out
              go_wp2
              exact bodyPost_ret (results_cell_row Tryd.results35 _ _ w.heap.size 37 _ (0, 0) _ rfl (set_eleven (set_far hne HRt3.out)) Tryd.underlying37 rfl (by kernel_rfl)) rfl ⟨_, _, _, _, _, _, _, _, _, _, _, rfl, (DrI.set11 (HDt3.out.set hB 10 _) (Nat.le_refl _)).d, (DrI.set11 (HDt3.out.set hB 10 _) (Nat.le_refl _)).gr⟩
            · obtain ⟨r0, r1, r2, r3, r4, r5, r6, r7, r8, r9, r10⟩ := cells11 HRt2.out
              have y0 := frozen_of_row _ _ 0 _ _ HRt2.out
              have y1 := frozen_of_row _ _ 1 _ _ HRt2.out
              have y2 := frozen_of_row _ _ 2 _ _ HRt2.out
              have y3 := frozen_of_row _ _ 3 _ _ HRt2.out
              have y4 := frozen_of_row _ _ 4 _ _ HRt2.out
              have y5 := frozen_of_row _ _ 5 _ _ HRt2.out
              have y6 := frozen_of_row _ _ 6 _ _ HRt2.out
              have y7 := frozen_of_row _ _ 7 _ _ HRt2.out
              have y8 := frozen_of_row _ _ 8 _ _ HRt2.out
              have y9 := frozen_of_row _ _ 9 _ _ HRt2.out
              have y10 := frozen_of_row _ _ 10 _ _ HRt2.out
              obtain ⟨c0, c1, c2, c3, c4, c5, c6, c7, c8, c9, c10⟩ := cells11 HIt2.out
              have f1 := frozen_of_row _ _ 1 _ _ HIt2.out
              go_wp2
              exact bodyPost_ret (results_cell_row Tryd.results35 _ _ w.heap.size 37 _ (0, 0) _ rfl (set_eleven (set_far hne HRt2.out)) Tryd.underlying37 rfl (by kernel_rfl)) rfl ⟨_, _, _, _, _, _, _, _, _, _, _, rfl, (DrI.set11 (HDt2.out.set hB 1 _) (Nat.le_refl _)).d, (DrI.set11 (HDt2.out.set hB 1 _) (Nat.le_refl _)).gr⟩
            · go_wp2_with fail
              refine (n_any g a len cap 4 _ (HDt2.out.alloc _).d (by omega) (by omega)).mono ?_
              rintro e t3 ⟨u3, rfl, hv0, hv1, hD, hG⟩
              have HIt3 : Hid (_ = _) := heap_grown (heap_more HIt2.out _) hG (by omega)
              have HRt3 : Hid (_ = _) := heap_grown (heap_more HRt2.out _) hG (by omega)
              have HDt3 : Hid (DrI w t3 g a len cap) := (HDt2.out.alloc _).call hD hG
              obtain ⟨V, rfl⟩ := Int.eq_ofNat_of_zero_le hv0
              have hV : V < 4 := by omega
              obtain ⟨y, hy, hyc⟩ := tab_cell (t := 2) [2, 3, 16, -1] V hV t3 hG (by have := heap_lt HIt2.out; omega)
              have hi0 : (0 : Int) ≤ (V : Int) := by omega
              have hi1 : (V : Int) < 4 := by omega
              clear hv0 hv1 hD hG hy
              obtain ⟨r0, r1, r2, r3, r4, r5, r6, r7, r8, r9, r10⟩ := cells11 HRt3.out
              have y0 := frozen_of_row _ _ 0 _ _ HRt3.out
              have y1 := frozen_of_row _ _ 1 _ _ HRt3.out
              have y2 := frozen_of_row _ _ 2 _ _ HRt3.out
              have y3 := frozen_of_row _ _ 3 _ _ HRt3.out
              have y4 := frozen_of_row _ _ 4 _ _ HRt3.out
              have y5 := frozen_of_row _ _ 5 _ _ HRt3.out
              have y6 := frozen_of_row _ _ 6 _ _ HRt3.out
              have y7 := frozen_of_row _ _ 7 _ _ HRt3.out
              have y8 := frozen_of_row _ _ 8 _ _ HRt3.out
              have y9 := frozen_of_row _ _ 9 _ _ HRt3.out
              have y10 := frozen_of_row _ _ 10 _ _ HRt3.out
              obtain ⟨c0, c1, c2, c3, c4, c5, c6, c7, c8, c9, c10⟩ := cells11 HIt3.out
              have f3 := frozen_of_row _ _ 3 _ _ HIt3.out
              go_wp2
              exact bodyPost_ret (results_cell_row Tryd.results35 _ _ w.heap.size 37 _ (0, 0) _ rfl (set_eleven (set_far hne HRt3.out)) Tryd.underlying37 rfl (by kernel_rfl)) rfl ⟨_, _, _, _, _, _, _, _, _, _, _, rfl, (DrI.set11 (HDt3.out.set hB 3 _) (Nat.le_refl _)).d, (DrI.set11 (HDt3.out.set hB 3 _) (Nat.le_refl _)).gr⟩
            · go_wp2_with fail
              refine (n_any g a len cap 3 _ (HDt2.out.alloc _).d (by omega) (by omega)).mono ?_
              rintro e t3 ⟨u3, rfl, hv0, hv1, hD, hG⟩
              have HIt3 : Hid (_ = _) := heap_grown (heap_more HIt2.out _) hG (by omega)
              have HRt3 : Hid (_ = _) := heap_grown (heap_more HRt2.out _) hG (by omega)
              have HDt3 : Hid (DrI w t3 g a len cap) := (HDt2.out.alloc _).call hD hG
              obtain ⟨V, rfl⟩ := Int.eq_ofNat_of_zero_le hv0
              have hV : V < 3 := by omega
              obtain ⟨y, hy, hyc⟩ := tab_cell (t := 2) [-1, 65536, 1] V hV t3 hG (by have := heap_lt HIt2.out; omega)
              have hi0 : (0 : Int) ≤ (V : Int) := by omega
              have hi1 : (V : Int) < 3 := by omega
              clear hv0 hv1 hD hG hy
              obtain ⟨r0, r1, r2, r3, r4, r5, r6, r7, r8, r9, r10⟩ := cells11 HRt3.out
              have y0 := frozen_of_row _ _ 0 _ _ HRt3.out
              have y1 := frozen_of_row _ _ 1 _ _ HRt3.out
              have y2 := frozen_of_row _ _ 2 _ _ HRt3.out
              have y3 := frozen_of_row _ _ 3 _ _ HRt3.out
              have y4 := frozen_of_row _ _ 4 _ _ HRt3.out
              have y5 := frozen_of_row _ _ 5 _ _ HRt3.out
              have y6 := frozen_of_row _ _ 6 _ _ HRt3.out
              have y7 := frozen_of_row _ _ 7 _ _ HRt3.out
              have y8 := frozen_of_row _ _ 8 _ _ HRt3.out
              have y9 := frozen_of_row _ _ 9 _ _ HRt3.out
              have y10 := frozen_of_row _ _ 10 _ _ HRt3.out
              obtain ⟨c0, c1, c2, c3, c4, c5, c6, c7, c8, c9, c10⟩ := cells11 HIt3.out
              have f8 := frozen_of_row _ _ 8 _ _ HIt3.out
              go_wp2
              exact bodyPost_ret (results_cell_row Tryd.results35 _ _ w.heap.size 37 _ (0, 0) _ rfl (set_eleven (set_far hne HRt3.out)) Tryd.underlying37 rfl (by kernel_rfl)) rfl ⟨_, _, _, _, _, _, _, _, _, _, _, rfl, (DrI.set11 (HDt3.out.set hB 8 _) (Nat.le_refl _)).d, (DrI.set11 (HDt3.out.set hB 8 _) (Nat.le_refl _)).gr⟩
            · obtain ⟨r0, r1, r2, r3, r4, r5, r6, r7, r8, r9, r10⟩ := cells11 HRt2.out
              have y0 := frozen_of_row _ _ 0 _ _ HRt2.out
              have y1 := frozen_of_row _ _ 1 _ _ HRt2.out
              have y2 := frozen_of_row _ _ 2 _ _ HRt2.out
              have y3 := frozen_of_row _ _ 3 _ _ HRt2.out
              have y4 := frozen_of_row _ _ 4 _ _ HRt2.out
              have y5 := frozen_of_row _ _ 5 _ _ HRt2.out
              have y6 := frozen_of_row _ _ 6 _ _ HRt2.out
              have y7 := frozen_of_row _ _ 7 _ _ HRt2.out
              have y8 := frozen_of_row _ _ 8 _ _ HRt2.out
              have y9 := frozen_of_row _ _ 9 _ _ HRt2.out
              have y10 := frozen_of_row _ _ 10 _ _ HRt2.out
              obtain ⟨c0, c1, c2, c3, c4, c5, c6, c7, c8, c9, c10⟩ := cells11 HIt2.out
              have f0 := frozen_of_row _ _ 0 _ _ HIt2.out
              go_wp2
              exact bodyPost_ret (results_cell_row Tryd.results35 _ _ w.heap.size 37 _ (0, 0) _ rfl (set_eleven (set_far hne HRt2.out)) Tryd.underlying37 rfl (by kernel_rfl)) rfl ⟨_, _, _, _, _, _, _, _, _, _, _, rfl, (DrI.set11 (HDt2.out.set hB 0 _) (Nat.le_refl _)).d, (DrI.set11 (HDt2.out.set hB 0 _) (Nat.le_refl _)).gr⟩
            · obtain ⟨r0, r1, r2, r3, r4, r5, r6, r7, r8, r9, r10⟩ := cells11 HRt2.out
              have y0 := frozen_of_row _ _ 0 _ _ HRt2.out
              have y1 := frozen_of_row _ _ 1 _ _ HRt2.out
              have y2 := frozen_of_row _ _ 2 _ _ HRt2.out
              have y3 := frozen_of_row _ _ 3 _ _ HRt2.out
              have y4 := frozen_of_row _ _ 4 _ _ HRt2.out
              have y5 := frozen_of_row _ _ 5 _ _ HRt2.out
              have y6 := frozen_of_row _ _ 6 _ _ HRt2.out
              have y7 := frozen_of_row _ _ 7 _ _ HRt2.out
              have y8 := frozen_of_row _ _ 8 _ _ HRt2.out
              have y9 := frozen_of_row _ _ 9 _ _ HRt2.out
              have y10 := frozen_of_row _ _ 10 _ _ HRt2.out
              obtain ⟨c0, c1, c2, c3, c4, c5, c6, c7, c8, c9, c10⟩ := cells11 HIt2.out
              have f5 := frozen_of_row _ _ 5 _ _ HIt2.out
              go_wp2
              exact bodyPost_ret (results_cell_row Tryd.results35 _ _ w.heap.size 37 _ (0, 0) _ rfl (set_eleven (set_far hne HRt2.out)) Tryd.underlying37 rfl (by kernel_rfl)) rfl ⟨_, _, _, _, _, _, _, _, _, _, _, rfl, (DrI.set11 (HDt2.out.set hB 5 _) (Nat.le_refl _)).d, (DrI.set11 (HDt2.out.set hB 5 _) (Nat.le_refl _)).gr⟩
      · go_wp2_with fail
        have HIxg : Hid (_ = _) := (heap_set HIxf.out 1 (.bool true))
        have HRxg : Hid (_ = _) := (set_far (a := ⟨B, 1, none⟩) (v := .bool true) hne HRxf.out)
        have HDxg : Hid (DrI w _ g a len cap) := (HDxf.out.set hB 1 (.bool true))
        simp only [List.setIfInBounds_toArray, List.set_cons_zero, List.set_cons_succ] at HIxg
        clear c0 c1 c2 c3 c4 c5 c6 c7 c8 c9 c10 f1
        refine (one_any g a len cap 20 _ HDxg.out.d (by omega) (by omega)).mono ?_
        rintro e t1 ⟨bb, rfl, hD, hG⟩
        have HIt1 : Hid (_ = _) := heap_grown HIxg.out hG (by omega)
        have HRt1 : Hid (_ = _) := heap_grown HRxg.out hG (by omega)
        have HDt1 : Hid (DrI w t1 g a len cap) := HDxg.out.call hD hG
        clear hD hG
        cases bb
        · obtain ⟨r0, r1, r2, r3, r4, r5, r6, r7, r8, r9, r10⟩ := cells11 HRt1.out
          have y0 := frozen_of_row _ _ 0 _ _ HRt1.out
          have y1 := frozen_of_row _ _ 1 _ _ HRt1.out
          have y2 := frozen_of_row _ _ 2 _ _ HRt1.out
          have y3 := frozen_of_row _ _ 3 _ _ HRt1.out
          have y4 := frozen_of_row _ _ 4 _ _ HRt1.out
          have y5 := frozen_of_row _ _ 5 _ _ HRt1.out
          have y6 := frozen_of_row _ _ 6 _ _ HRt1.out
          have y7 := frozen_of_row _ _ 7 _ _ HRt1.out
          have y8 := frozen_of_row _ _ 8 _ _ HRt1.out
          have y9 := frozen_of_row _ _ 9 _ _ HRt1.out
          have y10 := frozen_of_row _ _ 10 _ _ HRt1.out
          obtain ⟨c0, c1, c2, c3, c4, c5, c6, c7, c8, c9, c10⟩ := cells11 HIt1.out
          go_wp2
          exact bodyPost_ret (results_cell_row Tryd.results35 _ _ w.heap.size 37 _ (0, 0) _ rfl (set_eleven HRt1.out) Tryd.underlying37 rfl (by kernel_rfl)) rfl ⟨_, _, _, _, _, _, _, _, _, _, _, rfl, (DrI.set11 HDt1.out (Nat.le_refl _)).d, (DrI.set11 HDt1.out (Nat.le_refl _)).gr⟩
        · go_wp2_with fail
          refine (n_any g a len cap 6 _ HDt1.out.d (by omega) (by omega)).mono ?_
          rintro e t2 ⟨v6, rfl, hv0, hv1, hD, hG⟩
          have HIt2 : Hid (_ = _) := heap_grown HIt1.out hG (by omega)
          have HRt2 : Hid (_ = _) := heap_grown HRt1.out hG (by omega)
          have HDt2 : Hid (DrI w t2 g a len cap) := HDt1.out.call hD hG
          have hv : v6 = 0 ∨ v6 = 1 ∨ v6 = 2 ∨ v6 = 3 ∨ v6 = 4 ∨ v6 = 5 := by omega
          clear hv0 hv1 hD hG
          rcases hv with rfl | rfl | rfl | rfl | rfl | rfl
          · go_wp2_with fail
            refine (n_any g a len cap 3 _ (HDt2.out.alloc _).d (by omega) (by omega)).mono ?_
            rintro e t3 ⟨u3, rfl, hv0, hv1, hD, hG⟩
            have HIt3 : Hid (_ = _) := heap_grown (heap_more HIt2.out _) hG (by omega)
            have HRt3 : Hid (_ = _) := heap_grown (heap_more HRt2.out _) hG (by omega)
            have HDt3 : Hid (DrI w t3 g a len cap) := (HDt2.out.alloc _).call hD hG
            obtain ⟨V, rfl⟩ := Int.eq_ofNat_of_zero_le hv0
            have hV : V < 3 := by omega
            obtain ⟨y, hy, hyc⟩ := tab_cell (t := 2) [-513, 512, 1] V hV t3 hG (by have := heap_lt HIt2.out; omega)
            have hi0 : (0 : Int) ≤ (V : Int) := by omega
            have hi1 : (V : Int) < 3 := by omega
            clear hv0 hv1 hD hG hy
            obtain ⟨r0, r1, r2, r3, r4, r5, r6, r7, r8, r9, r10⟩ := cells11 HRt3.out
            have y0 := frozen_of_row _ _ 0 _ _ HRt3.out
            have y1 := frozen_of_row _ _ 1 _ _ HRt3.out
            have y2 := frozen_of_row _ _ 2 _ _ HRt3.out
            have y3 := frozen_of_row _ _ 3 _ _ HRt3.out
            have y4 := frozen_of_row _ _ 4 _ _ HRt3.out
            have y5 := frozen_of_row _ _ 5 _ _ HRt3.out
            have y6 := frozen_of_row _ _ 6 _ _ HRt3.out
            have y7 := frozen_of_row _ _ 7 _ _ HRt3.out
            have y8 := frozen_of_row _ _ 8 _ _ HRt3.out
            have y9 := frozen_of_row _ _ 9 _ _ HRt3.out
            have y10 := frozen_of_row _ _ 10 _ _ HRt3.out
            obtain ⟨c0, c1, c2, c3, c4, c5, c6, c7, c8, c9, c10⟩ := cells11 HIt3.out
            have f10 := frozen_of_row _ _ 10 _ _ HIt3.out
            go_wp2
            exact bodyPost_ret (results_cell_row Tryd.results35 _ _ w.heap.size 37 _ (0, 0) _ rfl (set_eleven (set_far hne HRt3.out)) Tryd.underlying37 rfl (by kernel_rfl)) rfl ⟨_, _, _, _, _, _, _, _, _, _, _, rfl, (DrI.set11 (HDt3.out.set hB 10 _) (Nat.le_refl _)).d, (DrI.set11 (HDt3.out.set hB 10 _) (Nat.le_refl _)).gr⟩
          · obtain ⟨r0, r1, r2, r3, r4, r5, r6, r7, r8, r9, r10⟩ := cells11 HRt2.out
            have y0 := frozen_of_row _ _ 0 _ _ HRt2.out
            have y1 := frozen_of_row _ _ 1 _ _ HRt2.out
            have y2 := frozen_of_row _ _ 2 _ _ HRt2.out
            have y3 := frozen_of_row _ _ 3 _ _ HRt2.out
            have y4 := frozen_of_row _ _ 4 _ _ HRt2.out
            have y5 := frozen_of_row _ _ 5 _ _ HRt2.out
            have y6 := frozen_of_row _ _ 6 _ _ HRt2.out
            have y7 := frozen_of_row _ _ 7 _ _ HRt2.out
            have y8 := frozen_of_row _ _ 8 _ _ HRt2.out
            have y9 := frozen_of_row _ _ 9 _ _ HRt2.out
            have y10 := frozen_of_row _ _ 10 _ _ HRt2.out
            obtain ⟨c0, c1, c2, c3, c4, c5, c6, c7, c8, c9, c10⟩ := cells11 HIt2.out
            have f1 := frozen_of_row _ _ 1 _ _ HIt2.out
            go_wp2
            exact bodyPost_ret (results_cell_row Tryd.results35 _ _ w.heap.size 37 _ (0, 0) _ rfl (set_eleven (set_far hne HRt2.out)) Tryd.underlying37 rfl (by kernel_rfl)) rfl ⟨_, _, _, _, _, _, _, _, _, _, _, rfl, (DrI.set11 (HDt2.out.set hB 1 _) (Nat.le_refl _)).d, (DrI.set11 (HDt2.out.set hB 1 _) (Nat.le_refl _)).gr⟩
          · go_wp2_with fail
            refine (n_any g a len cap 4 _ (HDt2.out.alloc _).d (by omega) (by omega)).mono ?_
            rintro e t3 ⟨u3, rfl, hv0, hv1, hD, hG⟩
            have HIt3 : Hid (_ = _) := heap_grown (heap_more HIt2.out _) hG (by omega)
            have HRt3 : Hid (_ = _) := heap_grown (heap_more HRt2.out _) hG (by omega)
            have HDt3 : Hid (DrI w t3 g a len cap) := (HDt2.out.alloc _).call hD hG
            obtain ⟨V, rfl⟩ := Int.eq_ofNat_of_zero_le hv0
            have hV : V < 4 := by omega
            obtain ⟨y, hy, hyc⟩ := tab_cell (t := 2) [2, 3, 16, -1] V hV t3 hG (by have := heap_lt HIt2.out; omega)
            have hi0 : (0 : Int) ≤ (V : Int) := by omega
            have hi1 : (V : Int) < 4 := by omega
            clear hv0 hv1 hD hG hy
            obtain ⟨r0, r1, r2, r3, r4, r5, r6, r7, r8, r9, r10⟩ := cells11 HRt3.out
            have y0 := frozen_of_row _ _ 0 _ _ HRt3.out
            have y1 := frozen_of_row _ _ 1 _ _ HRt3.out
            have y2 := frozen_of_row _ _ 2 _ _ HRt3.out
            have y3 := frozen_of_row _ _ 3 _ _ HRt3.out
            have y4 := frozen_of_row _ _ 4 _ _ HRt3.out
            have y5 := frozen_of_row _ _ 5 _ _ HRt3.out
            have y6 := frozen_of_row _ _ 6 _ _ HRt3.out
            have y7 := frozen_of_row _ _ 7 _ _ HRt3.out
            have y8 := frozen_of_row _ _ 8 _ _ HRt3.out
            have y9 := frozen_of_row _ _ 9 _ _ HRt3.out
            have y10 := frozen_of_row _ _ 10 _ _ HRt3.out
            obtain ⟨c0, c1, c2, c3, c4, c5, c6, c7, c8, c9, c10⟩ := cells11 HIt3.out
            have f3 := frozen_of_row _ _ 3 _ _ HIt3.out
            go_wp2
            exact bodyPost_ret (results_cell_row Tryd.results35 _ _ w.heap.size 37 _ (0, 0) _ rfl (set_eleven (set_far hne HRt3.out)) Tryd.underlying37 rfl (by kernel_rfl)) rfl ⟨_, _, _, _, _, _, _, _, _, _, _, rfl, (DrI.set11 (HDt3.out.set hB 3 _) (Nat.le_refl _)).d, (DrI.set11 (HDt3.out.set hB 3 _) (Nat.le_refl _)).gr⟩
          · go_wp2_with fail
            refine (n_any g a len cap 3 _ (HDt2.out.alloc _).d (by omega) (by omega)).mono ?_
            rintro e t3 ⟨u3, rfl, hv0, hv1, hD, hG⟩
            have HIt3 : Hid (_ = _) := heap_grown (heap_more HIt2.out _) hG (by omega)
            have HRt3 : Hid (_ = _) := heap_grown (heap_more HRt2.out _) hG (by omega)
            have HDt3 : Hid (DrI w t3 g a len cap) := (HDt2.out.alloc _).call hD hG
            obtain ⟨V, rfl⟩ := Int.eq_ofNat_of_zero_le hv0
            have hV : V < 3 := by omega
            obtain ⟨y, hy, hyc⟩ := tab_cell (t := 2) [-1, 65536, 1] V hV t3 hG (by have := heap_lt HIt2.out; omega)
            have hi0 : (0 : Int) ≤ (V : Int) := by omega
            have hi1 : (V : Int) < 3 := by omega
            clear hv0 hv1 hD hG hy
            obtain ⟨r0, r1, r2, r3, r4, r5, r6, r7, r8, r9, r10⟩ := cells11 HRt3.out
            have y0 := frozen_of_row _ _ 0 _ _ HRt3.out
            have y1 := frozen_of_row _ _ 1 _ _ HRt3.out
            have y2 := frozen_of_row _ _ 2 _ _ HRt3.out
            have y3 := frozen_of_row _ _ 3 _ _ HRt3.out
            have y4 := frozen_of_row _ _ 4 _ _ HRt3.out
            have y5 := frozen_of_row _ _ 5 _ _ HRt3.out
            have y6 := frozen_of_row _ _ 6 _ _ HRt3.out
            have y7 := frozen_of_row _ _ 7 _ _ HRt3.out
            have y8 := frozen_of_row _ _ 8 _ _ HRt3.out
            have y9 := frozen_of_row _ _ 9 _ _ HRt3.out
            have y10 := frozen_of_row _ _ 10 _ _ HRt3.out
            obtain ⟨c0, c1, c2, c3, c4, c5, c6, c7, c8, c9, c10⟩ := cells11 HIt3.out
            have f8 := frozen_of_row _ _ 8 _ _ HIt3.out
            go_wp2
            exact bodyPost_ret (results_cell_row Tryd.results35 _ _ w.heap.size 37 _ (0, 0) _ rfl (set_eleven (set_far hne HRt3.out)) Tryd.underlying37 rfl (by kernel_rfl)) rfl ⟨_, _, _, _, _, _, _, _, _, _, _, rfl, (DrI.set11 (HDt3.out.set hB 8 _) (Nat.le_refl _)).d, (DrI.set11 (HDt3.out.set hB 8 _) (Nat.le_refl _)).gr⟩
          · obtain ⟨r0, r1, r2, r3, r4, r5, r6, r7, r8, r9, r10⟩ := cells11 HRt2.out
            have y0 := frozen_of_row _ _ 0 _ _ HRt2.out
            have y1 := frozen_of_row _ _ 1 _ _ HRt2.out
            have y2 := frozen_of_row _ _ 2 _ _ HRt2.out
            have y3 := frozen_of_row _ _ 3 _ _ HRt2.out
            have y4 := frozen_of_row _ _ 4 _ _ HRt2.out
            have y5 := frozen_of_row _ _ 5 _ _ HRt2.out
            have y6 := frozen_of_row _ _ 6 _ _ HRt2.out
            have y7 := frozen_of_row _ _ 7 _ _ HRt2.out
            have y8 := frozen_of_row _ _ 8 _ _ HRt2.out
            have y9 := frozen_of_row _ _ 9 _ _ HRt2.out
            have y10 := frozen_of_row _ _ 10 _ _ HRt2.out
            obtain ⟨c0, c1, c2, c3, c4, c5, c6, c7, c8, c9, c10⟩ := cells11 HIt2.out
            have f0 := frozen_of_row _ _ 0 _ _ HIt2.out
            go_wp2
            exact bodyPost_ret (results_cell_row Tryd.results35 _ _ w.heap.size 37 _ (0, 0) _ rfl (set_eleven (set_far hne HRt2.out)) Tryd.underlying37 rfl (by kernel_rfl)) rfl ⟨_, _, _, _, _, _, _, _, _, _, _, rfl, (DrI.set11 (HDt2.out.set hB 0 _) (Nat.le_refl _)).d, (DrI.set11 (HDt2.out.set hB 0 _) (Nat.le_refl _)).gr⟩
          · obtain ⟨r0, r1, r2, r3, r4, r5, r6, r7, r8, r9, r10⟩ := cells11 HRt2.out
            have y0 := frozen_of_row _ _ 0 _ _ HRt2.out
            have y1 := frozen_of_row _ _ 1 _ _ HRt2.out
            have y2 := frozen_of_row _ _ 2 _ _ HRt2.out
            have y3 := frozen_of_row _ _ 3 _ _ HRt2.out
            have y4 := frozen_of_row _ _ 4 _ _ HRt2.out
            have y5 := frozen_of_row _ _ 5 _ _ HRt2.out
            have y6 := frozen_of_row _ _ 6 _ _ HRt2.out
            have y7 := frozen_of_row _ _ 7 _ _ HRt2.out
            have y8 := frozen_of_row _ _ 8 _ _ HRt2.out
            have y9 := frozen_of_row _ _ 9 _ _ HRt2.out
            have y10 := frozen_of_row _ _ 10 _ _ HRt2.out
            obtain ⟨c0, c1, c2, c3, c4, c5, c6, c7, c8, c9, c10⟩ := cells11 HIt2.out
            have f5 := frozen_of_row _ _ 5 _ _ HIt2.out
            go_wp2
            exact bodyPost_ret (results_cell_row Tryd.results35 _ _ w.heap.size 37 _ (0, 0) _ rfl (set_eleven (set_far hne HRt2.out)) Tryd.underlying37 rfl (by kernel_rfl)) rfl ⟨_, _, _, _, _, _, _, _, _, _, _, rfl, (DrI.set11 (HDt2.out.set hB 5 _) (Nat.le_refl _)).d, (DrI.set11 (HDt2.out.set hB 5 _) (Nat.le_refl _)).gr⟩
  by_cases k3 : 18 < k
  · go_wp2_with fail
    refine (n_any g a len cap 1024 _ HDa.out.d (by omega) (by omega)).mono ?_
    rintro e xb ⟨u1, rfl, hv0, hv1, hD, hG⟩
    have HIxb : Hid (_ = _) := heap_grown HIa.out hG (by omega)
    have HRxb : Hid (_ = _) := heap_grown HRa.out hG (by omega)
    have HDxb : Hid (DrI w xb g a len cap) := HDa.out.call hD hG
    clear hD hG
    obtain ⟨c0, c1, c2, c3, c4, c5, c6, c7, c8, c9, c10⟩ := cells11 HIxb.out
    have f10 := frozen_of_row _ _ 10 _ _ HIxb.out
    go_wp2_with fail
    have HIxg : Hid (_ = _) := (heap_set HIxb.out 10 (.int .i64 (u1 - 512)))
    have HRxg : Hid (_ = _) := (set_far (a := ⟨B, 10, none⟩) (v := .int .i64 (u1 - 512)) hne HRxb.out)
    have HDxg : Hid (DrI w _ g a len cap) := (HDxb.out.set hB 10 (.int .i64 (u1 - 512)))
    simp only [List.setIfInBounds_toArray, List.set_cons_zero, List.set_cons_succ] at HIxg
    clear c0 c1 c2 c3 c4 c5 c6 c7 c8 c9 c10 f10
    refine (one_any g a len cap 20 _ HDxg.out.d (by omega) (by omega)).mono ?_
    rintro e t1 ⟨bb, rfl, hD, hG⟩
    have HIt1 : Hid (_ = _) := heap_grown HIxg.out hG (by omega)
    have HRt1 : Hid (_ = _) := heap_grown HRxg.out hG (by omega)
    have HDt1 : Hid (DrI w t1 g a len cap) := HDxg.out.call hD hG
    clear hD hG
    cases bb
    · obtain ⟨r0, r1, r2, r3, r4, r5, r6, r7, r8, r9, r10⟩ := cells11 HRt1.out
      have y0 := frozen_of_row _ _ 0 _ _ HRt1.out
      have y1 := frozen_of_row _ _ 1 _ _ HRt1.out
      have y2 := frozen_of_row _ _ 2 _ _ HRt1.out
      have y3 := frozen_of_row _ _ 3 _ _ HRt1.out
      have y4 := frozen_of_row _ _ 4 _ _ HRt1.out
      have y5 := frozen_of_row _ _ 5 _ _ HRt1.out
      have y6 := frozen_of_row _ _ 6 _ _ HRt1.out
      have y7 := frozen_of_row _ _ 7 _ _ HRt1.out
      have y8 := frozen_of_row _ _ 8 _ _ HRt1.out
      have y9 := frozen_of_row _ _ 9 _ _ HRt1.out
      have y10 := frozen_of_row _ _ 10 _ _ HRt1.out
      obtain ⟨c0, c1, c2, c3, c4, c5, c6, c7, c8, c9, c10⟩ := cells11 HIt1.out
      go_wp2
      exact bodyPost_ret (results_cell_row Tryd.results35 _ _ w.heap.size 37 _ (0, 0) _ rfl (set_eleven HRt1.out) Tryd.underlying37 rfl (by kernel_rfl)) rfl ⟨_, _, _, _, _, _, _, _, _, _, _, rfl, (DrI.set11 HDt1.out (Nat.le_refl _)).d, (DrI.set11 HDt1.out (Nat.le_refl _)).gr⟩
    · go_wp2_with fail
      refine (n_any g a len cap 6 _ HDt1.out.d (by omega) (by omega)).mono ?_
      rintro e t2 ⟨v6, rfl, hv0, hv1, hD, hG⟩
      have HIt2 : Hid (_ = _) := heap_grown HIt1.out hG (by omega)
      have HRt2 : Hid (_ = _) := heap_grown HRt1.out hG (by omega)
      have HDt2 : Hid (DrI w t2 g a len cap) := HDt1.out.call hD hG
      have hv : v6 = 0 ∨ v6 = 1 ∨ v6 = 2 ∨ v6 = 3 ∨ v6 = 4 ∨ v6 = 5 := by omega
      clear hv0 hv1 hD hG
      rcases hv with rfl | rfl | rfl | rfl | rfl | rfl
      · go_wp2_with fail
        refine (n_any g a len cap 3 _ (HDt2.out.alloc _).d (by omega) (by omega)).mono ?_
        rintro e t3 ⟨u3, rfl, hv0, hv1, hD, hG⟩
        have HIt3 : Hid (_ = _) := heap_grown (heap_more HIt2.out _) hG (by omega)
        have HRt3 : Hid (_ = _) := heap_grown (heap_more HRt2.out _) hG (by omega)
        have HDt3 : Hid (DrI w t3 g a len cap) := (HDt2.out.alloc _).call hD hG
        obtain ⟨V, rfl⟩ := Int.eq_ofNat_of_zero_le hv0
        have hV : V < 3 := by omega
        obtain ⟨y, hy, hyc⟩ := tab_cell (t := 2) [-513, 512, 1] V hV t3 hG (by have := heap_lt HIt2.out; omega)
        have hi0 : (0 : Int) ≤ (V : Int) := by omega
        have hi1 : (V : Int) < 3 := by omega
        clear hv0 hv1 hD hG hy
        obtain ⟨r0, r1, r2, r3, r4, r5, r6, r7, r8, r9, r10⟩ := cells11 HRt3.out
        have y0 := frozen_of_row _ _ 0 _ _ HRt3.out
        have y1 := frozen_of_row _ _ 1 _ _ HRt3.out
        have y2 := frozen_of_row _ _ 2 _ _ HRt3.out
        have y3 := frozen_of_row _ _ 3 _ _ HRt3.out
        have y4 := frozen_of_row _ _ 4 _ _ HRt3.out
        have y5 := frozen_of_row _ _ 5 _ _ HRt3.out
        have y6 := frozen_of_row _ _ 6 _ _ HRt3.out
        have y7 := frozen_of_row _ _ 7 _ _ HRt3.out
        have y8 := frozen_of_row _ _ 8 _ _ HRt3.out
        have y9 := frozen_of_row _ _ 9 _ _ HRt3.out
        have y10 := frozen_of_row _ _ 10 _ _ HRt3.out
        obtain ⟨c0, c1, c2, c3, c4, c5, c6, c7, c8, c9, c10⟩ := cells11 HIt3.out
        have f10 := frozen_of_row _ _ 10 _ _ HIt3.out
        go_wp2
        exact bodyPost_ret (results_cell_row Tryd.results35 _ _ w.heap.size 37 _ (0, 0) _ rfl (set_eleven (set_far hne HRt3.out)) Tryd.underlying37 rfl (by kernel_rfl)) rfl ⟨_, _, _, _, _, _, _, _, _, _, _, rfl, (DrI.set11 (HDt3.out.set hB 10 _) (Nat.le_refl _)).d, (DrI.set11 (HDt3.out.set hB 10 _) (Nat.le_refl _)).gr⟩
      · obtain ⟨r0, r1, r2, r3, r4, r5, r6, r7, r8, r9, r10⟩ := cells11 HRt2.out
        have y0 := frozen_of_row _ _ 0 _ _ HRt2.out
        have y1 := frozen_of_row _ _ 1 _ _ HRt2.out
        have y2 := frozen_of_row _ _ 2 _ _ HRt2.out
        have y3 := frozen_of_row _ _ 3 _ _ HRt2.out
        have y4 := frozen_of_row _ _ 4 _ _ HRt2.out
        have y5 := frozen_of_row _ _ 5 _ _ HRt2.out
        have y6 := frozen_of_row _ _ 6 _ _ HRt2.out
        have y7 := frozen_of_row _ _ 7 _ _ HRt2.out
        have y8 := frozen_of_row _ _ 8 _ _ HRt2.out
        have y9 := frozen_of_row _ _ 9 _ _ HRt2.out
        have y10 := frozen_of_row _ _ 10 _ _ HRt2.out
        obtain ⟨c0, c1, c2, c3, c4, c5, c6, c7, c8, c9, c10⟩ := cells11 HIt2.out
        have f1 := frozen_of_row _ _ 1 _ _ HIt2.out
        go_wp2
        exact bodyPost_ret (results_cell_row Tryd.results35 _ _ w.heap.size 37 _ (0, 0) _ rfl (set_eleven (set_far hne HRt2.out)) Tryd.underlying37 rfl (by kernel_rfl)) rfl ⟨_, _, _, _, _, _, _, _, _, _, _, rfl, (DrI.set11 (HDt2.out.set hB 1 _) (Nat.le_refl _)).d, (DrI.set11 (HDt2.out.set hB 1 _) (Nat.le_refl _)).gr⟩
      · go_wp2_with fail
        refine (n_any g a len cap 4 _ (HDt2.out.alloc _).d (by omega) (by omega)).mono ?_
        rintro e t3 ⟨u3, rfl, hv0, hv1, hD, hG⟩
        have HIt3 : Hid (_ = _) := heap_grown (heap_more HIt2.out _) hG (by omega)
        have HRt3 : Hid (_ = _) := heap_grown (heap_more HRt2.out _) hG (by omega)
        have HDt3 : Hid (DrI w t3 g a len cap) := (HDt2.out.alloc _).call hD hG
        obtain ⟨V, rfl⟩ := Int.eq_ofNat_of_zero_le hv0
        have hV : V < 4 := by omega
        obtain ⟨y, hy, hyc⟩ := tab_cell (t := 2) [2, 3, 16, -1] V hV t3 hG (by have := heap_lt HIt2.out; omega)
        have hi0 : (0 : Int) ≤ (V : Int) := by omega
        have hi1 : (V : Int) < 4 := by omega
        clear hv0 hv1 hD hG hy
        obtain ⟨r0, r1, r2, r3, r4, r5, r6, r7, r8, r9, r10⟩ := cells11 HRt3.out
        have y0 := frozen_of_row _ _ 0 _ _ HRt3.out
        have y1 := frozen_of_row _ _ 1 _ _ HRt3.out
        have y2 := frozen_of_row _ _ 2 _ _ HRt3.out
        have y3 := frozen_of_row _ _ 3 _ _ HRt3.out
        have y4 := frozen_of_row _ _ 4 _ _ HRt3.out
        have y5 := frozen_of_row _ _ 5 _ _ HRt3.out
        have y6 := frozen_of_row _ _ 6 _ _ HRt3.out
        have y7 := frozen_of_row _ _ 7 _ _ HRt3.out
        have y8 := frozen_of_row _ _ 8 _ _ HRt3.out
        have y9 := frozen_of_row _ _ 9 _ _ HRt3.out
        have y10 := frozen_of_row _ _ 10 _ _ HRt3.out
        obtain ⟨c0, c1, c2, c3, c4, c5, c6, c7, c8, c9, c10⟩ := cells11 HIt3.out
        have f3 := frozen_of_row _ _ 3 _ _ HIt3.out
        go_wp2
        exact bodyPost_ret (results_cell_row Tryd.results35 _ _ w.heap.size 37 _ (0, 0) _ rfl (set_eleven (set_far hne HRt3.out)) Tryd.underlying37 rfl (by kernel_rfl)) rfl ⟨_, _, _, _, _, _, _, _, _, _, _, rfl, (DrI.set11 (HDt3.out.set hB 3 _) (Nat.le_refl _)).d, (DrI.set11 (HDt3.out.set hB 3 _) (Nat.le_refl _)).gr⟩
      · go_wp2_with fail
        refine (n_any g a len cap 3 _ (HDt2.out.alloc _).d (by omega) (by omega)).mono ?_
        rintro e t3 ⟨u3, rfl, hv0, hv1, hD, hG⟩
        have HIt3 : Hid (_ = _) := heap_grown (heap_more HIt2.out _) hG (by omega)
        have HRt3 : Hid (_ = _) := heap_grown (heap_more HRt2.out _) hG (by omega)
        have HDt3 : Hid (DrI w t3 g a len cap) := (HDt2.out.alloc _).call hD hG
        obtain ⟨V, rfl⟩ := Int.eq_ofNat_of_zero_le hv0
        have hV : V < 3 := by omega
        obtain ⟨y, hy, hyc⟩ := tab_cell (t := 2) [-1, 65536, 1] V hV t3 hG (by have := heap_lt HIt2.out; omega)
        have hi0 : (0 : Int) ≤ (V : Int) := by omega
        have hi1 : (V : Int) < 3 := by omega
        clear hv0 hv1 hD hG hy
        obtain ⟨r0, r1, r2, r3, r4, r5, r6, r7, r8, r9, r10⟩ := cells11 HRt3.out
        have y0 := frozen_of_row _ _ 0 _ _ HRt3.out
        have y1 := frozen_of_row _ _ 1 _ _ HRt3.out
        have y2 := frozen_of_row _ _ 2 _ _ HRt3.out
        have y3 := frozen_of_row _ _ 3 _ _ HRt3.out
        have y4 := frozen_of_row _ _ 4 _ _ HRt3.out
        have y5 := frozen_of_row _ _ 5 _ _ HRt3.out
        have y6 := frozen_of_row _ _ 6 _ _ HRt3.out
        have y7 := frozen_of_row _ _ 7 _ _ HRt3.out
        have y8 := frozen_of_row _ _ 8 _ _ HRt3.out
        have y9 := frozen_of_row _ _ 9 _ _ HRt3.out
        have y10 := frozen_of_row _ _ 10 _ _ HRt3.out
        obtain ⟨c0, c1, c2, c3, c4, c5, c6, c7, c8, c9, c10⟩ := cells11 HIt3.out
        have f8 := frozen_of_row _ _ 8 _ _ HIt3.out
        go_wp2
        exact bodyPost_ret (results_cell_row Tryd.results35 _ _ w.heap.size 37 _ (0, 0) _ rfl (set_eleven (set_far hne HRt3.out)) Tryd.underlying37 rfl (by kernel_rfl)) rfl ⟨_, _, _, _, _, _, _, _, _, _, _, rfl, (DrI.set11 (HDt3.out.set hB 8 _) (Nat.le_refl _)).d, (DrI.set11 (HDt3.out.set hB 8 _) (Nat.le_refl _)).gr⟩
      · obtain ⟨r0, r1, r2, r3, r4, r5, r6, r7, r8, r9, r10⟩ := cells11 HRt2.out
        have y0 := frozen_of_row _ _ 0 _ _ HRt2.out
        have y1 := frozen_of_row _ _ 1 _ _ HRt2.out
        have y2 := frozen_of_row _ _ 2 _ _ HRt2.out
        have y3 := frozen_of_row _ _ 3 _ _ HRt2.out
        have y4 := frozen_of_row _ _ 4 _ _ HRt2.out
        have y5 := frozen_of_row _ _ 5 _ _ HRt2.out
        have y6 := frozen_of_row _ _ 6 _ _ HRt2.out
        have y7 := frozen_of_row _ _ 7 _ _ HRt2.out
        have y8 := frozen_of_row _ _ 8 _ _ HRt2.out
        have y9 := frozen_of_row _ _ 9 _ _ HRt2.out
        have y10 := frozen_of_row _ _ 10 _ _ HRt2.out
        obtain ⟨c0, c1, c2, c3, c4, c5, c6, c7, c8, c9, c10⟩ := cells11 HIt2.out
        have f0 := frozen_of_row _ _ 0 _ _ HIt2.out
        go_wp2
        exact bodyPost_ret (results_cell_row Tryd.results35 _ _ w.heap.size 37 _ (0, 0) _ rfl (set_eleven (set_far hne HRt2.out)) Tryd.underlying37 rfl (by kernel_rfl)) rfl ⟨_, _, _, _, _, _, _, _, _, _, _, rfl, (DrI.set11 (HDt2.out.set hB 0 _) (Nat.le_refl _)).d, (DrI.set11 (HDt2.out.set hB 0 _) (Nat.le_refl _)).gr⟩
      · obtain ⟨r0, r1, r2, r3, r4, r5, r6, r7, r8, r9, r10⟩ := cells11 HRt2.out
        have y0 := frozen_of_row _ _ 0 _ _ HRt2.out
        have y1 := frozen_of_row _ _ 1 _ _ HRt2.out
        have y2 := frozen_of_row _ _ 2 _ _ HRt2.out
        have y3 := frozen_of_row _ _ 3 _ _ HRt2.out
        have y4 := frozen_of_row _ _ 4 _ _ HRt2.out
        have y5 := frozen_of_row _ _ 5 _ _ HRt2.out
        have y6 := frozen_of_row _ _ 6 _ _ HRt2.out
        have y7 := frozen_of_row _ _ 7 _ _ HRt2.out
        have y8 := frozen_of_row _ _ 8 _ _ HRt2.out
        have y9 := frozen_of_row _ _ 9 _ _ HRt2.out
        have y10 := frozen_of_row _ _ 10 _ _ HRt2.out
        obtain ⟨c0, c1, c2, c3, c4, c5, c6, c7, c8, c9, c10⟩ := cells11 HIt2.out
        have f5 := frozen_of_row _ _ 5 _ _ HIt2.out
        go_wp2
        exact bodyPost_ret (results_cell_row Tryd.results35 _ _ w.heap.size 37 _ (0, 0) _ rfl (set_eleven (set_far hne HRt2.out)) Tryd.underlying37 rfl (by kernel_rfl)) rfl ⟨_, _, _, _, _, _, _, _, _, _, _, rfl, (DrI.set11 (HDt2.out.set hB 5 _) (Nat.le_refl _)).d, (DrI.set11 (HDt2.out.set hB 5 _) (Nat.le_refl _)).gr⟩
  have k4 : k = 18 := by omega
  subst k4
  clear k1 k2 k3
  go_wp2_with fail
  refine (one_any g a len cap 20 _ HDa.out.d (by omega) (by omega)).mono ?_
  rintro e t1 ⟨bb, rfl, hD, hG⟩
  have HIt1 : Hid (_ = _) := heap_grown HIa.out hG (by omega)
  have HRt1 : Hid (_ = _) := heap_grown HRa.out hG (by omega)
  have HDt1 : Hid (DrI w t1 g a len cap) := HDa.out.call hD hG
  clear hD hG
  cases bb
  · obtain ⟨r0, r1, r2, r3, r4, r5, r6, r7, r8, r9, r10⟩ := cells11 HRt1.out
    have y0 := frozen_of_row _ _ 0 _ _ HRt1.out
    have y1 := frozen_of_row _ _ 1 _ _ HRt1.out
    have y2 := frozen_of_row _ _ 2 _ _ HRt1.out
    have y3 := frozen_of_row _ _ 3 _ _ HRt1.out
    have y4 := frozen_of_row _ _ 4 _ _ HRt1.out
    have y5 := frozen_of_row _ _ 5 _ _ HRt1.out
    have y6 := frozen_of_row _ _ 6 _ _ HRt1.out
    have y7 := frozen_of_row _ _ 7 _ _ HRt1.out
    have y8 := frozen_of_row _ _ 8 _ _ HRt1.out
    have y9 := frozen_of_row _ _ 9 _ _ HRt1.out
    have y10 := frozen_of_row _ _ 10 _ _ HRt1.out
    obtain ⟨c0, c1, c2, c3, c4, c5, c6, c7, c8, c9, c10⟩ := cells11 HIt1.out
    go_wp2
    exact bodyPost_ret (results_cell_row Tryd.results35 _ _ w.heap.size 37 _ (0, 0) _ rfl (set_eleven HRt1.out) Tryd.underlying37 rfl (by kernel_rfl)) rfl ⟨_, _, _, _, _, _, _, _, _, _, _, rfl, (DrI.set11 HDt1.out (Nat.le_refl _)).d, (DrI.set11 HDt1.out (Nat.le_refl _)).gr⟩
  · go_wp2_with fail
    refine (n_any g a len cap 6 _ HDt1.out.d (by omega) (by omega)).mono ?_
    rintro e t2 ⟨v6, rfl, hv0, hv1, hD, hG⟩
    have HIt2 : Hid (_ = _) := heap_grown HIt1.out hG (by omega)
    have HRt2 : Hid (_ = _) := heap_grown HRt1.out hG (by omega)
    have HDt2 : Hid (DrI w t2 g a len cap) := HDt1.out.call hD hG
    have hv : v6 = 0 ∨ v6 = 1 ∨ v6 = 2 ∨ v6 = 3 ∨ v6 = 4 ∨ v6 = 5 := by omega
    clear hv0 hv1 hD hG
    rcases hv with rfl | rfl | rfl | rfl | rfl | rfl
    · go_wp2_with fail
      refine (n_any g a len cap 3 _ (HDt2.out.alloc _).d (by omega) (by omega)).mono ?_
      rintro e t3 ⟨u3, rfl, hv0, hv1, hD, hG⟩
      have HIt3 : Hid (_ = _) := heap_grown (heap_more HIt2.out _) hG (by omega)
      have HRt3 : Hid (_ = _) := heap_grown (heap_more HRt2.out _) hG (by omega)
      have HDt3 : Hid (DrI w t3 g a len cap) := (HDt2.out.alloc _).call hD hG
      obtain ⟨V, rfl⟩ := Int.eq_ofNat_of_zero_le hv0
      have hV : V < 3 := by omega
      obtain ⟨y, hy, hyc⟩ := tab_cell (t := 2) [-513, 512, 1] V hV t3 hG (by have := heap_lt HIt2.out; omega)
      have hi0 : (0 : Int) ≤ (V : Int) := by omega
      have hi1 : (V : Int) < 3 := by omega
      clear hv0 hv1 hD hG hy
      obtain ⟨r0, r1, r2, r3, r4, r5, r6, r7, r8, r9, r10⟩ := cells11 HRt3.out
      have y0 := frozen_of_row _ _ 0 _ _ HRt3.out
      have y1 := frozen_of_row _ _ 1 _ _ HRt3.out
      have y2 := frozen_of_row _ _ 2 _ _ HRt3.out
      have y3 := frozen_of_row _ _ 3 _ _ HRt3.out
      have y4 := frozen_of_row _ _ 4 _ _ HRt3.out
      have y5 := frozen_of_row _ _ 5 _ _ HRt3.out
      have y6 := frozen_of_row _ _ 6 _ _ HRt3.out
      have y7 := frozen_of_row _ _ 7 _ _ HRt3.out
      have y8 := frozen_of_row _ _ 8 _ _ HRt3.out
      have y9 := frozen_of_row _ _ 9 _ _ HRt3.out
      have y10 := frozen_of_row _ _ 10 _ _ HRt3.out
      obtain ⟨c0, c1, c2, c3, c4, c5, c6, c7, c8, c9, c10⟩ := cells11 HIt3.out
      have f10 := frozen_of_row _ _ 10 _ _ HIt3.out
      go_wp2
      exact bodyPost_ret (results_cell_row Tryd.results35 _ _ w.heap.size 37 _ (0, 0) _ rfl (set_eleven (set_far hne HRt3.out)) Tryd.underlying37 rfl (by kernel_rfl)) rfl ⟨_, _, _, _, _, _, _, _, _, _, _, rfl, (DrI.set11 (HDt3.out.set hB 10 _) (Nat.le_refl _)).d, (DrI.set11 (HDt3.out.set hB 10 _) (Nat.le_refl _)).gr⟩
    · obtain ⟨r0, r1, r2, r3, r4, r5, r6, r7, r8, r9, r10⟩ := cells11 HRt2.out
      have y0 := frozen_of_row _ _ 0 _ _ HRt2.out
      have y1 := frozen_of_row _ _ 1 _ _ HRt2.out
      have y2 := frozen_of_row _ _ 2 _ _ HRt2.out
      have y3 := frozen_of_row _ _ 3 _ _ HRt2.out
      have y4 := frozen_of_row _ _ 4 _ _ HRt2.out
      have y5 := frozen_of_row _ _ 5 _ _ HRt2.out
      have y6 := frozen_of_row _ _ 6 _ _ HRt2.out
      have y7 := frozen_of_row _ _ 7 _ _ HRt2.out
      have y8 := frozen_of_row _ _ 8 _ _ HRt2.out
      have y9 := frozen_of_row _ _ 9 _ _ HRt2.out
      have y10 := frozen_of_row _ _ 10 _ _ HRt2.out
      obtain ⟨c0, c1, c2, c3, c4, c5, c6, c7, c8, c9, c10⟩ := cells11 HIt2.out
      have f1 := frozen_of_row _ _ 1 _ _ HIt2.out
      go_wp2
      exact bodyPost_ret (results_cell_row Tryd.results35 _ _ w.heap.size 37 _ (0, 0) _ rfl (set_eleven (set_far hne HRt2.out)) Tryd.underlying37 rfl (by kernel_rfl)) rfl ⟨_, _, _, _, _, _, _, _, _, _, _, rfl, (DrI.set11 (HDt2.out.set hB 1 _) (Nat.le_refl _)).d, (DrI.set11 (HDt2.out.set hB 1 _) (Nat.le_refl _)).gr⟩
    · go_wp2_with fail
      refine (n_any g a len cap 4 _ (HDt2.out.alloc _).d (by omega) (by omega)).mono ?_
      rintro e t3 ⟨u3, rfl, hv0, hv1, hD, hG⟩
      have HIt3 : Hid (_ = _) := heap_grown (heap_more HIt2.out _) hG (by omega)
      have HRt3 : Hid (_ = _) := heap_grown (heap_more HRt2.out _) hG (by omega)
      have HDt3 : Hid (DrI w t3 g a len cap) := (HDt2.out.alloc _).call hD hG
      obtain ⟨V, rfl⟩ := Int.eq_ofNat_of_zero_le hv0
      have hV : V < 4 := by omega
      obtain ⟨y, hy, hyc⟩ := tab_cell (t := 2) [2, 3, 16, -1] V hV t3 hG (by have := heap_lt HIt2.out; omega)
      have hi0 : (0 : Int) ≤ (V : Int) := by omega
      have hi1 : (V : Int) < 4 := by omega
      clear hv0 hv1 hD hG hy
      obtain ⟨r0, r1, r2, r3, r4, r5, r6, r7, r8, r9, r10⟩ := cells11 HRt3.out
      have y0 := frozen_of_row _ _ 0 _ _ HRt3.out
      have y1 := frozen_of_row _ _ 1 _ _ HRt3.out
      have y2 := frozen_of_row _ _ 2 _ _ HRt3.out
      have y3 := frozen_of_row _ _ 3 _ _ HRt3.out
      have y4 := frozen_of_row _ _ 4 _ _ HRt3.out
      have y5 := frozen_of_row _ _ 5 _ _ HRt3.out
      have y6 := frozen_of_row _ _ 6 _ _ HRt3.out
      have y7 := frozen_of_row _ _ 7 _ _ HRt3.out
      have y8 := frozen_of_row _ _ 8 _ _ HRt3.out
      have y9 := frozen_of_row _ _ 9 _ _ HRt3.out
      have y10 := frozen_of_row _ _ 10 _ _ HRt3.out
      obtain ⟨c0, c1, c2, c3, c4, c5, c6, c7, c8, c9, c10⟩ := cells11 HIt3.out
      have f3 := frozen_of_row _ _ 3 _ _ HIt3.out
      go_wp2
      exact bodyPost_ret (results_cell_row Tryd.results35 _ _ w.heap.size 37 _ (0, 0) _ rfl (set_eleven (set_far hne HRt3.out)) Tryd.underlying37 rfl (by kernel_rfl)) rfl ⟨_, _, _, _, _, _, _, _, _, _, _, rfl, (DrI.set11 (HDt3.out.set hB 3 _) (Nat.le_refl _)).d, (DrI.set11 (HDt3.out.set hB 3 _) (Nat.le_refl _)).gr⟩
    · go_wp2_with fail
      refine (n_any g a len cap 3 _ (HDt2.out.alloc _).d (by omega) (by omega)).mono ?_
      rintro e t3 ⟨u3, rfl, hv0, hv1, hD, hG⟩
      have HIt3 : Hid (_ = _) := heap_grown (heap_more HIt2.out _) hG (by omega)
      have HRt3 : Hid (_ = _) := heap_grown (heap_more HRt2.out _) hG (by omega)
      have HDt3 : Hid (DrI w t3 g a len cap) := (HDt2.out.alloc _).call hD hG
      obtain ⟨V, rfl⟩ := Int.eq_ofNat_of_zero_le hv0
      have hV : V < 3 := by omega
      obtain ⟨y, hy, hyc⟩ := tab_cell (t := 2) [-1, 65536, 1] V hV t3 hG (by have := heap_lt HIt2.out; omega)
      have hi0 : (0 : Int) ≤ (V : Int) := by omega
      have hi1 : (V : Int) < 3 := by omega
      clear hv0 hv1 hD hG hy
      obtain ⟨r0, r1, r2, r3, r4, r5, r6, r7, r8, r9, r10⟩ := cells11 HRt3.out
      have y0 := frozen_of_row _ _ 0 _ _ HRt3.out
      have y1 := frozen_of_row _ _ 1 _ _ HRt3.out
      have y2 := frozen_of_row _ _ 2 _ _ HRt3.out
      have y3 := frozen_of_row _ _ 3 _ _ HRt3.out
      have y4 := frozen_of_row _ _ 4 _ _ HRt3.out
      have y5 := frozen_of_row _ _ 5 _ _ HRt3.out
      have y6 := frozen_of_row _ _ 6 _ _ HRt3.out
      have y7 := frozen_of_row _ _ 7 _ _ HRt3.out
      have y8 := frozen_of_row _ _ 8 _ _ HRt3.out
      have y9 := frozen_of_row _ _ 9 _ _ HRt3.out
      have y10 := frozen_of_row _ _ 10 _ _ HRt3.out
      obtain ⟨c0, c1, c2, c3, c4, c5, c6, c7, c8, c9, c10⟩ := cells11 HIt3.out
      have f8 := frozen_of_row _ _ 8 _ _ HIt3.out
      go_wp2
      exact bodyPost_ret (results_cell_row Tryd.results35 _ _ w.heap.size 37 _ (0, 0) _ rfl (set_eleven (set_far hne HRt3.out)) Tryd.underlying37 rfl (by kernel_rfl)) rfl ⟨_, _, _, _, _, _, _, _, _, _, _, rfl, (DrI.set11 (HDt3.out.set hB 8 _) (Nat.le_refl _)).d, (DrI.set11 (HDt3.out.set hB 8 _) (Nat.le_refl _)).gr⟩
    · obtain ⟨r0, r1, r2, r3, r4, r5, r6, r7, r8, r9, r10⟩ := cells11 HRt2.out
      have y0 := frozen_of_row _ _ 0 _ _ HRt2.out
      have y1 := frozen_of_row _ _ 1 _ _ HRt2.out
      have y2 := frozen_of_row _ _ 2 _ _ HRt2.out
      have y3 := frozen_of_row _ _ 3 _ _ HRt2.out
      have y4 := frozen_of_row _ _ 4 _ _ HRt2.out
      have y5 := frozen_of_row _ _ 5 _ _ HRt2.out
      have y6 := frozen_of_row _ _ 6 _ _ HRt2.out
      have y7 := frozen_of_row _ _ 7 _ _ HRt2.out
      have y8 := frozen_of_row _ _ 8 _ _ HRt2.out
      have y9 := frozen_of_row _ _ 9 _ _ HRt2.out
      have y10 := frozen_of_row _ _ 10 _ _ HRt2.out
      obtain ⟨c0, c1, c2, c3, c4, c5, c6, c7, c8, c9, c10⟩ := cells11 HIt2.out
      have f0 := frozen_of_row _ _ 0 _ _ HIt2.out
      go_wp2
      exact bodyPost_ret (results_cell_row Tryd.results35 _ _ w.heap.size 37 _ (0, 0) _ rfl (set_eleven (set_far hne HRt2.out)) Tryd.underlying37 rfl (by kernel_rfl)) rfl ⟨_, _, _, _, _, _, _, _, _, _, _, rfl, (DrI.set11 (HDt2.out.set hB 0 _) (Nat.le_refl _)).d, (DrI.set11 (HDt2.out.set hB 0 _) (Nat.le_refl _)).gr⟩
    · obtain ⟨r0, r1, r2, r3, r4, r5, r6, r7, r8, r9, r10⟩ := cells11 HRt2.out
      have y0 := frozen_of_row _ _ 0 _ _ HRt2.out
      have y1 := frozen_of_row _ _ 1 _ _ HRt2.out
      have y2 := frozen_of_row _ _ 2 _ _ HRt2.out
      have y3 := frozen_of_row _ _ 3 _ _ HRt2.out
      have y4 := frozen_of_row _ _ 4 _ _ HRt2.out
      have y5 := frozen_of_row _ _ 5 _ _ HRt2.out
      have y6 := frozen_of_row _ _ 6 _ _ HRt2.out
      have y7 := frozen_of_row _ _ 7 _ _ HRt2.out
      have y8 := frozen_of_row _ _ 8 _ _ HRt2.out
      have y9 := frozen_of_row _ _ 9 _ _ HRt2.out
      have y10 := frozen_of_row _ _ 10 _ _ HRt2.out
      obtain ⟨c0, c1, c2, c3, c4, c5, c6, c7, c8, c9, c10⟩ := cells11 HIt2.out
      have f5 := frozen_of_row _ _ 5 _ _ HIt2.out
      go_wp2
      exact bodyPost_ret (results_cell_row Tryd.results35 _ _ w.heap.size 37 _ (0, 0) _ rfl (set_eleven (set_far hne HRt2.out)) Tryd.underlying37 rfl (by kernel_rfl)) rfl ⟨_, _, _, _, _, _, _, _, _, _, _, rfl, (DrI.set11 (HDt2.out.set hB 5 _) (Nat.le_refl _)).d, (DrI.set11 (HDt2.out.set hB 5 _) (Nat.le_refl _)).gr⟩
end Go.Proofs.YtdokiccfjbieiaaDoor
