/- How instructions are read, by the specification: all of it. -/
import Derived.Test.YtodjccipfonaiaaGreatDoorRows
import Derived.WalkKit
import Derived.WalkSpells
import Derived.WalkLawsBesides
import Derived.Outline
import Derived.RegionTactic
import Derived.BigRegion
import Derived.Deep.QuietTactic
import Derived.BigQuiet
import Derived.Deep.RegionHeld3
import Derived.Test.YtodjccipfonaiaaGreatDoorBun0
import Derived.Test.YtodjccipfonaiaaGreatDoorBun1
import Derived.Test.YtodjccipfonaiaaGreatDoorBun3
import Derived.Test.YtodjccipfonaiaaGreatDoorOpsAX
import Derived.Test.YtodjccipfonaiaaGreatDoorBun21
namespace Go.Proofs.YtodjccipfonaiaaGreatDoor
open Go.RowKit
set_option linter.unusedVariables false

set_option maxRecDepth 100000 in
set_option maxHeartbeats 25600000 in
theorem l03Read_bare (t : ByteArray) (w : World) (ht : t.size ≤ maxLen) (hA : ¬ idxI 32 t < t.size) : Calls Tryz.prog 46 #[.string t] w (ReadOut t w) := by
  have HNX : Hid (∀ a b, (t.extract a b).size ≤ maxLen) := fun a b => by rw [ByteArray.size_extract]; have := ht; omega
  have HSZ : Hid ((⟨#[]⟩ : ByteArray).size ≤ maxLen) := by show _ ≤ _; unfold maxLen; exact Nat.zero_le _
  unfold maxLen at ht
  go_enter Tryz.func46, Tryz.ntmps46
  go_wp2
  go_loopw [6] (fun i wr => ∃ k : Nat, k ≤ t.size ∧ i = .int .i64 k ∧ Hid (wr = w.alloc (.cells #[.string ⟨#[]⟩, .bool false, .int .i64 0, .int .i64 0, .int .i64 0, .bool false, .int .i64 0, .int .i64 0, .int .i64 0, .bool false, .int .i64 0] 26)) ∧ Hid (idxI 32 t = k + idxL 32 (t.data.toList.drop k))) (fun i _ => t.size - (intOf i).toNat)
  case atStart => exact ⟨0, by omega, rfl, rfl, by show _ = _; simp [idxI]⟩
  case round =>
    obtain ⟨k, hk, rfl, HW, HI⟩ := hrel
    have hw := HW.out
    subst hw
    by_cases hlt : k < t.size
    · have hk0 : (0 : Int) ≤ (k : Int) := by omega
      have hk1 : (k : Int) < (t.size : Int) := by omega
      by_cases hc : t[k].toNat = 32
      · have e4 : ((t[k].toNat : Int) != 32) = false := by rw [bne_eq_false_iff_eq]; omega
        have HK : Hid (idxI 32 t = k) := by show _ = _; rw [HI.out, idx_here 32 t k hlt hc]; rfl
        exfalso; have hk9 := HK.out; omega
      · have e4 : ((t[k].toNat : Int) != 32) = true := by rw [bne_iff_ne]; omega
        have HJ : Hid (_ = _) := idx_step 32 t k hlt hc
        clear hc
        go_wp2
        go_roundw
        case rel => exact ⟨k + 1, by omega, by go_num, (by first | exact trivial | exact rfl), by show _ = _; have h1 := HI.out; have h2 := HJ.out; omega⟩
        case measure => simp [intOf]; omega
    · have HK : Hid (idxI 32 t = k) := by show _ = _; rw [HI.out, idx_end 32 t k (by omega)]; rfl
      have hkt : k = t.size := by omega
      have HRE : Hid (restP t = ⟨#[]⟩) := by show _ = _; unfold restP; rw [if_neg hA]
      have HWH : Hid (decide (idxI 32 t = t.size) = true) := by show _ = _; have hk9 := HK.out; exact decide_eq_true (by omega)
      have hk1 : ¬ (k : Int) < (t.size : Int) := by omega
      have hk2 : (k : Int) ≤ (t.size : Int) := by omega
      have hk4 : ((k : Int) == (t.size : Int)) = true := by rw [beq_iff_eq]; omega
      have hk5 : decide ((k : Int) < (t.size : Int)) = false := decide_eq_false hk1
      clear hA HI hkt
      by_cases h2 : 2 < k
      · obtain ⟨j, hj⟩ : ∃ j, k = j + 2 := ⟨k - 2, by omega⟩
        subst hj
        have h2' : (2 : Int) < (j : Int) + 2 := by omega
        have hk6 : ((j : Int) + 2 == (t.size : Int)) = true := by rw [beq_iff_eq]; have := of_decide_eq_true HWH.out; have hk9 := HK.out; omega
        by_cases hd : t.extract j (j + 2) = ⟨#[46, 98]⟩
        · have HOP : Hid (opPart t = (t.extract 0 j, true)) := by show _ = _; unfold opPart; have hk9 := HK.out; rw [hk9, show j + 2 - 2 = j by omega, if_pos ⟨h2, hd⟩]
          have e6 : ((t.extract j (j + 2)).toList == [46, 98]) = true := by rw [hd, ByteArray.toList_eq]; rfl
          clear hd
          have HRD0 : Hid (readR t = readO (t.extract 0 j) true (atI opsAll (t.extract 0 j)) ((⟨#[]⟩ : ByteArray)) true) := by show _ = _; unfold readR; rw [HOP.out, HRE.out, HWH.out]
          have HRX : Hid (((⟨#[]⟩ : ByteArray)).size ≤ maxLen) := HSZ.out
          go_wp2_with fail
          have HIc : Hid (_ = _) := heap_new2 w (.cells #[.string ⟨#[]⟩, .bool false, .int .i64 0, .int .i64 0, .int .i64 0, .bool false, .int .i64 0, .int .i64 0, .int .i64 0, .bool false, .int .i64 0] 26) (.cells #[.string (t.extract 0 j), .bool true, .int .i64 0, .int .i64 0, .int .i64 0, .bool false, .int .i64 0, .int .i64 0, .int .i64 0, .bool false, .int .i64 0] 26)
          have HRc : Hid (_ = _) := heap_more (heap_alloc_new w (.cells #[.string ⟨#[]⟩, .bool false, .int .i64 0, .int .i64 0, .int .i64 0, .bool false, .int .i64 0, .int .i64 0, .int .i64 0, .bool false, .int .i64 0] 26)) (.cells #[.string (t.extract 0 j), .bool true, .int .i64 0, .int .i64 0, .int .i64 0, .bool false, .int .i64 0, .int .i64 0, .int .i64 0, .bool false, .int .i64 0] 26)
          have HBc : Hid (Below w.heap.size w _) := below_more (below_new w (.cells #[.string ⟨#[]⟩, .bool false, .int .i64 0, .int .i64 0, .int .i64 0, .bool false, .int .i64 0, .int .i64 0, .int .i64 0, .bool false, .int .i64 0] 26)) (.cells #[.string (t.extract 0 j), .bool true, .int .i64 0, .int .i64 0, .int .i64 0, .bool false, .int .i64 0, .int .i64 0, .int .i64 0, .bool false, .int .i64 0] 26)
          generalize (w.alloc (.cells #[.string ⟨#[]⟩, .bool false, .int .i64 0, .int .i64 0, .int .i64 0, .bool false, .int .i64 0, .int .i64 0, .int .i64 0, .bool false, .int .i64 0] 26)).alloc (.cells #[.string (t.extract 0 j), .bool true, .int .i64 0, .int .i64 0, .int .i64 0, .bool false, .int .i64 0, .int .i64 0, .int .i64 0, .bool false, .int .i64 0] 26) = y0 at *
          clear HOP HRE HWH
          generalize t.extract 0 j = op at *
          obtain ⟨kk, hkk⟩ : ∃ kk, atI opsAll op = kk := ⟨_, rfl⟩
          have HKK : Hid (atI opsAll op = kk) := hkk
          have HRD : Hid (readR t = readO op true kk ((⟨#[]⟩ : ByteArray)) true) := by show _ = _; rw [HRD0.out, hkk]
          clear hkk HRD0
          have nb : w.heap.size ≠ w.heap.size + 1 := by omega
          have hge : w.heap.size ≤ w.heap.size + 1 := by omega
          obtain ⟨c0, c1, c2, c3, c4, c5, c6, c7, c8, c9, c10⟩ := cells11 HIc.out
          go_region_held3 (fun w' => w'.cell? ⟨w.heap.size + 1, 0, none⟩ = some (.string op)) (first | exact (cells11 (by repeat (first | with_reducible exact HIc.out | with_reducible apply heap_drewn))).1) (first
            | (go_at_call 51; refine (specOps_any _).mono ?_; rintro e xc ⟨vo, rfl, ho, hb⟩; have HIc : Hid (_ = _) := heap_keep (by repeat (first | with_reducible exact HIc.out | with_reducible apply heap_drewn)) hb; have HRc : Hid (_ = _) := heap_keep (by repeat (first | with_reducible exact HRc.out | with_reducible apply heap_drewn)) hb; have HBc : Hid (Below w.heap.size w xc) := below_call (by repeat (first | with_reducible exact HBc.out | with_reducible refine Below.drew ?_)) hb; obtain ⟨q, qc, rfl, hq⟩ := ops_formR ho; have HQ : Hid (∀ i (h : i < 27), xc.cell? ⟨q, i, none⟩ = some (.string (opsAll[i]'h))) := hq; clear ho hq; clear hb)
            | (go_at_call 53; refine (ops_atR q qc op _ kk HKK.out (by exact HQ.out)).mono ?_; rintro e xd ⟨rfl, hxd⟩; have hxe := hxd.symm; subst hxe; clear hxd))
          clear c0 c1 c2 c3 c4 c5 c6 c7 c8 c9 c10
          obtain ⟨c0, c1, c2, c3, c4, c5, c6, c7, c8, c9, c10⟩ := cells11 HRc.out
          have z0 := frz11 HRc.out 0
          have z1 := frz11 HRc.out 1
          have z2 := frz11 HRc.out 2
          have z3 := frz11 HRc.out 3
          have z4 := frz11 HRc.out 4
          have z5 := frz11 HRc.out 5
          have z6 := frz11 HRc.out 6
          have z7 := frz11 HRc.out 7
          have z8 := frz11 HRc.out 8
          have z9 := frz11 HRc.out 9
          have z10 := frz11 HRc.out 10
          obtain ⟨d0, d1, d2, d3, d4, d5, d6, d7, d8, d9, d10⟩ := cells11 HIc.out
          have y0 := frz11 HIc.out 0
          have y1 := frz11 HIc.out 1
          have y2 := frz11 HIc.out 2
          have y3 := frz11 HIc.out 3
          have y4 := frz11 HIc.out 4
          have y5 := frz11 HIc.out 5
          have y6 := frz11 HIc.out 6
          have y7 := frz11 HIc.out 7
          have y8 := frz11 HIc.out 8
          have y9 := frz11 HIc.out 9
          have y10 := frz11 HIc.out 10
          have hz := heap_lt HIc.out
          by_cases k0 : kk < 0
          · have HQ9 : Hid (readR t = none) := by show _ = _; rw [HRD.out]; unfold readO; rw [if_pos k0]
            go_wp2
            exact bodyPost_ret (results_row3 Tryz.results46 _ _ w.heap.size 26 _ (0, 0) _ rfl (set_eleven HRc.out) Tryz.underlying26 rfl (by kernel_rfl)) rfl ⟨⟨op, true, 0, 0, 0, false, 0, 0, 0, false, 0⟩, ⟨#[]⟩, ⟨#[]⟩, false, rfl, HQ9.out, HSZ.out, HSZ.out, (below11 _ _ _ _ _ _ _ _ _ _ _ (Nat.le_refl _) HBc.out)⟩
          by_cases k1 : kk < 12
          · have HQ8 : Hid (readR t = twoM op true (opndR (splitR ((⟨#[]⟩ : ByteArray))).1) (opndR (splitR ((⟨#[]⟩ : ByteArray))).2.1) (splitR ((⟨#[]⟩ : ByteArray))).2.2) := by show _ = _; rw [HRD.out]; unfold readO; rw [if_neg k0, if_pos k1]
            go_wp2_with fail
            refine (l03Split_any ((⟨#[]⟩ : ByteArray)) _ HRX.out).mono ?_
            rintro e x1 ⟨sa, sb, two, rfl, hS, hx⟩
            have hx' := hx.symm
            subst hx'
            clear hx
            have HSA : Hid (sa.size ≤ maxLen ∧ sb.size ≤ maxLen) := by have h1 := split_size hS; have h2 := HRX.out; exact ⟨by omega, by omega⟩
            have HQ7 : Hid (readR t = twoM op true (opndR sa) (opndR sb) two) := by show _ = _; rw [HQ8.out, hS]
            clear hS HQ8
            go_wp2_with fail
            refine (l03ReadOperand_any sa _ HSA.out.1).mono ?_
            rintro e x2 ⟨m, r, n, l, u, ok1, rfl, hO, hu, hb⟩
            have HI2 : Hid (x2.heap[w.heap.size + 1]? = _) := heap_keep HIc.out hb
            have HR2 : Hid (x2.heap[w.heap.size]? = _) := heap_keep HRc.out hb
            have HB2 : Hid (Below w.heap.size w x2) := below_call HBc.out hb
            have HO1 : Hid (opndR sa = _) := hO
            have HU1 : Hid (u.size ≤ maxLen) := by have h2 := HSA.out; show _ ≤ _; omega
            clear hb hO hu
            clear c0 c1 c2 c3 c4 c5 c6 c7 c8 c9 c10 d0 d1 d2 d3 d4 d5 d6 d7 d8 d9 d10 z0 z1 z2 z3 z4 z5 z6 z7 z8 z9 z10 y0 y1 y2 y3 y4 y5 y6 y7 y8 y9 y10
            obtain ⟨c0, c1, c2, c3, c4, c5, c6, c7, c8, c9, c10⟩ := cells11 HR2.out
            have z0 := frz11 HR2.out 0
            have z1 := frz11 HR2.out 1
            have z2 := frz11 HR2.out 2
            have z3 := frz11 HR2.out 3
            have z4 := frz11 HR2.out 4
            have z5 := frz11 HR2.out 5
            have z6 := frz11 HR2.out 6
            have z7 := frz11 HR2.out 7
            have z8 := frz11 HR2.out 8
            have z9 := frz11 HR2.out 9
            have z10 := frz11 HR2.out 10
            obtain ⟨d0, d1, d2, d3, d4, d5, d6, d7, d8, d9, d10⟩ := cells11 HI2.out
            have y0 := frz11 HI2.out 0
            have y1 := frz11 HI2.out 1
            have y2 := frz11 HI2.out 2
            have y3 := frz11 HI2.out 3
            have y4 := frz11 HI2.out 4
            have y5 := frz11 HI2.out 5
            have y6 := frz11 HI2.out 6
            have y7 := frz11 HI2.out 7
            have y8 := frz11 HI2.out 8
            have y9 := frz11 HI2.out 9
            have y10 := frz11 HI2.out 10
            go_wp2_with fail
            have HI3 : Hid (_ = _) := (heap_set (heap_set (heap_set (heap_set HI2.out 2 (.int .i64 m)) 3 (.int .i64 r)) 4 (.int .i64 n)) 5 (.bool l))
            have HR3 : Hid (_ = _) := (set_far (a := ⟨w.heap.size + 1, 5, none⟩) (v := .bool l) nb (set_far (a := ⟨w.heap.size + 1, 4, none⟩) (v := .int .i64 n) nb (set_far (a := ⟨w.heap.size + 1, 3, none⟩) (v := .int .i64 r) nb (set_far (a := ⟨w.heap.size + 1, 2, none⟩) (v := .int .i64 m) nb HR2.out))))
            have HB3 : Hid (Below w.heap.size w _) := (Below.setCell (p := ⟨w.heap.size + 1, 5, none⟩) (Below.setCell (p := ⟨w.heap.size + 1, 4, none⟩) (Below.setCell (p := ⟨w.heap.size + 1, 3, none⟩) (Below.setCell (p := ⟨w.heap.size + 1, 2, none⟩) HB2.out hge (.int .i64 m)) hge (.int .i64 r)) hge (.int .i64 n)) hge (.bool l))
            clear c0 c1 c2 c3 c4 c5 c6 c7 c8 c9 c10 d0 d1 d2 d3 d4 d5 d6 d7 d8 d9 d10 z0 z1 z2 z3 z4 z5 z6 z7 z8 z9 z10 y0 y1 y2 y3 y4 y5 y6 y7 y8 y9 y10
            generalize (World.setCell (World.setCell (World.setCell (World.setCell x2 ⟨w.heap.size + 1, 2, none⟩ (.int .i64 m)) ⟨w.heap.size + 1, 3, none⟩ (.int .i64 r)) ⟨w.heap.size + 1, 4, none⟩ (.int .i64 n)) ⟨w.heap.size + 1, 5, none⟩ (.bool l)) = y2 at *
            refine (l03ReadOperand_any sb y2 HSA.out.2).mono ?_
            rintro e x3 ⟨m2, r2, n2, l2, u2, ok2, rfl, hO, hu, hb⟩
            have HI4 : Hid (x3.heap[w.heap.size + 1]? = _) := heap_keep HI3.out hb
            have HR4 : Hid (x3.heap[w.heap.size]? = _) := heap_keep HR3.out hb
            have HB4 : Hid (Below w.heap.size w x3) := below_call HB3.out hb
            have HQ6 : Hid (readR t = if (ok1 && (ok2 && two)) then some (⟨op, true, m, r, n, l, m2, r2, n2, l2, 0⟩, u, u2) else none) := by show _ = _; rw [HQ7.out, HO1.out, hO]; cases ok1 <;> cases ok2 <;> cases two <;> rfl
            have HU2 : Hid (u2.size ≤ maxLen) := by have h2 := HSA.out; show _ ≤ _; omega
            clear hb hO hu
            simp at HI4
            obtain ⟨c0, c1, c2, c3, c4, c5, c6, c7, c8, c9, c10⟩ := cells11 HR4.out
            have z0 := frz11 HR4.out 0
            have z1 := frz11 HR4.out 1
            have z2 := frz11 HR4.out 2
            have z3 := frz11 HR4.out 3
            have z4 := frz11 HR4.out 4
            have z5 := frz11 HR4.out 5
            have z6 := frz11 HR4.out 6
            have z7 := frz11 HR4.out 7
            have z8 := frz11 HR4.out 8
            have z9 := frz11 HR4.out 9
            have z10 := frz11 HR4.out 10
            obtain ⟨d0, d1, d2, d3, d4, d5, d6, d7, d8, d9, d10⟩ := cells11 HI4.out
            have y0 := frz11 HI4.out 0
            have y1 := frz11 HI4.out 1
            have y2 := frz11 HI4.out 2
            have y3 := frz11 HI4.out 3
            have y4 := frz11 HI4.out 4
            have y5 := frz11 HI4.out 5
            have y6 := frz11 HI4.out 6
            have y7 := frz11 HI4.out 7
            have y8 := frz11 HI4.out 8
            have y9 := frz11 HI4.out 9
            have y10 := frz11 HI4.out 10
            cases ok1 <;> cases ok2 <;> cases two
            all_goals
              go_wp2
              exact bodyPost_ret (results_row3 Tryz.results46 _ _ w.heap.size 26 _ (0, 0) _ rfl (set_eleven (set_far (a := ⟨w.heap.size + 1, 9, none⟩) (v := .bool l2) nb (set_far (a := ⟨w.heap.size + 1, 8, none⟩) (v := .int .i64 n2) nb (set_far (a := ⟨w.heap.size + 1, 7, none⟩) (v := .int .i64 r2) nb (set_far (a := ⟨w.heap.size + 1, 6, none⟩) (v := .int .i64 m2) nb HR4.out))))) Tryz.underlying26 rfl (by kernel_rfl)) rfl ⟨⟨op, true, m, r, n, l, m2, r2, n2, l2, 0⟩, u, u2, _, rfl, HQ6.out, HU1.out, HU2.out, (below11 _ _ _ _ _ _ _ _ _ _ _ (Nat.le_refl _) (Below.setCell (p := ⟨w.heap.size + 1, 9, none⟩) (Below.setCell (p := ⟨w.heap.size + 1, 8, none⟩) (Below.setCell (p := ⟨w.heap.size + 1, 7, none⟩) (Below.setCell (p := ⟨w.heap.size + 1, 6, none⟩) HB4.out hge (.int .i64 m2)) hge (.int .i64 r2)) hge (.int .i64 n2)) hge (.bool l2)))⟩
          by_cases k2 : kk < 18
          · have HQ8 : Hid (readR t = oneM op true (opndR ((⟨#[]⟩ : ByteArray)))) := by show _ = _; rw [HRD.out]; unfold readO; rw [if_neg k0, if_neg k1, if_pos k2]
            go_wp2_with fail
            refine (l03ReadOperand_any ((⟨#[]⟩ : ByteArray)) _ HRX.out).mono ?_
            rintro e x2 ⟨m, r, n, l, u, ok1, rfl, hO, hu, hb⟩
            have HI2 : Hid (x2.heap[w.heap.size + 1]? = _) := heap_keep HIc.out hb
            have HR2 : Hid (x2.heap[w.heap.size]? = _) := heap_keep HRc.out hb
            have HB2 : Hid (Below w.heap.size w x2) := below_call HBc.out hb
            have HQ6 : Hid (readR t = if ok1 then some (⟨op, true, m, r, n, l, 0, 0, 0, false, 0⟩, u, ⟨#[]⟩) else none) := by show _ = _; rw [HQ8.out, hO]; cases ok1 <;> rfl
            have HU1 : Hid (u.size ≤ maxLen) := by have h2 := HRX.out; show _ ≤ _; omega
            clear hb hO hu
            clear c0 c1 c2 c3 c4 c5 c6 c7 c8 c9 c10 d0 d1 d2 d3 d4 d5 d6 d7 d8 d9 d10 z0 z1 z2 z3 z4 z5 z6 z7 z8 z9 z10 y0 y1 y2 y3 y4 y5 y6 y7 y8 y9 y10
            obtain ⟨c0, c1, c2, c3, c4, c5, c6, c7, c8, c9, c10⟩ := cells11 HR2.out
            have z0 := frz11 HR2.out 0
            have z1 := frz11 HR2.out 1
            have z2 := frz11 HR2.out 2
            have z3 := frz11 HR2.out 3
            have z4 := frz11 HR2.out 4
            have z5 := frz11 HR2.out 5
            have z6 := frz11 HR2.out 6
            have z7 := frz11 HR2.out 7
            have z8 := frz11 HR2.out 8
            have z9 := frz11 HR2.out 9
            have z10 := frz11 HR2.out 10
            obtain ⟨d0, d1, d2, d3, d4, d5, d6, d7, d8, d9, d10⟩ := cells11 HI2.out
            have y0 := frz11 HI2.out 0
            have y1 := frz11 HI2.out 1
            have y2 := frz11 HI2.out 2
            have y3 := frz11 HI2.out 3
            have y4 := frz11 HI2.out 4
            have y5 := frz11 HI2.out 5
            have y6 := frz11 HI2.out 6
            have y7 := frz11 HI2.out 7
            have y8 := frz11 HI2.out 8
            have y9 := frz11 HI2.out 9
            have y10 := frz11 HI2.out 10
            go_wp2
            exact bodyPost_ret (results_row3 Tryz.results46 _ _ w.heap.size 26 _ (0, 0) _ rfl (set_eleven (set_far (a := ⟨w.heap.size + 1, 5, none⟩) (v := .bool l) nb (set_far (a := ⟨w.heap.size + 1, 4, none⟩) (v := .int .i64 n) nb (set_far (a := ⟨w.heap.size + 1, 3, none⟩) (v := .int .i64 r) nb (set_far (a := ⟨w.heap.size + 1, 2, none⟩) (v := .int .i64 m) nb HR2.out))))) Tryz.underlying26 rfl (by kernel_rfl)) rfl ⟨⟨op, true, m, r, n, l, 0, 0, 0, false, 0⟩, u, ⟨#[]⟩, ok1, rfl, HQ6.out, HU1.out, HSZ.out, (below11 _ _ _ _ _ _ _ _ _ _ _ (Nat.le_refl _) (Below.setCell (p := ⟨w.heap.size + 1, 5, none⟩) (Below.setCell (p := ⟨w.heap.size + 1, 4, none⟩) (Below.setCell (p := ⟨w.heap.size + 1, 3, none⟩) (Below.setCell (p := ⟨w.heap.size + 1, 2, none⟩) HB2.out hge (.int .i64 m)) hge (.int .i64 r)) hge (.int .i64 n)) hge (.bool l)))⟩
          by_cases k3 : kk = 18
          · have e18 : (kk == 18) = true := by rw [beq_iff_eq]; exact k3
            have HQ6 : Hid (readR t = if true then some (⟨op, true, 0, 0, 0, false, 0, 0, 0, false, 0⟩, ⟨#[]⟩, ⟨#[]⟩) else none) := by show _ = _; rw [HRD.out]; unfold readO; rw [if_neg k0, if_neg k1, if_neg k2, if_pos k3]; rfl
            clear k3
            go_wp2
            exact bodyPost_ret (results_row3 Tryz.results46 _ _ w.heap.size 26 _ (0, 0) _ rfl (set_eleven HRc.out) Tryz.underlying26 rfl (by kernel_rfl)) rfl ⟨⟨op, true, 0, 0, 0, false, 0, 0, 0, false, 0⟩, ⟨#[]⟩, ⟨#[]⟩, true, rfl, HQ6.out, HSZ.out, HSZ.out, (below11 _ _ _ _ _ _ _ _ _ _ _ (Nat.le_refl _) HBc.out)⟩
          · have e18 : (kk == 18) = false := by rw [beq_eq_false_iff_ne]; exact k3
            have HQ8 : Hid (readR t = jumpM op true (jumpR ((⟨#[]⟩ : ByteArray)))) := by show _ = _; rw [HRD.out]; unfold readO; rw [if_neg k0, if_neg k1, if_neg k2, if_neg k3]
            clear k3
            go_wp2_with fail
            refine (l03Jump_any ((⟨#[]⟩ : ByteArray)) _ HRX.out).mono ?_
            rintro e x1 ⟨jn, ok1, rfl, hJ, hj0, hj1, hx⟩
            have hx' := hx.symm
            subst hx'
            clear hx
            have HQ6 : Hid (readR t = if ok1 then some (⟨op, true, 0, 0, 0, false, 0, 0, 0, false, jn⟩, ⟨#[]⟩, ⟨#[]⟩) else none) := by show _ = _; rw [HQ8.out, hJ]; cases ok1 <;> rfl
            clear hJ
            go_wp2
            exact bodyPost_ret (results_row3 Tryz.results46 _ _ w.heap.size 26 _ (0, 0) _ rfl (set_eleven (set_far (a := ⟨w.heap.size + 1, 10, none⟩) (v := .int .i64 jn) nb HRc.out)) Tryz.underlying26 rfl (by kernel_rfl)) rfl ⟨⟨op, true, 0, 0, 0, false, 0, 0, 0, false, jn⟩, ⟨#[]⟩, ⟨#[]⟩, ok1, rfl, HQ6.out, HSZ.out, HSZ.out, (below11 _ _ _ _ _ _ _ _ _ _ _ (Nat.le_refl _) (Below.setCell (p := ⟨w.heap.size + 1, 10, none⟩) HBc.out hge (.int .i64 jn)))⟩
        · have HOP : Hid (opPart t = (t.extract 0 (j + 2), false)) := by show _ = _; unfold opPart; have hk9 := HK.out; rw [hk9, show j + 2 - 2 = j by omega, if_neg (fun h => hd h.2)]
          have e6 := text_no [46, 98] hd
          clear hd
          have HRD0 : Hid (readR t = readO (t.extract 0 (j + 2)) false (atI opsAll (t.extract 0 (j + 2))) ((⟨#[]⟩ : ByteArray)) true) := by show _ = _; unfold readR; rw [HOP.out, HRE.out, HWH.out]
          have HRX : Hid (((⟨#[]⟩ : ByteArray)).size ≤ maxLen) := HSZ.out
          go_wp2_with fail
          have HIc : Hid (_ = _) := heap_new2 w (.cells #[.string ⟨#[]⟩, .bool false, .int .i64 0, .int .i64 0, .int .i64 0, .bool false, .int .i64 0, .int .i64 0, .int .i64 0, .bool false, .int .i64 0] 26) (.cells #[.string (t.extract 0 (j + 2)), .bool false, .int .i64 0, .int .i64 0, .int .i64 0, .bool false, .int .i64 0, .int .i64 0, .int .i64 0, .bool false, .int .i64 0] 26)
          have HRc : Hid (_ = _) := heap_more (heap_alloc_new w (.cells #[.string ⟨#[]⟩, .bool false, .int .i64 0, .int .i64 0, .int .i64 0, .bool false, .int .i64 0, .int .i64 0, .int .i64 0, .bool false, .int .i64 0] 26)) (.cells #[.string (t.extract 0 (j + 2)), .bool false, .int .i64 0, .int .i64 0, .int .i64 0, .bool false, .int .i64 0, .int .i64 0, .int .i64 0, .bool false, .int .i64 0] 26)
          have HBc : Hid (Below w.heap.size w _) := below_more (below_new w (.cells #[.string ⟨#[]⟩, .bool false, .int .i64 0, .int .i64 0, .int .i64 0, .bool false, .int .i64 0, .int .i64 0, .int .i64 0, .bool false, .int .i64 0] 26)) (.cells #[.string (t.extract 0 (j + 2)), .bool false, .int .i64 0, .int .i64 0, .int .i64 0, .bool false, .int .i64 0, .int .i64 0, .int .i64 0, .bool false, .int .i64 0] 26)
          generalize (w.alloc (.cells #[.string ⟨#[]⟩, .bool false, .int .i64 0, .int .i64 0, .int .i64 0, .bool false, .int .i64 0, .int .i64 0, .int .i64 0, .bool false, .int .i64 0] 26)).alloc (.cells #[.string (t.extract 0 (j + 2)), .bool false, .int .i64 0, .int .i64 0, .int .i64 0, .bool false, .int .i64 0, .int .i64 0, .int .i64 0, .bool false, .int .i64 0] 26) = y0 at *
          clear HOP HRE HWH
          generalize t.extract 0 (j + 2) = op at *
          obtain ⟨kk, hkk⟩ : ∃ kk, atI opsAll op = kk := ⟨_, rfl⟩
          have HKK : Hid (atI opsAll op = kk) := hkk
          have HRD : Hid (readR t = readO op false kk ((⟨#[]⟩ : ByteArray)) true) := by show _ = _; rw [HRD0.out, hkk]
          clear hkk HRD0
          have nb : w.heap.size ≠ w.heap.size + 1 := by omega
          have hge : w.heap.size ≤ w.heap.size + 1 := by omega
          obtain ⟨c0, c1, c2, c3, c4, c5, c6, c7, c8, c9, c10⟩ := cells11 HIc.out
          go_region_held3 (fun w' => w'.cell? ⟨w.heap.size + 1, 0, none⟩ = some (.string op)) (first | exact (cells11 (by repeat (first | with_reducible exact HIc.out | with_reducible apply heap_drewn))).1) (first
            | (go_at_call 51; refine (specOps_any _).mono ?_; rintro e xc ⟨vo, rfl, ho, hb⟩; have HIc : Hid (_ = _) := heap_keep (by repeat (first | with_reducible exact HIc.out | with_reducible apply heap_drewn)) hb; have HRc : Hid (_ = _) := heap_keep (by repeat (first | with_reducible exact HRc.out | with_reducible apply heap_drewn)) hb; have HBc : Hid (Below w.heap.size w xc) := below_call (by repeat (first | with_reducible exact HBc.out | with_reducible refine Below.drew ?_)) hb; obtain ⟨q, qc, rfl, hq⟩ := ops_formR ho; have HQ : Hid (∀ i (h : i < 27), xc.cell? ⟨q, i, none⟩ = some (.string (opsAll[i]'h))) := hq; clear ho hq; clear hb)
            | (go_at_call 53; refine (ops_atR q qc op _ kk HKK.out (by exact HQ.out)).mono ?_; rintro e xd ⟨rfl, hxd⟩; have hxe := hxd.symm; subst hxe; clear hxd))
          clear c0 c1 c2 c3 c4 c5 c6 c7 c8 c9 c10
          obtain ⟨c0, c1, c2, c3, c4, c5, c6, c7, c8, c9, c10⟩ := cells11 HRc.out
          have z0 := frz11 HRc.out 0
          have z1 := frz11 HRc.out 1
          have z2 := frz11 HRc.out 2
          have z3 := frz11 HRc.out 3
          have z4 := frz11 HRc.out 4
          have z5 := frz11 HRc.out 5
          have z6 := frz11 HRc.out 6
          have z7 := frz11 HRc.out 7
          have z8 := frz11 HRc.out 8
          have z9 := frz11 HRc.out 9
          have z10 := frz11 HRc.out 10
          obtain ⟨d0, d1, d2, d3, d4, d5, d6, d7, d8, d9, d10⟩ := cells11 HIc.out
          have y0 := frz11 HIc.out 0
          have y1 := frz11 HIc.out 1
          have y2 := frz11 HIc.out 2
          have y3 := frz11 HIc.out 3
          have y4 := frz11 HIc.out 4
          have y5 := frz11 HIc.out 5
          have y6 := frz11 HIc.out 6
          have y7 := frz11 HIc.out 7
          have y8 := frz11 HIc.out 8
          have y9 := frz11 HIc.out 9
          have y10 := frz11 HIc.out 10
          have hz := heap_lt HIc.out
          by_cases k0 : kk < 0
          · have HQ9 : Hid (readR t = none) := by show _ = _; rw [HRD.out]; unfold readO; rw [if_pos k0]
            go_wp2
            exact bodyPost_ret (results_row3 Tryz.results46 _ _ w.heap.size 26 _ (0, 0) _ rfl (set_eleven HRc.out) Tryz.underlying26 rfl (by kernel_rfl)) rfl ⟨⟨op, false, 0, 0, 0, false, 0, 0, 0, false, 0⟩, ⟨#[]⟩, ⟨#[]⟩, false, rfl, HQ9.out, HSZ.out, HSZ.out, (below11 _ _ _ _ _ _ _ _ _ _ _ (Nat.le_refl _) HBc.out)⟩
          by_cases k1 : kk < 12
          · have HQ8 : Hid (readR t = twoM op false (opndR (splitR ((⟨#[]⟩ : ByteArray))).1) (opndR (splitR ((⟨#[]⟩ : ByteArray))).2.1) (splitR ((⟨#[]⟩ : ByteArray))).2.2) := by show _ = _; rw [HRD.out]; unfold readO; rw [if_neg k0, if_pos k1]
            go_wp2_with fail
            refine (l03Split_any ((⟨#[]⟩ : ByteArray)) _ HRX.out).mono ?_
            rintro e x1 ⟨sa, sb, two, rfl, hS, hx⟩
            have hx' := hx.symm
            subst hx'
            clear hx
            have HSA : Hid (sa.size ≤ maxLen ∧ sb.size ≤ maxLen) := by have h1 := split_size hS; have h2 := HRX.out; exact ⟨by omega, by omega⟩
            have HQ7 : Hid (readR t = twoM op false (opndR sa) (opndR sb) two) := by show _ = _; rw [HQ8.out, hS]
            clear hS HQ8
            go_wp2_with fail
            refine (l03ReadOperand_any sa _ HSA.out.1).mono ?_
            rintro e x2 ⟨m, r, n, l, u, ok1, rfl, hO, hu, hb⟩
            have HI2 : Hid (x2.heap[w.heap.size + 1]? = _) := heap_keep HIc.out hb
            have HR2 : Hid (x2.heap[w.heap.size]? = _) := heap_keep HRc.out hb
            have HB2 : Hid (Below w.heap.size w x2) := below_call HBc.out hb
            have HO1 : Hid (opndR sa = _) := hO
            have HU1 : Hid (u.size ≤ maxLen) := by have h2 := HSA.out; show _ ≤ _; omega
            clear hb hO hu
            clear c0 c1 c2 c3 c4 c5 c6 c7 c8 c9 c10 d0 d1 d2 d3 d4 d5 d6 d7 d8 d9 d10 z0 z1 z2 z3 z4 z5 z6 z7 z8 z9 z10 y0 y1 y2 y3 y4 y5 y6 y7 y8 y9 y10
            obtain ⟨c0, c1, c2, c3, c4, c5, c6, c7, c8, c9, c10⟩ := cells11 HR2.out
            have z0 := frz11 HR2.out 0
            have z1 := frz11 HR2.out 1
            have z2 := frz11 HR2.out 2
            have z3 := frz11 HR2.out 3
            have z4 := frz11 HR2.out 4
            have z5 := frz11 HR2.out 5
            have z6 := frz11 HR2.out 6
            have z7 := frz11 HR2.out 7
            have z8 := frz11 HR2.out 8
            have z9 := frz11 HR2.out 9
            have z10 := frz11 HR2.out 10
            obtain ⟨d0, d1, d2, d3, d4, d5, d6, d7, d8, d9, d10⟩ := cells11 HI2.out
            have y0 := frz11 HI2.out 0
            have y1 := frz11 HI2.out 1
            have y2 := frz11 HI2.out 2
            have y3 := frz11 HI2.out 3
            have y4 := frz11 HI2.out 4
            have y5 := frz11 HI2.out 5
            have y6 := frz11 HI2.out 6
            have y7 := frz11 HI2.out 7
            have y8 := frz11 HI2.out 8
            have y9 := frz11 HI2.out 9
            have y10 := frz11 HI2.out 10
            go_wp2_with fail
            have HI3 : Hid (_ = _) := (heap_set (heap_set (heap_set (heap_set HI2.out 2 (.int .i64 m)) 3 (.int .i64 r)) 4 (.int .i64 n)) 5 (.bool l))
            have HR3 : Hid (_ = _) := (set_far (a := ⟨w.heap.size + 1, 5, none⟩) (v := .bool l) nb (set_far (a := ⟨w.heap.size + 1, 4, none⟩) (v := .int .i64 n) nb (set_far (a := ⟨w.heap.size + 1, 3, none⟩) (v := .int .i64 r) nb (set_far (a := ⟨w.heap.size + 1, 2, none⟩) (v := .int .i64 m) nb HR2.out))))
            have HB3 : Hid (Below w.heap.size w _) := (Below.setCell (p := ⟨w.heap.size + 1, 5, none⟩) (Below.setCell (p := ⟨w.heap.size + 1, 4, none⟩) (Below.setCell (p := ⟨w.heap.size + 1, 3, none⟩) (Below.setCell (p := ⟨w.heap.size + 1, 2, none⟩) HB2.out hge (.int .i64 m)) hge (.int .i64 r)) hge (.int .i64 n)) hge (.bool l))
            clear c0 c1 c2 c3 c4 c5 c6 c7 c8 c9 c10 d0 d1 d2 d3 d4 d5 d6 d7 d8 d9 d10 z0 z1 z2 z3 z4 z5 z6 z7 z8 z9 z10 y0 y1 y2 y3 y4 y5 y6 y7 y8 y9 y10
            generalize (World.setCell (World.setCell (World.setCell (World.setCell x2 ⟨w.heap.size + 1, 2, none⟩ (.int .i64 m)) ⟨w.heap.size + 1, 3, none⟩ (.int .i64 r)) ⟨w.heap.size + 1, 4, none⟩ (.int .i64 n)) ⟨w.heap.size + 1, 5, none⟩ (.bool l)) = y2 at *
            refine (l03ReadOperand_any sb y2 HSA.out.2).mono ?_
            rintro e x3 ⟨m2, r2, n2, l2, u2, ok2, rfl, hO, hu, hb⟩
            have HI4 : Hid (x3.heap[w.heap.size + 1]? = _) := heap_keep HI3.out hb
            have HR4 : Hid (x3.heap[w.heap.size]? = _) := heap_keep HR3.out hb
            have HB4 : Hid (Below w.heap.size w x3) := below_call HB3.out hb
            have HQ6 : Hid (readR t = if (ok1 && (ok2 && two)) then some (⟨op, false, m, r, n, l, m2, r2, n2, l2, 0⟩, u, u2) else none) := by show _ = _; rw [HQ7.out, HO1.out, hO]; cases ok1 <;> cases ok2 <;> cases two <;> rfl
            have HU2 : Hid (u2.size ≤ maxLen) := by have h2 := HSA.out; show _ ≤ _; omega
            clear hb hO hu
            simp at HI4
            obtain ⟨c0, c1, c2, c3, c4, c5, c6, c7, c8, c9, c10⟩ := cells11 HR4.out
            have z0 := frz11 HR4.out 0
            have z1 := frz11 HR4.out 1
            have z2 := frz11 HR4.out 2
            have z3 := frz11 HR4.out 3
            have z4 := frz11 HR4.out 4
            have z5 := frz11 HR4.out 5
            have z6 := frz11 HR4.out 6
            have z7 := frz11 HR4.out 7
            have z8 := frz11 HR4.out 8
            have z9 := frz11 HR4.out 9
            have z10 := frz11 HR4.out 10
            obtain ⟨d0, d1, d2, d3, d4, d5, d6, d7, d8, d9, d10⟩ := cells11 HI4.out
            have y0 := frz11 HI4.out 0
            have y1 := frz11 HI4.out 1
            have y2 := frz11 HI4.out 2
            have y3 := frz11 HI4.out 3
            have y4 := frz11 HI4.out 4
            have y5 := frz11 HI4.out 5
            have y6 := frz11 HI4.out 6
            have y7 := frz11 HI4.out 7
            have y8 := frz11 HI4.out 8
            have y9 := frz11 HI4.out 9
            have y10 := frz11 HI4.out 10
            cases ok1 <;> cases ok2 <;> cases two
            all_goals
              go_wp2
              exact bodyPost_ret (results_row3 Tryz.results46 _ _ w.heap.size 26 _ (0, 0) _ rfl (set_eleven (set_far (a := ⟨w.heap.size + 1, 9, none⟩) (v := .bool l2) nb (set_far (a := ⟨w.heap.size + 1, 8, none⟩) (v := .int .i64 n2) nb (set_far (a := ⟨w.heap.size + 1, 7, none⟩) (v := .int .i64 r2) nb (set_far (a := ⟨w.heap.size + 1, 6, none⟩) (v := .int .i64 m2) nb HR4.out))))) Tryz.underlying26 rfl (by kernel_rfl)) rfl ⟨⟨op, false, m, r, n, l, m2, r2, n2, l2, 0⟩, u, u2, _, rfl, HQ6.out, HU1.out, HU2.out, (below11 _ _ _ _ _ _ _ _ _ _ _ (Nat.le_refl _) (Below.setCell (p := ⟨w.heap.size + 1, 9, none⟩) (Below.setCell (p := ⟨w.heap.size + 1, 8, none⟩) (Below.setCell (p := ⟨w.heap.size + 1, 7, none⟩) (Below.setCell (p := ⟨w.heap.size + 1, 6, none⟩) HB4.out hge (.int .i64 m2)) hge (.int .i64 r2)) hge (.int .i64 n2)) hge (.bool l2)))⟩
          by_cases k2 : kk < 18
          · have HQ8 : Hid (readR t = oneM op false (opndR ((⟨#[]⟩ : ByteArray)))) := by show _ = _; rw [HRD.out]; unfold readO; rw [if_neg k0, if_neg k1, if_pos k2]
            go_wp2_with fail
            refine (l03ReadOperand_any ((⟨#[]⟩ : ByteArray)) _ HRX.out).mono ?_
            rintro e x2 ⟨m, r, n, l, u, ok1, rfl, hO, hu, hb⟩
            have HI2 : Hid (x2.heap[w.heap.size + 1]? = _) := heap_keep HIc.out hb
            have HR2 : Hid (x2.heap[w.heap.size]? = _) := heap_keep HRc.out hb
            have HB2 : Hid (Below w.heap.size w x2) := below_call HBc.out hb
            have HQ6 : Hid (readR t = if ok1 then some (⟨op, false, m, r, n, l, 0, 0, 0, false, 0⟩, u, ⟨#[]⟩) else none) := by show _ = _; rw [HQ8.out, hO]; cases ok1 <;> rfl
            have HU1 : Hid (u.size ≤ maxLen) := by have h2 := HRX.out; show _ ≤ _; omega
            clear hb hO hu
            clear c0 c1 c2 c3 c4 c5 c6 c7 c8 c9 c10 d0 d1 d2 d3 d4 d5 d6 d7 d8 d9 d10 z0 z1 z2 z3 z4 z5 z6 z7 z8 z9 z10 y0 y1 y2 y3 y4 y5 y6 y7 y8 y9 y10
            obtain ⟨c0, c1, c2, c3, c4, c5, c6, c7, c8, c9, c10⟩ := cells11 HR2.out
            have z0 := frz11 HR2.out 0
            have z1 := frz11 HR2.out 1
            have z2 := frz11 HR2.out 2
            have z3 := frz11 HR2.out 3
            have z4 := frz11 HR2.out 4
            have z5 := frz11 HR2.out 5
            have z6 := frz11 HR2.out 6
            have z7 := frz11 HR2.out 7
            have z8 := frz11 HR2.out 8
            have z9 := frz11 HR2.out 9
            have z10 := frz11 HR2.out 10
            obtain ⟨d0, d1, d2, d3, d4, d5, d6, d7, d8, d9, d10⟩ := cells11 HI2.out
            have y0 := frz11 HI2.out 0
            have y1 := frz11 HI2.out 1
            have y2 := frz11 HI2.out 2
            have y3 := frz11 HI2.out 3
            have y4 := frz11 HI2.out 4
            have y5 := frz11 HI2.out 5
            have y6 := frz11 HI2.out 6
            have y7 := frz11 HI2.out 7
            have y8 := frz11 HI2.out 8
            have y9 := frz11 HI2.out 9
            have y10 := frz11 HI2.out 10
            go_wp2
            exact bodyPost_ret (results_row3 Tryz.results46 _ _ w.heap.size 26 _ (0, 0) _ rfl (set_eleven (set_far (a := ⟨w.heap.size + 1, 5, none⟩) (v := .bool l) nb (set_far (a := ⟨w.heap.size + 1, 4, none⟩) (v := .int .i64 n) nb (set_far (a := ⟨w.heap.size + 1, 3, none⟩) (v := .int .i64 r) nb (set_far (a := ⟨w.heap.size + 1, 2, none⟩) (v := .int .i64 m) nb HR2.out))))) Tryz.underlying26 rfl (by kernel_rfl)) rfl ⟨⟨op, false, m, r, n, l, 0, 0, 0, false, 0⟩, u, ⟨#[]⟩, ok1, rfl, HQ6.out, HU1.out, HSZ.out, (below11 _ _ _ _ _ _ _ _ _ _ _ (Nat.le_refl _) (Below.setCell (p := ⟨w.heap.size + 1, 5, none⟩) (Below.setCell (p := ⟨w.heap.size + 1, 4, none⟩) (Below.setCell (p := ⟨w.heap.size + 1, 3, none⟩) (Below.setCell (p := ⟨w.heap.size + 1, 2, none⟩) HB2.out hge (.int .i64 m)) hge (.int .i64 r)) hge (.int .i64 n)) hge (.bool l)))⟩
          by_cases k3 : kk = 18
          · have e18 : (kk == 18) = true := by rw [beq_iff_eq]; exact k3
            have HQ6 : Hid (readR t = if true then some (⟨op, false, 0, 0, 0, false, 0, 0, 0, false, 0⟩, ⟨#[]⟩, ⟨#[]⟩) else none) := by show _ = _; rw [HRD.out]; unfold readO; rw [if_neg k0, if_neg k1, if_neg k2, if_pos k3]; rfl
            clear k3
            go_wp2
            exact bodyPost_ret (results_row3 Tryz.results46 _ _ w.heap.size 26 _ (0, 0) _ rfl (set_eleven HRc.out) Tryz.underlying26 rfl (by kernel_rfl)) rfl ⟨⟨op, false, 0, 0, 0, false, 0, 0, 0, false, 0⟩, ⟨#[]⟩, ⟨#[]⟩, true, rfl, HQ6.out, HSZ.out, HSZ.out, (below11 _ _ _ _ _ _ _ _ _ _ _ (Nat.le_refl _) HBc.out)⟩
          · have e18 : (kk == 18) = false := by rw [beq_eq_false_iff_ne]; exact k3
            have HQ8 : Hid (readR t = jumpM op false (jumpR ((⟨#[]⟩ : ByteArray)))) := by show _ = _; rw [HRD.out]; unfold readO; rw [if_neg k0, if_neg k1, if_neg k2, if_neg k3]
            clear k3
            go_wp2_with fail
            refine (l03Jump_any ((⟨#[]⟩ : ByteArray)) _ HRX.out).mono ?_
            rintro e x1 ⟨jn, ok1, rfl, hJ, hj0, hj1, hx⟩
            have hx' := hx.symm
            subst hx'
            clear hx
            have HQ6 : Hid (readR t = if ok1 then some (⟨op, false, 0, 0, 0, false, 0, 0, 0, false, jn⟩, ⟨#[]⟩, ⟨#[]⟩) else none) := by show _ = _; rw [HQ8.out, hJ]; cases ok1 <;> rfl
            clear hJ
            go_wp2
            exact bodyPost_ret (results_row3 Tryz.results46 _ _ w.heap.size 26 _ (0, 0) _ rfl (set_eleven (set_far (a := ⟨w.heap.size + 1, 10, none⟩) (v := .int .i64 jn) nb HRc.out)) Tryz.underlying26 rfl (by kernel_rfl)) rfl ⟨⟨op, false, 0, 0, 0, false, 0, 0, 0, false, jn⟩, ⟨#[]⟩, ⟨#[]⟩, ok1, rfl, HQ6.out, HSZ.out, HSZ.out, (below11 _ _ _ _ _ _ _ _ _ _ _ (Nat.le_refl _) (Below.setCell (p := ⟨w.heap.size + 1, 10, none⟩) HBc.out hge (.int .i64 jn)))⟩
      · have HOP : Hid (opPart t = (t.extract 0 k, false)) := by show _ = _; unfold opPart; have hk9 := HK.out; rw [hk9, if_neg (fun h => h2 h.1)]
        have h2' : ¬ (2 : Int) < (k : Int) := by omega
        have HRD0 : Hid (readR t = readO (t.extract 0 k) false (atI opsAll (t.extract 0 k)) ((⟨#[]⟩ : ByteArray)) true) := by show _ = _; unfold readR; rw [HOP.out, HRE.out, HWH.out]
        have HRX : Hid (((⟨#[]⟩ : ByteArray)).size ≤ maxLen) := HSZ.out
        go_wp2_with fail
        have HIc : Hid (_ = _) := heap_new2 w (.cells #[.string ⟨#[]⟩, .bool false, .int .i64 0, .int .i64 0, .int .i64 0, .bool false, .int .i64 0, .int .i64 0, .int .i64 0, .bool false, .int .i64 0] 26) (.cells #[.string (t.extract 0 k), .bool false, .int .i64 0, .int .i64 0, .int .i64 0, .bool false, .int .i64 0, .int .i64 0, .int .i64 0, .bool false, .int .i64 0] 26)
        have HRc : Hid (_ = _) := heap_more (heap_alloc_new w (.cells #[.string ⟨#[]⟩, .bool false, .int .i64 0, .int .i64 0, .int .i64 0, .bool false, .int .i64 0, .int .i64 0, .int .i64 0, .bool false, .int .i64 0] 26)) (.cells #[.string (t.extract 0 k), .bool false, .int .i64 0, .int .i64 0, .int .i64 0, .bool false, .int .i64 0, .int .i64 0, .int .i64 0, .bool false, .int .i64 0] 26)
        have HBc : Hid (Below w.heap.size w _) := below_more (below_new w (.cells #[.string ⟨#[]⟩, .bool false, .int .i64 0, .int .i64 0, .int .i64 0, .bool false, .int .i64 0, .int .i64 0, .int .i64 0, .bool false, .int .i64 0] 26)) (.cells #[.string (t.extract 0 k), .bool false, .int .i64 0, .int .i64 0, .int .i64 0, .bool false, .int .i64 0, .int .i64 0, .int .i64 0, .bool false, .int .i64 0] 26)
        generalize (w.alloc (.cells #[.string ⟨#[]⟩, .bool false, .int .i64 0, .int .i64 0, .int .i64 0, .bool false, .int .i64 0, .int .i64 0, .int .i64 0, .bool false, .int .i64 0] 26)).alloc (.cells #[.string (t.extract 0 k), .bool false, .int .i64 0, .int .i64 0, .int .i64 0, .bool false, .int .i64 0, .int .i64 0, .int .i64 0, .bool false, .int .i64 0] 26) = y0 at *
        clear HOP HRE HWH
        generalize t.extract 0 k = op at *
        obtain ⟨kk, hkk⟩ : ∃ kk, atI opsAll op = kk := ⟨_, rfl⟩
        have HKK : Hid (atI opsAll op = kk) := hkk
        have HRD : Hid (readR t = readO op false kk ((⟨#[]⟩ : ByteArray)) true) := by show _ = _; rw [HRD0.out, hkk]
        clear hkk HRD0
        have nb : w.heap.size ≠ w.heap.size + 1 := by omega
        have hge : w.heap.size ≤ w.heap.size + 1 := by omega
        obtain ⟨c0, c1, c2, c3, c4, c5, c6, c7, c8, c9, c10⟩ := cells11 HIc.out
        go_region_held3 (fun w' => w'.cell? ⟨w.heap.size + 1, 0, none⟩ = some (.string op)) (first | exact (cells11 (by repeat (first | with_reducible exact HIc.out | with_reducible apply heap_drewn))).1) (first
          | (go_at_call 51; refine (specOps_any _).mono ?_; rintro e xc ⟨vo, rfl, ho, hb⟩; have HIc : Hid (_ = _) := heap_keep (by repeat (first | with_reducible exact HIc.out | with_reducible apply heap_drewn)) hb; have HRc : Hid (_ = _) := heap_keep (by repeat (first | with_reducible exact HRc.out | with_reducible apply heap_drewn)) hb; have HBc : Hid (Below w.heap.size w xc) := below_call (by repeat (first | with_reducible exact HBc.out | with_reducible refine Below.drew ?_)) hb; obtain ⟨q, qc, rfl, hq⟩ := ops_formR ho; have HQ : Hid (∀ i (h : i < 27), xc.cell? ⟨q, i, none⟩ = some (.string (opsAll[i]'h))) := hq; clear ho hq; clear hb)
          | (go_at_call 53; refine (ops_atR q qc op _ kk HKK.out (by exact HQ.out)).mono ?_; rintro e xd ⟨rfl, hxd⟩; have hxe := hxd.symm; subst hxe; clear hxd))
        clear c0 c1 c2 c3 c4 c5 c6 c7 c8 c9 c10
        obtain ⟨c0, c1, c2, c3, c4, c5, c6, c7, c8, c9, c10⟩ := cells11 HRc.out
        have z0 := frz11 HRc.out 0
        have z1 := frz11 HRc.out 1
        have z2 := frz11 HRc.out 2
        have z3 := frz11 HRc.out 3
        have z4 := frz11 HRc.out 4
        have z5 := frz11 HRc.out 5
        have z6 := frz11 HRc.out 6
        have z7 := frz11 HRc.out 7
        have z8 := frz11 HRc.out 8
        have z9 := frz11 HRc.out 9
        have z10 := frz11 HRc.out 10
        obtain ⟨d0, d1, d2, d3, d4, d5, d6, d7, d8, d9, d10⟩ := cells11 HIc.out
        have y0 := frz11 HIc.out 0
        have y1 := frz11 HIc.out 1
        have y2 := frz11 HIc.out 2
        have y3 := frz11 HIc.out 3
        have y4 := frz11 HIc.out 4
        have y5 := frz11 HIc.out 5
        have y6 := frz11 HIc.out 6
        have y7 := frz11 HIc.out 7
        have y8 := frz11 HIc.out 8
        have y9 := frz11 HIc.out 9
        have y10 := frz11 HIc.out 10
        have hz := heap_lt HIc.out
        by_cases k0 : kk < 0
        · have HQ9 : Hid (readR t = none) := by show _ = _; rw [HRD.out]; unfold readO; rw [if_pos k0]
          go_wp2
          exact bodyPost_ret (results_row3 Tryz.results46 _ _ w.heap.size 26 _ (0, 0) _ rfl (set_eleven HRc.out) Tryz.underlying26 rfl (by kernel_rfl)) rfl ⟨⟨op, false, 0, 0, 0, false, 0, 0, 0, false, 0⟩, ⟨#[]⟩, ⟨#[]⟩, false, rfl, HQ9.out, HSZ.out, HSZ.out, (below11 _ _ _ _ _ _ _ _ _ _ _ (Nat.le_refl _) HBc.out)⟩
        by_cases k1 : kk < 12
        · have HQ8 : Hid (readR t = twoM op false (opndR (splitR ((⟨#[]⟩ : ByteArray))).1) (opndR (splitR ((⟨#[]⟩ : ByteArray))).2.1) (splitR ((⟨#[]⟩ : ByteArray))).2.2) := by show _ = _; rw [HRD.out]; unfold readO; rw [if_neg k0, if_pos k1]
          go_wp2_with fail
          refine (l03Split_any ((⟨#[]⟩ : ByteArray)) _ HRX.out).mono ?_
          rintro e x1 ⟨sa, sb, two, rfl, hS, hx⟩
          have hx' := hx.symm
          subst hx'
          clear hx
          have HSA : Hid (sa.size ≤ maxLen ∧ sb.size ≤ maxLen) := by have h1 := split_size hS; have h2 := HRX.out; exact ⟨by omega, by omega⟩
          have HQ7 : Hid (readR t = twoM op false (opndR sa) (opndR sb) two) := by show _ = _; rw [HQ8.out, hS]
          clear hS HQ8
          go_wp2_with fail
          refine (l03ReadOperand_any sa _ HSA.out.1).mono ?_
          rintro e x2 ⟨m, r, n, l, u, ok1, rfl, hO, hu, hb⟩
          have HI2 : Hid (x2.heap[w.heap.size + 1]? = _) := heap_keep HIc.out hb
          have HR2 : Hid (x2.heap[w.heap.size]? = _) := heap_keep HRc.out hb
          have HB2 : Hid (Below w.heap.size w x2) := below_call HBc.out hb
          have HO1 : Hid (opndR sa = _) := hO
          have HU1 : Hid (u.size ≤ maxLen) := by have h2 := HSA.out; show _ ≤ _; omega
          clear hb hO hu
          clear c0 c1 c2 c3 c4 c5 c6 c7 c8 c9 c10 d0 d1 d2 d3 d4 d5 d6 d7 d8 d9 d10 z0 z1 z2 z3 z4 z5 z6 z7 z8 z9 z10 y0 y1 y2 y3 y4 y5 y6 y7 y8 y9 y10
          obtain ⟨c0, c1, c2, c3, c4, c5, c6, c7, c8, c9, c10⟩ := cells11 HR2.out
          have z0 := frz11 HR2.out 0
          have z1 := frz11 HR2.out 1
          have z2 := frz11 HR2.out 2
          have z3 := frz11 HR2.out 3
          have z4 := frz11 HR2.out 4
          have z5 := frz11 HR2.out 5
          have z6 := frz11 HR2.out 6
          have z7 := frz11 HR2.out 7
          have z8 := frz11 HR2.out 8
          have z9 := frz11 HR2.out 9
          have z10 := frz11 HR2.out 10
          obtain ⟨d0, d1, d2, d3, d4, d5, d6, d7, d8, d9, d10⟩ := cells11 HI2.out
          have y0 := frz11 HI2.out 0
          have y1 := frz11 HI2.out 1
          have y2 := frz11 HI2.out 2
          have y3 := frz11 HI2.out 3
          have y4 := frz11 HI2.out 4
          have y5 := frz11 HI2.out 5
          have y6 := frz11 HI2.out 6
          have y7 := frz11 HI2.out 7
          have y8 := frz11 HI2.out 8
          have y9 := frz11 HI2.out 9
          have y10 := frz11 HI2.out 10
          go_wp2_with fail
          have HI3 : Hid (_ = _) := (heap_set (heap_set (heap_set (heap_set HI2.out 2 (.int .i64 m)) 3 (.int .i64 r)) 4 (.int .i64 n)) 5 (.bool l))
          have HR3 : Hid (_ = _) := (set_far (a := ⟨w.heap.size + 1, 5, none⟩) (v := .bool l) nb (set_far (a := ⟨w.heap.size + 1, 4, none⟩) (v := .int .i64 n) nb (set_far (a := ⟨w.heap.size + 1, 3, none⟩) (v := .int .i64 r) nb (set_far (a := ⟨w.heap.size + 1, 2, none⟩) (v := .int .i64 m) nb HR2.out))))
          have HB3 : Hid (Below w.heap.size w _) := (Below.setCell (p := ⟨w.heap.size + 1, 5, none⟩) (Below.setCell (p := ⟨w.heap.size + 1, 4, none⟩) (Below.setCell (p := ⟨w.heap.size + 1, 3, none⟩) (Below.setCell (p := ⟨w.heap.size + 1, 2, none⟩) HB2.out hge (.int .i64 m)) hge (.int .i64 r)) hge (.int .i64 n)) hge (.bool l))
          clear c0 c1 c2 c3 c4 c5 c6 c7 c8 c9 c10 d0 d1 d2 d3 d4 d5 d6 d7 d8 d9 d10 z0 z1 z2 z3 z4 z5 z6 z7 z8 z9 z10 y0 y1 y2 y3 y4 y5 y6 y7 y8 y9 y10
          generalize (World.setCell (World.setCell (World.setCell (World.setCell x2 ⟨w.heap.size + 1, 2, none⟩ (.int .i64 m)) ⟨w.heap.size + 1, 3, none⟩ (.int .i64 r)) ⟨w.heap.size + 1, 4, none⟩ (.int .i64 n)) ⟨w.heap.size + 1, 5, none⟩ (.bool l)) = y2 at *
          refine (l03ReadOperand_any sb y2 HSA.out.2).mono ?_
          rintro e x3 ⟨m2, r2, n2, l2, u2, ok2, rfl, hO, hu, hb⟩
          have HI4 : Hid (x3.heap[w.heap.size + 1]? = _) := heap_keep HI3.out hb
          have HR4 : Hid (x3.heap[w.heap.size]? = _) := heap_keep HR3.out hb
          have HB4 : Hid (Below w.heap.size w x3) := below_call HB3.out hb
          have HQ6 : Hid (readR t = if (ok1 && (ok2 && two)) then some (⟨op, false, m, r, n, l, m2, r2, n2, l2, 0⟩, u, u2) else none) := by show _ = _; rw [HQ7.out, HO1.out, hO]; cases ok1 <;> cases ok2 <;> cases two <;> rfl
          have HU2 : Hid (u2.size ≤ maxLen) := by have h2 := HSA.out; show _ ≤ _; omega
          clear hb hO hu
          simp at HI4
          obtain ⟨c0, c1, c2, c3, c4, c5, c6, c7, c8, c9, c10⟩ := cells11 HR4.out
          have z0 := frz11 HR4.out 0
          have z1 := frz11 HR4.out 1
          have z2 := frz11 HR4.out 2
          have z3 := frz11 HR4.out 3
          have z4 := frz11 HR4.out 4
          have z5 := frz11 HR4.out 5
          have z6 := frz11 HR4.out 6
          have z7 := frz11 HR4.out 7
          have z8 := frz11 HR4.out 8
          have z9 := frz11 HR4.out 9
          have z10 := frz11 HR4.out 10
          obtain ⟨d0, d1, d2, d3, d4, d5, d6, d7, d8, d9, d10⟩ := cells11 HI4.out
          have y0 := frz11 HI4.out 0
          have y1 := frz11 HI4.out 1
          have y2 := frz11 HI4.out 2
          have y3 := frz11 HI4.out 3
          have y4 := frz11 HI4.out 4
          have y5 := frz11 HI4.out 5
          have y6 := frz11 HI4.out 6
          have y7 := frz11 HI4.out 7
          have y8 := frz11 HI4.out 8
          have y9 := frz11 HI4.out 9
          have y10 := frz11 HI4.out 10
          cases ok1 <;> cases ok2 <;> cases two
          all_goals
            go_wp2
            exact bodyPost_ret (results_row3 Tryz.results46 _ _ w.heap.size 26 _ (0, 0) _ rfl (set_eleven (set_far (a := ⟨w.heap.size + 1, 9, none⟩) (v := .bool l2) nb (set_far (a := ⟨w.heap.size + 1, 8, none⟩) (v := .int .i64 n2) nb (set_far (a := ⟨w.heap.size + 1, 7, none⟩) (v := .int .i64 r2) nb (set_far (a := ⟨w.heap.size + 1, 6, none⟩) (v := .int .i64 m2) nb HR4.out))))) Tryz.underlying26 rfl (by kernel_rfl)) rfl ⟨⟨op, false, m, r, n, l, m2, r2, n2, l2, 0⟩, u, u2, _, rfl, HQ6.out, HU1.out, HU2.out, (below11 _ _ _ _ _ _ _ _ _ _ _ (Nat.le_refl _) (Below.setCell (p := ⟨w.heap.size + 1, 9, none⟩) (Below.setCell (p := ⟨w.heap.size + 1, 8, none⟩) (Below.setCell (p := ⟨w.heap.size + 1, 7, none⟩) (Below.setCell (p := ⟨w.heap.size + 1, 6, none⟩) HB4.out hge (.int .i64 m2)) hge (.int .i64 r2)) hge (.int .i64 n2)) hge (.bool l2)))⟩
        by_cases k2 : kk < 18
        · have HQ8 : Hid (readR t = oneM op false (opndR ((⟨#[]⟩ : ByteArray)))) := by show _ = _; rw [HRD.out]; unfold readO; rw [if_neg k0, if_neg k1, if_pos k2]
          go_wp2_with fail
          refine (l03ReadOperand_any ((⟨#[]⟩ : ByteArray)) _ HRX.out).mono ?_
          rintro e x2 ⟨m, r, n, l, u, ok1, rfl, hO, hu, hb⟩
          have HI2 : Hid (x2.heap[w.heap.size + 1]? = _) := heap_keep HIc.out hb
          have HR2 : Hid (x2.heap[w.heap.size]? = _) := heap_keep HRc.out hb
          have HB2 : Hid (Below w.heap.size w x2) := below_call HBc.out hb
          have HQ6 : Hid (readR t = if ok1 then some (⟨op, false, m, r, n, l, 0, 0, 0, false, 0⟩, u, ⟨#[]⟩) else none) := by show _ = _; rw [HQ8.out, hO]; cases ok1 <;> rfl
          have HU1 : Hid (u.size ≤ maxLen) := by have h2 := HRX.out; show _ ≤ _; omega
          clear hb hO hu
          clear c0 c1 c2 c3 c4 c5 c6 c7 c8 c9 c10 d0 d1 d2 d3 d4 d5 d6 d7 d8 d9 d10 z0 z1 z2 z3 z4 z5 z6 z7 z8 z9 z10 y0 y1 y2 y3 y4 y5 y6 y7 y8 y9 y10
          obtain ⟨c0, c1, c2, c3, c4, c5, c6, c7, c8, c9, c10⟩ := cells11 HR2.out
          have z0 := frz11 HR2.out 0
          have z1 := frz11 HR2.out 1
          have z2 := frz11 HR2.out 2
          have z3 := frz11 HR2.out 3
          have z4 := frz11 HR2.out 4
          have z5 := frz11 HR2.out 5
          have z6 := frz11 HR2.out 6
          have z7 := frz11 HR2.out 7
          have z8 := frz11 HR2.out 8
          have z9 := frz11 HR2.out 9
          have z10 := frz11 HR2.out 10
          obtain ⟨d0, d1, d2, d3, d4, d5, d6, d7, d8, d9, d10⟩ := cells11 HI2.out
          have y0 := frz11 HI2.out 0
          have y1 := frz11 HI2.out 1
          have y2 := frz11 HI2.out 2
          have y3 := frz11 HI2.out 3
          have y4 := frz11 HI2.out 4
          have y5 := frz11 HI2.out 5
          have y6 := frz11 HI2.out 6
          have y7 := frz11 HI2.out 7
          have y8 := frz11 HI2.out 8
          have y9 := frz11 HI2.out 9
          have y10 := frz11 HI2.out 10
          go_wp2
          exact bodyPost_ret (results_row3 Tryz.results46 _ _ w.heap.size 26 _ (0, 0) _ rfl (set_eleven (set_far (a := ⟨w.heap.size + 1, 5, none⟩) (v := .bool l) nb (set_far (a := ⟨w.heap.size + 1, 4, none⟩) (v := .int .i64 n) nb (set_far (a := ⟨w.heap.size + 1, 3, none⟩) (v := .int .i64 r) nb (set_far (a := ⟨w.heap.size + 1, 2, none⟩) (v := .int .i64 m) nb HR2.out))))) Tryz.underlying26 rfl (by kernel_rfl)) rfl ⟨⟨op, false, m, r, n, l, 0, 0, 0, false, 0⟩, u, ⟨#[]⟩, ok1, rfl, HQ6.out, HU1.out, HSZ.out, (below11 _ _ _ _ _ _ _ _ _ _ _ (Nat.le_refl _) (Below.setCell (p := ⟨w.heap.size + 1, 5, none⟩) (Below.setCell (p := ⟨w.heap.size + 1, 4, none⟩) (Below.setCell (p := ⟨w.heap.size + 1, 3, none⟩) (Below.setCell (p := ⟨w.heap.size + 1, 2, none⟩) HB2.out hge (.int .i64 m)) hge (.int .i64 r)) hge (.int .i64 n)) hge (.bool l)))⟩
        by_cases k3 : kk = 18
        · have e18 : (kk == 18) = true := by rw [beq_iff_eq]; exact k3
          have HQ6 : Hid (readR t = if true then some (⟨op, false, 0, 0, 0, false, 0, 0, 0, false, 0⟩, ⟨#[]⟩, ⟨#[]⟩) else none) := by show _ = _; rw [HRD.out]; unfold readO; rw [if_neg k0, if_neg k1, if_neg k2, if_pos k3]; rfl
          clear k3
          go_wp2
          exact bodyPost_ret (results_row3 Tryz.results46 _ _ w.heap.size 26 _ (0, 0) _ rfl (set_eleven HRc.out) Tryz.underlying26 rfl (by kernel_rfl)) rfl ⟨⟨op, false, 0, 0, 0, false, 0, 0, 0, false, 0⟩, ⟨#[]⟩, ⟨#[]⟩, true, rfl, HQ6.out, HSZ.out, HSZ.out, (below11 _ _ _ _ _ _ _ _ _ _ _ (Nat.le_refl _) HBc.out)⟩
        · have e18 : (kk == 18) = false := by rw [beq_eq_false_iff_ne]; exact k3
          have HQ8 : Hid (readR t = jumpM op false (jumpR ((⟨#[]⟩ : ByteArray)))) := by show _ = _; rw [HRD.out]; unfold readO; rw [if_neg k0, if_neg k1, if_neg k2, if_neg k3]
          clear k3
          go_wp2_with fail
          refine (l03Jump_any ((⟨#[]⟩ : ByteArray)) _ HRX.out).mono ?_
          rintro e x1 ⟨jn, ok1, rfl, hJ, hj0, hj1, hx⟩
          have hx' := hx.symm
          subst hx'
          clear hx
          have HQ6 : Hid (readR t = if ok1 then some (⟨op, false, 0, 0, 0, false, 0, 0, 0, false, jn⟩, ⟨#[]⟩, ⟨#[]⟩) else none) := by show _ = _; rw [HQ8.out, hJ]; cases ok1 <;> rfl
          clear hJ
          go_wp2
          exact bodyPost_ret (results_row3 Tryz.results46 _ _ w.heap.size 26 _ (0, 0) _ rfl (set_eleven (set_far (a := ⟨w.heap.size + 1, 10, none⟩) (v := .int .i64 jn) nb HRc.out)) Tryz.underlying26 rfl (by kernel_rfl)) rfl ⟨⟨op, false, 0, 0, 0, false, 0, 0, 0, false, jn⟩, ⟨#[]⟩, ⟨#[]⟩, ok1, rfl, HQ6.out, HSZ.out, HSZ.out, (below11 _ _ _ _ _ _ _ _ _ _ _ (Nat.le_refl _) (Below.setCell (p := ⟨w.heap.size + 1, 10, none⟩) HBc.out hge (.int .i64 jn)))⟩
end Go.Proofs.YtodjccipfonaiaaGreatDoor
