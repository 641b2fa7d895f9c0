/- A reader takes a number. -/
import Derived.Test.YtodjccipfonaiaaGreatDoorRows
import Derived.WalkKit
import Derived.WalkSpells
import Derived.WalkLawsBesides
import Derived.Outline
import Derived.Test.YtodjccipfonaiaaGreatDoorBun0
import Derived.Test.YtodjccipfonaiaaGreatDoorBun31
import Derived.Test.YtodjccipfonaiaaGreatDoorRdMX
import Derived.RegionTactic
import Derived.BigRegion
import Derived.Deep.QuietTactic
import Derived.BigQuiet
import Derived.Deep.RegionHeld3
import Derived.Test.YtodjccipfonaiaaGreatDoorBun16
import Derived.Test.YtodjccipfonaiaaGreatDoorBun25
import Derived.Test.YtodjccipfonaiaaGreatDoorShf
import Derived.Test.YtodjccipfonaiaaGreatDoorIsaOX
import Derived.Test.YtodjccipfonaiaaGreatDoorBun26
namespace Go.Proofs.YtodjccipfonaiaaGreatDoor
open Go.RowKit
set_option linter.unusedVariables false

def numM (most : Int) (p : ByteArray) : Option Int := match numR p with | some n => if n ≤ most then some n else none | none => none
theorem numT_M (most : Int) (p : ByteArray) (L : List ByteArray) : numT most (p :: L) = (numM most p).map (fun n => (n, L)) := by
  show (match numR p with | some n => if n ≤ most then some (n, L) else none | none => none) = _
  unfold numM
  cases numR p with
  | none => rfl
  | some n =>
    dsimp only
    split <;> rfl
def Num1Q (most : Int) (p : ByteArray) (t0 : Nat) (w : World) (ok : Bool) (w' : World) : Prop :=
  (ok = false ∧ numM most p = none ∧ Below w.heap.size w w') ∨ (ok = true ∧ ∃ n, numM most p = some n ∧ 0 ≤ n ∧ n ≤ 1048576 ∧ w'.heap[t0]? = some (.cells #[.int .i64 n] 2 (0, 0)) ∧ But t0 w w')
def Num1Out (most : Int) (p : ByteArray) (t0 : Nat) (w : World) (e : Ending) (w' : World) : Prop := ∃ ok, e = .returned (.bool ok) ∧ Num1Q most p t0 w ok w'
set_option maxRecDepth 100000 in
set_option maxHeartbeats 1600000 in
theorem num1_any (p : ByteArray) (most n0 : Int) (m0 t0 : Nat) (w : World) (hm : w.heap[m0]? = some (.cells #[.int .i64 most] 2 (0, 0))) (ht : w.heap[t0]? = some (.cells #[.int .i64 n0] 2 (0, 0))) (hp : p.size ≤ 8000) : Calls Tryz.prog 103 #[.string p, .pointer (some ⟨m0, 0, none⟩), .pointer (some ⟨t0, 0, none⟩)] w (Num1Out most p t0 w) := by
  have HM : Hid (w.heap[m0]? = _) := hm
  have HT : Hid (w.heap[t0]? = _) := ht
  clear hm ht
  go_enter Tryz.func103, Tryz.ntmps103
  go_wp2_with fail
  refine (numberOf_any p _ hp).mono ?_
  rintro e x ⟨n, ok, rfl, hN, hn0, hn1, hb⟩
  have HN : Hid (_ = _) := hN
  have HM1 : Hid (_ = _) := heap_keep HM.out hb
  have HT1 : Hid (_ = _) := heap_keep HT.out hb
  have HB : Hid (Below w.heap.size w x) := hb
  clear hN hb HM HT
  have c1 := cell_of_one HM1.out
  have z1 := free_of_one HT1.out
  have c2 := cell_of_one HT1.out
  cases ok
  · go_wp2
    go_ret
    exact ⟨false, rfl, .inl ⟨rfl, by unfold numM; rw [HN.out]; rfl, HB.out⟩⟩
  · by_cases hle : n ≤ most
    · have HQ : Hid (numM most p = some n) := by show _ = _; unfold numM; rw [HN.out]; exact if_pos hle
      have hle' : ¬ most < n := by omega
      go_wp2
      go_ret
      exact ⟨true, rfl, .inr ⟨rfl, n, HQ.out, hn0, hn1, heap_set HT1.out 0 _, But.setB (p := ⟨t0, 0, none⟩) (But.of HB.out) rfl _⟩⟩
    · have HQ : Hid (numM most p = none) := by show _ = _; unfold numM; rw [HN.out]; exact if_neg hle
      have hle' : most < n := by omega
      go_wp2
      go_ret
      exact ⟨false, rfl, .inl ⟨rfl, HQ.out, HB.out⟩⟩
theorem num1_enters (args : Array Value) (W : World) : (callFunc 103 args).run Tryz.prog W = .ok (.enter 103 args) W :=
  enters_mk Tryz.func103 (by kernel_rfl) rfl args W
def NumberOut (most : Int) (b g : Nat) (w : World) (L : List ByteArray) (e : Ending) (w' : World) : Prop := ∃ n ok a' cap' L', e = .returned (.tuple #[.int .i64 n, .bool ok]) ∧ numT most L = (if ok then some (n, L') else none) ∧ (ok = false → n = 0 ∧ L' = L) ∧ 0 ≤ n ∧ n ≤ 1048576 ∧ Rd w' b g a' cap' L' ∧ But b w w'
set_option maxRecDepth 100000 in
set_option maxHeartbeats 1600000 in
theorem number_any (most : Int) (b g cap : Nat) (a : Option Addr) (L : List ByteArray) (w : World) (hR : Rd w b g a cap L) : Calls Tryz.prog 81 #[.pointer (some ⟨b, 0, none⟩), .int .i64 most] w (NumberOut most b g w L) := by
  have HR : Hid (Rd w b g a cap L) := hR
  have hbw := heap_lt hR.row
  clear hR
  have HR2 : Hid (Rd ((w.alloc (.cells #[.int .i64 most] 2)).alloc (.cells #[.int .i64 0] 2)) b g a cap L) := (HR.out.alloc _).alloc _
  have HM0 : Hid (_ = _) := heap_more (heap_alloc_new w (.cells #[.int .i64 most] 2)) (.cells #[.int .i64 0] 2)
  have HT0 : Hid (_ = _) := heap_new2 w (.cells #[.int .i64 most] 2) (.cells #[.int .i64 0] 2)
  have HB0 : Hid (Below w.heap.size w _) := below_more (below_new w (.cells #[.int .i64 most] 2)) (.cells #[.int .i64 0] 2)
  have hsz : w.heap.size + 2 = ((w.alloc (.cells #[.int .i64 most] 2)).alloc (.cells #[.int .i64 0] 2)).heap.size := by simp
  cases L with
  | nil =>
    go_enter Tryz.func81, Tryz.ntmps81
    go_wp2_with fail
    refine (take_nil b g _ cap _ a _ HR2.out).mono ?_
    rintro e x ⟨rfl, hx⟩
    have hx' := hx.symm
    subst hx'
    clear hx
    have c1 := cell_of_one HT0.out
    go_wp2
    go_ret2
    exact ⟨0, false, a, cap, [], rfl, rfl, fun _ => ⟨rfl, rfl⟩, by omega, by omega, HR2.out, But.of HB0.out⟩
  | cons p L =>
    have hps := HR.out.text p (List.mem_cons_self ..)
    go_enter Tryz.func81, Tryz.ntmps81
    go_wp2_with fail
    refine (take_cons b g _ cap _ a p L _ (Num1Q most p (w.heap.size + 1) ((w.alloc (.cells #[.int .i64 most] 2)).alloc (.cells #[.int .i64 0] 2))) num1_enters HR2.out ?_).mono ?_
    · refine (num1_any p most 0 w.heap.size (w.heap.size + 1) _ HM0.out HT0.out hps).mono ?_
      rintro e x ⟨ok, rfl, hQ⟩
      refine ⟨ok, rfl, ?_, hQ⟩
      rcases hQ with ⟨_, _, hb⟩ | ⟨_, n, _, _, _, _, hb⟩
      · exact HR2.out.call hb
      · exact HR2.out.but hb (by omega) (by have := HR.out.at'; omega)
    · rintro e x ⟨ok, y, hQ, hRy, hcase⟩
      rcases hcase with ⟨rfl, rfl, rfl⟩ | ⟨rfl, rfl, a', hRx, rfl⟩
      · rcases hQ with ⟨_, hq, hb⟩ | ⟨h, _⟩
        · have HX : Hid (Rd x b g a cap (p :: L)) := hRy
          have HB : Hid (Below w.heap.size w x) := below_call HB0.out hb
          have HQ : Hid (_ = _) := hq
          have HT1 : Hid (_ = _) := heap_keep HT0.out hb
          clear hRy hb hq
          have c1 := cell_of_one HT1.out
          go_wp2
          go_ret2
          exact ⟨0, false, a, cap, p :: L, rfl, by rw [numT_M, HQ.out]; rfl, fun _ => ⟨rfl, rfl⟩, by omega, by omega, HX.out, But.of HB.out⟩
        · cases h
      · rcases hQ with ⟨h, _⟩ | ⟨_, n, hq, hn0, hn1, ht, hb⟩
        · cases h
        · have HX : Hid (Rd _ b g a' (cap - 1) L) := hRx
          have HB : Hid (Below w.heap.size w y) := But.below HB0.out hb (by omega) (by omega)
          have HQ : Hid (_ = _) := hq
          have HT1 : Hid (_ = _) := set_far (a := ⟨b, 0, none⟩) (v := .slice a' L.length (cap - 1)) (show w.heap.size + 1 ≠ b by omega) ht
          clear hRy hRx hb hq ht
          have c1 := cell_of_one HT1.out
          go_wp2
          go_ret2
          exact ⟨n, true, a', cap - 1, L, rfl, by rw [numT_M, HQ.out]; rfl, fun h => (by cases h), hn0, hn1, HX.out, But.setB (p := ⟨b, 0, none⟩) (But.of HB.out) rfl _⟩
end Go.Proofs.YtodjccipfonaiaaGreatDoor
namespace Go.Proofs.YtodjccipfonaiaaGreatDoor
open Go.RowKit
set_option linter.unusedVariables false

theorem name_enters (args : Array Value) (W : World) : (callFunc 62 args).run Tryz.prog W = .ok (.enter 62 args) W :=
  enters_mk Tryz.func62 (by kernel_rfl) rfl args W
def NameOut (b g : Nat) (w : World) (L : List ByteArray) (e : Ending) (w' : World) : Prop := ∃ p ok a' cap' L', e = .returned (.tuple #[.string p, .bool ok]) ∧ nameT L = (if ok then some (p, L') else none) ∧ (ok = false → L' = L) ∧ Rd w' b g a' cap' L' ∧ But b w w'
theorem takeName_any (b g cap : Nat) (a : Option Addr) (L : List ByteArray) (w : World) (hR : Rd w b g a cap L) : Calls Tryz.prog 82 #[.pointer (some ⟨b, 0, none⟩), .func (.func 62) #[] #[]] w (NameOut b g w L) := by
  cases L with
  | nil =>
    refine (take_nil b g _ cap _ a w hR).mono ?_
    rintro e x ⟨rfl, rfl⟩
    exact ⟨⟨#[]⟩, false, a, cap, [], rfl, rfl, fun _ => rfl, hR, But.refl _ _⟩
  | cons p L =>
    have hps := hR.text p (List.mem_cons_self ..)
    refine (take_cons b g _ cap #[] a p L w (fun ok x => ok = nameB p ∧ x = w) name_enters hR ?_).mono ?_
    · refine (implName_any p w (by unfold maxLen; omega)).mono ?_
      rintro e x ⟨rfl, rfl⟩
      exact ⟨_, rfl, hR, rfl, rfl⟩
    · rintro e x ⟨ok, y, ⟨hok, rfl⟩, hRy, hcase⟩
      rcases hcase with ⟨rfl, rfl, rfl⟩ | ⟨rfl, rfl, a', hRx, rfl⟩
      · exact ⟨⟨#[]⟩, false, a, cap, p :: L, rfl, by show (if nameB p = true then _ else _) = _; rw [← hok]; rfl, fun _ => rfl, hR, But.refl _ _⟩
      · exact ⟨p, true, a', cap - 1, L, rfl, (by show (if nameB p = true then _ else _) = _; rw [← hok, if_pos rfl]), fun h => (by cases h), hRx, But.setB (p := ⟨b, 0, none⟩) (But.refl _ _) rfl _⟩
def RWordOut (b g : Nat) (w : World) (L : List ByteArray) (e : Ending) (w' : World) : Prop := ∃ nm n ok a' cap' L', e = .returned (.tuple #[.agg #[.string nm, .int .i64 n], .bool ok]) ∧ wordT L = (if ok then some ((nm, n), L') else none) ∧ Rd w' b g a' cap' L' ∧ But b w w'
set_option maxRecDepth 100000 in
set_option maxHeartbeats 3200000 in
theorem word_any (b g cap : Nat) (a : Option Addr) (L : List ByteArray) (w : World) (hR : Rd w b g a cap L) : Calls Tryz.prog 42 #[.pointer (some ⟨b, 0, none⟩)] w (RWordOut b g w L) := by
  have HR : Hid (Rd w b g a cap L) := hR
  have hbw := heap_lt hR.row
  have hgw : g ≠ w.heap.size := by have := hR.at'; omega
  clear hR
  go_enter Tryz.func42, Tryz.ntmps42
  go_wp2_with fail
  refine (number_any 65535 b g cap a L _ (HR.out.alloc _)).mono ?_
  rintro e x1 ⟨n, ok, a1, cap1, L1, rfl, hN, hL1, hn0, hn1, hR1, hB1⟩
  have HV1 : Hid (x1.heap[w.heap.size]? = _) := But.keep (heap_alloc_new w _) hB1 (by omega)
  have HB1 : Hid (But b w x1) := (But.of (below_new w _)).trans hB1
  have HR1 : Hid (_) := hR1
  have HN : Hid (_ = _) := hN
  clear hN hR1 hB1
  obtain ⟨c0, c1, z0, z1⟩ := two_cells HV1.out
  have hs1 := heap_lt HV1.out
  cases ok
  · obtain ⟨rfl, rfl⟩ := hL1 rfl
    go_wp2_with fail
    refine (takeName_any b g cap1 a1 L1 x1 HR1.out).mono ?_
    rintro e x2 ⟨p, ok, a2, cap2, L2, rfl, hN2, hL2, hR2, hB2⟩
    have HV2 : Hid (x2.heap[w.heap.size]? = _) := But.keep HV1.out hB2 (by omega)
    have HB2 : Hid (But b w x2) := HB1.out.trans hB2
    have HR2 : Hid (_) := hR2
    have HN2 : Hid (_ = _) := hN2
    clear c0 c1 z0 z1 hN2 hR2 hB2 HB1 HV1 HR1
    obtain ⟨c0, c1, z0, z1⟩ := two_cells HV2.out
    have hs2 := heap_lt HV2.out
    have hgl := HR2.out.at'
    cases ok
    · have HW : Hid (wordT L1 = none) := by show _ = _; unfold wordT; rw [HN.out, HN2.out]; rfl
      go_wp2
      exact bodyPost_ret (results_row1 Tryz.results42 _ _ w.heap.size 30 _ (0, 0) _ rfl (set_two HV2.out) Tryz.underlying30 rfl (by kernel_rfl)) rfl ⟨⟨#[]⟩, 0, false, a2, cap2, L2, rfl, HW.out, Rd.setN (p := ⟨w.heap.size, 1, none⟩) (by show w.heap.size ≠ b; omega) hgw (Rd.setN (p := ⟨w.heap.size, 0, none⟩) (by show w.heap.size ≠ b; omega) hgw HR2.out), (HB2.out.setN (Nat.le_refl _) _).setN (Nat.le_refl _) _⟩
    · have hps : p.size ≤ 20 := by
        have h := HN2.out
        exact (name_parts (nameT_some h).2).2.1
      go_wp2_with fail
      refine (join_one p _ (by omega)).mono ?_
      rintro e x3 ⟨rfl, hb3⟩
      have hsz3 := hb3.size
      have HV3 : Hid (x3.heap[w.heap.size]? = _) := heap_keep HV2.out hb3
      have HB3 : Hid (But b w x3) := HB2.out.call hb3
      have HR3 : Hid (_) := HR2.out.call hb3
      clear c0 c1 z0 z1 hb3 HB2 HV2 HR2
      obtain ⟨c0, c1, z0, z1⟩ := two_cells HV3.out
      have hs3 := heap_lt HV3.out
      have HU : Hid (_ = _) := heap_alloc_new x3 (.cells #[.string p, .int .i64 0] 30)
      go_wp2_with fail
      refine (sign_any b g cap2 a2 L2 _ (HR3.out.alloc _)).mono ?_
      rintro e x4 ⟨a4, cap4, rfl, hR4, hB4⟩
      have HV4 : Hid (x4.heap[w.heap.size]? = _) := But.keep (heap_more HV3.out _) hB4 (by omega)
      have HU4 : Hid (x4.heap[x3.heap.size]? = _) := But.keep HU.out hB4 (by omega)
      have HB4 : Hid (But b w x4) := (HB3.out.alloc _).trans hB4
      have HR4 : Hid (_) := hR4
      clear c0 c1 z0 z1 hB4 hR4 HB3 HV3 HR3 HU
      obtain ⟨c0, c1, z0, z1⟩ := two_cells HV4.out
      obtain ⟨u0, u1, v0, v1⟩ := two_cells HU4.out
      have hs4 := heap_lt HU4.out
      have HW0 : Hid (wordT L1 = if (signT L2).1 = 0 then some ((p, 0), L2) else (match numT 32767 (signT L2).2 with | some (n, L2') => some ((p, (signT L2).1 * n), L2') | none => none)) := by
        show _ = _; unfold wordT; rw [HN.out, HN2.out]; rfl
      have hgu : g ≠ x3.heap.size := by omega
      rcases signT_cases L2 with ⟨hz1, hz2⟩ | ⟨c, L3, hc, hL3, hz⟩
      · have HW : Hid (wordT L1 = some ((p, 0), L2)) := by show _ = _; rw [HW0.out, if_pos hz1]
        have HRz : Hid (Rd x4 b g a4 cap4 L2) := by have h := HR4.out; rw [hz2] at h; exact h
        rw [hz1]
        clear hz1 hz2 HR4 HW0
        go_wp2
        exact bodyPost_ret (results_row1 Tryz.results42 _ _ w.heap.size 30 _ (0, 0) _ rfl (set_two HV4.out) Tryz.underlying30 rfl (by kernel_rfl)) rfl ⟨p, 0, true, a4, cap4, L2, rfl, HW.out, Rd.setN (p := ⟨w.heap.size, 1, none⟩) (by show w.heap.size ≠ b; omega) hgw (Rd.setN (p := ⟨w.heap.size, 0, none⟩) (by show w.heap.size ≠ b; omega) hgw HRz.out), (HB4.out.setN (Nat.le_refl _) _).setN (Nat.le_refl _) _⟩
      · have HW1 : Hid (wordT L1 = (match numT 32767 L3 with | some (n, L2') => some ((p, sgn c * n), L2') | none => none)) := by show _ = _; rw [HW0.out, hz]; dsimp only; rw [if_neg (sgn_ne c)]
        have HRz : Hid (Rd x4 b g a4 cap4 L3) := by have h := HR4.out; rw [hz] at h; exact h
        have hsv : (signT L2).1 = sgn c := by rw [hz]
        rw [hsv]
        have hs0 : (sgn c == 0) = false := by rw [beq_eq_false_iff_ne]; exact sgn_ne c
        have hs1 : (sgn c != 0) = true := by rw [bne_iff_ne]; exact sgn_ne c
        have hs2 : sgn c = 1 ∨ sgn c = -1 := by unfold sgn; split <;> omega
        clear hz hsv hL3 hc HW0 HR4
        generalize sgn c = sg at *
        go_wp2_with fail
        refine (number_any 32767 b g cap4 a4 L3 x4 HRz.out).mono ?_
        rintro e x5 ⟨n5, ok5, a5, cap5, L5, rfl, hN5, hL5, hm0, hm1, hR5, hB5⟩
        have HV5 : Hid (x5.heap[w.heap.size]? = _) := But.keep HV4.out hB5 (by omega)
        have HU5 : Hid (x5.heap[x3.heap.size]? = _) := But.keep HU4.out hB5 (by omega)
        have HB5 : Hid (But b w x5) := HB4.out.trans hB5
        have HR5 : Hid (_) := hR5
        have HW : Hid (wordT L1 = if ok5 then some ((p, sg * n5), L5) else none) := by
          show _ = _; rw [HW1.out, hN5]; cases ok5 <;> rfl
        clear c0 c1 z0 z1 u0 u1 v0 v1 hB5 hR5 hN5 HW1 HV4 HU4 HB4 HRz
        obtain ⟨c0, c1, z0, z1⟩ := two_cells HV5.out
        obtain ⟨u0, u1, v0, v1⟩ := two_cells HU5.out
        have hb1 : sg * n5 ≤ 1048576 := by rcases hs2 with rfl | rfl <;> omega
        have hb2 : -1048576 ≤ sg * n5 := by rcases hs2 with rfl | rfl <;> omega
        clear hs2
        go_wp2
        have hws : w.heap.size ≤ x3.heap.size := by omega
        exact bodyPost_ret (results_row1 Tryz.results42 _ _ w.heap.size 30 _ (0, 0) _ rfl (set_two (set_far (a := ⟨x3.heap.size, 1, none⟩) (v := .int .i64 (sg * n5)) (show w.heap.size ≠ x3.heap.size by omega) HV5.out)) Tryz.underlying30 rfl (by kernel_rfl)) rfl ⟨p, sg * n5, ok5, a5, cap5, L5, rfl, HW.out, Rd.setN (p := ⟨w.heap.size, 1, none⟩) (by show w.heap.size ≠ b; omega) hgw (Rd.setN (p := ⟨w.heap.size, 0, none⟩) (by show w.heap.size ≠ b; omega) hgw (Rd.setN (p := ⟨x3.heap.size, 1, none⟩) (by show x3.heap.size ≠ b; omega) hgu HR5.out)), ((But.setN (p := ⟨x3.heap.size, 1, none⟩) HB5.out hws _).setN (Nat.le_refl _) _).setN (Nat.le_refl _) _⟩
  · have HW : Hid (wordT L = some ((⟨#[]⟩, n), L1)) := by show _ = _; unfold wordT; rw [HN.out]; rfl
    go_wp2
    exact bodyPost_ret (results_row1 Tryz.results42 _ _ w.heap.size 30 _ (0, 0) _ rfl (set_two HV1.out) Tryz.underlying30 rfl (by kernel_rfl)) rfl ⟨⟨#[]⟩, n, true, a1, cap1, L1, rfl, HW.out, Rd.setN (p := ⟨w.heap.size, 1, none⟩) (by show w.heap.size ≠ b; omega) hgw (Rd.setN (p := ⟨w.heap.size, 0, none⟩) (by show w.heap.size ≠ b; omega) hgw HR1.out), (HB1.out.setN (Nat.le_refl _) _).setN (Nat.le_refl _) _⟩
set_option maxRecDepth 100000 in
set_option maxHeartbeats 1600000 in
theorem atEnd_any (b g cap : Nat) (a : Option Addr) (L : List ByteArray) (w : World) (hR : Rd w b g a cap L) : Calls Tryz.prog 35 #[.pointer (some ⟨b, 0, none⟩)] w fun e w' => e = .returned (.bool L.isEmpty) ∧ w' = w := by
  have c0 := cell_of_one hR.row
  cases L with
  | nil =>
    go_enter Tryz.func35, Tryz.ntmps35
    go_wp2
    go_ret
    exact ⟨rfl, rfl⟩
  | cons p L =>
    have hl0 : ((L.length : Int) + 1 == 0) = false := by rw [beq_eq_false_iff_ne]; omega
    go_enter Tryz.func35, Tryz.ntmps35
    go_wp2
    go_ret
    exact ⟨rfl, rfl⟩
end Go.Proofs.YtodjccipfonaiaaGreatDoor
namespace Go.Proofs.YtodjccipfonaiaaGreatDoor
open Go.RowKit
set_option linter.unusedVariables false

def pw (b : Int) : Nat → Int
  | 0 => 1
  | k + 1 => b * pw b k
theorem pw_nn (b : Int) (hb : 0 ≤ b) : ∀ k, 0 ≤ pw b k
  | 0 => by show (0 : Int) ≤ 1; omega
  | k + 1 => Int.mul_nonneg hb (pw_nn b hb k)
theorem numF_lt (b : Int) (hb : 0 ≤ b) : ∀ (L : List UInt8) (n m : Int), 0 ≤ n → numF b L n = some m → m < (n + 1) * pw b L.length
  | [], n, m, h0, h => by
    cases h
    show n < (n + 1) * 1
    omega
  | c :: L, n, m, h0, h => by
    have h' : (if 0 ≤ hexV c.toNat ∧ hexV c.toNat < b then numF b L (b * n + hexV c.toNat) else none) = some m := h
    split at h'
    · rename_i hc
      have hbn := Int.mul_nonneg hb h0
      have hi := numF_lt b hb L _ _ (by omega) h'
      have hp := pw_nn b hb L.length
      have e1 : b * n + hexV c.toNat + 1 ≤ b * (n + 1) := by rw [Int.mul_add, Int.mul_one]; omega
      have e2 := Int.mul_le_mul_of_nonneg_right e1 hp
      show m < (n + 1) * (b * pw b L.length)
      rw [← Int.mul_assoc, Int.mul_comm (n + 1) b]
      omega
    · cases h'
theorem pw_le (b : Int) (hb : 1 ≤ b) : ∀ (k j : Nat), k ≤ j → pw b k ≤ pw b j
  | k, 0, h => by have : k = 0 := by omega
                  subst this; exact Int.le_refl _
  | k, j + 1, h => by
    rcases Nat.lt_or_ge k (j + 1) with h' | h'
    · have h1 := pw_le b hb k j (by omega)
      have h2 := Int.mul_le_mul_of_nonneg_right hb (pw_nn b (by omega) j)
      show _ ≤ b * pw b j
      omega
    · have : k = j + 1 := by omega
      subst this; exact Int.le_refl _
theorem numR_far {s : ByteArray} {n : Int} (h : numR s = some n) : n ≤ 99999 := by
  unfold numR at h
  split at h
  · split at h
    · rename_i h1 h2
      have hl : (s.data.toList.drop 2).length ≤ 4 := by simp; omega
      have e1 := numF_lt 16 (by omega) _ _ _ (Int.le_refl _) h
      have e2 := pw_le 16 (by omega) _ _ hl
      have e3 : pw 16 4 = 65536 := by rfl
      omega
    · cases h
  · split at h
    · rename_i h1 h2
      have hl : s.data.toList.length ≤ 5 := by simp; omega
      have e1 := numF_lt 10 (by omega) _ _ _ (Int.le_refl _) h
      have e2 := pw_le 10 (by omega) _ _ hl
      have e3 : pw 10 5 = 100000 := by rfl
      omega
    · cases h
def trimR (p : ByteArray) : ByteArray := ⟨(Lib.trimPrefix p.data.toList [114]).toArray⟩
theorem trim_size (p : ByteArray) : (trimR p).size ≤ p.size := by
  show (Lib.trimPrefix p.data.toList [114]).toArray.size ≤ _
  rw [List.size_toArray]
  unfold Lib.trimPrefix
  split
  · rw [List.length_drop]; simp
  · simp
def regM (p : ByteArray) : Option Int := match numR (trimR p) with | some n => if p = rg n then some n else none | none => none
def regT : List ByteArray → Option (Int × List ByteArray)
  | [] => none
  | p :: L => (regM p).map (fun n => (n, L))
def Reg1Q (p : ByteArray) (t0 : Nat) (w : World) (ok : Bool) (w' : World) : Prop :=
  (ok = false ∧ regM p = none ∧ Below w.heap.size w w') ∨ (ok = true ∧ ∃ n, regM p = some n ∧ 0 ≤ n ∧ n ≤ 99999 ∧ w'.heap[t0]? = some (.cells #[.int .i64 n] 2 (0, 0)) ∧ But t0 w w')
def Reg1Out (p : ByteArray) (t0 : Nat) (w : World) (e : Ending) (w' : World) : Prop := ∃ ok, e = .returned (.bool ok) ∧ Reg1Q p t0 w ok w'
set_option maxRecDepth 100000 in
set_option maxHeartbeats 1600000 in
theorem reg1_any (p : ByteArray) (n0 : Int) (t0 : Nat) (w : World) (ht : w.heap[t0]? = some (.cells #[.int .i64 n0] 2 (0, 0))) (hp : p.size ≤ 8000) (hP : Pow w) : Calls Tryz.prog 134 #[.string p, .pointer (some ⟨t0, 0, none⟩)] w (Reg1Out p t0 w) := by
  have HT : Hid (w.heap[t0]? = _) := ht
  have HP : Hid (Pow w) := hP
  have HS : Hid ((trimR p).size ≤ 8000) := Nat.le_trans (trim_size p) hp
  clear ht hP
  go_enter Tryz.func134, Tryz.ntmps134
  go_wp2_with fail
  refine (shf_strings_TrimPrefix p ⟨#[114]⟩ w).mono ?_
  rintro e w' ⟨rfl, hw⟩
  have hw' := hw.symm
  subst hw'
  clear hw
  have hE : (⟨(Lib.trimPrefix p.data.toList (⟨#[114]⟩ : ByteArray).data.toList).toArray⟩ : ByteArray) = trimR p := rfl
  rw [hE]
  clear hE
  go_wp2_with fail
  refine (numberOf_any (trimR p) _ HS.out).mono ?_
  rintro e x ⟨n, ok, rfl, hN, hn0, hn1, hb⟩
  have HN : Hid (_ = _) := hN
  have HT1 : Hid (_ = _) := heap_keep HT.out hb
  have HP1 : Hid (Pow x) := HP.out.below hb
  have HB : Hid (Below w.heap.size w x) := hb
  clear hN hb HT HP
  cases ok
  · go_wp2
    go_ret
    exact ⟨false, rfl, .inl ⟨rfl, by unfold regM; rw [HN.out]; rfl, HB.out⟩⟩
  · have hn2 : n ≤ 99999 := numR_far HN.out
    by_cases hq : p = rg n
    · have HQ : Hid (regM p = some n) := by show _ = _; unfold regM; rw [HN.out]; exact if_pos hq
      have hq2 : (p.toList == (rg n).toList) = true := by rw [hq]; simp
      clear hq
      go_wp2_with fail
      refine (regText_any n x (by omega) (by omega) HP1.out).mono ?_
      rintro e x2 ⟨rfl, hb2⟩
      have HT2 : Hid (_ = _) := heap_keep HT1.out hb2
      have HB2 : Hid (Below w.heap.size w x2) := below_call HB.out hb2
      clear hb2 HT1 HB
      have z1 := free_of_one HT2.out
      have c2 := cell_of_one HT2.out
      go_wp2
      go_ret
      exact ⟨true, rfl, .inr ⟨rfl, n, HQ.out, hn0, hn2, heap_set HT2.out 0 _, But.setB (p := ⟨t0, 0, none⟩) (But.of HB2.out) rfl _⟩⟩
    · have HQ : Hid (regM p = none) := by show _ = _; unfold regM; rw [HN.out]; exact if_neg hq
      have hq2 := text_ne hq
      clear hq
      go_wp2_with fail
      refine (regText_any n x (by omega) (by omega) HP1.out).mono ?_
      rintro e x2 ⟨rfl, hb2⟩
      have HB2 : Hid (Below w.heap.size w x2) := below_call HB.out hb2
      clear hb2 HB
      go_wp2
      go_ret
      exact ⟨false, rfl, .inl ⟨rfl, HQ.out, HB2.out⟩⟩
theorem reg1_enters (args : Array Value) (W : World) : (callFunc 134 args).run Tryz.prog W = .ok (.enter 134 args) W :=
  enters_mk Tryz.func134 (by kernel_rfl) rfl args W
def RegTOut (b g : Nat) (w : World) (L : List ByteArray) (e : Ending) (w' : World) : Prop := ∃ n ok a' cap' L', e = .returned (.tuple #[.int .i64 n, .bool ok]) ∧ regT L = (if ok then some (n, L') else none) ∧ (ok = false → n = 0 ∧ L' = L) ∧ 0 ≤ n ∧ n ≤ 99999 ∧ Rd w' b g a' cap' L' ∧ But b w w'
set_option maxRecDepth 100000 in
set_option maxHeartbeats 1600000 in
theorem reg_any (b g cap : Nat) (a : Option Addr) (L : List ByteArray) (w : World) (hR : Rd w b g a cap L) (hP : Pow w) : Calls Tryz.prog 125 #[.pointer (some ⟨b, 0, none⟩)] w (RegTOut b g w L) := by
  have HR : Hid (Rd w b g a cap L) := hR
  have HP : Hid (Pow w) := hP
  have hbw := heap_lt hR.row
  clear hR hP
  have HR2 : Hid (Rd (w.alloc (.cells #[.int .i64 0] 2)) b g a cap L) := HR.out.alloc _
  have HT0 : Hid (_ = _) := heap_alloc_new w (.cells #[.int .i64 0] 2)
  have HB0 : Hid (Below w.heap.size w _) := below_new w (.cells #[.int .i64 0] 2)
  have HP0 : Hid (Pow _) := HP.out.alloc (.cells #[.int .i64 0] 2)
  have hsz : w.heap.size + 1 = (w.alloc (.cells #[.int .i64 0] 2)).heap.size := by simp
  cases L with
  | nil =>
    go_enter Tryz.func125, Tryz.ntmps125
    go_wp2_with fail
    refine (take_nil b g _ cap _ a _ HR2.out).mono ?_
    rintro e x ⟨rfl, hx⟩
    have hx' := hx.symm
    subst hx'
    clear hx
    have c1 := cell_of_one HT0.out
    go_wp2
    go_ret2
    exact ⟨0, false, a, cap, [], rfl, rfl, fun _ => ⟨rfl, rfl⟩, by omega, by omega, HR2.out, But.of HB0.out⟩
  | cons p L =>
    have hps := HR.out.text p (List.mem_cons_self ..)
    go_enter Tryz.func125, Tryz.ntmps125
    go_wp2_with fail
    refine (take_cons b g _ cap _ a p L _ (Reg1Q p w.heap.size (w.alloc (.cells #[.int .i64 0] 2))) reg1_enters HR2.out ?_).mono ?_
    · refine (reg1_any p 0 w.heap.size _ HT0.out hps HP0.out).mono ?_
      rintro e x ⟨ok, rfl, hQ⟩
      refine ⟨ok, rfl, ?_, hQ⟩
      rcases hQ with ⟨_, _, hb⟩ | ⟨_, n, _, _, _, _, hb⟩
      · exact HR2.out.call hb
      · exact HR2.out.but hb (by omega) (by have := HR.out.at'; omega)
    · rintro e x ⟨ok, y, hQ, hRy, hcase⟩
      rcases hcase with ⟨rfl, rfl, rfl⟩ | ⟨rfl, rfl, a', hRx, rfl⟩
      · rcases hQ with ⟨_, hq, hb⟩ | ⟨h, _⟩
        · have HX : Hid (Rd x b g a cap (p :: L)) := hRy
          have HB : Hid (Below w.heap.size w x) := below_call HB0.out hb
          have HQ : Hid (_ = _) := hq
          have HT1 : Hid (_ = _) := heap_keep HT0.out hb
          clear hRy hb hq
          have c1 := cell_of_one HT1.out
          go_wp2
          go_ret2
          exact ⟨0, false, a, cap, p :: L, rfl, by show (regM p).map _ = _; rw [HQ.out]; rfl, fun _ => ⟨rfl, rfl⟩, by omega, by omega, HX.out, But.of HB.out⟩
        · cases h
      · rcases hQ with ⟨h, _⟩ | ⟨_, n, hq, hn0, hn1, ht, hb⟩
        · cases h
        · have HX : Hid (Rd _ b g a' (cap - 1) L) := hRx
          have HB : Hid (Below w.heap.size w y) := But.below HB0.out hb (by omega) (by omega)
          have HQ : Hid (_ = _) := hq
          have HT1 : Hid (_ = _) := set_far (a := ⟨b, 0, none⟩) (v := .slice a' L.length (cap - 1)) (show w.heap.size ≠ b by omega) ht
          clear hRy hRx hb hq ht
          have c1 := cell_of_one HT1.out
          go_wp2
          go_ret2
          exact ⟨n, true, a', cap - 1, L, rfl, by show (regM p).map _ = _; rw [HQ.out]; rfl, fun h => (by cases h), hn0, hn1, HX.out, But.setB (p := ⟨b, 0, none⟩) (But.of HB.out) rfl _⟩
end Go.Proofs.YtodjccipfonaiaaGreatDoor
