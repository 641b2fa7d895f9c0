/- A reader takes a word. -/
import Derived.Test.YtcjpfdlodphkeaaRows
import Derived.WalkKit
import Derived.WalkSpells
import Derived.WalkLawsBesides
import Derived.Outline
import Derived.RegionTactic
import Derived.BigRegion
import Derived.Deep.QuietTactic
import Derived.BigQuiet
import Derived.Deep.RegionHeld3
import Derived.Test.YtcjpfdlodphkeaaBase
import Derived.Test.YtcjpfdlodphkeaaRes2
import Derived.Test.YtcjpfdlodphkeaaName
import Derived.Test.YtcjpfdlodphkeaaJoin
import Derived.Test.YtcjpfdlodphkeaaRdN
namespace Go.Proofs.Ytcjpfdlodphkeaa
open Go.RowKit
set_option linter.unusedVariables false

theorem name_enters (args : Array Value) (W : World) : (callFunc 27 args).run Try.prog W = .ok (.enter 27 args) W :=
  enters_mk Try.func27 (by kernel_rfl) rfl args W
def NameOut (b g : Nat) (w : World) (L : List ByteArray) (e : Ending) (w' : World) : Prop := ∃ p ok a' cap' L', e = .returned (.tuple #[.string p, .bool ok]) ∧ nameT L = (if ok then some (p, L') else none) ∧ (ok = false → L' = L) ∧ Rd w' b g a' cap' L' ∧ But b w w'
theorem takeName_any (b g cap : Nat) (a : Option Addr) (L : List ByteArray) (w : World) (hR : Rd w b g a cap L) : Calls Try.prog 47 #[.pointer (some ⟨b, 0, none⟩), .func (.func 27) #[] #[]] w (NameOut b g w L) := by
  cases L with
  | nil =>
    refine (take_nil b g _ cap _ a w hR).mono ?_
    rintro e x ⟨rfl, rfl⟩
    exact ⟨⟨#[]⟩, false, a, cap, [], rfl, rfl, fun _ => rfl, hR, But.refl _ _⟩
  | cons p L =>
    have hps := hR.text p (List.mem_cons_self ..)
    refine (take_cons b g _ cap #[] a p L w (fun ok x => ok = nameB p ∧ x = w) name_enters hR ?_).mono ?_
    · refine (implName_any p w (by unfold maxLen; omega)).mono ?_
      rintro e x ⟨rfl, rfl⟩
      exact ⟨_, rfl, hR, rfl, rfl⟩
    · rintro e x ⟨ok, y, ⟨hok, rfl⟩, hRy, hcase⟩
      rcases hcase with ⟨rfl, rfl, rfl⟩ | ⟨rfl, rfl, a', hRx, rfl⟩
      · exact ⟨⟨#[]⟩, false, a, cap, p :: L, rfl, by show (if nameB p = true then _ else _) = _; rw [← hok]; rfl, fun _ => rfl, hR, But.refl _ _⟩
      · exact ⟨p, true, a', cap - 1, L, rfl, (by show (if nameB p = true then _ else _) = _; rw [← hok, if_pos rfl]), fun h => (by cases h), hRx, But.setB (p := ⟨b, 0, none⟩) (But.refl _ _) rfl _⟩
def RWordOut (b g : Nat) (w : World) (L : List ByteArray) (e : Ending) (w' : World) : Prop := ∃ nm n ok a' cap' L', e = .returned (.tuple #[.agg #[.string nm, .int .i64 n], .bool ok]) ∧ wordT L = (if ok then some ((nm, n), L') else none) ∧ Rd w' b g a' cap' L' ∧ But b w w'
set_option maxRecDepth 100000 in
set_option maxHeartbeats 3200000 in
theorem word_any (b g cap : Nat) (a : Option Addr) (L : List ByteArray) (w : World) (hR : Rd w b g a cap L) : Calls Try.prog 21 #[.pointer (some ⟨b, 0, none⟩)] w (RWordOut b g w L) := by
  have HR : Hid (Rd w b g a cap L) := hR
  have hbw := heap_lt hR.row
  have hgw : g ≠ w.heap.size := by have := hR.at'; omega
  clear hR
  go_enter Try.func21, Try.ntmps21
  go_wp2_with fail
  refine (number_any 65535 b g cap a L _ (HR.out.alloc _)).mono ?_
  rintro e x1 ⟨n, ok, a1, cap1, L1, rfl, hN, hL1, hn0, hn1, hR1, hB1⟩
  have HV1 : Hid (x1.heap[w.heap.size]? = _) := But.keep (heap_alloc_new w _) hB1 (by omega)
  have HB1 : Hid (But b w x1) := (But.of (below_new w _)).trans hB1
  have HR1 : Hid (_) := hR1
  have HN : Hid (_ = _) := hN
  clear hN hR1 hB1
  obtain ⟨c0, c1, z0, z1⟩ := two_cells HV1.out
  have hs1 := heap_lt HV1.out
  cases ok
  · obtain ⟨rfl, rfl⟩ := hL1 rfl
    go_wp2_with fail
    refine (takeName_any b g cap1 a1 L1 x1 HR1.out).mono ?_
    rintro e x2 ⟨p, ok, a2, cap2, L2, rfl, hN2, hL2, hR2, hB2⟩
    have HV2 : Hid (x2.heap[w.heap.size]? = _) := But.keep HV1.out hB2 (by omega)
    have HB2 : Hid (But b w x2) := HB1.out.trans hB2
    have HR2 : Hid (_) := hR2
    have HN2 : Hid (_ = _) := hN2
    clear c0 c1 z0 z1 hN2 hR2 hB2 HB1 HV1 HR1
    obtain ⟨c0, c1, z0, z1⟩ := two_cells HV2.out
    have hs2 := heap_lt HV2.out
    have hgl := HR2.out.at'
    cases ok
    · have HW : Hid (wordT L1 = none) := by show _ = _; unfold wordT; rw [HN.out, HN2.out]; rfl
      go_wp2
      exact bodyPost_ret (results_row1 Try.results21 _ _ w.heap.size 23 _ (0, 0) _ rfl (set_two HV2.out) Try.underlying23 rfl (by kernel_rfl)) rfl ⟨⟨#[]⟩, 0, false, a2, cap2, L2, rfl, HW.out, Rd.setN (p := ⟨w.heap.size, 1, none⟩) (by show w.heap.size ≠ b; omega) hgw (Rd.setN (p := ⟨w.heap.size, 0, none⟩) (by show w.heap.size ≠ b; omega) hgw HR2.out), (HB2.out.setN (Nat.le_refl _) _).setN (Nat.le_refl _) _⟩
    · have hps : p.size ≤ 20 := by
        have h := HN2.out
        exact (name_parts (nameT_some h).2).2.1
      go_wp2_with fail
      refine (join_one p _ (by omega)).mono ?_
      rintro e x3 ⟨rfl, hb3⟩
      have hsz3 := hb3.size
      have HV3 : Hid (x3.heap[w.heap.size]? = _) := heap_keep HV2.out hb3
      have HB3 : Hid (But b w x3) := HB2.out.call hb3
      have HR3 : Hid (_) := HR2.out.call hb3
      clear c0 c1 z0 z1 hb3 HB2 HV2 HR2
      obtain ⟨c0, c1, z0, z1⟩ := two_cells HV3.out
      have hs3 := heap_lt HV3.out
      have HU : Hid (_ = _) := heap_alloc_new x3 (.cells #[.string p, .int .i64 0] 23)
      go_wp2_with fail
      refine (sign_any b g cap2 a2 L2 _ (HR3.out.alloc _)).mono ?_
      rintro e x4 ⟨a4, cap4, rfl, hR4, hB4⟩
      have HV4 : Hid (x4.heap[w.heap.size]? = _) := But.keep (heap_more HV3.out _) hB4 (by omega)
      have HU4 : Hid (x4.heap[x3.heap.size]? = _) := But.keep HU.out hB4 (by omega)
      have HB4 : Hid (But b w x4) := (HB3.out.alloc _).trans hB4
      have HR4 : Hid (_) := hR4
      clear c0 c1 z0 z1 hB4 hR4 HB3 HV3 HR3 HU
      obtain ⟨c0, c1, z0, z1⟩ := two_cells HV4.out
      obtain ⟨u0, u1, v0, v1⟩ := two_cells HU4.out
      have hs4 := heap_lt HU4.out
      have HW0 : Hid (wordT L1 = if (signT L2).1 = 0 then some ((p, 0), L2) else (match numT 32767 (signT L2).2 with | some (n, L2') => some ((p, (signT L2).1 * n), L2') | none => none)) := by
        show _ = _; unfold wordT; rw [HN.out, HN2.out]; rfl
      have hgu : g ≠ x3.heap.size := by omega
      rcases signT_cases L2 with ⟨hz1, hz2⟩ | ⟨c, L3, hc, hL3, hz⟩
      · have HW : Hid (wordT L1 = some ((p, 0), L2)) := by show _ = _; rw [HW0.out, if_pos hz1]
        have HRz : Hid (Rd x4 b g a4 cap4 L2) := by have h := HR4.out; rw [hz2] at h; exact h
        rw [hz1]
        clear hz1 hz2 HR4 HW0
        go_wp2
        exact bodyPost_ret (results_row1 Try.results21 _ _ w.heap.size 23 _ (0, 0) _ rfl (set_two HV4.out) Try.underlying23 rfl (by kernel_rfl)) rfl ⟨p, 0, true, a4, cap4, L2, rfl, HW.out, Rd.setN (p := ⟨w.heap.size, 1, none⟩) (by show w.heap.size ≠ b; omega) hgw (Rd.setN (p := ⟨w.heap.size, 0, none⟩) (by show w.heap.size ≠ b; omega) hgw HRz.out), (HB4.out.setN (Nat.le_refl _) _).setN (Nat.le_refl _) _⟩
      · have HW1 : Hid (wordT L1 = (match numT 32767 L3 with | some (n, L2') => some ((p, sgn c * n), L2') | none => none)) := by show _ = _; rw [HW0.out, hz]; dsimp only; rw [if_neg (sgn_ne c)]
        have HRz : Hid (Rd x4 b g a4 cap4 L3) := by have h := HR4.out; rw [hz] at h; exact h
        have hsv : (signT L2).1 = sgn c := by rw [hz]
        rw [hsv]
        have hs0 : (sgn c == 0) = false := by rw [beq_eq_false_iff_ne]; exact sgn_ne c
        have hs1 : (sgn c != 0) = true := by rw [bne_iff_ne]; exact sgn_ne c
        have hs2 : sgn c = 1 ∨ sgn c = -1 := by unfold sgn; split <;> omega
        clear hz hsv hL3 hc HW0 HR4
        generalize sgn c = sg at *
        go_wp2_with fail
        refine (number_any 32767 b g cap4 a4 L3 x4 HRz.out).mono ?_
        rintro e x5 ⟨n5, ok5, a5, cap5, L5, rfl, hN5, hL5, hm0, hm1, hR5, hB5⟩
        have HV5 : Hid (x5.heap[w.heap.size]? = _) := But.keep HV4.out hB5 (by omega)
        have HU5 : Hid (x5.heap[x3.heap.size]? = _) := But.keep HU4.out hB5 (by omega)
        have HB5 : Hid (But b w x5) := HB4.out.trans hB5
        have HR5 : Hid (_) := hR5
        have HW : Hid (wordT L1 = if ok5 then some ((p, sg * n5), L5) else none) := by
          show _ = _; rw [HW1.out, hN5]; cases ok5 <;> rfl
        clear c0 c1 z0 z1 u0 u1 v0 v1 hB5 hR5 hN5 HW1 HV4 HU4 HB4 HRz
        obtain ⟨c0, c1, z0, z1⟩ := two_cells HV5.out
        obtain ⟨u0, u1, v0, v1⟩ := two_cells HU5.out
        have hb1 : sg * n5 ≤ 1048576 := by rcases hs2 with rfl | rfl <;> omega
        have hb2 : -1048576 ≤ sg * n5 := by rcases hs2 with rfl | rfl <;> omega
        clear hs2
        go_wp2
        have hws : w.heap.size ≤ x3.heap.size := by omega
        exact bodyPost_ret (results_row1 Try.results21 _ _ w.heap.size 23 _ (0, 0) _ rfl (set_two (set_far (a := ⟨x3.heap.size, 1, none⟩) (v := .int .i64 (sg * n5)) (show w.heap.size ≠ x3.heap.size by omega) HV5.out)) Try.underlying23 rfl (by kernel_rfl)) rfl ⟨p, sg * n5, ok5, a5, cap5, L5, rfl, HW.out, Rd.setN (p := ⟨w.heap.size, 1, none⟩) (by show w.heap.size ≠ b; omega) hgw (Rd.setN (p := ⟨w.heap.size, 0, none⟩) (by show w.heap.size ≠ b; omega) hgw (Rd.setN (p := ⟨x3.heap.size, 1, none⟩) (by show x3.heap.size ≠ b; omega) hgu HR5.out)), ((But.setN (p := ⟨x3.heap.size, 1, none⟩) HB5.out hws _).setN (Nat.le_refl _) _).setN (Nat.le_refl _) _⟩
  · have HW : Hid (wordT L = some ((⟨#[]⟩, n), L1)) := by show _ = _; unfold wordT; rw [HN.out]; rfl
    go_wp2
    exact bodyPost_ret (results_row1 Try.results21 _ _ w.heap.size 23 _ (0, 0) _ rfl (set_two HV1.out) Try.underlying23 rfl (by kernel_rfl)) rfl ⟨⟨#[]⟩, n, true, a1, cap1, L1, rfl, HW.out, Rd.setN (p := ⟨w.heap.size, 1, none⟩) (by show w.heap.size ≠ b; omega) hgw (Rd.setN (p := ⟨w.heap.size, 0, none⟩) (by show w.heap.size ≠ b; omega) hgw HR1.out), (HB1.out.setN (Nat.le_refl _) _).setN (Nat.le_refl _) _⟩
set_option maxRecDepth 100000 in
set_option maxHeartbeats 1600000 in
theorem atEnd_any (b g cap : Nat) (a : Option Addr) (L : List ByteArray) (w : World) (hR : Rd w b g a cap L) : Calls Try.prog 22 #[.pointer (some ⟨b, 0, none⟩)] w fun e w' => e = .returned (.bool L.isEmpty) ∧ w' = w := by
  have c0 := cell_of_one hR.row
  cases L with
  | nil =>
    go_enter Try.func22, Try.ntmps22
    go_wp2
    go_ret
    exact ⟨rfl, rfl⟩
  | cons p L =>
    have hl0 : ((L.length : Int) + 1 == 0) = false := by rw [beq_eq_false_iff_ne]; omega
    go_enter Try.func22, Try.ntmps22
    go_wp2
    go_ret
    exact ⟨rfl, rfl⟩
end Go.Proofs.Ytcjpfdlodphkeaa
