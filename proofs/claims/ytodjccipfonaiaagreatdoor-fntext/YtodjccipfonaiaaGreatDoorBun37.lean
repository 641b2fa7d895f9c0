/- A reader takes the operands of an insn. -/
import Derived.Test.YtodjccipfonaiaaGreatDoorRows
import Derived.WalkKit
import Derived.WalkSpells
import Derived.WalkLawsBesides
import Derived.Outline
import Derived.RegionTactic
import Derived.BigRegion
import Derived.Deep.QuietTactic
import Derived.BigQuiet
import Derived.Deep.RegionHeld3
import Derived.Test.YtodjccipfonaiaaGreatDoorBun0
import Derived.Test.YtodjccipfonaiaaGreatDoorBun3
import Derived.Test.YtodjccipfonaiaaGreatDoorBun34
import Derived.Test.YtodjccipfonaiaaGreatDoorBun35
import Derived.ChangeAlike
import Derived.Test.YtodjccipfonaiaaGreatDoorBun36
import Derived.Test.YtodjccipfonaiaaGreatDoorTextIX
import Derived.Test.YtodjccipfonaiaaGreatDoorOpsAX
namespace Go.Proofs.YtodjccipfonaiaaGreatDoor
open Go.RowKit
set_option linter.unusedVariables false

def putS (y : OpdW) (cs : Array Value) : Array Value := setW (setO cs 2 y.1.1 y.1.2.1 y.1.2.2.1 y.1.2.2.2) 11 y.2.1 y.2.2
def putD (y : OpdW) (cs : Array Value) : Array Value := setW (setO cs 6 y.1.1 y.1.2.1 y.1.2.2.1 y.1.2.2.2) 13 y.2.1 y.2.2
theorem putS_size (y : OpdW) (cs : Array Value) : (putS y cs).size = cs.size := by unfold putS; rw [setW_size, setO_size]
theorem putD_size (y : OpdW) (cs : Array Value) : (putD y cs).size = cs.size := by unfold putD; rw [setW_size, setO_size]
def PartOut {α : Type} (F : List ByteArray → Option (α × List ByteArray)) (put : α → Array Value → Array Value) (b g t : Nat) (cs : Array Value) (w : World) (L : List ByteArray) (e : Ending) (w' : World) : Prop :=
  ∃ cs' ok a' cap' L', e = .returned (.bool ok) ∧ (cs'.size = 17 ∧ (Fit cs → Fit cs')) ∧ Rd w' b g a' cap' L' ∧ w'.heap[t]? = some (.cells cs' 64 (0, 0)) ∧ But2 b t w w' ∧ ((ok = false ∧ F L = none) ∨ (ok = true ∧ ∃ y, F L = some (y, L') ∧ cs' = put y cs))
theorem onePart_any (w0 : World) (b g cap t : Nat) (a : Option Addr) (L : List ByteArray) (w : World) (cs : Array Value) (hR : Rd w b g a cap L) (hP : Pow w0) (hF : Far w0 w b) (hT : w.heap[t]? = some (.cells cs 64 (0, 0))) (hc : cs.size = 17) (htb : t ≠ b) (hgt : g ≠ t) : Calls Tryz.prog 100 #[.pointer (some ⟨b, 0, none⟩), .pointer (some ⟨t, 0, none⟩)] w (PartOut operT putS b g t cs w L) := by
  refine (oneOpd_any w0 b g cap t a L w cs hR hP hF hT hc htb hgt).mono ?_
  rintro e w' ⟨m, r, n, l, nm, k, ok, a', cap', L', rfl, hN, hR', hT', hB⟩
  refine ⟨_, ok, a', cap', L', rfl, ?_, hR', hT', hB, ?_⟩
  · exact ⟨by rw [setW_size, setO_size]; exact hc, fun h => fit_W11 (fit_O2 h _ _ _ _) _ _⟩
  · cases ok
    · exact .inl ⟨rfl, hN⟩
    · exact .inr ⟨rfl, _, hN, rfl⟩
end Go.Proofs.YtodjccipfonaiaaGreatDoor
namespace Go.Proofs.YtodjccipfonaiaaGreatDoor
open Go.RowKit
set_option linter.unusedVariables false

def twoT (L : List ByteArray) : Option ((OpdW × OpdW) × List ByteArray) := match operT L with
  | none => none
  | some (s, L1) => if (takeT ⟨#[44]⟩ L1).1 = true then (match operT (takeT ⟨#[32]⟩ (takeT ⟨#[44]⟩ L1).2).2 with | none => none | some (d, L3) => some ((s, d), L3)) else none
def putSD (y : OpdW × OpdW) (cs : Array Value) : Array Value := putD y.2 (putS y.1 cs)
set_option maxRecDepth 100000 in
set_option maxHeartbeats 3200000 in
theorem twoPart_any (w0 : World) (b g cap t : Nat) (a : Option Addr) (L : List ByteArray) (w : World) (cs : Array Value) (hR : Rd w b g a cap L) (hP : Pow w0) (hF : Far w0 w b) (hT : w.heap[t]? = some (.cells cs 64 (0, 0))) (hc : cs.size = 17) (htb : t ≠ b) (hgt : g ≠ t) : Calls Tryz.prog 99 #[.pointer (some ⟨b, 0, none⟩), .pointer (some ⟨t, 0, none⟩)] w (PartOut twoT putSD b g t cs w L) := by
  have HR : Hid (Rd w b g a cap L) := hR
  have HT : Hid (w.heap[t]? = _) := hT
  have HP : Hid (Pow w0) := hP
  have HF : Hid (Far w0 w b) := hF
  have hbw := heap_lt hR.row
  clear hR hT hP hF
  go_enter Tryz.func99, Tryz.ntmps99
  go_wp2_with fail
  refine (operand_any w0 b g cap a L _ HR.out HP.out HF.out).mono ?_
  rintro e x1 ⟨m, r, n, l, nm, k, ok, a1, cap1, L1, rfl, hN, hR1, hB1⟩
  have HU1 : Hid (_ = _) := heap_alloc_new x1 (.cells #[.int .i64 m, .int .i64 r, .int .i64 n, .bool l, .string nm, .int .i64 k] 130)
  have HR1 : Hid (Rd (x1.alloc (.cells #[.int .i64 m, .int .i64 r, .int .i64 n, .bool l, .string nm, .int .i64 k] 130)) b g a1 cap1 L1) := hR1.alloc _
  have HB1 : Hid (But b w (x1.alloc (.cells #[.int .i64 m, .int .i64 r, .int .i64 n, .bool l, .string nm, .int .i64 k] 130))) := hB1.alloc _
  have HN : Hid (_ = _) := hN
  have hs1 := hB1.size
  have HT1 : Hid (_ = _) := But.keep HT.out HB1.out htb
  have htx : t < x1.heap.size := Nat.lt_of_lt_of_le (heap_lt HT.out) hs1
  clear hR1 hB1 hN HR HT
  cases ok
  · go_wp2
    go_ret
    exact ⟨cs, false, a1, cap1, L1, rfl, ⟨hc, id⟩, HR1.out, HT1.out, But2.of HB1.out, .inl ⟨rfl, by unfold twoT; rw [HN.out]; rfl⟩⟩
  have HW : Hid (twoT L = if (takeT ⟨#[44]⟩ L1).1 = true then (match operT (takeT ⟨#[32]⟩ (takeT ⟨#[44]⟩ L1).2).2 with | none => none | some (d, L3) => some ((((m, r, n, l), nm, k), d), L3)) else none) := by show _ = _; unfold twoT; rw [HN.out]; rfl
  go_wp2_with fail
  refine (mark_any ⟨#[44]⟩ b g cap1 a1 L1 _ HR1.out).mono ?_
  rintro e x2 ⟨a2, cap2, rfl, hR2, hB2⟩
  have HU2 : Hid (_ = _) := But.keep HU1.out hB2 (by omega)
  have HR2 : Hid (_) := hR2
  have HB2 : Hid (But b w x2) := HB1.out.trans hB2
  have HT2 : Hid (_ = _) := But.keep HT1.out hB2 htb
  have hs2 := heap_lt HU2.out
  clear hR2 hB2 HN HR1 HT1 HU1 HB1
  generalize (takeT ⟨#[44]⟩ L1).1 = t1 at *
  generalize (takeT ⟨#[44]⟩ L1).2 = L2 at *
  cases t1
  · go_wp2
    go_ret
    exact ⟨cs, false, a2, cap2, L2, rfl, ⟨hc, id⟩, HR2.out, HT2.out, But2.of HB2.out, .inl ⟨rfl, by rw [HW.out, if_neg (by decide)]⟩⟩
  go_wp2_with fail
  refine (mark_any ⟨#[32]⟩ b g cap2 a2 L2 _ HR2.out).mono ?_
  rintro e x3 ⟨a3, cap3, rfl, hR3, hB3⟩
  have HU3 : Hid (_ = _) := But.keep HU2.out hB3 (by omega)
  have HR3 : Hid (_) := hR3
  have HB3 : Hid (But b w x3) := HB2.out.trans hB3
  have HT3 : Hid (_ = _) := But.keep HT2.out hB3 htb
  have hs3 := heap_lt HU3.out
  clear hR3 hB3 HR2 HT2 HU2 HB2
  generalize (takeT ⟨#[32]⟩ L2).1 = t2 at *
  generalize (takeT ⟨#[32]⟩ L2).2 = L3 at *
  go_wp2_with fail
  refine (operand_any w0 b g cap3 a3 L3 _ HR3.out HP.out (HF.out.but HB3.out)).mono ?_
  rintro e x4 ⟨m2, r2, n2, l2, nm2, k2, ok, a4, cap4, L4, rfl, hN4, hR4, hB4⟩
  have HU4 : Hid (_ = _) := But.keep HU3.out hB4 (by omega)
  have HR4 : Hid (_) := hR4
  have HB4 : Hid (But b w x4) := HB3.out.trans hB4
  have HT4 : Hid (_ = _) := But.keep HT3.out hB4 htb
  have HN4 : Hid (_ = _) := hN4
  have hs4 := heap_lt HU4.out
  have hst := heap_lt HT4.out
  have hnt : x1.heap.size ≠ t := by omega
  have hnt2 : t ≠ x1.heap.size := by omega
  clear hR4 hB4 hN4 HR3 HT3 HU3 HB3
  obtain ⟨u0, u1, u2, u3, u4, u5⟩ := cells6 HU4.out
  have c2 := cell17 HT4.out hc 2 (by omega)
  have z2 : x4.frozen? ⟨t, 2, none⟩ = false := frozen_of_row _ _ 2 _ _ HT4.out
  have c3 := cell17 HT4.out hc 3 (by omega)
  have z3 : x4.frozen? ⟨t, 3, none⟩ = false := frozen_of_row _ _ 3 _ _ HT4.out
  have c4 := cell17 HT4.out hc 4 (by omega)
  have z4 : x4.frozen? ⟨t, 4, none⟩ = false := frozen_of_row _ _ 4 _ _ HT4.out
  have c5 := cell17 HT4.out hc 5 (by omega)
  have z5 : x4.frozen? ⟨t, 5, none⟩ = false := frozen_of_row _ _ 5 _ _ HT4.out
  have c6 := cell17 HT4.out hc 6 (by omega)
  have z6 : x4.frozen? ⟨t, 6, none⟩ = false := frozen_of_row _ _ 6 _ _ HT4.out
  have c7 := cell17 HT4.out hc 7 (by omega)
  have z7 : x4.frozen? ⟨t, 7, none⟩ = false := frozen_of_row _ _ 7 _ _ HT4.out
  have c8 := cell17 HT4.out hc 8 (by omega)
  have z8 : x4.frozen? ⟨t, 8, none⟩ = false := frozen_of_row _ _ 8 _ _ HT4.out
  have c9 := cell17 HT4.out hc 9 (by omega)
  have z9 : x4.frozen? ⟨t, 9, none⟩ = false := frozen_of_row _ _ 9 _ _ HT4.out
  have c11 := cell17 HT4.out hc 11 (by omega)
  have z11 : x4.frozen? ⟨t, 11, none⟩ = false := frozen_of_row _ _ 11 _ _ HT4.out
  have c12 := cell17 HT4.out hc 12 (by omega)
  have z12 : x4.frozen? ⟨t, 12, none⟩ = false := frozen_of_row _ _ 12 _ _ HT4.out
  have c13 := cell17 HT4.out hc 13 (by omega)
  have z13 : x4.frozen? ⟨t, 13, none⟩ = false := frozen_of_row _ _ 13 _ _ HT4.out
  have c14 := cell17 HT4.out hc 14 (by omega)
  have z14 : x4.frozen? ⟨t, 14, none⟩ = false := frozen_of_row _ _ 14 _ _ HT4.out
  have HRz : Hid (Rd _ b g a4 cap4 L4) := (((HR4.out.six6 htb hgt 2 3 4 5 11 12 (.int .i64 m) (.int .i64 r) (.int .i64 n) (.bool l) (.string nm) (.int .i64 k)).six6 htb hgt 6 7 8 9 13 14 (.int .i64 m2) (.int .i64 r2) (.int .i64 n2) (.bool l2) (.string nm2) (.int .i64 k2)).alloc (.cells #[.int .i64 m2, .int .i64 r2, .int .i64 n2, .bool l2, .string nm2, .int .i64 k2] 130)).drew.drew
  have HTz : Hid (_ = some (Obj.cells (setW (setO (setW (setO cs 2 m r n l) 11 nm k) 6 m2 r2 n2 l2) 13 nm2 k2) 64 (0, 0))) := heap_more (heap_setW (heap_setO (heap_setW (heap_setO HT4.out 2 m r n l) 11 nm k) 6 m2 r2 n2 l2) 13 nm2 k2) (.cells #[.int .i64 m2, .int .i64 r2, .int .i64 n2, .bool l2, .string nm2, .int .i64 k2] 130)
  have HBz : Hid (But2 b t w _) := ((((But2.of HB4.out).six6 2 3 4 5 11 12 (.int .i64 m) (.int .i64 r) (.int .i64 n) (.bool l) (.string nm) (.int .i64 k)).six6 6 7 8 9 13 14 (.int .i64 m2) (.int .i64 r2) (.int .i64 n2) (.bool l2) (.string nm2) (.int .i64 k2)).alloc (.cells #[.int .i64 m2, .int .i64 r2, .int .i64 n2, .bool l2, .string nm2, .int .i64 k2] 130)).drew.drew
  have HSz : Hid ((setW (setO (setW (setO cs 2 m r n l) 11 nm k) 6 m2 r2 n2 l2) 13 nm2 k2).size = 17 ∧ (Fit cs → Fit (setW (setO (setW (setO cs 2 m r n l) 11 nm k) 6 m2 r2 n2 l2) 13 nm2 k2))) := ⟨by rw [setW_size, setO_size, setW_size, setO_size]; exact hc, fun h => fit_W13 (fit_O6 (fit_W11 (fit_O2 h _ _ _ _) _ _) _ _ _ _) _ _⟩
  have HQz : Hid ((ok = false ∧ twoT L = none) ∨ (ok = true ∧ ∃ y, twoT L = some (y, L4) ∧ setW (setO (setW (setO cs 2 m r n l) 11 nm k) 6 m2 r2 n2 l2) 13 nm2 k2 = putSD y cs)) := by
    show _ ∨ _
    cases ok
    · exact .inl ⟨rfl, by rw [HW.out, if_pos trivial, HN4.out]; rfl⟩
    · exact .inr ⟨rfl, (((m, r, n, l), nm, k), ((m2, r2, n2, l2), nm2, k2)), by rw [HW.out, if_pos trivial, HN4.out]; rfl, rfl⟩
  go_wp2
  go_region
  go_wp2
  go_region
  go_wp2
  go_ret
  exact ⟨setW (setO (setW (setO cs 2 m r n l) 11 nm k) 6 m2 r2 n2 l2) 13 nm2 k2, ok, a4, cap4, L4, rfl, HSz.out, HRz.out, HTz.out, HBz.out, HQz.out⟩
end Go.Proofs.YtodjccipfonaiaaGreatDoor
namespace Go.Proofs.YtodjccipfonaiaaGreatDoor
open Go.RowKit
set_option linter.unusedVariables false

def jumpT (L : List ByteArray) : Option ((Int ⊕ (ByteArray × Int)) × List ByteArray) := if (takeT ⟨#[36]⟩ L).1 = true then mapO (wayT (takeT ⟨#[36]⟩ L).2) Sum.inl else (match wordT (takeT ⟨#[36]⟩ L).2 with | some (x, L1) => if x.1 = ⟨#[]⟩ then none else some (Sum.inr x, L1) | none => none)
def putJ (y : Int ⊕ (ByteArray × Int)) (cs : Array Value) : Array Value := match y with
  | .inl j => cs.setIfInBounds 10 (.int .i64 j)
  | .inr x => setW cs 15 x.1 x.2
theorem putJ_size (y : Int ⊕ (ByteArray × Int)) (cs : Array Value) : (putJ y cs).size = cs.size := by cases y <;> simp [putJ, setW]
set_option maxRecDepth 100000 in
set_option maxHeartbeats 3200000 in
theorem jumpPart_any (b g cap t : Nat) (a : Option Addr) (L : List ByteArray) (w : World) (cs : Array Value) (hR : Rd w b g a cap L) (hT : w.heap[t]? = some (.cells cs 64 (0, 0))) (hc : cs.size = 17) (htb : t ≠ b) (hgt : g ≠ t) : Calls Tryz.prog 101 #[.pointer (some ⟨b, 0, none⟩), .pointer (some ⟨t, 0, none⟩)] w (PartOut jumpT putJ b g t cs w L) := by
  have HR : Hid (Rd w b g a cap L) := hR
  have HT : Hid (w.heap[t]? = _) := hT
  clear hR hT
  go_enter Tryz.func101, Tryz.ntmps101
  go_wp2_with fail
  refine (mark_any ⟨#[36]⟩ b g cap a L _ HR.out).mono ?_
  rintro e x1 ⟨a1, cap1, rfl, hR1, hB1⟩
  have HR1 : Hid (_) := hR1
  have HB1 : Hid (But b w x1) := hB1
  have HT1 : Hid (_ = _) := But.keep HT.out hB1 htb
  clear hR1 hB1 HR HT
  have HW : Hid (jumpT L = if (takeT ⟨#[36]⟩ L).1 = true then mapO (wayT (takeT ⟨#[36]⟩ L).2) Sum.inl else (match wordT (takeT ⟨#[36]⟩ L).2 with | some (x, L1) => if x.1 = ⟨#[]⟩ then none else some (Sum.inr x, L1) | none => none)) := rfl
  generalize (takeT ⟨#[36]⟩ L).1 = t1 at *
  generalize (takeT ⟨#[36]⟩ L).2 = L1 at *
  cases t1
  · go_wp2_with fail
    refine (word_any b g cap1 a1 L1 _ HR1.out).mono ?_
    rintro e x2 ⟨nm, k, ok, a2, cap2, L2, rfl, hN, hR2, hB2⟩
    have HR2 : Hid (_) := hR2
    have HB2 : Hid (But b w x2) := HB1.out.trans hB2
    have HT2 : Hid (_ = _) := But.keep HT1.out hB2 htb
    have HN : Hid (_ = _) := hN
    clear hR2 hB2 hN HR1 HT1 HB1
    have hst := heap_lt HT2.out
    have c15 := cell17 HT2.out hc 15 (by omega)
    have c16 := cell17 HT2.out hc 16 (by omega)
    have z15 : x2.frozen? ⟨t, 15, none⟩ = false := frozen_of_row _ _ 15 _ _ HT2.out
    have z16 : x2.frozen? ⟨t, 16, none⟩ = false := frozen_of_row _ _ 16 _ _ HT2.out
    have HR3 : Hid (Rd _ b g a2 cap2 L2) := (Rd.setN (p := ⟨t, 16, none⟩) (v := .int .i64 k) htb hgt (Rd.setN (p := ⟨t, 15, none⟩) (v := .string nm) htb hgt HR2.out)).alloc (.cells #[.string nm, .int .i64 k] 30)
    have HT3 : Hid (_ = _) := heap_more (heap_setW HT2.out 15 nm k) (.cells #[.string nm, .int .i64 k] 30)
    have HB3 : Hid (But2 b t w _) := (((But2.of HB2.out).setT (p := ⟨t, 15, none⟩) rfl (.string nm)).setT (p := ⟨t, 16, none⟩) rfl (.int .i64 k)).alloc (.cells #[.string nm, .int .i64 k] 30)
    cases ok
    · go_wp2
      go_ret
      exact ⟨_, false, a2, cap2, L2, rfl, ⟨by rw [setW_size]; exact hc, fun h => fit_W15 h _ _⟩, HR3.out, HT3.out, HB3.out, .inl ⟨rfl, by rw [HW.out, if_neg (by decide), HN.out]; rfl⟩⟩
    · by_cases hnm : nm = ⟨#[]⟩
      · have h1 : nm.toList.isEmpty = true := by rw [hnm, ByteArray.toList_eq]; rfl
        have HQ : Hid (jumpT L = none) := by show _ = _; rw [HW.out, if_neg (by decide), HN.out]; exact if_pos hnm
        clear hnm
        go_wp2
        go_ret
        exact ⟨_, false, a2, cap2, L2, rfl, ⟨by rw [setW_size]; exact hc, fun h => fit_W15 h _ _⟩, HR3.out, HT3.out, HB3.out, .inl ⟨rfl, HQ.out⟩⟩
      · have h1 : nm.toList.isEmpty = false := by cases h : nm.toList.isEmpty with | false => rfl | true => exact absurd (text_no [] hnm) (by rw [List.isEmpty_iff.1 h]; decide)
        have HQ : Hid (jumpT L = some (Sum.inr (nm, k), L2)) := by show _ = _; rw [HW.out, if_neg (by decide), HN.out]; exact if_neg hnm
        clear hnm
        go_wp2
        go_ret
        exact ⟨_, true, a2, cap2, L2, rfl, ⟨by rw [setW_size]; exact hc, fun h => fit_W15 h _ _⟩, HR3.out, HT3.out, HB3.out, .inr ⟨rfl, _, HQ.out, rfl⟩⟩
  · go_wp2_with fail
    refine (way_any b g cap1 t a1 L1 _ cs HR1.out HT1.out hc htb).mono ?_
    rintro e x2 ⟨x, n, ok, a2, cap2, L2, rfl, hN, hn0, hn1, hR2, hB2, hcase⟩
    have HB2 : Hid (But b w x) := HB1.out.trans hB2
    have HR2 : Hid (_) := hR2
    have HT2 : Hid (_ = _) := But.keep HT1.out hB2 htb
    have HN : Hid (_ = _) := hN
    clear hR2 hB2 hN
    rcases hcase with ⟨rfl, rfl⟩ | ⟨rfl, rfl⟩
    · go_wp2
      go_ret
      exact ⟨cs, false, a2, cap2, L2, rfl, ⟨hc, id⟩, HR2.out, HT2.out, But2.of HB2.out, .inl ⟨rfl, by rw [HW.out, if_pos trivial, HN.out]; rfl⟩⟩
    · go_wp2
      go_ret
      exact ⟨_, true, a2, cap2, L2, rfl, ⟨by rw [Array.size_setIfInBounds]; exact hc, fun h => fit_J h _⟩, Rd.setN (p := ⟨t, 10, none⟩) htb hgt HR2.out, heap_set HT2.out 10 _, (But2.of HB2.out).setT (p := ⟨t, 10, none⟩) rfl _, .inr ⟨rfl, _, by rw [HW.out, if_pos trivial, HN.out]; rfl, rfl⟩⟩
end Go.Proofs.YtodjccipfonaiaaGreatDoor
namespace Go.Proofs.YtodjccipfonaiaaGreatDoor
open Go.RowKit
set_option linter.unusedVariables false

set_option maxRecDepth 100000 in
set_option maxHeartbeats 1600000 in
theorem operands_two (w0 : World) (b g cap t : Nat) (a : Option Addr) (L : List ByteArray) (w : World) (cs : Array Value) (hR : Rd w b g a cap L) (hP : Pow w0) (hF : Far w0 w b) (hT : w.heap[t]? = some (.cells cs 64 (0, 0))) (hc : cs.size = 17) (htb : t ≠ b) (hgt : g ≠ t) : Calls Tryz.prog 77 #[.pointer (some ⟨b, 0, none⟩), .int .i64 0, .pointer (some ⟨t, 0, none⟩)] w (PartOut twoT putSD b g t cs w L) := by
  have HC : Hid (Calls Tryz.prog _ #[.pointer (some ⟨b, 0, none⟩), .pointer (some ⟨t, 0, none⟩)] w (PartOut twoT putSD b g t cs w L)) := twoPart_any w0 b g cap t a L w cs hR hP hF hT hc htb hgt
  clear hR hP hF hT hc htb hgt
  go_enter Tryz.func77, Tryz.ntmps77
  go_wp2_with fail
  refine HC.out.mono ?_
  rintro e x ⟨cs', ok, a', cap', L', rfl, h1, h2, h3, h4, h5⟩
  have H : Hid (PartOut twoT putSD b g t cs w L (.returned (.bool ok)) x) := ⟨cs', ok, a', cap', L', rfl, h1, h2, h3, h4, h5⟩
  clear h1 h2 h3 h4 h5
  go_wp2
  go_ret
  exact H.out
set_option maxRecDepth 100000 in
set_option maxHeartbeats 1600000 in
theorem operands_one (w0 : World) (b g cap t : Nat) (a : Option Addr) (L : List ByteArray) (w : World) (cs : Array Value) (hR : Rd w b g a cap L) (hP : Pow w0) (hF : Far w0 w b) (hT : w.heap[t]? = some (.cells cs 64 (0, 0))) (hc : cs.size = 17) (htb : t ≠ b) (hgt : g ≠ t) : Calls Tryz.prog 77 #[.pointer (some ⟨b, 0, none⟩), .int .i64 1, .pointer (some ⟨t, 0, none⟩)] w (PartOut operT putS b g t cs w L) := by
  have HC : Hid (Calls Tryz.prog _ #[.pointer (some ⟨b, 0, none⟩), .pointer (some ⟨t, 0, none⟩)] w (PartOut operT putS b g t cs w L)) := onePart_any w0 b g cap t a L w cs hR hP hF hT hc htb hgt
  clear hR hP hF hT hc htb hgt
  go_enter Tryz.func77, Tryz.ntmps77
  go_wp2_with fail
  refine HC.out.mono ?_
  rintro e x ⟨cs', ok, a', cap', L', rfl, h1, h2, h3, h4, h5⟩
  have H : Hid (PartOut operT putS b g t cs w L (.returned (.bool ok)) x) := ⟨cs', ok, a', cap', L', rfl, h1, h2, h3, h4, h5⟩
  clear h1 h2 h3 h4 h5
  go_wp2
  go_ret
  exact H.out
set_option maxRecDepth 100000 in
set_option maxHeartbeats 1600000 in
theorem operands_jump (w0 : World) (b g cap t : Nat) (a : Option Addr) (L : List ByteArray) (w : World) (cs : Array Value) (hR : Rd w b g a cap L) (hP : Pow w0) (hF : Far w0 w b) (hT : w.heap[t]? = some (.cells cs 64 (0, 0))) (hc : cs.size = 17) (htb : t ≠ b) (hgt : g ≠ t) : Calls Tryz.prog 77 #[.pointer (some ⟨b, 0, none⟩), .int .i64 2, .pointer (some ⟨t, 0, none⟩)] w (PartOut jumpT putJ b g t cs w L) := by
  have HC : Hid (Calls Tryz.prog _ #[.pointer (some ⟨b, 0, none⟩), .pointer (some ⟨t, 0, none⟩)] w (PartOut jumpT putJ b g t cs w L)) := jumpPart_any b g cap t a L w cs hR hT hc htb hgt
  clear hR hP hF hT hc htb hgt
  go_enter Tryz.func77, Tryz.ntmps77
  go_wp2_with fail
  refine HC.out.mono ?_
  rintro e x ⟨cs', ok, a', cap', L', rfl, h1, h2, h3, h4, h5⟩
  have H : Hid (PartOut jumpT putJ b g t cs w L (.returned (.bool ok)) x) := ⟨cs', ok, a', cap', L', rfl, h1, h2, h3, h4, h5⟩
  clear h1 h2 h3 h4 h5
  go_wp2
  go_ret
  exact H.out
end Go.Proofs.YtodjccipfonaiaaGreatDoor
namespace Go.Proofs.YtodjccipfonaiaaGreatDoor
open Go.RowKit
set_option linter.unusedVariables false

abbrev z17 (p : ByteArray) (b : Bool) : Array Value := #[.string p, .bool b, .int .i64 0, .int .i64 0, .int .i64 0, .bool false, .int .i64 0, .int .i64 0, .int .i64 0, .bool false, .int .i64 0, .string ⟨#[]⟩, .int .i64 0, .string ⟨#[]⟩, .int .i64 0, .string ⟨#[]⟩, .int .i64 0]
def kindI (p : ByteArray) : Int := if 0 ≤ atI twosL p then 0 else if 0 ≤ atI onesL p then 1 else 2
def opT : List ByteArray → Option ((ByteArray × Bool) × List ByteArray)
  | [] => none
  | p :: L => if hasB p = true then (if (takeT ⟨#[46]⟩ L).1 = true then (if (takeT ⟨#[98]⟩ (takeT ⟨#[46]⟩ L).2).1 = true then some ((p, true), (takeT ⟨#[98]⟩ (takeT ⟨#[46]⟩ L).2).2) else none) else some ((p, false), L)) else none
def OpIOut (b g t : Nat) (w : World) (L : List ByteArray) (e : Ending) (w' : World) : Prop :=
  ∃ (k : Int) (ok : Bool) (p : ByteArray) (bl : Bool) (a' : Option Addr) (cap' : Nat) (L' : List ByteArray), e = .returned (.tuple #[.int .i64 k, .bool ok]) ∧ Rd w' b g a' cap' L' ∧ w'.heap[t]? = some (.cells (z17 p bl) 64 (0, 0)) ∧ But2 b t w w' ∧ ((ok = false ∧ opT L = none) ∨ (ok = true ∧ opT L = some ((p, bl), L') ∧ k = kindI p ∧ p ∈ opsAll))
theorem OwnP.far {w w' : World} {m n b t : Nat} {D : DataW Unit} (h : OwnP w m n D) (hB : But2 b t w w') (h1 : m ≠ b) (h2 : m ≠ t) : OwnP w' m n D := by
  obtain ⟨es, c, g1, g2⟩ := h
  exact ⟨es, c, But2.keep g1 hB h1 h2, g2⟩
theorem ops_kind : ∀ s ∈ opsAll, s.size ≤ 10 ∧ (0 ≤ atI twosL s ∨ 0 ≤ atI onesL s ∨ 0 ≤ atI jumpsL s) := by decide +kernel
theorem place_kind {p : ByteArray} (h : p ∈ opsAll) : ∃ n : Int, (rowsD 3).atKey (.string p.data.toList) (encP 0 0) = encP (kindI p) n := by
  have hk := (ops_kind p h).2
  unfold kindI
  by_cases h2 : 0 ≤ atI twosL p
  · rw [if_pos h2]; exact place_two h2
  · rw [if_neg h2]
    by_cases h3 : 0 ≤ atI onesL p
    · rw [if_pos h3]; exact place_one h3
    · rw [if_neg h3]; exact place_jump ((hk.resolve_left h2).resolve_left h3)
theorem op1_enters (args : Array Value) (W : World) : (callFunc 97 args).run Tryz.prog W = .ok (.enter 97 args) W :=
  enters_mk Tryz.func97 (by kernel_rfl) rfl args W
set_option maxRecDepth 100000 in
set_option maxHeartbeats 3200000 in
theorem op_any (hIn : ∀ p, hasB p = true → p ∈ opsAll) (w0 : World) (b g cap t : Nat) (a : Option Addr) (L : List ByteArray) (w : World) (hR : Rd w b g a cap L) (hT0 : Tabs w0) (hF : Far w0 w b) (hT : w.heap[t]? = some (.cells (z17 ⟨#[]⟩ false) 64 (0, 0))) (htb : t ≠ b) (hgt : g ≠ t) : Calls Tryz.prog 75 #[.pointer (some ⟨b, 0, none⟩), .pointer (some ⟨t, 0, none⟩)] w (OpIOut b g t w L) := by
  have HR : Hid (Rd w b g a cap L) := hR
  have HT : Hid (w.heap[t]? = _) := hT
  have HTw : Hid (Tabs w) := hT0.below hF.below
  have hbw := heap_lt hR.row
  have hgw := hR.at'
  have htw := heap_lt hT
  clear hR hT hT0 hF
  go_enter Tryz.func75, Tryz.ntmps75
  go_wp2_with fail
  refine (opPlaces_any _ HTw.out).mono ?_
  rintro e x1 ⟨rfl, hm, hb⟩
  have hs1 := hb.size
  have HM2 : Hid (OwnP (x1.alloc (.cells #[.map (some w.heap.size)] 51)) w.heap.size 48 (rowsD 3)) := hm.stays (below_new _ _)
  have HV2 : Hid (_ = _) := heap_alloc_new x1 (.cells #[.map (some w.heap.size)] 51)
  have HR2 : Hid (Rd (x1.alloc (.cells #[.map (some w.heap.size)] 51)) b g a cap L) := (HR.out.call hb).alloc _
  have HT2 : Hid (_ = _) := heap_more (heap_keep HT.out hb) (.cells #[.map (some w.heap.size)] 51)
  have HB2 : Hid (Below w.heap.size w (x1.alloc (.cells #[.map (some w.heap.size)] 51))) := below_more hb _
  have hmw : w.heap.size < x1.heap.size := by
    obtain ⟨es, c, g1, g2⟩ := hm
    exact heap_lt g1
  clear hm hb HR HT
  cases L with
  | nil =>
    go_wp2_with fail
    refine (take_nil b g _ cap _ a _ HR2.out).mono ?_
    rintro e x ⟨rfl, hx⟩
    have hx' := hx.symm
    subst hx'
    clear hx
    go_wp2
    go_ret2
    exact ⟨0, false, ⟨#[]⟩, false, a, cap, [], rfl, HR2.out, HT2.out, But2.of (But.of HB2.out), .inl ⟨rfl, rfl⟩⟩
  | cons p L =>
    have hps := HR2.out.text p (List.mem_cons_self ..)
    have HO : Hid (opT (p :: L) = if hasB p = true then (if (takeT ⟨#[46]⟩ L).1 = true then (if (takeT ⟨#[98]⟩ (takeT ⟨#[46]⟩ L).2).1 = true then some ((p, true), (takeT ⟨#[98]⟩ (takeT ⟨#[46]⟩ L).2).2) else none) else some ((p, false), L)) else none) := rfl
    go_wp2_with fail
    refine (take_cons b g _ cap _ a p L _ (fun ok x => ok = hasB p ∧ Below (x1.alloc (.cells #[.map (some w.heap.size)] 51)).heap.size (x1.alloc (.cells #[.map (some w.heap.size)] 51)) x) op1_enters HR2.out ?_).mono ?_
    · refine (op1_any p x1.heap.size w.heap.size 48 _ HV2.out HM2.out hps).mono ?_
      rintro e x ⟨rfl, hb⟩
      exact ⟨_, rfl, HR2.out.call hb, rfl, hb⟩
    · rintro e x ⟨ok, y, ⟨hok, hb⟩, hRy, hcase⟩
      rcases hcase with ⟨rfl, rfl, rfl⟩ | ⟨rfl, rfl, a', hRx, rfl⟩
      · have HQ : Hid (opT (p :: L) = none) := by show _ = _; rw [HO.out, ← hok, if_neg (by decide)]
        have HX : Hid (_) := hRy
        have HT3 : Hid (_ = _) := heap_keep HT2.out hb
        have HB3 : Hid (Below w.heap.size w x) := below_call HB2.out hb
        clear hRy hb hok HM2 HV2 HR2 HT2 HB2
        go_wp2
        go_ret2
        exact ⟨0, false, ⟨#[]⟩, false, a, cap, p :: L, rfl, HX.out, HT3.out, But2.of (But.of HB3.out), .inl ⟨rfl, HQ.out⟩⟩
      · have hin := hIn p hok.symm
        have HIN : Hid (p ∈ opsAll) := hin
        have hsz := (ops_kind p hin).1
        obtain ⟨kn, hkn⟩ := place_kind hin
        have HK : Hid (_ = _) := hkn
        have HQ : Hid (opT (p :: L) = (if (takeT ⟨#[46]⟩ L).1 = true then (if (takeT ⟨#[98]⟩ (takeT ⟨#[46]⟩ L).2).1 = true then some ((p, true), (takeT ⟨#[98]⟩ (takeT ⟨#[46]⟩ L).2).2) else none) else some ((p, false), L))) := by show _ = _; rw [HO.out, ← hok, if_pos rfl]
        have HKD : Hid (kindI p = kindI p) := rfl
        have hys : x1.heap.size + 1 ≤ y.heap.size := by have := hb.size; simpa using this
        have HBy : Hid (But2 b t w (y.setCell ⟨b, 0, none⟩ (.slice a' L.length (cap - 1)))) := But2.of (But.setB (p := ⟨b, 0, none⟩) (But.of (below_call HB2.out hb)) rfl (.slice a' L.length (cap - 1)))
        have HMy : Hid (OwnP (y.setCell ⟨b, 0, none⟩ (.slice a' L.length (cap - 1))) w.heap.size 48 (rowsD 3)) := (HM2.out.stays hb).far (b := b) (t := b) (But2.of (But.setB (p := ⟨b, 0, none⟩) (But.refl b y) rfl (.slice a' L.length (cap - 1)))) (by omega) (by omega)
        have HVy : Hid (_ = _) := set_far (a := ⟨b, 0, none⟩) (v := .slice a' L.length (cap - 1)) (show x1.heap.size ≠ b by omega) (heap_keep HV2.out hb)
        have HTy : Hid (_ = _) := set_far (a := ⟨b, 0, none⟩) (v := .slice a' L.length (cap - 1)) (show t ≠ b by omega) (heap_keep HT2.out hb)
        have HRy : Hid (_) := hRx
        have hzs : (y.setCell ⟨b, 0, none⟩ (.slice a' L.length (cap - 1))).heap.size = y.heap.size := by simp [World.setCell]
        clear hRx hRy hb hok hin hkn HO HM2 HV2 HR2 HT2 HB2
        generalize y.setCell ⟨b, 0, none⟩ (.slice a' L.length (cap - 1)) = z at *
        have hzz : x1.heap.size + 1 ≤ z.heap.size := by omega
        clear hzs hys
        go_wp2_with fail
        refine (join_one p _ (by omega)).mono ?_
        rintro e x3 ⟨rfl, hb3⟩
        have hs3 := hb3.size
        have HB3 : Hid (But2 b t w x3) := HBy.out.call hb3
        have HM3 : Hid (OwnP x3 w.heap.size 48 (rowsD 3)) := HMy.out.stays hb3
        have HV3 : Hid (_ = _) := heap_keep HVy.out hb3
        have HT3 : Hid (x3.heap[t]? = _) := heap_keep HTy.out hb3
        have HR3 : Hid (_) := HRy.out.call hb3
        clear hb3 HBy HMy HVy HTy HRy
        have hst3 := heap_lt HT3.out
        have z0 : x3.frozen? ⟨t, 0, none⟩ = false := frozen_of_row _ _ 0 _ _ HT3.out
        have c0 := cell_of_row _ _ 0 _ _ _ HT3.out
        have HB4 : Hid (But2 b t w (x3.setCell ⟨t, 0, none⟩ (.string p))) := HB3.out.setT (p := ⟨t, 0, none⟩) rfl (.string p)
        have HM4 : Hid (OwnP (x3.setCell ⟨t, 0, none⟩ (.string p)) w.heap.size 48 (rowsD 3)) := HM3.out.far (b := t) (t := t) (But2.of (But.setB (p := ⟨t, 0, none⟩) (But.refl t x3) rfl (.string p))) (by omega) (by omega)
        have HV4 : Hid (_ = _) := set_far (a := ⟨t, 0, none⟩) (v := .string p) (show x1.heap.size ≠ t by omega) HV3.out
        have HT4 : Hid ((x3.setCell ⟨t, 0, none⟩ (.string p)).heap[t]? = some (.cells (z17 p false) 64 (0, 0))) := heap_set HT3.out 0 (.string p)
        have HR4 : Hid (Rd (x3.setCell ⟨t, 0, none⟩ (.string p)) b g a' (cap - 1) L) := Rd.setN (p := ⟨t, 0, none⟩) htb hgt HR3.out
        go_wp2_with fail
        clear z0 c0 hst3 HB3 HM3 HV3 HT3 HR3
        generalize x3.setCell ⟨t, 0, none⟩ (.string p) = x4 at *
        refine (mark_any ⟨#[46]⟩ b g (cap - 1) a' L x4 HR4.out).mono ?_
        rintro e x5 ⟨a5, cap5, rfl, hR5, hB5⟩
        have HB5 : Hid (But2 b t w x5) := HB4.out.but hB5
        have HM5 : Hid (OwnP x5 w.heap.size 48 (rowsD 3)) := HM4.out.far (b := b) (t := b) (But2.of hB5) (by omega) (by omega)
        have HV5 : Hid (x5.heap[x1.heap.size]? = _) := But.keep HV4.out hB5 (by omega)
        have HT5 : Hid (x5.heap[t]? = _) := But.keep HT4.out hB5 htb
        have HR5 : Hid (_) := hR5
        clear hR5 hB5 HB4 HM4 HV4 HT4 HR4
        cases hm1 : (takeT ⟨#[46]⟩ L).1
        · have HQ1 : Hid (opT (p :: L) = some ((p, false), L)) := by show _ = _; rw [HQ.out, hm1, if_neg (by decide)]
          have HR6 : Hid (Rd x5 b g a5 cap5 L) := by have h := HR5.out; rw [mark_left hm1] at h; exact h
          clear hm1
          have cv := cell_of_one HV5.out
          have hlk : (Instr.lookup 51 (.map (some w.heap.size)) (.string p) false).run Tryz.prog x5 = .ok (.agg #[.int .i64 (kindI p), .int .i64 kn]) x5 := look_place HM5.out hsz HK.out
          have hfp := fun W => field_place (.int .i64 (kindI p)) (.int .i64 kn) W
          generalize hkk : kindI p = kk at *
          have HKK : Hid (kindI p = kk) := hkk
          clear hkk
          go_wp2
          go_ret2
          exact ⟨kk, true, p, false, a5, cap5, L, rfl, HR6.out, HT5.out, HB5.out, .inr ⟨rfl, HQ1.out, HKK.out.symm, HIN.out⟩⟩
        · have HQ1 : Hid (opT (p :: L) = (if (takeT ⟨#[98]⟩ (takeT ⟨#[46]⟩ L).2).1 = true then some ((p, true), (takeT ⟨#[98]⟩ (takeT ⟨#[46]⟩ L).2).2) else none)) := by show _ = _; rw [HQ.out, hm1, if_pos rfl]
          clear hm1
          generalize (takeT ⟨#[46]⟩ L).2 = L5 at *
          have z1 : x5.frozen? ⟨t, 1, none⟩ = false := frozen_of_row _ _ 1 _ _ HT5.out
          have c1 := cell_of_row _ _ 1 _ _ _ HT5.out
          have hst5 := heap_lt HT5.out
          have HB6 : Hid (But2 b t w (x5.setCell ⟨t, 1, none⟩ (.bool true))) := HB5.out.setT (p := ⟨t, 1, none⟩) rfl (.bool true)
          have HM6 : Hid (OwnP (x5.setCell ⟨t, 1, none⟩ (.bool true)) w.heap.size 48 (rowsD 3)) := HM5.out.far (b := t) (t := t) (But2.of (But.setB (p := ⟨t, 1, none⟩) (But.refl t x5) rfl (.bool true))) (by omega) (by omega)
          have HV6 : Hid (_ = _) := set_far (a := ⟨t, 1, none⟩) (v := .bool true) (show x1.heap.size ≠ t by omega) HV5.out
          have HT6 : Hid ((x5.setCell ⟨t, 1, none⟩ (.bool true)).heap[t]? = some (.cells (z17 p true) 64 (0, 0))) := heap_set HT5.out 1 (.bool true)
          have HR6 : Hid (Rd (x5.setCell ⟨t, 1, none⟩ (.bool true)) b g a5 cap5 L5) := Rd.setN (p := ⟨t, 1, none⟩) htb hgt HR5.out
          go_wp2_with fail
          clear z1 c1 hst5 HB5 HM5 HV5 HT5 HR5
          generalize x5.setCell ⟨t, 1, none⟩ (.bool true) = x6 at *
          have cv : x6.cell? ⟨x1.heap.size, 0, none⟩ = some (.map (some w.heap.size)) := cell_of_one HV6.out
          have hlk : (Instr.lookup 51 (.map (some w.heap.size)) (.string p) false).run Tryz.prog x6.drew = .ok (.agg #[.int .i64 (kindI p), .int .i64 kn]) x6.drew := look_place (show OwnP x6.drew w.heap.size 48 (rowsD 3) from HM6.out) hsz HK.out
          have hfp := fun W => field_place (.int .i64 (kindI p)) (.int .i64 kn) W
          generalize hkk : kindI p = kk at *
          have HKK : Hid (kindI p = kk) := hkk
          clear hkk
          go_region_held3 (fun w' => w'.cell? ⟨x1.heap.size, 0, none⟩ = some (.map (some w.heap.size))) (first | exact cell_of_one (by repeat (first | with_reducible exact HV6.out | with_reducible exact HV7.out | with_reducible apply heap_drewn))) (first
            | (go_at_call 76; refine (mark_any ⟨#[98]⟩ b g cap5 a5 L5 _ (by repeat (first | with_reducible exact HR6.out | with_reducible refine Rd.drew ?_))).mono ?_; rintro e x7 ⟨a7, cap7, rfl, hR7, hB7⟩; have HB7 : Hid (But2 b t w x7) := But2.but (by repeat (first | with_reducible exact HB6.out | with_reducible refine But2.drew ?_)) hB7; have HM7 : Hid (OwnP x7 w.heap.size 48 (rowsD 3)) := OwnP.far (w := x6.drew) (b := b) (t := b) (show OwnP x6.drew w.heap.size 48 (rowsD 3) from HM6.out) (But2.of hB7) (by omega) (by omega); have HV7 : Hid (x7.heap[x1.heap.size]? = _) := But.keep (by repeat (first | with_reducible exact HV6.out | with_reducible apply heap_drewn)) hB7 (by omega); have HT7 : Hid (x7.heap[t]? = _) := But.keep (by repeat (first | with_reducible exact HT6.out | with_reducible apply heap_drewn)) hB7 htb; have HR7 : Hid (Rd x7 b g a7 cap7 (takeT ⟨#[98]⟩ L5).2) := hR7; have hlk : (Instr.lookup 51 (.map (some w.heap.size)) (.string p) false).run Tryz.prog x7 = .ok (.agg #[.int .i64 kk, .int .i64 kn]) x7 := look_place HM7.out hsz HK.out; clear hR7 hB7))
          all_goals
            go_wp2
            go_ret2
            exact ⟨kk, (takeT ⟨#[98]⟩ L5).1, p, true, _, _, (takeT ⟨#[98]⟩ L5).2, rfl, by repeat (first | with_reducible exact HR7.out | with_reducible refine Rd.drew ?_), by repeat (first | with_reducible exact HT7.out | with_reducible apply heap_drewn), by repeat (first | with_reducible exact HB7.out | with_reducible refine But2.drew ?_), by cases hm2 : (takeT ⟨#[98]⟩ L5).1 with | false => exact .inl ⟨rfl, by rw [HQ1.out, hm2, if_neg (by decide)]⟩ | true => exact .inr ⟨rfl, by rw [HQ1.out, hm2, if_pos rfl], HKK.out.symm, HIN.out⟩⟩
end Go.Proofs.YtodjccipfonaiaaGreatDoor
