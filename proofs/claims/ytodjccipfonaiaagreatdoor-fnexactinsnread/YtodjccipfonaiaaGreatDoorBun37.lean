/- A reader takes the operands of an insn. -/
import Derived.Test.YtodjccipfonaiaaGreatDoorRows
import Derived.WalkKit
import Derived.WalkSpells
import Derived.WalkLawsBesides
import Derived.Outline
import Derived.RegionTactic
import Derived.BigRegion
import Derived.Deep.QuietTactic
import Derived.BigQuiet
import Derived.Deep.RegionHeld3
import Derived.Test.YtodjccipfonaiaaGreatDoorBun0
import Derived.Test.YtodjccipfonaiaaGreatDoorBun3
import Derived.Test.YtodjccipfonaiaaGreatDoorBun34
import Derived.Test.YtodjccipfonaiaaGreatDoorBun35
import Derived.ChangeAlike
import Derived.Test.YtodjccipfonaiaaGreatDoorBun36
namespace Go.Proofs.YtodjccipfonaiaaGreatDoor
open Go.RowKit
set_option linter.unusedVariables false

def putS (y : OpdW) (cs : Array Value) : Array Value := setW (setO cs 2 y.1.1 y.1.2.1 y.1.2.2.1 y.1.2.2.2) 11 y.2.1 y.2.2
def putD (y : OpdW) (cs : Array Value) : Array Value := setW (setO cs 6 y.1.1 y.1.2.1 y.1.2.2.1 y.1.2.2.2) 13 y.2.1 y.2.2
theorem putS_size (y : OpdW) (cs : Array Value) : (putS y cs).size = cs.size := by unfold putS; rw [setW_size, setO_size]
theorem putD_size (y : OpdW) (cs : Array Value) : (putD y cs).size = cs.size := by unfold putD; rw [setW_size, setO_size]
def PartOut {α : Type} (F : List ByteArray → Option (α × List ByteArray)) (put : α → Array Value → Array Value) (b g t : Nat) (cs : Array Value) (w : World) (L : List ByteArray) (e : Ending) (w' : World) : Prop :=
  ∃ cs' ok a' cap' L', e = .returned (.bool ok) ∧ (cs'.size = 17 ∧ (Fit cs → Fit cs')) ∧ Rd w' b g a' cap' L' ∧ w'.heap[t]? = some (.cells cs' 64 (0, 0)) ∧ But2 b t w w' ∧ ((ok = false ∧ F L = none) ∨ (ok = true ∧ ∃ y, F L = some (y, L') ∧ cs' = put y cs))
theorem onePart_any (w0 : World) (b g cap t : Nat) (a : Option Addr) (L : List ByteArray) (w : World) (cs : Array Value) (hR : Rd w b g a cap L) (hP : Pow w0) (hF : Far w0 w b) (hT : w.heap[t]? = some (.cells cs 64 (0, 0))) (hc : cs.size = 17) (htb : t ≠ b) (hgt : g ≠ t) : Calls Tryz.prog 100 #[.pointer (some ⟨b, 0, none⟩), .pointer (some ⟨t, 0, none⟩)] w (PartOut operT putS b g t cs w L) := by
  refine (one_any w0 b g cap t a L w cs hR hP hF hT hc htb hgt).mono ?_
  rintro e w' ⟨m, r, n, l, nm, k, ok, a', cap', L', rfl, hN, hR', hT', hB⟩
  refine ⟨_, ok, a', cap', L', rfl, ?_, hR', hT', hB, ?_⟩
  · exact ⟨by rw [setW_size, setO_size]; exact hc, fun h => fit_W11 (fit_O2 h _ _ _ _) _ _⟩
  · cases ok
    · exact .inl ⟨rfl, hN⟩
    · exact .inr ⟨rfl, _, hN, rfl⟩
end Go.Proofs.YtodjccipfonaiaaGreatDoor
namespace Go.Proofs.YtodjccipfonaiaaGreatDoor
open Go.RowKit
set_option linter.unusedVariables false

def twoT (L : List ByteArray) : Option ((OpdW × OpdW) × List ByteArray) := match operT L with
  | none => none
  | some (s, L1) => if (takeT ⟨#[44]⟩ L1).1 = true then (match operT (takeT ⟨#[32]⟩ (takeT ⟨#[44]⟩ L1).2).2 with | none => none | some (d, L3) => some ((s, d), L3)) else none
def putSD (y : OpdW × OpdW) (cs : Array Value) : Array Value := putD y.2 (putS y.1 cs)
set_option maxRecDepth 100000 in
set_option maxHeartbeats 3200000 in
theorem twoPart_any (w0 : World) (b g cap t : Nat) (a : Option Addr) (L : List ByteArray) (w : World) (cs : Array Value) (hR : Rd w b g a cap L) (hP : Pow w0) (hF : Far w0 w b) (hT : w.heap[t]? = some (.cells cs 64 (0, 0))) (hc : cs.size = 17) (htb : t ≠ b) (hgt : g ≠ t) : Calls Tryz.prog 99 #[.pointer (some ⟨b, 0, none⟩), .pointer (some ⟨t, 0, none⟩)] w (PartOut twoT putSD b g t cs w L) := by
  have HR : Hid (Rd w b g a cap L) := hR
  have HT : Hid (w.heap[t]? = _) := hT
  have HP : Hid (Pow w0) := hP
  have HF : Hid (Far w0 w b) := hF
  have hbw := heap_lt hR.row
  clear hR hT hP hF
  go_enter Tryz.func99, Tryz.ntmps99
  go_wp2_with fail
  refine (operand_any w0 b g cap a L _ HR.out HP.out HF.out).mono ?_
  rintro e x1 ⟨m, r, n, l, nm, k, ok, a1, cap1, L1, rfl, hN, hR1, hB1⟩
  have HU1 : Hid (_ = _) := heap_alloc_new x1 (.cells #[.int .i64 m, .int .i64 r, .int .i64 n, .bool l, .string nm, .int .i64 k] 130)
  have HR1 : Hid (Rd (x1.alloc (.cells #[.int .i64 m, .int .i64 r, .int .i64 n, .bool l, .string nm, .int .i64 k] 130)) b g a1 cap1 L1) := hR1.alloc _
  have HB1 : Hid (But b w (x1.alloc (.cells #[.int .i64 m, .int .i64 r, .int .i64 n, .bool l, .string nm, .int .i64 k] 130))) := hB1.alloc _
  have HN : Hid (_ = _) := hN
  have hs1 := hB1.size
  have HT1 : Hid (_ = _) := But.keep HT.out HB1.out htb
  have htx : t < x1.heap.size := Nat.lt_of_lt_of_le (heap_lt HT.out) hs1
  clear hR1 hB1 hN HR HT
  cases ok
  · go_wp2
    go_ret
    exact ⟨cs, false, a1, cap1, L1, rfl, ⟨hc, id⟩, HR1.out, HT1.out, But2.of HB1.out, .inl ⟨rfl, by unfold twoT; rw [HN.out]; rfl⟩⟩
  have HW : Hid (twoT L = if (takeT ⟨#[44]⟩ L1).1 = true then (match operT (takeT ⟨#[32]⟩ (takeT ⟨#[44]⟩ L1).2).2 with | none => none | some (d, L3) => some ((((m, r, n, l), nm, k), d), L3)) else none) := by show _ = _; unfold twoT; rw [HN.out]; rfl
  go_wp2_with fail
  refine (mark_any ⟨#[44]⟩ b g cap1 a1 L1 _ HR1.out).mono ?_
  rintro e x2 ⟨a2, cap2, rfl, hR2, hB2⟩
  have HU2 : Hid (_ = _) := But.keep HU1.out hB2 (by omega)
  have HR2 : Hid (_) := hR2
  have HB2 : Hid (But b w x2) := HB1.out.trans hB2
  have HT2 : Hid (_ = _) := But.keep HT1.out hB2 htb
  have hs2 := heap_lt HU2.out
  clear hR2 hB2 HN HR1 HT1 HU1 HB1
  generalize (takeT ⟨#[44]⟩ L1).1 = t1 at *
  generalize (takeT ⟨#[44]⟩ L1).2 = L2 at *
  cases t1
  · go_wp2
    go_ret
    exact ⟨cs, false, a2, cap2, L2, rfl, ⟨hc, id⟩, HR2.out, HT2.out, But2.of HB2.out, .inl ⟨rfl, by rw [HW.out, if_neg (by decide)]⟩⟩
  go_wp2_with fail
  refine (mark_any ⟨#[32]⟩ b g cap2 a2 L2 _ HR2.out).mono ?_
  rintro e x3 ⟨a3, cap3, rfl, hR3, hB3⟩
  have HU3 : Hid (_ = _) := But.keep HU2.out hB3 (by omega)
  have HR3 : Hid (_) := hR3
  have HB3 : Hid (But b w x3) := HB2.out.trans hB3
  have HT3 : Hid (_ = _) := But.keep HT2.out hB3 htb
  have hs3 := heap_lt HU3.out
  clear hR3 hB3 HR2 HT2 HU2 HB2
  generalize (takeT ⟨#[32]⟩ L2).1 = t2 at *
  generalize (takeT ⟨#[32]⟩ L2).2 = L3 at *
  go_wp2_with fail
  refine (operand_any w0 b g cap3 a3 L3 _ HR3.out HP.out (HF.out.but HB3.out)).mono ?_
  rintro e x4 ⟨m2, r2, n2, l2, nm2, k2, ok, a4, cap4, L4, rfl, hN4, hR4, hB4⟩
  have HU4 : Hid (_ = _) := But.keep HU3.out hB4 (by omega)
  have HR4 : Hid (_) := hR4
  have HB4 : Hid (But b w x4) := HB3.out.trans hB4
  have HT4 : Hid (_ = _) := But.keep HT3.out hB4 htb
  have HN4 : Hid (_ = _) := hN4
  have hs4 := heap_lt HU4.out
  have hst := heap_lt HT4.out
  have hnt : x1.heap.size ≠ t := by omega
  have hnt2 : t ≠ x1.heap.size := by omega
  clear hR4 hB4 hN4 HR3 HT3 HU3 HB3
  obtain ⟨u0, u1, u2, u3, u4, u5⟩ := cells6 HU4.out
  have c2 := cell17 HT4.out hc 2 (by omega)
  have z2 : x4.frozen? ⟨t, 2, none⟩ = false := frozen_of_row _ _ 2 _ _ HT4.out
  have c3 := cell17 HT4.out hc 3 (by omega)
  have z3 : x4.frozen? ⟨t, 3, none⟩ = false := frozen_of_row _ _ 3 _ _ HT4.out
  have c4 := cell17 HT4.out hc 4 (by omega)
  have z4 : x4.frozen? ⟨t, 4, none⟩ = false := frozen_of_row _ _ 4 _ _ HT4.out
  have c5 := cell17 HT4.out hc 5 (by omega)
  have z5 : x4.frozen? ⟨t, 5, none⟩ = false := frozen_of_row _ _ 5 _ _ HT4.out
  have c6 := cell17 HT4.out hc 6 (by omega)
  have z6 : x4.frozen? ⟨t, 6, none⟩ = false := frozen_of_row _ _ 6 _ _ HT4.out
  have c7 := cell17 HT4.out hc 7 (by omega)
  have z7 : x4.frozen? ⟨t, 7, none⟩ = false := frozen_of_row _ _ 7 _ _ HT4.out
  have c8 := cell17 HT4.out hc 8 (by omega)
  have z8 : x4.frozen? ⟨t, 8, none⟩ = false := frozen_of_row _ _ 8 _ _ HT4.out
  have c9 := cell17 HT4.out hc 9 (by omega)
  have z9 : x4.frozen? ⟨t, 9, none⟩ = false := frozen_of_row _ _ 9 _ _ HT4.out
  have c11 := cell17 HT4.out hc 11 (by omega)
  have z11 : x4.frozen? ⟨t, 11, none⟩ = false := frozen_of_row _ _ 11 _ _ HT4.out
  have c12 := cell17 HT4.out hc 12 (by omega)
  have z12 : x4.frozen? ⟨t, 12, none⟩ = false := frozen_of_row _ _ 12 _ _ HT4.out
  have c13 := cell17 HT4.out hc 13 (by omega)
  have z13 : x4.frozen? ⟨t, 13, none⟩ = false := frozen_of_row _ _ 13 _ _ HT4.out
  have c14 := cell17 HT4.out hc 14 (by omega)
  have z14 : x4.frozen? ⟨t, 14, none⟩ = false := frozen_of_row _ _ 14 _ _ HT4.out
  have HRz : Hid (Rd _ b g a4 cap4 L4) := (((HR4.out.six6 htb hgt 2 3 4 5 11 12 (.int .i64 m) (.int .i64 r) (.int .i64 n) (.bool l) (.string nm) (.int .i64 k)).six6 htb hgt 6 7 8 9 13 14 (.int .i64 m2) (.int .i64 r2) (.int .i64 n2) (.bool l2) (.string nm2) (.int .i64 k2)).alloc (.cells #[.int .i64 m2, .int .i64 r2, .int .i64 n2, .bool l2, .string nm2, .int .i64 k2] 130)).drew.drew
  have HTz : Hid (_ = some (Obj.cells (setW (setO (setW (setO cs 2 m r n l) 11 nm k) 6 m2 r2 n2 l2) 13 nm2 k2) 64 (0, 0))) := heap_more (heap_setW (heap_setO (heap_setW (heap_setO HT4.out 2 m r n l) 11 nm k) 6 m2 r2 n2 l2) 13 nm2 k2) (.cells #[.int .i64 m2, .int .i64 r2, .int .i64 n2, .bool l2, .string nm2, .int .i64 k2] 130)
  have HBz : Hid (But2 b t w _) := ((((But2.of HB4.out).six6 2 3 4 5 11 12 (.int .i64 m) (.int .i64 r) (.int .i64 n) (.bool l) (.string nm) (.int .i64 k)).six6 6 7 8 9 13 14 (.int .i64 m2) (.int .i64 r2) (.int .i64 n2) (.bool l2) (.string nm2) (.int .i64 k2)).alloc (.cells #[.int .i64 m2, .int .i64 r2, .int .i64 n2, .bool l2, .string nm2, .int .i64 k2] 130)).drew.drew
  have HSz : Hid ((setW (setO (setW (setO cs 2 m r n l) 11 nm k) 6 m2 r2 n2 l2) 13 nm2 k2).size = 17 ∧ (Fit cs → Fit (setW (setO (setW (setO cs 2 m r n l) 11 nm k) 6 m2 r2 n2 l2) 13 nm2 k2))) := ⟨by rw [setW_size, setO_size, setW_size, setO_size]; exact hc, fun h => fit_W13 (fit_O6 (fit_W11 (fit_O2 h _ _ _ _) _ _) _ _ _ _) _ _⟩
  have HQz : Hid ((ok = false ∧ twoT L = none) ∨ (ok = true ∧ ∃ y, twoT L = some (y, L4) ∧ setW (setO (setW (setO cs 2 m r n l) 11 nm k) 6 m2 r2 n2 l2) 13 nm2 k2 = putSD y cs)) := by
    show _ ∨ _
    cases ok
    · exact .inl ⟨rfl, by rw [HW.out, if_pos trivial, HN4.out]; rfl⟩
    · exact .inr ⟨rfl, (((m, r, n, l), nm, k), ((m2, r2, n2, l2), nm2, k2)), by rw [HW.out, if_pos trivial, HN4.out]; rfl, rfl⟩
  go_wp2
  go_region
  go_wp2
  go_region
  go_wp2
  go_ret
  exact ⟨setW (setO (setW (setO cs 2 m r n l) 11 nm k) 6 m2 r2 n2 l2) 13 nm2 k2, ok, a4, cap4, L4, rfl, HSz.out, HRz.out, HTz.out, HBz.out, HQz.out⟩
end Go.Proofs.YtodjccipfonaiaaGreatDoor
namespace Go.Proofs.YtodjccipfonaiaaGreatDoor
open Go.RowKit
set_option linter.unusedVariables false

def jumpT (L : List ByteArray) : Option ((Int ⊕ (ByteArray × Int)) × List ByteArray) := if (takeT ⟨#[36]⟩ L).1 = true then mapO (wayT (takeT ⟨#[36]⟩ L).2) Sum.inl else (match wordT (takeT ⟨#[36]⟩ L).2 with | some (x, L1) => if x.1 = ⟨#[]⟩ then none else some (Sum.inr x, L1) | none => none)
def putJ (y : Int ⊕ (ByteArray × Int)) (cs : Array Value) : Array Value := match y with
  | .inl j => cs.setIfInBounds 10 (.int .i64 j)
  | .inr x => setW cs 15 x.1 x.2
theorem putJ_size (y : Int ⊕ (ByteArray × Int)) (cs : Array Value) : (putJ y cs).size = cs.size := by cases y <;> simp [putJ, setW]
set_option maxRecDepth 100000 in
set_option maxHeartbeats 3200000 in
theorem jumpPart_any (b g cap t : Nat) (a : Option Addr) (L : List ByteArray) (w : World) (cs : Array Value) (hR : Rd w b g a cap L) (hT : w.heap[t]? = some (.cells cs 64 (0, 0))) (hc : cs.size = 17) (htb : t ≠ b) (hgt : g ≠ t) : Calls Tryz.prog 101 #[.pointer (some ⟨b, 0, none⟩), .pointer (some ⟨t, 0, none⟩)] w (PartOut jumpT putJ b g t cs w L) := by
  have HR : Hid (Rd w b g a cap L) := hR
  have HT : Hid (w.heap[t]? = _) := hT
  clear hR hT
  go_enter Tryz.func101, Tryz.ntmps101
  go_wp2_with fail
  refine (mark_any ⟨#[36]⟩ b g cap a L _ HR.out).mono ?_
  rintro e x1 ⟨a1, cap1, rfl, hR1, hB1⟩
  have HR1 : Hid (_) := hR1
  have HB1 : Hid (But b w x1) := hB1
  have HT1 : Hid (_ = _) := But.keep HT.out hB1 htb
  clear hR1 hB1 HR HT
  have HW : Hid (jumpT L = if (takeT ⟨#[36]⟩ L).1 = true then mapO (wayT (takeT ⟨#[36]⟩ L).2) Sum.inl else (match wordT (takeT ⟨#[36]⟩ L).2 with | some (x, L1) => if x.1 = ⟨#[]⟩ then none else some (Sum.inr x, L1) | none => none)) := rfl
  generalize (takeT ⟨#[36]⟩ L).1 = t1 at *
  generalize (takeT ⟨#[36]⟩ L).2 = L1 at *
  cases t1
  · go_wp2_with fail
    refine (word_any b g cap1 a1 L1 _ HR1.out).mono ?_
    rintro e x2 ⟨nm, k, ok, a2, cap2, L2, rfl, hN, hR2, hB2⟩
    have HR2 : Hid (_) := hR2
    have HB2 : Hid (But b w x2) := HB1.out.trans hB2
    have HT2 : Hid (_ = _) := But.keep HT1.out hB2 htb
    have HN : Hid (_ = _) := hN
    clear hR2 hB2 hN HR1 HT1 HB1
    have hst := heap_lt HT2.out
    have c15 := cell17 HT2.out hc 15 (by omega)
    have c16 := cell17 HT2.out hc 16 (by omega)
    have z15 : x2.frozen? ⟨t, 15, none⟩ = false := frozen_of_row _ _ 15 _ _ HT2.out
    have z16 : x2.frozen? ⟨t, 16, none⟩ = false := frozen_of_row _ _ 16 _ _ HT2.out
    have HR3 : Hid (Rd _ b g a2 cap2 L2) := (Rd.setN (p := ⟨t, 16, none⟩) (v := .int .i64 k) htb hgt (Rd.setN (p := ⟨t, 15, none⟩) (v := .string nm) htb hgt HR2.out)).alloc (.cells #[.string nm, .int .i64 k] 30)
    have HT3 : Hid (_ = _) := heap_more (heap_setW HT2.out 15 nm k) (.cells #[.string nm, .int .i64 k] 30)
    have HB3 : Hid (But2 b t w _) := (((But2.of HB2.out).setT (p := ⟨t, 15, none⟩) rfl (.string nm)).setT (p := ⟨t, 16, none⟩) rfl (.int .i64 k)).alloc (.cells #[.string nm, .int .i64 k] 30)
    cases ok
    · go_wp2
      go_ret
      exact ⟨_, false, a2, cap2, L2, rfl, ⟨by rw [setW_size]; exact hc, fun h => fit_W15 h _ _⟩, HR3.out, HT3.out, HB3.out, .inl ⟨rfl, by rw [HW.out, if_neg (by decide), HN.out]; rfl⟩⟩
    · by_cases hnm : nm = ⟨#[]⟩
      · have h1 : nm.toList.isEmpty = true := by rw [hnm, ByteArray.toList_eq]; rfl
        have HQ : Hid (jumpT L = none) := by show _ = _; rw [HW.out, if_neg (by decide), HN.out]; exact if_pos hnm
        clear hnm
        go_wp2
        go_ret
        exact ⟨_, false, a2, cap2, L2, rfl, ⟨by rw [setW_size]; exact hc, fun h => fit_W15 h _ _⟩, HR3.out, HT3.out, HB3.out, .inl ⟨rfl, HQ.out⟩⟩
      · have h1 : nm.toList.isEmpty = false := by cases h : nm.toList.isEmpty with | false => rfl | true => exact absurd (text_no [] hnm) (by rw [List.isEmpty_iff.1 h]; decide)
        have HQ : Hid (jumpT L = some (Sum.inr (nm, k), L2)) := by show _ = _; rw [HW.out, if_neg (by decide), HN.out]; exact if_neg hnm
        clear hnm
        go_wp2
        go_ret
        exact ⟨_, true, a2, cap2, L2, rfl, ⟨by rw [setW_size]; exact hc, fun h => fit_W15 h _ _⟩, HR3.out, HT3.out, HB3.out, .inr ⟨rfl, _, HQ.out, rfl⟩⟩
  · go_wp2_with fail
    refine (way_any b g cap1 t a1 L1 _ cs HR1.out HT1.out hc htb).mono ?_
    rintro e x2 ⟨x, n, ok, a2, cap2, L2, rfl, hN, hn0, hn1, hR2, hB2, hcase⟩
    have HB2 : Hid (But b w x) := HB1.out.trans hB2
    have HR2 : Hid (_) := hR2
    have HT2 : Hid (_ = _) := But.keep HT1.out hB2 htb
    have HN : Hid (_ = _) := hN
    clear hR2 hB2 hN
    rcases hcase with ⟨rfl, rfl⟩ | ⟨rfl, rfl⟩
    · go_wp2
      go_ret
      exact ⟨cs, false, a2, cap2, L2, rfl, ⟨hc, id⟩, HR2.out, HT2.out, But2.of HB2.out, .inl ⟨rfl, by rw [HW.out, if_pos trivial, HN.out]; rfl⟩⟩
    · go_wp2
      go_ret
      exact ⟨_, true, a2, cap2, L2, rfl, ⟨by rw [Array.size_setIfInBounds]; exact hc, fun h => fit_J h _⟩, Rd.setN (p := ⟨t, 10, none⟩) htb hgt HR2.out, heap_set HT2.out 10 _, (But2.of HB2.out).setT (p := ⟨t, 10, none⟩) rfl _, .inr ⟨rfl, _, by rw [HW.out, if_pos trivial, HN.out]; rfl, rfl⟩⟩
end Go.Proofs.YtodjccipfonaiaaGreatDoor
namespace Go.Proofs.YtodjccipfonaiaaGreatDoor
open Go.RowKit
set_option linter.unusedVariables false

set_option maxRecDepth 100000 in
set_option maxHeartbeats 1600000 in
theorem operands_two (w0 : World) (b g cap t : Nat) (a : Option Addr) (L : List ByteArray) (w : World) (cs : Array Value) (hR : Rd w b g a cap L) (hP : Pow w0) (hF : Far w0 w b) (hT : w.heap[t]? = some (.cells cs 64 (0, 0))) (hc : cs.size = 17) (htb : t ≠ b) (hgt : g ≠ t) : Calls Tryz.prog 77 #[.pointer (some ⟨b, 0, none⟩), .int .i64 0, .pointer (some ⟨t, 0, none⟩)] w (PartOut twoT putSD b g t cs w L) := by
  have HC : Hid (Calls Tryz.prog _ #[.pointer (some ⟨b, 0, none⟩), .pointer (some ⟨t, 0, none⟩)] w (PartOut twoT putSD b g t cs w L)) := twoPart_any w0 b g cap t a L w cs hR hP hF hT hc htb hgt
  clear hR hP hF hT hc htb hgt
  go_enter Tryz.func77, Tryz.ntmps77
  go_wp2_with fail
  refine HC.out.mono ?_
  rintro e x ⟨cs', ok, a', cap', L', rfl, h1, h2, h3, h4, h5⟩
  have H : Hid (PartOut twoT putSD b g t cs w L (.returned (.bool ok)) x) := ⟨cs', ok, a', cap', L', rfl, h1, h2, h3, h4, h5⟩
  clear h1 h2 h3 h4 h5
  go_wp2
  go_ret
  exact H.out
set_option maxRecDepth 100000 in
set_option maxHeartbeats 1600000 in
theorem operands_one (w0 : World) (b g cap t : Nat) (a : Option Addr) (L : List ByteArray) (w : World) (cs : Array Value) (hR : Rd w b g a cap L) (hP : Pow w0) (hF : Far w0 w b) (hT : w.heap[t]? = some (.cells cs 64 (0, 0))) (hc : cs.size = 17) (htb : t ≠ b) (hgt : g ≠ t) : Calls Tryz.prog 77 #[.pointer (some ⟨b, 0, none⟩), .int .i64 1, .pointer (some ⟨t, 0, none⟩)] w (PartOut operT putS b g t cs w L) := by
  have HC : Hid (Calls Tryz.prog _ #[.pointer (some ⟨b, 0, none⟩), .pointer (some ⟨t, 0, none⟩)] w (PartOut operT putS b g t cs w L)) := onePart_any w0 b g cap t a L w cs hR hP hF hT hc htb hgt
  clear hR hP hF hT hc htb hgt
  go_enter Tryz.func77, Tryz.ntmps77
  go_wp2_with fail
  refine HC.out.mono ?_
  rintro e x ⟨cs', ok, a', cap', L', rfl, h1, h2, h3, h4, h5⟩
  have H : Hid (PartOut operT putS b g t cs w L (.returned (.bool ok)) x) := ⟨cs', ok, a', cap', L', rfl, h1, h2, h3, h4, h5⟩
  clear h1 h2 h3 h4 h5
  go_wp2
  go_ret
  exact H.out
set_option maxRecDepth 100000 in
set_option maxHeartbeats 1600000 in
theorem operands_jump (w0 : World) (b g cap t : Nat) (a : Option Addr) (L : List ByteArray) (w : World) (cs : Array Value) (hR : Rd w b g a cap L) (hP : Pow w0) (hF : Far w0 w b) (hT : w.heap[t]? = some (.cells cs 64 (0, 0))) (hc : cs.size = 17) (htb : t ≠ b) (hgt : g ≠ t) : Calls Tryz.prog 77 #[.pointer (some ⟨b, 0, none⟩), .int .i64 2, .pointer (some ⟨t, 0, none⟩)] w (PartOut jumpT putJ b g t cs w L) := by
  have HC : Hid (Calls Tryz.prog _ #[.pointer (some ⟨b, 0, none⟩), .pointer (some ⟨t, 0, none⟩)] w (PartOut jumpT putJ b g t cs w L)) := jumpPart_any b g cap t a L w cs hR hT hc htb hgt
  clear hR hP hF hT hc htb hgt
  go_enter Tryz.func77, Tryz.ntmps77
  go_wp2_with fail
  refine HC.out.mono ?_
  rintro e x ⟨cs', ok, a', cap', L', rfl, h1, h2, h3, h4, h5⟩
  have H : Hid (PartOut jumpT putJ b g t cs w L (.returned (.bool ok)) x) := ⟨cs', ok, a', cap', L', rfl, h1, h2, h3, h4, h5⟩
  clear h1 h2 h3 h4 h5
  go_wp2
  go_ret
  exact H.out
end Go.Proofs.YtodjccipfonaiaaGreatDoor
