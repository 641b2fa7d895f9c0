/- A reader takes an Insn. -/
import Derived.Test.YtodjccipfonaiaaGreatDoorRows
import Derived.WalkKit
import Derived.WalkSpells
import Derived.WalkLawsBesides
import Derived.Outline
import Derived.RegionTactic
import Derived.BigRegion
import Derived.Deep.QuietTactic
import Derived.BigQuiet
import Derived.Deep.RegionHeld3
import Derived.Test.YtodjccipfonaiaaGreatDoorBun0
import Derived.Test.YtodjccipfonaiaaGreatDoorBun7
import Derived.Test.YtodjccipfonaiaaGreatDoorBun37
import Derived.Test.YtodjccipfonaiaaGreatDoorBun39
import Derived.Test.YtodjccipfonaiaaGreatDoorBun40
import Derived.Test.YtodjccipfonaiaaGreatDoorRdIn5X
import Derived.Test.YtodjccipfonaiaaGreatDoorBun10
import Derived.Test.YtodjccipfonaiaaGreatDoorBun14
import Derived.Test.YtodjccipfonaiaaGreatDoorBun38
namespace Go.Proofs.YtodjccipfonaiaaGreatDoor
open Go.RowKit
set_option linter.unusedVariables false

theorem insn_any (w0 : World) (b g cap : Nat) (a : Option Addr) (L : List ByteArray) (w : World) (hR : Rd w b g a cap L) (hT0 : Tabs w0) (hP : Pow w0) (hF : Far w0 w b) : Calls Tryz.prog 34 #[.pointer (some ⟨b, 0, none⟩)] w (InsnPOut b g w L) := by
  cases h0 : opT L with
  | none => exact insn_any1 w0 b g cap a L w hR hT0 hP hF h0
  | some y =>
    obtain ⟨⟨p, bl⟩, L1⟩ := y
    by_cases hr : p = reti
    · exact insn_any2 w0 b g cap a L w hR hT0 hP hF p bl L1 h0 hr
    · cases h1 : (takeT ⟨#[32]⟩ L1).1 with
      | false => exact insn_any3 w0 b g cap a L w hR hT0 hP hF p bl L1 h0 hr h1
      | true =>
        cases h2 : argT p bl (takeT ⟨#[32]⟩ L1).2 with
        | none => exact insn_any4 w0 b g cap a L w hR hT0 hP hF p bl L1 h0 hr h1 h2
        | some y => exact insn_any5 w0 b g cap a L w hR hT0 hP hF p bl L1 y h0 hr h1 h2
end Go.Proofs.YtodjccipfonaiaaGreatDoor
namespace Go.Proofs.YtodjccipfonaiaaGreatDoor
open Go.RowKit
set_option linter.unusedVariables false

def outK : Option (Wri × List ByteArray) → Ins × Int × Int
  | some ((i, s, d, j), []) => if okI i = true ∧ s = ⟨#[]⟩ ∧ d = ⟨#[]⟩ ∧ j = ⟨#[]⟩ then (i, lenI i, 0) else (zeroI, 0, 3)
  | _ => (zeroI, 0, 3)
def outQ (t : ByteArray) : Ins × Int × Int := if 8000 < t.size then (zeroI, 0, 2) else outK (insnT (piecesL t))
def InsQOut (t : ByteArray) (w : World) (e : Ending) (w' : World) : Prop := ∃ (i : Ins) (k c : Int), e = .returned (.agg #[.string i.op, .bool i.b, .int .i64 i.m, .int .i64 i.r, .int .i64 i.n, .bool i.l, .int .i64 i.m2, .int .i64 i.r2, .int .i64 i.n2, .bool i.l2, .int .i64 i.j, .int .i64 k, .int .i64 c]) ∧ outQ t = (i, k, c) ∧ Below w.heap.size w w'
theorem outK_no {x : Option (Wri × List ByteArray)} (h : x = none ∨ ∃ y L, x = some (y, L) ∧ okI y.1 = false) : outK x = (zeroI, 0, 3) := by
  rcases h with rfl | ⟨⟨i, s, d, j⟩, L, rfl, h⟩
  · rfl
  · cases L with
    | nil =>
      show (if okI i = true ∧ s = ⟨#[]⟩ ∧ d = ⟨#[]⟩ ∧ j = ⟨#[]⟩ then (i, lenI i, 0) else (zeroI, 0, 3)) = _
      have h' : okI i = false := h
      rw [if_neg (fun k => by rw [h'] at k; cases k.1)]
    | cons => rfl
theorem empty_yes {s : ByteArray} (h : s.toList.isEmpty = true) : s = ⟨#[]⟩ := by
  rw [ByteArray.toList_eq] at h
  exact ba_list (List.isEmpty_iff.1 h)
theorem cells17a {W : World} {B : Nat} {z0 z1 z2 z3 z4 z5 z6 z7 z8 z9 z10 z11 z12 z13 z14 z15 z16 : Value} {t : TypeId} {fr : Nat × Nat} (h : W.heap[B]? = some (.cells #[z0, z1, z2, z3, z4, z5, z6, z7, z8, z9, z10, z11, z12, z13, z14, z15, z16] t fr)) :
    W.cell? ⟨B, 0, none⟩ = some z0 ∧ W.cell? ⟨B, 1, none⟩ = some z1 ∧ W.cell? ⟨B, 2, none⟩ = some z2 ∧ W.cell? ⟨B, 3, none⟩ = some z3 ∧ W.cell? ⟨B, 4, none⟩ = some z4 ∧ W.cell? ⟨B, 5, none⟩ = some z5 ∧ W.cell? ⟨B, 6, none⟩ = some z6 ∧ W.cell? ⟨B, 7, none⟩ = some z7 ∧ W.cell? ⟨B, 8, none⟩ = some z8 ∧ W.cell? ⟨B, 9, none⟩ = some z9 ∧ W.cell? ⟨B, 10, none⟩ = some z10 :=
  ⟨cell_of_row W B 0 _ t fr h, cell_of_row W B 1 _ t fr h, cell_of_row W B 2 _ t fr h, cell_of_row W B 3 _ t fr h, cell_of_row W B 4 _ t fr h, cell_of_row W B 5 _ t fr h, cell_of_row W B 6 _ t fr h, cell_of_row W B 7 _ t fr h, cell_of_row W B 8 _ t fr h, cell_of_row W B 9 _ t fr h, cell_of_row W B 10 _ t fr h⟩
end Go.Proofs.YtodjccipfonaiaaGreatDoor
namespace Go.Proofs.YtodjccipfonaiaaGreatDoor
open Go.RowKit
set_option linter.unusedVariables false

set_option maxRecDepth 100000 in
set_option maxHeartbeats 6400000 in
theorem implInsnRead1 (t : ByteArray) (w : World) (ht : t.size ≤ maxLen) (hT : Tabs w) (hP : Pow w) (h8 : ¬ 8000 < t.size) (hc0 : insnT (piecesL t) = none ∨ ∃ y L2, insnT (piecesL t) = some (y, L2) ∧ okI y.1 = false) : Calls Tryz.prog 11 #[.string t] w (InsQOut t w) := by
  unfold maxLen at ht
  have h8' : ¬ (8000 : Int) < (t.size : Int) := by omega
  have HO : Hid (outQ t = outK (insnT (piecesL t))) := by show _ = _; unfold outQ; rw [if_neg h8]
  have HT : Hid (Tabs w) := hT
  have HP : Hid (Pow w) := hP
  clear hT hP
  have HC0 : Hid (_) := hc0
  clear hc0
  go_enter Tryz.func11, Tryz.ntmps11
  go_wp2_with fail
  refine (piecesOf_any t _ (by omega)).mono ?_
  rintro e x1 ⟨v, rfl, hO, hb⟩
  have HV1 : Hid (x1.heap[w.heap.size]? = _) := heap_keep (heap_alloc_new w _) hb
  have HB1 : Hid (Below w.heap.size w x1) := below_call (below_new _ _) hb
  clear hb
  have hs1 := heap_lt HV1.out
  obtain ⟨g, a, cap, rfl, hR⟩ := Rd.make hO (by have := pieces_len t; omega) (fun p hp => by have := pieces_size t p hp; omega) (by omega)
  have HR : Hid (_) := hR
  have HF : Hid (Far w (x1.alloc (.cells #[.slice a (piecesL t).length cap] 62)) x1.heap.size) := ⟨below_more HB1.out _, by omega⟩
  clear hR hO
  generalize hL : piecesL t = L at *
  clear hL
  go_wp2_with fail
  refine (insn_any w x1.heap.size g cap a L _ HR.out HT.out HP.out HF.out).mono ?_
  rintro e x2 ⟨cs, ok, a2, cap2, L2, rfl, hsz, hR2, hB2, hc⟩
  have HV2 : Hid (x2.heap[w.heap.size]? = _) := But.keep (heap_more HV1.out _) hB2 (by omega)
  have HB2 : Hid (Below w.heap.size w x2) := But.below (below_more HB1.out _) hB2 (by omega) (by simp; omega)
  have HR2 : Hid (_) := hR2
  have hs2 := heap_lt HV2.out
  have hne : w.heap.size ≠ x2.heap.size := Nat.ne_of_lt hs2
  have hne2 : x2.heap.size ≠ w.heap.size := Nat.ne_of_gt hs2
  clear HR hR2 hB2 HV1 HB1 HF
  rcases hc with ⟨rfl, hno⟩ | ⟨rfl, i, s, k1, d, k2, jn, k3, hyes, hok, hcs⟩
  · have HQ : Hid (outQ t = (zeroI, 0, 3)) := by show _ = _; rw [HO.out, outK_no hno]
    obtain ⟨v0, v1, v2, v3, v4, v5, v6, v7, v8, v9, v10, v11, v12, v13, v14, v15, v16, rfl⟩ := hsz
    clear hno HO
    have c0 := cell_of_row _ _ 0 _ _ _ HV2.out
    have c1 := cell_of_row _ _ 1 _ _ _ HV2.out
    have c2 := cell_of_row _ _ 2 _ _ _ HV2.out
    have c3 := cell_of_row _ _ 3 _ _ _ HV2.out
    have c4 := cell_of_row _ _ 4 _ _ _ HV2.out
    have c5 := cell_of_row _ _ 5 _ _ _ HV2.out
    have c6 := cell_of_row _ _ 6 _ _ _ HV2.out
    have c7 := cell_of_row _ _ 7 _ _ _ HV2.out
    have c8 := cell_of_row _ _ 8 _ _ _ HV2.out
    have c9 := cell_of_row _ _ 9 _ _ _ HV2.out
    have c10 := cell_of_row _ _ 10 _ _ _ HV2.out
    have c11 := cell_of_row _ _ 11 _ _ _ HV2.out
    have c12 := cell_of_row _ _ 12 _ _ _ HV2.out
    have z0 := frozen_of_row _ _ 0 _ _ HV2.out
    have z1 := frozen_of_row _ _ 1 _ _ HV2.out
    have z2 := frozen_of_row _ _ 2 _ _ HV2.out
    have z3 := frozen_of_row _ _ 3 _ _ HV2.out
    have z4 := frozen_of_row _ _ 4 _ _ HV2.out
    have z5 := frozen_of_row _ _ 5 _ _ HV2.out
    have z6 := frozen_of_row _ _ 6 _ _ HV2.out
    have z7 := frozen_of_row _ _ 7 _ _ HV2.out
    have z8 := frozen_of_row _ _ 8 _ _ HV2.out
    have z9 := frozen_of_row _ _ 9 _ _ HV2.out
    have z10 := frozen_of_row _ _ 10 _ _ HV2.out
    have z11 := frozen_of_row _ _ 11 _ _ HV2.out
    have z12 := frozen_of_row _ _ 12 _ _ HV2.out
    go_wp2
    exact bodyPost_ret (results_cell_row Tryz.results11 _ _ w.heap.size 34 _ (0, 0) _ rfl (heap_more (set_thirteen HV2.out) _) Tryz.underlying34 rfl (by kernel_rfl)) rfl ⟨zeroI, 0, 3, rfl, HQ.out, (below_more (below_thirteen (Nat.le_refl _) HB2.out) _)⟩
  exfalso
  rcases HC0.out with h | ⟨y, L3, h, h2⟩
  · rw [h] at hyes; cases hyes
  · rw [h] at hyes; cases hyes; rw [hok] at h2; cases h2
end Go.Proofs.YtodjccipfonaiaaGreatDoor
