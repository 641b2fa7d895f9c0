/- Instructions: Decode of the specification. -/
import Derived.Test.YtknielpkmablkaaDoorRows
import Derived.WalkKit
import Derived.WalkSpells
import Derived.WalkLawsBesides
import Derived.Outline
import Derived.Test.YtknielpkmablkaaDoorBun0
import Derived.Test.YtknielpkmablkaaDoorBun1
import Derived.Test.YtknielpkmablkaaDoorBun10
import Derived.Test.YtknielpkmablkaaDoorBun11
import Derived.Test.YtknielpkmablkaaDoorBun15
import Derived.Test.YtknielpkmablkaaDoorIsaD12X
import Derived.Test.YtknielpkmablkaaDoorBun25
import Derived.Test.YtknielpkmablkaaDoorIsaD14X
import Derived.Deep.CutRange
import Derived.RegionTactic
import Derived.BigRegion
namespace Go.Proofs.YtknielpkmablkaaDoor
open Go.RowKit
set_option linter.unusedVariables false

def decSpec (f : Fst) (L : List Int) : Array Value :=
  if f.ok = false then outV zeroIns.vals 0 3
  else if (L.length : Int) < 1 + bit f.n + bit f.m then outV zeroIns.vals 0 4
  else outV (Ins.vals { f.i with n := (if f.n then L.getD 1 0 else f.i.n), l := (if f.n then ((shortI (L.getD 1 0)).2.2 && f.i.m == 5) else f.i.l), n2 := (if f.m then L.getD (if f.n then 2 else 1) 0 else f.i.n2) }) (1 + bit f.n + bit f.m) 0
set_option maxRecDepth 100000 in
set_option maxHeartbeats 6400000 in
theorem specDec_no (a : Option Addr) (L : List Int) (x : Int) (op : ByteArray) (b : Bool) (m r n : Int) (l : Bool) (m2 r2 n2 : Int) (l2 : Bool) (j : Int) (cap : Nat) (w : World) (hl : L.length ≤ 400) (h0 : 0 < L.length) (hx : L[0]? = some x) (hR : ReadI w a L) (hx0 : 0 ≤ x) (hx1 : x ≤ 65535) (fn fm : Bool) (hi : firstS x = ⟨⟨op, b, m, r, n, l, m2, r2, n2, l2, j⟩, fn, fm, false⟩) :
    Calls Tryd.prog 23 #[.slice a L.length cap] w fun e w' => e = .returned (.agg (outV zeroIns.vals 0 3)) ∧ Below w.heap.size w w' := by
  obtain ⟨p, rfl, hp, hc⟩ := hR h0
  have HR : Hid (ReadI w (some p) L) := hR
  have hc1 : w.cell? p = some (.int .i64 x) := by
    have h := hc 0 h0
    rw [List.getElem?_eq_getElem h0] at hx
    rw [Option.some.inj hx] at h
    rw [add0] at h
    exact h
  have HC : Hid (∀ o, (w.alloc o).cell? p = some (.int .i64 x)) := fun o => ((below_new w o).cell hp).trans hc1
  have HI : Hid (∀ W : World, Calls Tryd.prog 34 #[.int .i64 x] W fun e w' => e = .returned (.tuple #[.agg #[.string op, .bool b, .int .i64 m, .int .i64 r, .int .i64 n, .bool l, .int .i64 m2, .int .i64 r2, .int .i64 n2, .bool l2, .int .i64 j], .int .i64 (bit fn), .int .i64 (bit fm), .bool false]) ∧ Below W.heap.size W w') := fun W => by
    have h := first_any x W hx0 hx1
    rw [hi] at h
    exact h
  clear hR hc hc1 hi hx
  have hl2 : ((L.length : Int) == 0) = false := by rw [beq_eq_false_iff_ne]; omega
  have hl3 : (0 : Int) < (L.length : Int) := by omega
  go_enter Tryd.func23, Tryd.ntmps23
  have hc0 := HC.out (.cells #[.string ⟨#[]⟩, .bool false, .int .i64 0, .int .i64 0, .int .i64 0, .bool false, .int .i64 0, .int .i64 0, .int .i64 0, .bool false, .int .i64 0, .int .i64 0, .int .i64 0] 47)
  go_wp2_with fail
  refine (HI.out _).mono ?_
  rintro e x1 ⟨rfl, hb⟩
  have HR1 : Hid (_ = _) := heap_keep (heap_alloc_new w _) hb
  have HB1 : Hid (Below w.heap.size w x1) := below_call (below_new _ _) hb
  clear hb hc0
  generalize bit fn = bn
  generalize bit fm = bm
  go_upto_region 4 with fail
  have HV2 : Hid (_ = _) := heap_alloc_new x1 (.cells #[.string op, .bool b, .int .i64 m, .int .i64 r, .int .i64 n, .bool l, .int .i64 m2, .int .i64 r2, .int .i64 n2, .bool l2, .int .i64 j] 45)
  have HR2 : Hid (_ = _) := heap_more HR1.out (.cells #[.string op, .bool b, .int .i64 m, .int .i64 r, .int .i64 n, .bool l, .int .i64 m2, .int .i64 r2, .int .i64 n2, .bool l2, .int .i64 j] 45)
  have HB2 : Hid (Below w.heap.size w (x1.alloc (.cells #[.string op, .bool b, .int .i64 m, .int .i64 r, .int .i64 n, .bool l, .int .i64 m2, .int .i64 r2, .int .i64 n2, .bool l2, .int .i64 j] 45))) := below_more HB1.out _
  have hge : w.heap.size ≤ x1.heap.size := HB1.out.size
  have hwn : w.heap.size ≠ x1.heap.size := Nat.ne_of_lt (heap_lt HR1.out)
  have hps : p.block ≠ x1.heap.size := Nat.ne_of_lt (Nat.lt_of_lt_of_le hp HB1.out.size)
  clear HR1
  generalize x1.alloc (.cells #[.string op, .bool b, .int .i64 m, .int .i64 r, .int .i64 n, .bool l, .int .i64 m2, .int .i64 r2, .int .i64 n2, .bool l2, .int .i64 j] 45) = x2 at *
  generalize x1.heap.size = g at *
  obtain ⟨q0, q1, q2, q3, q4, q5, q6, q7, q8, q9, q10, q11, q12⟩ := cellsD HR2.out
  have y0 := frozen_of_row _ _ 0 _ _ HR2.out
  have y1 := frozen_of_row _ _ 1 _ _ HR2.out
  have y2 := frozen_of_row _ _ 2 _ _ HR2.out
  have y3 := frozen_of_row _ _ 3 _ _ HR2.out
  have y4 := frozen_of_row _ _ 4 _ _ HR2.out
  have y5 := frozen_of_row _ _ 5 _ _ HR2.out
  have y6 := frozen_of_row _ _ 6 _ _ HR2.out
  have y7 := frozen_of_row _ _ 7 _ _ HR2.out
  have y8 := frozen_of_row _ _ 8 _ _ HR2.out
  have y9 := frozen_of_row _ _ 9 _ _ HR2.out
  have y10 := frozen_of_row _ _ 10 _ _ HR2.out
  have y11 := frozen_of_row _ _ 11 _ _ HR2.out
  have y12 := frozen_of_row _ _ 12 _ _ HR2.out
  go_wp2
  exact bodyPost_ret (results_cell_row Tryd.results23 _ _ w.heap.size 47 _ (0, 0) _ rfl (set_thirteen HR2.out) Tryd.underlying47 rfl (by kernel_rfl)) rfl ⟨rfl, below_thirteen (Nat.le_refl _) HB2.out⟩
set_option maxRecDepth 100000 in
set_option maxHeartbeats 6400000 in
theorem specDec_ff (a : Option Addr) (L : List Int) (x : Int) (op : ByteArray) (b : Bool) (m r n : Int) (l : Bool) (m2 r2 n2 : Int) (l2 : Bool) (j : Int) (cap : Nat) (w : World) (hl : L.length ≤ 400) (h0 : 0 < L.length) (hx : L[0]? = some x) (hR : ReadI w a L) (hx0 : 0 ≤ x) (hx1 : x ≤ 65535) (hi : firstS x = ⟨⟨op, b, m, r, n, l, m2, r2, n2, l2, j⟩, false, false, true⟩) (hk : 1 ≤ L.length) :
    Calls Tryd.prog 23 #[.slice a L.length cap] w fun e w' => e = .returned (.agg (outV #[.string op, .bool b, .int .i64 m, .int .i64 r, .int .i64 n, .bool l, .int .i64 m2, .int .i64 r2, .int .i64 n2, .bool l2, .int .i64 j] 1 0)) ∧ Below w.heap.size w w' := by
  obtain ⟨p, rfl, hp, hc⟩ := hR h0
  have HR : Hid (ReadI w (some p) L) := hR
  have hc1 : w.cell? p = some (.int .i64 x) := by
    have h := hc 0 h0
    rw [List.getElem?_eq_getElem h0] at hx
    rw [Option.some.inj hx] at h
    rw [add0] at h
    exact h
  have HC : Hid (∀ o, (w.alloc o).cell? p = some (.int .i64 x)) := fun o => ((below_new w o).cell hp).trans hc1
  have HI : Hid (∀ W : World, Calls Tryd.prog 34 #[.int .i64 x] W fun e w' => e = .returned (.tuple #[.agg #[.string op, .bool b, .int .i64 m, .int .i64 r, .int .i64 n, .bool l, .int .i64 m2, .int .i64 r2, .int .i64 n2, .bool l2, .int .i64 j], .int .i64 (bit false), .int .i64 (bit false), .bool true]) ∧ Below W.heap.size W w') := fun W => by
    have h := first_any x W hx0 hx1
    rw [hi] at h
    exact h
  clear hR hc hc1 hi hx
  have hl2 : ((L.length : Int) == 0) = false := by rw [beq_eq_false_iff_ne]; omega
  have hl3 : (0 : Int) < (L.length : Int) := by omega
  go_enter Tryd.func23, Tryd.ntmps23
  have hc0 := HC.out (.cells #[.string ⟨#[]⟩, .bool false, .int .i64 0, .int .i64 0, .int .i64 0, .bool false, .int .i64 0, .int .i64 0, .int .i64 0, .bool false, .int .i64 0, .int .i64 0, .int .i64 0] 47)
  go_wp2_with fail
  refine (HI.out _).mono ?_
  rintro e x1 ⟨rfl, hb⟩
  have HR1 : Hid (_ = _) := heap_keep (heap_alloc_new w _) hb
  have HB1 : Hid (Below w.heap.size w x1) := below_call (below_new _ _) hb
  clear hb hc0
  simp only [show bit false = 0 from rfl]
  go_upto_region 4 with fail
  have HV2 : Hid (_ = _) := heap_alloc_new x1 (.cells #[.string op, .bool b, .int .i64 m, .int .i64 r, .int .i64 n, .bool l, .int .i64 m2, .int .i64 r2, .int .i64 n2, .bool l2, .int .i64 j] 45)
  have HR2 : Hid (_ = _) := heap_more HR1.out (.cells #[.string op, .bool b, .int .i64 m, .int .i64 r, .int .i64 n, .bool l, .int .i64 m2, .int .i64 r2, .int .i64 n2, .bool l2, .int .i64 j] 45)
  have HB2 : Hid (Below w.heap.size w (x1.alloc (.cells #[.string op, .bool b, .int .i64 m, .int .i64 r, .int .i64 n, .bool l, .int .i64 m2, .int .i64 r2, .int .i64 n2, .bool l2, .int .i64 j] 45))) := below_more HB1.out _
  have hge : w.heap.size ≤ x1.heap.size := HB1.out.size
  have hwn : w.heap.size ≠ x1.heap.size := Nat.ne_of_lt (heap_lt HR1.out)
  have hps : p.block ≠ x1.heap.size := Nat.ne_of_lt (Nat.lt_of_lt_of_le hp HB1.out.size)
  clear HR1
  generalize x1.alloc (.cells #[.string op, .bool b, .int .i64 m, .int .i64 r, .int .i64 n, .bool l, .int .i64 m2, .int .i64 r2, .int .i64 n2, .bool l2, .int .i64 j] 45) = x2 at *
  generalize x1.heap.size = g at *
  have hk' : ¬ (L.length : Int) < 1 := by omega
  obtain ⟨d0, d1, d2, d3, d4, d5, d6, d7, d8, d9, d10⟩ := cells11 HV2.out
  have f4 := frozen_of_row _ _ 4 _ _ HV2.out
  have f5 := frozen_of_row _ _ 5 _ _ HV2.out
  have f8 := frozen_of_row _ _ 8 _ _ HV2.out
  obtain ⟨q0, q1, q2, q3, q4, q5, q6, q7, q8, q9, q10, q11, q12⟩ := cellsD HR2.out
  have y0 := frozen_of_row _ _ 0 _ _ HR2.out
  have y1 := frozen_of_row _ _ 1 _ _ HR2.out
  have y2 := frozen_of_row _ _ 2 _ _ HR2.out
  have y3 := frozen_of_row _ _ 3 _ _ HR2.out
  have y4 := frozen_of_row _ _ 4 _ _ HR2.out
  have y5 := frozen_of_row _ _ 5 _ _ HR2.out
  have y6 := frozen_of_row _ _ 6 _ _ HR2.out
  have y7 := frozen_of_row _ _ 7 _ _ HR2.out
  have y8 := frozen_of_row _ _ 8 _ _ HR2.out
  have y9 := frozen_of_row _ _ 9 _ _ HR2.out
  have y10 := frozen_of_row _ _ 10 _ _ HR2.out
  have y11 := frozen_of_row _ _ 11 _ _ HR2.out
  have y12 := frozen_of_row _ _ 12 _ _ HR2.out
  go_wp2
  exact bodyPost_ret (results_cell_row Tryd.results23 _ _ w.heap.size 47 _ (0, 0) _ rfl (set_thirteen HR2.out) Tryd.underlying47 rfl (by kernel_rfl)) rfl ⟨rfl, below_thirteen (Nat.le_refl _) HB2.out⟩
set_option maxRecDepth 100000 in
set_option maxHeartbeats 6400000 in
theorem specDec_fts (a : Option Addr) (L : List Int) (x : Int) (op : ByteArray) (b : Bool) (m r n : Int) (l : Bool) (m2 r2 n2 : Int) (l2 : Bool) (j : Int) (cap : Nat) (w : World) (hl : L.length ≤ 400) (h0 : 0 < L.length) (hx : L[0]? = some x) (hR : ReadI w a L) (hx0 : 0 ≤ x) (hx1 : x ≤ 65535) (hi : firstS x = ⟨⟨op, b, m, r, n, l, m2, r2, n2, l2, j⟩, false, true, true⟩) (hk : L.length < 2) :
    Calls Tryd.prog 23 #[.slice a L.length cap] w fun e w' => e = .returned (.agg (outV zeroIns.vals 0 4)) ∧ Below w.heap.size w w' := by
  obtain ⟨p, rfl, hp, hc⟩ := hR h0
  have HR : Hid (ReadI w (some p) L) := hR
  have hc1 : w.cell? p = some (.int .i64 x) := by
    have h := hc 0 h0
    rw [List.getElem?_eq_getElem h0] at hx
    rw [Option.some.inj hx] at h
    rw [add0] at h
    exact h
  have HC : Hid (∀ o, (w.alloc o).cell? p = some (.int .i64 x)) := fun o => ((below_new w o).cell hp).trans hc1
  have HI : Hid (∀ W : World, Calls Tryd.prog 34 #[.int .i64 x] W fun e w' => e = .returned (.tuple #[.agg #[.string op, .bool b, .int .i64 m, .int .i64 r, .int .i64 n, .bool l, .int .i64 m2, .int .i64 r2, .int .i64 n2, .bool l2, .int .i64 j], .int .i64 (bit false), .int .i64 (bit true), .bool true]) ∧ Below W.heap.size W w') := fun W => by
    have h := first_any x W hx0 hx1
    rw [hi] at h
    exact h
  clear hR hc hc1 hi hx
  have hl2 : ((L.length : Int) == 0) = false := by rw [beq_eq_false_iff_ne]; omega
  have hl3 : (0 : Int) < (L.length : Int) := by omega
  go_enter Tryd.func23, Tryd.ntmps23
  have hc0 := HC.out (.cells #[.string ⟨#[]⟩, .bool false, .int .i64 0, .int .i64 0, .int .i64 0, .bool false, .int .i64 0, .int .i64 0, .int .i64 0, .bool false, .int .i64 0, .int .i64 0, .int .i64 0] 47)
  go_wp2_with fail
  refine (HI.out _).mono ?_
  rintro e x1 ⟨rfl, hb⟩
  have HR1 : Hid (_ = _) := heap_keep (heap_alloc_new w _) hb
  have HB1 : Hid (Below w.heap.size w x1) := below_call (below_new _ _) hb
  clear hb hc0
  simp only [show bit false = 0 from rfl, show bit true = 1 from rfl]
  go_upto_region 4 with fail
  have HV2 : Hid (_ = _) := heap_alloc_new x1 (.cells #[.string op, .bool b, .int .i64 m, .int .i64 r, .int .i64 n, .bool l, .int .i64 m2, .int .i64 r2, .int .i64 n2, .bool l2, .int .i64 j] 45)
  have HR2 : Hid (_ = _) := heap_more HR1.out (.cells #[.string op, .bool b, .int .i64 m, .int .i64 r, .int .i64 n, .bool l, .int .i64 m2, .int .i64 r2, .int .i64 n2, .bool l2, .int .i64 j] 45)
  have HB2 : Hid (Below w.heap.size w (x1.alloc (.cells #[.string op, .bool b, .int .i64 m, .int .i64 r, .int .i64 n, .bool l, .int .i64 m2, .int .i64 r2, .int .i64 n2, .bool l2, .int .i64 j] 45))) := below_more HB1.out _
  have hge : w.heap.size ≤ x1.heap.size := HB1.out.size
  have hwn : w.heap.size ≠ x1.heap.size := Nat.ne_of_lt (heap_lt HR1.out)
  have hps : p.block ≠ x1.heap.size := Nat.ne_of_lt (Nat.lt_of_lt_of_le hp HB1.out.size)
  clear HR1
  generalize x1.alloc (.cells #[.string op, .bool b, .int .i64 m, .int .i64 r, .int .i64 n, .bool l, .int .i64 m2, .int .i64 r2, .int .i64 n2, .bool l2, .int .i64 j] 45) = x2 at *
  generalize x1.heap.size = g at *
  have hk' : (L.length : Int) < 2 := by omega
  obtain ⟨q0, q1, q2, q3, q4, q5, q6, q7, q8, q9, q10, q11, q12⟩ := cellsD HR2.out
  have y0 := frozen_of_row _ _ 0 _ _ HR2.out
  have y1 := frozen_of_row _ _ 1 _ _ HR2.out
  have y2 := frozen_of_row _ _ 2 _ _ HR2.out
  have y3 := frozen_of_row _ _ 3 _ _ HR2.out
  have y4 := frozen_of_row _ _ 4 _ _ HR2.out
  have y5 := frozen_of_row _ _ 5 _ _ HR2.out
  have y6 := frozen_of_row _ _ 6 _ _ HR2.out
  have y7 := frozen_of_row _ _ 7 _ _ HR2.out
  have y8 := frozen_of_row _ _ 8 _ _ HR2.out
  have y9 := frozen_of_row _ _ 9 _ _ HR2.out
  have y10 := frozen_of_row _ _ 10 _ _ HR2.out
  have y11 := frozen_of_row _ _ 11 _ _ HR2.out
  have y12 := frozen_of_row _ _ 12 _ _ HR2.out
  go_wp2
  exact bodyPost_ret (results_cell_row Tryd.results23 _ _ w.heap.size 47 _ (0, 0) _ rfl (set_thirteen HR2.out) Tryd.underlying47 rfl (by kernel_rfl)) rfl ⟨rfl, below_thirteen (Nat.le_refl _) HB2.out⟩
set_option maxRecDepth 100000 in
set_option maxHeartbeats 6400000 in
theorem specDec_ft (a : Option Addr) (L : List Int) (x : Int) (op : ByteArray) (b : Bool) (m r n : Int) (l : Bool) (m2 r2 n2 : Int) (l2 : Bool) (j : Int) (cap : Nat) (w : World) (hl : L.length ≤ 400) (h0 : 0 < L.length) (hx : L[0]? = some x) (hR : ReadI w a L) (hx0 : 0 ≤ x) (hx1 : x ≤ 65535) (hi : firstS x = ⟨⟨op, b, m, r, n, l, m2, r2, n2, l2, j⟩, false, true, true⟩) (hk : 2 ≤ L.length) :
    Calls Tryd.prog 23 #[.slice a L.length cap] w fun e w' => e = .returned (.agg (outV #[.string op, .bool b, .int .i64 m, .int .i64 r, .int .i64 n, .bool l, .int .i64 m2, .int .i64 r2, .int .i64 (L.getD 1 0), .bool l2, .int .i64 j] 2 0)) ∧ Below w.heap.size w w' := by
  obtain ⟨p, rfl, hp, hc⟩ := hR h0
  have HR : Hid (ReadI w (some p) L) := hR
  have hc1 : w.cell? p = some (.int .i64 x) := by
    have h := hc 0 h0
    rw [List.getElem?_eq_getElem h0] at hx
    rw [Option.some.inj hx] at h
    rw [add0] at h
    exact h
  have HC : Hid (∀ o, (w.alloc o).cell? p = some (.int .i64 x)) := fun o => ((below_new w o).cell hp).trans hc1
  have HI : Hid (∀ W : World, Calls Tryd.prog 34 #[.int .i64 x] W fun e w' => e = .returned (.tuple #[.agg #[.string op, .bool b, .int .i64 m, .int .i64 r, .int .i64 n, .bool l, .int .i64 m2, .int .i64 r2, .int .i64 n2, .bool l2, .int .i64 j], .int .i64 (bit false), .int .i64 (bit true), .bool true]) ∧ Below W.heap.size W w') := fun W => by
    have h := first_any x W hx0 hx1
    rw [hi] at h
    exact h
  clear hR hc hc1 hi hx
  have hl2 : ((L.length : Int) == 0) = false := by rw [beq_eq_false_iff_ne]; omega
  have hl3 : (0 : Int) < (L.length : Int) := by omega
  go_enter Tryd.func23, Tryd.ntmps23
  have hc0 := HC.out (.cells #[.string ⟨#[]⟩, .bool false, .int .i64 0, .int .i64 0, .int .i64 0, .bool false, .int .i64 0, .int .i64 0, .int .i64 0, .bool false, .int .i64 0, .int .i64 0, .int .i64 0] 47)
  go_wp2_with fail
  refine (HI.out _).mono ?_
  rintro e x1 ⟨rfl, hb⟩
  have HR1 : Hid (_ = _) := heap_keep (heap_alloc_new w _) hb
  have HB1 : Hid (Below w.heap.size w x1) := below_call (below_new _ _) hb
  clear hb hc0
  simp only [show bit false = 0 from rfl, show bit true = 1 from rfl]
  go_upto_region 4 with fail
  have HV2 : Hid (_ = _) := heap_alloc_new x1 (.cells #[.string op, .bool b, .int .i64 m, .int .i64 r, .int .i64 n, .bool l, .int .i64 m2, .int .i64 r2, .int .i64 n2, .bool l2, .int .i64 j] 45)
  have HR2 : Hid (_ = _) := heap_more HR1.out (.cells #[.string op, .bool b, .int .i64 m, .int .i64 r, .int .i64 n, .bool l, .int .i64 m2, .int .i64 r2, .int .i64 n2, .bool l2, .int .i64 j] 45)
  have HB2 : Hid (Below w.heap.size w (x1.alloc (.cells #[.string op, .bool b, .int .i64 m, .int .i64 r, .int .i64 n, .bool l, .int .i64 m2, .int .i64 r2, .int .i64 n2, .bool l2, .int .i64 j] 45))) := below_more HB1.out _
  have hge : w.heap.size ≤ x1.heap.size := HB1.out.size
  have hwn : w.heap.size ≠ x1.heap.size := Nat.ne_of_lt (heap_lt HR1.out)
  have hps : p.block ≠ x1.heap.size := Nat.ne_of_lt (Nat.lt_of_lt_of_le hp HB1.out.size)
  clear HR1
  generalize x1.alloc (.cells #[.string op, .bool b, .int .i64 m, .int .i64 r, .int .i64 n, .bool l, .int .i64 m2, .int .i64 r2, .int .i64 n2, .bool l2, .int .i64 j] 45) = x2 at *
  generalize x1.heap.size = g at *
  have hk' : ¬ (L.length : Int) < 2 := by omega
  have hc1 : x2.cell? ⟨p.block, p.off + 1, none⟩ = some (.int .i64 (L.getD 1 0)) := read_at (HR.out.below HB2.out) 1 (by omega)
  have hg1 : (1 : Int) < (L.length : Int) := by omega
  generalize hN1 : L.getD 1 0 = N1 at *
  have HN1 : Hid (_ = _) := hN1
  clear hN1
  obtain ⟨d0, d1, d2, d3, d4, d5, d6, d7, d8, d9, d10⟩ := cells11 HV2.out
  have f4 := frozen_of_row _ _ 4 _ _ HV2.out
  have f5 := frozen_of_row _ _ 5 _ _ HV2.out
  have f8 := frozen_of_row _ _ 8 _ _ HV2.out
  obtain ⟨q0, q1, q2, q3, q4, q5, q6, q7, q8, q9, q10, q11, q12⟩ := cellsD HR2.out
  have y0 := frozen_of_row _ _ 0 _ _ HR2.out
  have y1 := frozen_of_row _ _ 1 _ _ HR2.out
  have y2 := frozen_of_row _ _ 2 _ _ HR2.out
  have y3 := frozen_of_row _ _ 3 _ _ HR2.out
  have y4 := frozen_of_row _ _ 4 _ _ HR2.out
  have y5 := frozen_of_row _ _ 5 _ _ HR2.out
  have y6 := frozen_of_row _ _ 6 _ _ HR2.out
  have y7 := frozen_of_row _ _ 7 _ _ HR2.out
  have y8 := frozen_of_row _ _ 8 _ _ HR2.out
  have y9 := frozen_of_row _ _ 9 _ _ HR2.out
  have y10 := frozen_of_row _ _ 10 _ _ HR2.out
  have y11 := frozen_of_row _ _ 11 _ _ HR2.out
  have y12 := frozen_of_row _ _ 12 _ _ HR2.out
  go_wp2
  exact bodyPost_ret (results_cell_row Tryd.results23 _ _ w.heap.size 47 _ (0, 0) _ rfl (set_thirteen (set_far hwn HR2.out)) Tryd.underlying47 rfl (by kernel_rfl)) rfl ⟨ret_agg (by rw [← HN1.out]; rfl), below_thirteen (Nat.le_refl _) (HB2.out.setCell hge _)⟩
set_option maxRecDepth 100000 in
set_option maxHeartbeats 6400000 in
theorem specDec_tfs (a : Option Addr) (L : List Int) (x : Int) (op : ByteArray) (b : Bool) (m r n : Int) (l : Bool) (m2 r2 n2 : Int) (l2 : Bool) (j : Int) (cap : Nat) (w : World) (hl : L.length ≤ 400) (h0 : 0 < L.length) (hx : L[0]? = some x) (hR : ReadI w a L) (hx0 : 0 ≤ x) (hx1 : x ≤ 65535) (hi : firstS x = ⟨⟨op, b, m, r, n, l, m2, r2, n2, l2, j⟩, true, false, true⟩) (hk : L.length < 2) :
    Calls Tryd.prog 23 #[.slice a L.length cap] w fun e w' => e = .returned (.agg (outV zeroIns.vals 0 4)) ∧ Below w.heap.size w w' := by
  obtain ⟨p, rfl, hp, hc⟩ := hR h0
  have HR : Hid (ReadI w (some p) L) := hR
  have hc1 : w.cell? p = some (.int .i64 x) := by
    have h := hc 0 h0
    rw [List.getElem?_eq_getElem h0] at hx
    rw [Option.some.inj hx] at h
    rw [add0] at h
    exact h
  have HC : Hid (∀ o, (w.alloc o).cell? p = some (.int .i64 x)) := fun o => ((below_new w o).cell hp).trans hc1
  have HI : Hid (∀ W : World, Calls Tryd.prog 34 #[.int .i64 x] W fun e w' => e = .returned (.tuple #[.agg #[.string op, .bool b, .int .i64 m, .int .i64 r, .int .i64 n, .bool l, .int .i64 m2, .int .i64 r2, .int .i64 n2, .bool l2, .int .i64 j], .int .i64 (bit true), .int .i64 (bit false), .bool true]) ∧ Below W.heap.size W w') := fun W => by
    have h := first_any x W hx0 hx1
    rw [hi] at h
    exact h
  clear hR hc hc1 hi hx
  have hl2 : ((L.length : Int) == 0) = false := by rw [beq_eq_false_iff_ne]; omega
  have hl3 : (0 : Int) < (L.length : Int) := by omega
  go_enter Tryd.func23, Tryd.ntmps23
  have hc0 := HC.out (.cells #[.string ⟨#[]⟩, .bool false, .int .i64 0, .int .i64 0, .int .i64 0, .bool false, .int .i64 0, .int .i64 0, .int .i64 0, .bool false, .int .i64 0, .int .i64 0, .int .i64 0] 47)
  go_wp2_with fail
  refine (HI.out _).mono ?_
  rintro e x1 ⟨rfl, hb⟩
  have HR1 : Hid (_ = _) := heap_keep (heap_alloc_new w _) hb
  have HB1 : Hid (Below w.heap.size w x1) := below_call (below_new _ _) hb
  clear hb hc0
  simp only [show bit false = 0 from rfl, show bit true = 1 from rfl]
  go_upto_region 4 with fail
  have HV2 : Hid (_ = _) := heap_alloc_new x1 (.cells #[.string op, .bool b, .int .i64 m, .int .i64 r, .int .i64 n, .bool l, .int .i64 m2, .int .i64 r2, .int .i64 n2, .bool l2, .int .i64 j] 45)
  have HR2 : Hid (_ = _) := heap_more HR1.out (.cells #[.string op, .bool b, .int .i64 m, .int .i64 r, .int .i64 n, .bool l, .int .i64 m2, .int .i64 r2, .int .i64 n2, .bool l2, .int .i64 j] 45)
  have HB2 : Hid (Below w.heap.size w (x1.alloc (.cells #[.string op, .bool b, .int .i64 m, .int .i64 r, .int .i64 n, .bool l, .int .i64 m2, .int .i64 r2, .int .i64 n2, .bool l2, .int .i64 j] 45))) := below_more HB1.out _
  have hge : w.heap.size ≤ x1.heap.size := HB1.out.size
  have hwn : w.heap.size ≠ x1.heap.size := Nat.ne_of_lt (heap_lt HR1.out)
  have hps : p.block ≠ x1.heap.size := Nat.ne_of_lt (Nat.lt_of_lt_of_le hp HB1.out.size)
  clear HR1
  generalize x1.alloc (.cells #[.string op, .bool b, .int .i64 m, .int .i64 r, .int .i64 n, .bool l, .int .i64 m2, .int .i64 r2, .int .i64 n2, .bool l2, .int .i64 j] 45) = x2 at *
  generalize x1.heap.size = g at *
  have hk' : (L.length : Int) < 2 := by omega
  obtain ⟨q0, q1, q2, q3, q4, q5, q6, q7, q8, q9, q10, q11, q12⟩ := cellsD HR2.out
  have y0 := frozen_of_row _ _ 0 _ _ HR2.out
  have y1 := frozen_of_row _ _ 1 _ _ HR2.out
  have y2 := frozen_of_row _ _ 2 _ _ HR2.out
  have y3 := frozen_of_row _ _ 3 _ _ HR2.out
  have y4 := frozen_of_row _ _ 4 _ _ HR2.out
  have y5 := frozen_of_row _ _ 5 _ _ HR2.out
  have y6 := frozen_of_row _ _ 6 _ _ HR2.out
  have y7 := frozen_of_row _ _ 7 _ _ HR2.out
  have y8 := frozen_of_row _ _ 8 _ _ HR2.out
  have y9 := frozen_of_row _ _ 9 _ _ HR2.out
  have y10 := frozen_of_row _ _ 10 _ _ HR2.out
  have y11 := frozen_of_row _ _ 11 _ _ HR2.out
  have y12 := frozen_of_row _ _ 12 _ _ HR2.out
  go_wp2
  exact bodyPost_ret (results_cell_row Tryd.results23 _ _ w.heap.size 47 _ (0, 0) _ rfl (set_thirteen HR2.out) Tryd.underlying47 rfl (by kernel_rfl)) rfl ⟨rfl, below_thirteen (Nat.le_refl _) HB2.out⟩
set_option maxRecDepth 100000 in
set_option maxHeartbeats 6400000 in
theorem specDec_tf (a : Option Addr) (L : List Int) (x : Int) (op : ByteArray) (b : Bool) (m r n : Int) (l : Bool) (m2 r2 n2 : Int) (l2 : Bool) (j : Int) (cap : Nat) (w : World) (hl : L.length ≤ 400) (h0 : 0 < L.length) (hx : L[0]? = some x) (hR : ReadI w a L) (hx0 : 0 ≤ x) (hx1 : x ≤ 65535) (hi : firstS x = ⟨⟨op, b, m, r, n, l, m2, r2, n2, l2, j⟩, true, false, true⟩) (hk : 2 ≤ L.length) :
    Calls Tryd.prog 23 #[.slice a L.length cap] w fun e w' => e = .returned (.agg (outV #[.string op, .bool b, .int .i64 m, .int .i64 r, .int .i64 (L.getD 1 0), .bool ((shortI (L.getD 1 0)).2.2 && m == 5), .int .i64 m2, .int .i64 r2, .int .i64 n2, .bool l2, .int .i64 j] 2 0)) ∧ Below w.heap.size w w' := by
  obtain ⟨p, rfl, hp, hc⟩ := hR h0
  have HR : Hid (ReadI w (some p) L) := hR
  have hc1 : w.cell? p = some (.int .i64 x) := by
    have h := hc 0 h0
    rw [List.getElem?_eq_getElem h0] at hx
    rw [Option.some.inj hx] at h
    rw [add0] at h
    exact h
  have HC : Hid (∀ o, (w.alloc o).cell? p = some (.int .i64 x)) := fun o => ((below_new w o).cell hp).trans hc1
  have HI : Hid (∀ W : World, Calls Tryd.prog 34 #[.int .i64 x] W fun e w' => e = .returned (.tuple #[.agg #[.string op, .bool b, .int .i64 m, .int .i64 r, .int .i64 n, .bool l, .int .i64 m2, .int .i64 r2, .int .i64 n2, .bool l2, .int .i64 j], .int .i64 (bit true), .int .i64 (bit false), .bool true]) ∧ Below W.heap.size W w') := fun W => by
    have h := first_any x W hx0 hx1
    rw [hi] at h
    exact h
  clear hR hc hc1 hi hx
  have hl2 : ((L.length : Int) == 0) = false := by rw [beq_eq_false_iff_ne]; omega
  have hl3 : (0 : Int) < (L.length : Int) := by omega
  go_enter Tryd.func23, Tryd.ntmps23
  have hc0 := HC.out (.cells #[.string ⟨#[]⟩, .bool false, .int .i64 0, .int .i64 0, .int .i64 0, .bool false, .int .i64 0, .int .i64 0, .int .i64 0, .bool false, .int .i64 0, .int .i64 0, .int .i64 0] 47)
  go_wp2_with fail
  refine (HI.out _).mono ?_
  rintro e x1 ⟨rfl, hb⟩
  have HR1 : Hid (_ = _) := heap_keep (heap_alloc_new w _) hb
  have HB1 : Hid (Below w.heap.size w x1) := below_call (below_new _ _) hb
  clear hb hc0
  simp only [show bit false = 0 from rfl, show bit true = 1 from rfl]
  go_upto_region 4 with fail
  have HV2 : Hid (_ = _) := heap_alloc_new x1 (.cells #[.string op, .bool b, .int .i64 m, .int .i64 r, .int .i64 n, .bool l, .int .i64 m2, .int .i64 r2, .int .i64 n2, .bool l2, .int .i64 j] 45)
  have HR2 : Hid (_ = _) := heap_more HR1.out (.cells #[.string op, .bool b, .int .i64 m, .int .i64 r, .int .i64 n, .bool l, .int .i64 m2, .int .i64 r2, .int .i64 n2, .bool l2, .int .i64 j] 45)
  have HB2 : Hid (Below w.heap.size w (x1.alloc (.cells #[.string op, .bool b, .int .i64 m, .int .i64 r, .int .i64 n, .bool l, .int .i64 m2, .int .i64 r2, .int .i64 n2, .bool l2, .int .i64 j] 45))) := below_more HB1.out _
  have hge : w.heap.size ≤ x1.heap.size := HB1.out.size
  have hwn : w.heap.size ≠ x1.heap.size := Nat.ne_of_lt (heap_lt HR1.out)
  have hps : p.block ≠ x1.heap.size := Nat.ne_of_lt (Nat.lt_of_lt_of_le hp HB1.out.size)
  clear HR1
  generalize x1.alloc (.cells #[.string op, .bool b, .int .i64 m, .int .i64 r, .int .i64 n, .bool l, .int .i64 m2, .int .i64 r2, .int .i64 n2, .bool l2, .int .i64 j] 45) = x2 at *
  generalize x1.heap.size = g at *
  have hk' : ¬ (L.length : Int) < 2 := by omega
  have hc1 : x2.cell? ⟨p.block, p.off + 1, none⟩ = some (.int .i64 (L.getD 1 0)) := read_at (HR.out.below HB2.out) 1 (by omega)
  have hg1 : (1 : Int) < (L.length : Int) := by omega
  generalize hN1 : L.getD 1 0 = N1 at *
  have HN1 : Hid (_ = _) := hN1
  clear hN1
  obtain ⟨d0, d1, d2, d3, d4, d5, d6, d7, d8, d9, d10⟩ := cells11 HV2.out
  have f4 := frozen_of_row _ _ 4 _ _ HV2.out
  have f5 := frozen_of_row _ _ 5 _ _ HV2.out
  have f8 := frozen_of_row _ _ 8 _ _ HV2.out
  go_wp2_with fail
  refine (l02Short_any N1 _).mono ?_
  rintro e x3 ⟨rfl, rfl⟩
  generalize hsv : (shortI N1).2.2 = sv at *
  obtain ⟨q0, q1, q2, q3, q4, q5, q6, q7, q8, q9, q10, q11, q12⟩ := cellsD HR2.out
  have y0 := frozen_of_row _ _ 0 _ _ HR2.out
  have y1 := frozen_of_row _ _ 1 _ _ HR2.out
  have y2 := frozen_of_row _ _ 2 _ _ HR2.out
  have y3 := frozen_of_row _ _ 3 _ _ HR2.out
  have y4 := frozen_of_row _ _ 4 _ _ HR2.out
  have y5 := frozen_of_row _ _ 5 _ _ HR2.out
  have y6 := frozen_of_row _ _ 6 _ _ HR2.out
  have y7 := frozen_of_row _ _ 7 _ _ HR2.out
  have y8 := frozen_of_row _ _ 8 _ _ HR2.out
  have y9 := frozen_of_row _ _ 9 _ _ HR2.out
  have y10 := frozen_of_row _ _ 10 _ _ HR2.out
  have y11 := frozen_of_row _ _ 11 _ _ HR2.out
  have y12 := frozen_of_row _ _ 12 _ _ HR2.out
  by_cases h5 : m = 5
  · subst h5
    cases sv
    all_goals
      go_wp2
      exact bodyPost_ret (results_cell_row Tryd.results23 _ _ w.heap.size 47 _ (0, 0) _ rfl (set_thirteen (set_far hwn (set_far hwn (HR2.out)))) Tryd.underlying47 rfl (by kernel_rfl)) rfl ⟨ret_agg (by rw [HN1.out, hsv]; rfl), below_thirteen (Nat.le_refl _) ((HB2.out.setCell hge _).setCell hge _)⟩
  · have h5' : (m == 5) = false := by rw [beq_eq_false_iff_ne]; exact h5
    clear h5
    cases sv
    all_goals
      go_wp2
      exact bodyPost_ret (results_cell_row Tryd.results23 _ _ w.heap.size 47 _ (0, 0) _ rfl (set_thirteen (set_far hwn (set_far hwn (HR2.out)))) Tryd.underlying47 rfl (by kernel_rfl)) rfl ⟨ret_agg (by rw [HN1.out, hsv, h5']; rfl), below_thirteen (Nat.le_refl _) ((HB2.out.setCell hge _).setCell hge _)⟩
set_option maxRecDepth 100000 in
set_option maxHeartbeats 6400000 in
theorem specDec_tts (a : Option Addr) (L : List Int) (x : Int) (op : ByteArray) (b : Bool) (m r n : Int) (l : Bool) (m2 r2 n2 : Int) (l2 : Bool) (j : Int) (cap : Nat) (w : World) (hl : L.length ≤ 400) (h0 : 0 < L.length) (hx : L[0]? = some x) (hR : ReadI w a L) (hx0 : 0 ≤ x) (hx1 : x ≤ 65535) (hi : firstS x = ⟨⟨op, b, m, r, n, l, m2, r2, n2, l2, j⟩, true, true, true⟩) (hk : L.length < 3) :
    Calls Tryd.prog 23 #[.slice a L.length cap] w fun e w' => e = .returned (.agg (outV zeroIns.vals 0 4)) ∧ Below w.heap.size w w' := by
  obtain ⟨p, rfl, hp, hc⟩ := hR h0
  have HR : Hid (ReadI w (some p) L) := hR
  have hc1 : w.cell? p = some (.int .i64 x) := by
    have h := hc 0 h0
    rw [List.getElem?_eq_getElem h0] at hx
    rw [Option.some.inj hx] at h
    rw [add0] at h
    exact h
  have HC : Hid (∀ o, (w.alloc o).cell? p = some (.int .i64 x)) := fun o => ((below_new w o).cell hp).trans hc1
  have HI : Hid (∀ W : World, Calls Tryd.prog 34 #[.int .i64 x] W fun e w' => e = .returned (.tuple #[.agg #[.string op, .bool b, .int .i64 m, .int .i64 r, .int .i64 n, .bool l, .int .i64 m2, .int .i64 r2, .int .i64 n2, .bool l2, .int .i64 j], .int .i64 (bit true), .int .i64 (bit true), .bool true]) ∧ Below W.heap.size W w') := fun W => by
    have h := first_any x W hx0 hx1
    rw [hi] at h
    exact h
  clear hR hc hc1 hi hx
  have hl2 : ((L.length : Int) == 0) = false := by rw [beq_eq_false_iff_ne]; omega
  have hl3 : (0 : Int) < (L.length : Int) := by omega
  go_enter Tryd.func23, Tryd.ntmps23
  have hc0 := HC.out (.cells #[.string ⟨#[]⟩, .bool false, .int .i64 0, .int .i64 0, .int .i64 0, .bool false, .int .i64 0, .int .i64 0, .int .i64 0, .bool false, .int .i64 0, .int .i64 0, .int .i64 0] 47)
  go_wp2_with fail
  refine (HI.out _).mono ?_
  rintro e x1 ⟨rfl, hb⟩
  have HR1 : Hid (_ = _) := heap_keep (heap_alloc_new w _) hb
  have HB1 : Hid (Below w.heap.size w x1) := below_call (below_new _ _) hb
  clear hb hc0
  simp only [show bit true = 1 from rfl]
  go_upto_region 4 with fail
  have HV2 : Hid (_ = _) := heap_alloc_new x1 (.cells #[.string op, .bool b, .int .i64 m, .int .i64 r, .int .i64 n, .bool l, .int .i64 m2, .int .i64 r2, .int .i64 n2, .bool l2, .int .i64 j] 45)
  have HR2 : Hid (_ = _) := heap_more HR1.out (.cells #[.string op, .bool b, .int .i64 m, .int .i64 r, .int .i64 n, .bool l, .int .i64 m2, .int .i64 r2, .int .i64 n2, .bool l2, .int .i64 j] 45)
  have HB2 : Hid (Below w.heap.size w (x1.alloc (.cells #[.string op, .bool b, .int .i64 m, .int .i64 r, .int .i64 n, .bool l, .int .i64 m2, .int .i64 r2, .int .i64 n2, .bool l2, .int .i64 j] 45))) := below_more HB1.out _
  have hge : w.heap.size ≤ x1.heap.size := HB1.out.size
  have hwn : w.heap.size ≠ x1.heap.size := Nat.ne_of_lt (heap_lt HR1.out)
  have hps : p.block ≠ x1.heap.size := Nat.ne_of_lt (Nat.lt_of_lt_of_le hp HB1.out.size)
  clear HR1
  generalize x1.alloc (.cells #[.string op, .bool b, .int .i64 m, .int .i64 r, .int .i64 n, .bool l, .int .i64 m2, .int .i64 r2, .int .i64 n2, .bool l2, .int .i64 j] 45) = x2 at *
  generalize x1.heap.size = g at *
  have hk' : (L.length : Int) < 3 := by omega
  obtain ⟨q0, q1, q2, q3, q4, q5, q6, q7, q8, q9, q10, q11, q12⟩ := cellsD HR2.out
  have y0 := frozen_of_row _ _ 0 _ _ HR2.out
  have y1 := frozen_of_row _ _ 1 _ _ HR2.out
  have y2 := frozen_of_row _ _ 2 _ _ HR2.out
  have y3 := frozen_of_row _ _ 3 _ _ HR2.out
  have y4 := frozen_of_row _ _ 4 _ _ HR2.out
  have y5 := frozen_of_row _ _ 5 _ _ HR2.out
  have y6 := frozen_of_row _ _ 6 _ _ HR2.out
  have y7 := frozen_of_row _ _ 7 _ _ HR2.out
  have y8 := frozen_of_row _ _ 8 _ _ HR2.out
  have y9 := frozen_of_row _ _ 9 _ _ HR2.out
  have y10 := frozen_of_row _ _ 10 _ _ HR2.out
  have y11 := frozen_of_row _ _ 11 _ _ HR2.out
  have y12 := frozen_of_row _ _ 12 _ _ HR2.out
  go_wp2
  exact bodyPost_ret (results_cell_row Tryd.results23 _ _ w.heap.size 47 _ (0, 0) _ rfl (set_thirteen HR2.out) Tryd.underlying47 rfl (by kernel_rfl)) rfl ⟨rfl, below_thirteen (Nat.le_refl _) HB2.out⟩
set_option maxRecDepth 100000 in
set_option maxHeartbeats 6400000 in
theorem specDec_tt (a : Option Addr) (L : List Int) (x : Int) (op : ByteArray) (b : Bool) (m r n : Int) (l : Bool) (m2 r2 n2 : Int) (l2 : Bool) (j : Int) (cap : Nat) (w : World) (hl : L.length ≤ 400) (h0 : 0 < L.length) (hx : L[0]? = some x) (hR : ReadI w a L) (hx0 : 0 ≤ x) (hx1 : x ≤ 65535) (hi : firstS x = ⟨⟨op, b, m, r, n, l, m2, r2, n2, l2, j⟩, true, true, true⟩) (hk : 3 ≤ L.length) :
    Calls Tryd.prog 23 #[.slice a L.length cap] w fun e w' => e = .returned (.agg (outV #[.string op, .bool b, .int .i64 m, .int .i64 r, .int .i64 (L.getD 1 0), .bool ((shortI (L.getD 1 0)).2.2 && m == 5), .int .i64 m2, .int .i64 r2, .int .i64 (L.getD 2 0), .bool l2, .int .i64 j] 3 0)) ∧ Below w.heap.size w w' := by
  obtain ⟨p, rfl, hp, hc⟩ := hR h0
  have HR : Hid (ReadI w (some p) L) := hR
  have hc1 : w.cell? p = some (.int .i64 x) := by
    have h := hc 0 h0
    rw [List.getElem?_eq_getElem h0] at hx
    rw [Option.some.inj hx] at h
    rw [add0] at h
    exact h
  have HC : Hid (∀ o, (w.alloc o).cell? p = some (.int .i64 x)) := fun o => ((below_new w o).cell hp).trans hc1
  have HI : Hid (∀ W : World, Calls Tryd.prog 34 #[.int .i64 x] W fun e w' => e = .returned (.tuple #[.agg #[.string op, .bool b, .int .i64 m, .int .i64 r, .int .i64 n, .bool l, .int .i64 m2, .int .i64 r2, .int .i64 n2, .bool l2, .int .i64 j], .int .i64 (bit true), .int .i64 (bit true), .bool true]) ∧ Below W.heap.size W w') := fun W => by
    have h := first_any x W hx0 hx1
    rw [hi] at h
    exact h
  clear hR hc hc1 hi hx
  have hl2 : ((L.length : Int) == 0) = false := by rw [beq_eq_false_iff_ne]; omega
  have hl3 : (0 : Int) < (L.length : Int) := by omega
  go_enter Tryd.func23, Tryd.ntmps23
  have hc0 := HC.out (.cells #[.string ⟨#[]⟩, .bool false, .int .i64 0, .int .i64 0, .int .i64 0, .bool false, .int .i64 0, .int .i64 0, .int .i64 0, .bool false, .int .i64 0, .int .i64 0, .int .i64 0] 47)
  go_wp2_with fail
  refine (HI.out _).mono ?_
  rintro e x1 ⟨rfl, hb⟩
  have HR1 : Hid (_ = _) := heap_keep (heap_alloc_new w _) hb
  have HB1 : Hid (Below w.heap.size w x1) := below_call (below_new _ _) hb
  clear hb hc0
  simp only [show bit true = 1 from rfl]
  go_upto_region 4 with fail
  have HV2 : Hid (_ = _) := heap_alloc_new x1 (.cells #[.string op, .bool b, .int .i64 m, .int .i64 r, .int .i64 n, .bool l, .int .i64 m2, .int .i64 r2, .int .i64 n2, .bool l2, .int .i64 j] 45)
  have HR2 : Hid (_ = _) := heap_more HR1.out (.cells #[.string op, .bool b, .int .i64 m, .int .i64 r, .int .i64 n, .bool l, .int .i64 m2, .int .i64 r2, .int .i64 n2, .bool l2, .int .i64 j] 45)
  have HB2 : Hid (Below w.heap.size w (x1.alloc (.cells #[.string op, .bool b, .int .i64 m, .int .i64 r, .int .i64 n, .bool l, .int .i64 m2, .int .i64 r2, .int .i64 n2, .bool l2, .int .i64 j] 45))) := below_more HB1.out _
  have hge : w.heap.size ≤ x1.heap.size := HB1.out.size
  have hwn : w.heap.size ≠ x1.heap.size := Nat.ne_of_lt (heap_lt HR1.out)
  have hps : p.block ≠ x1.heap.size := Nat.ne_of_lt (Nat.lt_of_lt_of_le hp HB1.out.size)
  clear HR1
  generalize x1.alloc (.cells #[.string op, .bool b, .int .i64 m, .int .i64 r, .int .i64 n, .bool l, .int .i64 m2, .int .i64 r2, .int .i64 n2, .bool l2, .int .i64 j] 45) = x2 at *
  generalize x1.heap.size = g at *
  have hk' : ¬ (L.length : Int) < 3 := by omega
  have hc1 : x2.cell? ⟨p.block, p.off + 1, none⟩ = some (.int .i64 (L.getD 1 0)) := read_at (HR.out.below HB2.out) 1 (by omega)
  have hg1 : (1 : Int) < (L.length : Int) := by omega
  generalize hN1 : L.getD 1 0 = N1 at *
  have HN1 : Hid (_ = _) := hN1
  clear hN1
  have hc2 : x2.cell? ⟨p.block, p.off + 2, none⟩ = some (.int .i64 (L.getD 2 0)) := read_at (HR.out.below HB2.out) 2 (by omega)
  have hg2 : (2 : Int) < (L.length : Int) := by omega
  generalize hN2 : L.getD 2 0 = N2 at *
  have HN2 : Hid (_ = _) := hN2
  clear hN2
  obtain ⟨d0, d1, d2, d3, d4, d5, d6, d7, d8, d9, d10⟩ := cells11 HV2.out
  have f4 := frozen_of_row _ _ 4 _ _ HV2.out
  have f5 := frozen_of_row _ _ 5 _ _ HV2.out
  have f8 := frozen_of_row _ _ 8 _ _ HV2.out
  go_wp2_with fail
  refine (l02Short_any N1 _).mono ?_
  rintro e x3 ⟨rfl, rfl⟩
  generalize hsv : (shortI N1).2.2 = sv at *
  obtain ⟨q0, q1, q2, q3, q4, q5, q6, q7, q8, q9, q10, q11, q12⟩ := cellsD HR2.out
  have y0 := frozen_of_row _ _ 0 _ _ HR2.out
  have y1 := frozen_of_row _ _ 1 _ _ HR2.out
  have y2 := frozen_of_row _ _ 2 _ _ HR2.out
  have y3 := frozen_of_row _ _ 3 _ _ HR2.out
  have y4 := frozen_of_row _ _ 4 _ _ HR2.out
  have y5 := frozen_of_row _ _ 5 _ _ HR2.out
  have y6 := frozen_of_row _ _ 6 _ _ HR2.out
  have y7 := frozen_of_row _ _ 7 _ _ HR2.out
  have y8 := frozen_of_row _ _ 8 _ _ HR2.out
  have y9 := frozen_of_row _ _ 9 _ _ HR2.out
  have y10 := frozen_of_row _ _ 10 _ _ HR2.out
  have y11 := frozen_of_row _ _ 11 _ _ HR2.out
  have y12 := frozen_of_row _ _ 12 _ _ HR2.out
  by_cases h5 : m = 5
  · subst h5
    cases sv
    all_goals
      go_wp2
      exact bodyPost_ret (results_cell_row Tryd.results23 _ _ w.heap.size 47 _ (0, 0) _ rfl (set_thirteen (set_far hwn (set_far hwn (set_far hwn (HR2.out))))) Tryd.underlying47 rfl (by kernel_rfl)) rfl ⟨ret_agg (by rw [HN1.out, hsv, HN2.out]; rfl), below_thirteen (Nat.le_refl _) (((HB2.out.setCell hge _).setCell hge _).setCell hge _)⟩
  · have h5' : (m == 5) = false := by rw [beq_eq_false_iff_ne]; exact h5
    clear h5
    cases sv
    all_goals
      go_wp2
      exact bodyPost_ret (results_cell_row Tryd.results23 _ _ w.heap.size 47 _ (0, 0) _ rfl (set_thirteen (set_far hwn (set_far hwn (set_far hwn (HR2.out))))) Tryd.underlying47 rfl (by kernel_rfl)) rfl ⟨ret_agg (by rw [HN1.out, hsv, HN2.out, h5']; rfl), below_thirteen (Nat.le_refl _) (((HB2.out.setCell hge _).setCell hge _).setCell hge _)⟩
end Go.Proofs.YtknielpkmablkaaDoor
