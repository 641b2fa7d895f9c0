/- Instructions: an Insn out of a first word, one form for all kinds. -/
import Derived.Test.YtknielpkmablkaaDoorRows
import Derived.WalkKit
import Derived.WalkSpells
import Derived.WalkLawsBesides
import Derived.Outline
import Derived.Test.YtknielpkmablkaaDoorBun0
import Derived.Test.YtknielpkmablkaaDoorBun1
import Derived.Test.YtknielpkmablkaaDoorIsaD3X
import Derived.Test.YtknielpkmablkaaDoorBun11
import Derived.Test.YtknielpkmablkaaDoorBun4
import Derived.Test.YtknielpkmablkaaDoorIsaX
namespace Go.Proofs.YtknielpkmablkaaDoor
open Go.RowKit
set_option linter.unusedVariables false

structure Ins where
  op : ByteArray
  b : Bool
  m : Int
  r : Int
  n : Int
  l : Bool
  m2 : Int
  r2 : Int
  n2 : Int
  l2 : Bool
  j : Int
def Ins.vals (i : Ins) : Array Value := #[.string i.op, .bool i.b, .int .i64 i.m, .int .i64 i.r, .int .i64 i.n, .bool i.l, .int .i64 i.m2, .int .i64 i.r2, .int .i64 i.n2, .bool i.l2, .int .i64 i.j]
def nameAt (k : Nat) : ByteArray := namesL.flatten.getD k ⟨#[]⟩
/- The program's Insn of a first word. -/
def insI (w : Int) : Ins :=
  if 16384 ≤ w then { op := nameAt (w / 4096).toNat, b := w / 64 % 2 == 1, m := (srcT (w / 16 % 4) (w / 256 % 16)).1, r := (srcT (w / 16 % 4) (w / 256 % 16)).2.1, n := (srcT (w / 16 % 4) (w / 256 % 16)).2.2.1, l := (srcT (w / 16 % 4) (w / 256 % 16)).2.2.2, m2 := (dstT (w / 128 % 2) (w % 16)).1, r2 := (dstT (w / 128 % 2) (w % 16)).2, n2 := 0, l2 := false, j := 0 }
  else if 8192 ≤ w then { op := nameAt (32 + (w / 1024 % 8).toNat), b := false, m := 0, r := 0, n := 0, l := false, m2 := 0, r2 := 0, n2 := 0, l2 := false, j := (w + 512) % 1024 - 512 }
  else if 4096 ≤ w ∧ w < 5120 then { op := nameAt (16 + (w / 128 % 8).toNat), b := w / 64 % 2 == 1, m := (srcT (w / 16 % 4) (w % 16)).1, r := (srcT (w / 16 % 4) (w % 16)).2.1, n := (srcT (w / 16 % 4) (w % 16)).2.2.1, l := (srcT (w / 16 % 4) (w % 16)).2.2.2, m2 := 0, r2 := 0, n2 := 0, l2 := false, j := 0 }
  else { op := ⟨#[]⟩, b := false, m := 0, r := 0, n := 0, l := false, m2 := 0, r2 := 0, n2 := 0, l2 := false, j := 0 }
theorem names_flat : namesL.flatten.length = 48 := by decide +kernel
theorem name_cell {w : World} (hT : Tabs w) (k : Nat) (hk : k < 48) : w.cell? ⟨0, k, none⟩ = some (.string (nameAt k)) := by
  obtain ⟨t, fr, h⟩ := hT.ops
  have hl : k < namesL.flatten.length := by rw [names_flat]; exact hk
  rw [cell_of_row w _ k _ t fr h]
  simp only [namesV, nameAt, List.getElem?_toArray, List.getElem?_map, List.getElem?_eq_getElem hl, Option.map_some, List.getD, Option.getD_some]
theorem insnOf_any (word : Int) (w : World) (h0 : 0 ≤ word) (h1 : word ≤ 65535) (hT : Tabs w) : Calls Tryd.prog 40 #[.int .i64 word] w fun e w' => e = .returned (.agg (insI word).vals) ∧ Below w.heap.size w w' := by
  unfold insI
  by_cases c1 : 16384 ≤ word
  · rw [if_pos c1]
    exact insnOf_two word (word / 4096).toNat _ w c1 h1 (by omega) (by omega) (name_cell hT _ (by omega)) hT
  rw [if_neg c1]
  by_cases c2 : 8192 ≤ word
  · rw [if_pos c2]
    exact insnOf_jump word (word / 1024 % 8).toNat _ w c2 (by omega) (by omega) (by omega) (name_cell hT _ (by omega))
  rw [if_neg c2]
  by_cases c3 : 4096 ≤ word ∧ word < 5120
  · rw [if_pos c3]
    exact insnOf_one word (word / 128 % 8).toNat _ w c3.1 c3.2 (by omega) (by omega) (name_cell hT _ (by omega)) hT
  rw [if_neg c3]
  exact insnOf_no word w h0 (by omega)
def Ins.right (i : Ins) : Bool := insnB i.op i.b i.m i.r i.n i.l i.m2 i.r2 i.n2 i.l2 i.j
def outV (i : Array Value) (many code : Int) : Array Value := i ++ #[.int .i64 many, .int .i64 code]
def zeroIns : Ins := { op := ⟨#[]⟩, b := false, m := 0, r := 0, n := 0, l := false, m2 := 0, r2 := 0, n2 := 0, l2 := false, j := 0 }
set_option maxRecDepth 100000 in
set_option maxHeartbeats 1600000 in
theorem implDec_size (a : Option Addr) (L : List Int) (cap : Nat) (w : World) (hl : 400 < L.length) (hm : L.length ≤ maxLen) :
    Calls Tryd.prog 30 #[.slice a L.length cap] w fun e w' => e = .returned (.agg (outV zeroIns.vals 0 2)) ∧ Below w.heap.size w w' := by
  unfold maxLen at hm
  have hl' : (400 : Int) < (L.length : Int) := by omega
  go_enter Tryd.func30, Tryd.ntmps30
  go_wp2
  exact bodyPost_ret (results_cell_row Tryd.results30 _ _ w.heap.size 47 _ (0, 0) _ rfl (heap_alloc_new _ _) Tryd.underlying47 rfl (by kernel_rfl)) rfl ⟨rfl, below_new _ _⟩
set_option maxRecDepth 100000 in
set_option maxHeartbeats 1600000 in
theorem implDec_form (a : Option Addr) (L : List Int) (cap : Nat) (w : World) (hl : L.length ≤ 400) (hR : ReadI w a L) (hw : wordsB L = false) :
    Calls Tryd.prog 30 #[.slice a L.length cap] w fun e w' => e = .returned (.agg (outV zeroIns.vals 0 1)) ∧ Below w.heap.size w w' := by
  have HW : Hid (_ = _) := hw
  have HR : Hid (∀ o, ReadI (w.alloc o) a L) := fun o => hR.alloc o
  clear hw hR
  have hl' : ¬ (400 : Int) < (L.length : Int) := by omega
  go_enter Tryd.func30, Tryd.ntmps30
  go_wp2_with fail
  refine (areWords_any a L cap _ (HR.out _) (by omega)).mono ?_
  rintro e w1 ⟨rfl, rfl⟩
  rw [HW.out]
  go_wp2
  exact bodyPost_ret (results_cell_row Tryd.results30 _ _ w.heap.size 47 _ (0, 0) _ rfl (heap_alloc_new _ _) Tryd.underlying47 rfl (by kernel_rfl)) rfl ⟨rfl, below_new _ _⟩
set_option maxRecDepth 100000 in
set_option maxHeartbeats 1600000 in
theorem implDec_none (a : Option Addr) (cap : Nat) (w : World) (hR : ReadI w a []) :
    Calls Tryd.prog 30 #[.slice a 0 cap] w fun e w' => e = .returned (.agg (outV zeroIns.vals 0 4)) ∧ Below w.heap.size w w' := by
  have HR : Hid (∀ o, ReadI (w.alloc o) a []) := fun o => hR.alloc o
  clear hR
  go_enter Tryd.func30, Tryd.ntmps30
  go_wp2_with fail
  refine (areWords_any a [] cap _ (HR.out _) (by simp)).mono ?_
  rintro e w1 ⟨rfl, rfl⟩
  rw [show wordsB [] = true from rfl]
  go_wp2
  exact bodyPost_ret (results_cell_row Tryd.results30 _ _ w.heap.size 47 _ (0, 0) _ rfl (heap_alloc_new _ _) Tryd.underlying47 rfl (by kernel_rfl)) rfl ⟨rfl, below_new _ _⟩
end Go.Proofs.YtknielpkmablkaaDoor
namespace Go.Proofs.YtknielpkmablkaaDoor
open Go.RowKit
set_option linter.unusedVariables false

theorem cells13 {W : World} {B : Nat} {v0 v1 v2 v3 v4 v5 v6 v7 v8 v9 v10 v11 v12 : Value} {t : TypeId} {fr : Nat × Nat} (h : W.heap[B]? = some (.cells #[v0, v1, v2, v3, v4, v5, v6, v7, v8, v9, v10, v11, v12] t fr)) :
    W.cell? ⟨B, 11, none⟩ = some v11 ∧ W.cell? ⟨B, 12, none⟩ = some v12 :=
  ⟨cell_of_row W B 11 _ t fr h, cell_of_row W B 12 _ t fr h⟩
end Go.Proofs.YtknielpkmablkaaDoor
namespace Go.Proofs.YtknielpkmablkaaDoor
open Go.RowKit
set_option linter.unusedVariables false

/- mode, register, N of the operand of As and a register, and whether a word stands behind. -/
def opdT (a r : Int) : Int × Int × Int × Bool :=
  if r = 3 then (5, 0, (if a = 0 then 0 else if a = 1 then 1 else if a = 2 then 2 else 65535), false)
  else if r = 2 ∧ 1 < a then (5, 0, (if a = 2 then 4 else 8), false) else if r = 2 ∧ a = 1 then (2, 0, 0, true) else if r = 0 ∧ a = 3 then (5, 0, 0, true)
  else ((if a = 0 then 0 else if a = 1 then 1 else if a = 2 then 3 else 4), r, 0, a == 1)
theorem ret_opd {m r n m' r' n' : Int} {b b' : Bool} (h : (m, r, n, b) = (m', r', n', b')) : Ending.returned (.tuple #[.agg #[.int .i64 m, .int .i64 r, .int .i64 n, .bool false], .bool b]) = .returned (.tuple #[.agg #[.int .i64 m', .int .i64 r', .int .i64 n', .bool false], .bool b']) := by
  cases h; rfl
set_option maxRecDepth 100000 in
set_option maxHeartbeats 3200000 in
theorem l02Operand_any (a r : Int) (w : World) (h0 : 0 ≤ a) (h3 : a ≤ 3) : Calls Tryd.prog 49 #[.int .i64 a, .int .i64 r] w fun e w' => e = .returned (.tuple #[.agg #[.int .i64 (opdT a r).1, .int .i64 (opdT a r).2.1, .int .i64 (opdT a r).2.2.1, .bool false], .bool (opdT a r).2.2.2]) ∧ Below w.heap.size w w' := by
  by_cases r3 : r = 3
  · subst r3
    obtain rfl | rfl | rfl | rfl : a = 0 ∨ a = 1 ∨ a = 2 ∨ a = 3 := by omega
    all_goals
      go_enter Tryd.func49, Tryd.ntmps49
      go_wp2
      exact bodyPost_ret (results_row1 Tryd.results49 _ _ w.heap.size 43 _ (0, 0) _ rfl (heap_more (heap_alloc_new _ _) _) Tryd.underlying43 rfl (by kernel_rfl)) rfl ⟨rfl, below_more (below_new _ _) _⟩
  have e3 : (r == 3) = false := by rw [beq_eq_false_iff_ne]; exact r3
  by_cases r2 : r = 2
  · subst r2
    clear r3
    obtain rfl | rfl | rfl | rfl : a = 0 ∨ a = 1 ∨ a = 2 ∨ a = 3 := by omega
    · go_enter Tryd.func49, Tryd.ntmps49
      go_wp2
      exact bodyPost_ret (results_row1 Tryd.results49 _ _ w.heap.size 43 _ (0, 0) _ rfl (heap_more (heap_alloc_new _ _) _) Tryd.underlying43 rfl (by kernel_rfl)) rfl ⟨rfl, below_more (below_new _ _) _⟩
    · go_enter Tryd.func49, Tryd.ntmps49
      go_wp2
      exact bodyPost_ret (results_row1 Tryd.results49 _ _ w.heap.size 43 _ (0, 0) _ rfl (heap_alloc_new _ _) Tryd.underlying43 rfl (by kernel_rfl)) rfl ⟨rfl, below_new _ _⟩
    · go_enter Tryd.func49, Tryd.ntmps49
      go_wp2
      exact bodyPost_ret (results_row1 Tryd.results49 _ _ w.heap.size 43 _ (0, 0) _ rfl (heap_more (heap_alloc_new _ _) _) Tryd.underlying43 rfl (by kernel_rfl)) rfl ⟨rfl, below_more (below_new _ _) _⟩
    · go_enter Tryd.func49, Tryd.ntmps49
      go_wp2
      exact bodyPost_ret (results_row1 Tryd.results49 _ _ w.heap.size 43 _ (0, 0) _ rfl (heap_more (heap_alloc_new _ _) _) Tryd.underlying43 rfl (by kernel_rfl)) rfl ⟨rfl, below_more (below_new _ _) _⟩
  have e2 : (r == 2) = false := by rw [beq_eq_false_iff_ne]; exact r2
  by_cases r0 : r = 0
  · subst r0
    clear r3 r2
    obtain rfl | rfl | rfl | rfl : a = 0 ∨ a = 1 ∨ a = 2 ∨ a = 3 := by omega
    case' inr.inr.inr =>
      go_enter Tryd.func49, Tryd.ntmps49
      go_wp2
      exact bodyPost_ret (results_row1 Tryd.results49 _ _ w.heap.size 43 _ (0, 0) _ rfl (heap_alloc_new _ _) Tryd.underlying43 rfl (by kernel_rfl)) rfl ⟨rfl, below_new _ _⟩
    all_goals
      go_enter Tryd.func49, Tryd.ntmps49
      go_wp2
      exact bodyPost_ret (results_row1 Tryd.results49 _ _ w.heap.size 43 _ (0, 0) _ rfl (heap_more (heap_alloc_new _ _) _) Tryd.underlying43 rfl (by kernel_rfl)) rfl ⟨rfl, below_more (below_new _ _) _⟩
  have e0 : (r == 0) = false := by rw [beq_eq_false_iff_ne]; exact r0
  have HE : Hid (∀ x, 0 ≤ x → x ≤ 3 → opdT x r = ((if x = 0 then 0 else if x = 1 then 1 else if x = 2 then 3 else 4), r, 0, x == 1)) := fun x _ _ => by simp [opdT, r3, r2, r0]
  clear r3 r2 r0
  obtain rfl | rfl | rfl | rfl : a = 0 ∨ a = 1 ∨ a = 2 ∨ a = 3 := by omega
  all_goals
    go_enter Tryd.func49, Tryd.ntmps49
    go_wp2
    exact bodyPost_ret (results_row1 Tryd.results49 _ _ w.heap.size 43 _ (0, 0) _ rfl (heap_more (heap_alloc_new _ _) _) Tryd.underlying43 rfl (by kernel_rfl)) rfl ⟨ret_opd (by rw [HE.out _ (by omega) (by omega)]; rfl), below_more (below_new _ _) _⟩
end Go.Proofs.YtknielpkmablkaaDoor
namespace Go.Proofs.YtknielpkmablkaaDoor
open Go.RowKit
set_option linter.unusedVariables false

def retiIns : Ins := { zeroIns with op := ⟨#[114, 101, 116, 105]⟩ }
set_option maxRecDepth 100000 in
set_option maxHeartbeats 1600000 in
theorem first_reti (w : World) : Calls Tryd.prog 34 #[.int .i64 4864] w fun e w' => e = .returned (.tuple #[.agg retiIns.vals, .int .i64 0, .int .i64 0, .bool true]) ∧ Below w.heap.size w w' := by
  go_enter Tryd.func34, Tryd.ntmps34
  go_wp2
  exact bodyPost_ret (results_row3 Tryd.results34 _ _ w.heap.size 45 _ (0, 0) _ rfl (heap_more (heap_alloc_new _ _) _) Tryd.underlying45 rfl (by kernel_rfl)) rfl ⟨rfl, below_more (below_new _ _) _⟩
set_option maxRecDepth 100000 in
set_option maxHeartbeats 1600000 in
theorem first_no (word : Int) (w : World) (h0 : 0 ≤ word) (h1 : word < 4096 ∨ 4864 < word ∧ word < 8192) : Calls Tryd.prog 34 #[.int .i64 word] w fun e w' => e = .returned (.tuple #[.agg zeroIns.vals, .int .i64 0, .int .i64 0, .bool false]) ∧ Below w.heap.size w w' := by
  have e1 : (word == 4864) = false := by rw [beq_eq_false_iff_ne]; omega
  have n1 : ¬ 8192 ≤ word := by omega
  rcases h1 with h1 | ⟨h1, h2⟩
  · go_enter Tryd.func34, Tryd.ntmps34
    go_wp2
    exact bodyPost_ret (results_row3 Tryd.results34 _ _ w.heap.size 45 _ (0, 0) _ rfl (heap_more (heap_alloc_new _ _) _) Tryd.underlying45 rfl (by kernel_rfl)) rfl ⟨rfl, below_more (below_new _ _) _⟩
  · have n2 : ¬ word < 4096 := by omega
    have n3 : 4864 ≤ word := by omega
    have n4 : word < 16384 := by omega
    go_enter Tryd.func34, Tryd.ntmps34
    go_wp2
    exact bodyPost_ret (results_row3 Tryd.results34 _ _ w.heap.size 45 _ (0, 0) _ rfl (heap_more (heap_alloc_new _ _) _) Tryd.underlying45 rfl (by kernel_rfl)) rfl ⟨rfl, below_more (below_new _ _) _⟩
end Go.Proofs.YtknielpkmablkaaDoor
