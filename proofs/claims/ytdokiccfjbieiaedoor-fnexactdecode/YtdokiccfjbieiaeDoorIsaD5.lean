/- Instructions: an Insn out of a first word, one form for all kinds. -/
import Derived.Test.YtdokiccfjbieiaeDoorRows
import Derived.WalkKit
import Derived.WalkSpells
import Derived.WalkLawsBesides
import Derived.Outline
import Derived.Test.YtdokiccfjbieiaeDoorBase
import Derived.Test.YtdokiccfjbieiaeDoorRes2
import Derived.Test.YtdokiccfjbieiaeDoorIsaD3
import Derived.Test.YtdokiccfjbieiaeDoorIsaD4
namespace Go.Proofs.YtdokiccfjbieiaeDoor
open Go.RowKit
set_option linter.unusedVariables false

structure Ins where
  op : ByteArray
  b : Bool
  m : Int
  r : Int
  n : Int
  l : Bool
  m2 : Int
  r2 : Int
  n2 : Int
  l2 : Bool
  j : Int
def Ins.vals (i : Ins) : Array Value := #[.string i.op, .bool i.b, .int .i64 i.m, .int .i64 i.r, .int .i64 i.n, .bool i.l, .int .i64 i.m2, .int .i64 i.r2, .int .i64 i.n2, .bool i.l2, .int .i64 i.j]
def nameAt (k : Nat) : ByteArray := namesL.flatten.getD k ⟨#[]⟩
/- The program's Insn of a first word. -/
def insI (w : Int) : Ins :=
  if 16384 ≤ w then { op := nameAt (w / 4096).toNat, b := w / 64 % 2 == 1, m := (srcT (w / 16 % 4) (w / 256 % 16)).1, r := (srcT (w / 16 % 4) (w / 256 % 16)).2.1, n := (srcT (w / 16 % 4) (w / 256 % 16)).2.2.1, l := (srcT (w / 16 % 4) (w / 256 % 16)).2.2.2, m2 := (dstT (w / 128 % 2) (w % 16)).1, r2 := (dstT (w / 128 % 2) (w % 16)).2, n2 := 0, l2 := false, j := 0 }
  else if 8192 ≤ w then { op := nameAt (32 + (w / 1024 % 8).toNat), b := false, m := 0, r := 0, n := 0, l := false, m2 := 0, r2 := 0, n2 := 0, l2 := false, j := (w + 512) % 1024 - 512 }
  else if 4096 ≤ w ∧ w < 5120 then { op := nameAt (16 + (w / 128 % 8).toNat), b := w / 64 % 2 == 1, m := (srcT (w / 16 % 4) (w % 16)).1, r := (srcT (w / 16 % 4) (w % 16)).2.1, n := (srcT (w / 16 % 4) (w % 16)).2.2.1, l := (srcT (w / 16 % 4) (w % 16)).2.2.2, m2 := 0, r2 := 0, n2 := 0, l2 := false, j := 0 }
  else { op := ⟨#[]⟩, b := false, m := 0, r := 0, n := 0, l := false, m2 := 0, r2 := 0, n2 := 0, l2 := false, j := 0 }
theorem names_flat : namesL.flatten.length = 48 := by decide +kernel
theorem name_cell {w : World} (hT : Tabs w) (k : Nat) (hk : k < 48) : w.cell? ⟨0, k, none⟩ = some (.string (nameAt k)) := by
  obtain ⟨t, fr, h⟩ := hT.ops
  have hl : k < namesL.flatten.length := by rw [names_flat]; exact hk
  rw [cell_of_row w _ k _ t fr h]
  simp only [namesV, nameAt, List.getElem?_toArray, List.getElem?_map, List.getElem?_eq_getElem hl, Option.map_some, List.getD, Option.getD_some]
theorem insnOf_any (word : Int) (w : World) (h0 : 0 ≤ word) (h1 : word ≤ 65535) (hT : Tabs w) : Calls Tryd.prog 48 #[.int .i64 word] w fun e w' => e = .returned (.agg (insI word).vals) ∧ Below w.heap.size w w' := by
  unfold insI
  by_cases c1 : 16384 ≤ word
  · rw [if_pos c1]
    exact insnOf_two word (word / 4096).toNat _ w c1 h1 (by omega) (by omega) (name_cell hT _ (by omega)) hT
  rw [if_neg c1]
  by_cases c2 : 8192 ≤ word
  · rw [if_pos c2]
    exact insnOf_jump word (word / 1024 % 8).toNat _ w c2 (by omega) (by omega) (by omega) (name_cell hT _ (by omega))
  rw [if_neg c2]
  by_cases c3 : 4096 ≤ word ∧ word < 5120
  · rw [if_pos c3]
    exact insnOf_one word (word / 128 % 8).toNat _ w c3.1 c3.2 (by omega) (by omega) (name_cell hT _ (by omega)) hT
  rw [if_neg c3]
  exact insnOf_no word w h0 (by omega)
def Ins.right (i : Ins) : Bool := insnB i.op i.b i.m i.r i.n i.l i.m2 i.r2 i.n2 i.l2 i.j
def outV (i : Array Value) (many code : Int) : Array Value := i ++ #[.int .i64 many, .int .i64 code]
def zeroIns : Ins := { op := ⟨#[]⟩, b := false, m := 0, r := 0, n := 0, l := false, m2 := 0, r2 := 0, n2 := 0, l2 := false, j := 0 }
set_option maxRecDepth 100000 in
set_option maxHeartbeats 1600000 in
theorem implDec_size (a : Option Addr) (L : List Int) (cap : Nat) (w : World) (hl : 400 < L.length) (hm : L.length ≤ maxLen) :
    Calls Tryd.prog 19 #[.slice a L.length cap] w fun e w' => e = .returned (.agg (outV zeroIns.vals 0 2)) ∧ Below w.heap.size w w' := by
  unfold maxLen at hm
  have hl' : (400 : Int) < (L.length : Int) := by omega
  go_enter Tryd.func19, Tryd.ntmps19
  go_wp2
  exact bodyPost_ret (results_cell_row Tryd.results19 _ _ w.heap.size 38 _ (0, 0) _ rfl (heap_alloc_new _ _) Tryd.underlying38 rfl (by kernel_rfl)) rfl ⟨rfl, below_new _ _⟩
set_option maxRecDepth 100000 in
set_option maxHeartbeats 1600000 in
theorem implDec_form (a : Option Addr) (L : List Int) (cap : Nat) (w : World) (hl : L.length ≤ 400) (hR : ReadI w a L) (hw : wordsB L = false) :
    Calls Tryd.prog 19 #[.slice a L.length cap] w fun e w' => e = .returned (.agg (outV zeroIns.vals 0 1)) ∧ Below w.heap.size w w' := by
  have HW : Hid (_ = _) := hw
  have HR : Hid (∀ o, ReadI (w.alloc o) a L) := fun o => hR.alloc o
  clear hw hR
  have hl' : ¬ (400 : Int) < (L.length : Int) := by omega
  go_enter Tryd.func19, Tryd.ntmps19
  go_wp2_with fail
  refine (areWords_any a L cap _ (HR.out _) (by omega)).mono ?_
  rintro e w1 ⟨rfl, rfl⟩
  rw [HW.out]
  go_wp2
  exact bodyPost_ret (results_cell_row Tryd.results19 _ _ w.heap.size 38 _ (0, 0) _ rfl (heap_alloc_new _ _) Tryd.underlying38 rfl (by kernel_rfl)) rfl ⟨rfl, below_new _ _⟩
set_option maxRecDepth 100000 in
set_option maxHeartbeats 1600000 in
theorem implDec_none (a : Option Addr) (cap : Nat) (w : World) (hR : ReadI w a []) :
    Calls Tryd.prog 19 #[.slice a 0 cap] w fun e w' => e = .returned (.agg (outV zeroIns.vals 0 4)) ∧ Below w.heap.size w w' := by
  have HR : Hid (∀ o, ReadI (w.alloc o) a []) := fun o => hR.alloc o
  clear hR
  go_enter Tryd.func19, Tryd.ntmps19
  go_wp2_with fail
  refine (areWords_any a [] cap _ (HR.out _) (by simp)).mono ?_
  rintro e w1 ⟨rfl, rfl⟩
  rw [show wordsB [] = true from rfl]
  go_wp2
  exact bodyPost_ret (results_cell_row Tryd.results19 _ _ w.heap.size 38 _ (0, 0) _ rfl (heap_alloc_new _ _) Tryd.underlying38 rfl (by kernel_rfl)) rfl ⟨rfl, below_new _ _⟩
end Go.Proofs.YtdokiccfjbieiaeDoor
