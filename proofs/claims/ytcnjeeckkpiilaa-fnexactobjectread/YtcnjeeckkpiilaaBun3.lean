/- Instructions: what the specification's small functions answer. -/
import Derived.Test.YtcnjeeckkpiilaaRows
import Derived.WalkKit
import Derived.WalkSpells
import Derived.WalkLawsBesides
import Derived.Test.YtcnjeeckkpiilaaBun0
import Derived.RegionTactic
import Derived.BigRegion
import Derived.Deep.RegionWith
import Derived.Outline
import Derived.Test.YtcnjeeckkpiilaaBun1
import Derived.Test.YtcnjeeckkpiilaaOwnSX
namespace Go.Proofs.Ytcnjeeckkpiilaa
open Go.RowKit

structure Opd where
  mode : Int
  reg : Int
  n : Int
  long : Bool
def Opd.val (o : Opd) : Value := .agg #[.int .i64 o.mode, .int .i64 o.reg, .int .i64 o.n, .bool o.long]
def isB (n low high : Int) : Bool := decide (low ≤ n) && decide (n ≤ high)
theorem l02Is_any (n low high : Int) (w : World) : Calls Try.prog 66 #[.int .i64 n, .int .i64 low, .int .i64 high] w fun e w' => e = .returned (.bool (isB n low high)) ∧ w' = w := by
  by_cases h1 : low ≤ n
  · go_enter Try.func66, Try.ntmps66
    go_wp2
    go_ret
    exact ⟨ret_bool (by simp [isB, h1]), rfl⟩
  · go_enter Try.func66, Try.ntmps66
    go_wp2
    go_ret
    exact ⟨ret_bool (by simp [isB]; omega), rfl⟩
theorem l02Word_any (n : Int) (w : World) : Calls Try.prog 64 #[.int .i64 n] w fun e w' => e = .returned (.bool (isB n 0 65535)) ∧ w' = w := by
  go_enter Try.func64, Try.ntmps64
  go_wp2_with fail
  refine (l02Is_any n 0 65535 _).mono ?_
  rintro e w1 ⟨rfl, rfl⟩
  go_wp2
  go_ret
  exact ⟨rfl, rfl⟩
def plainB (r : Int) : Bool := isB r 0 15 && (r != 2 && r != 3)
def shortI (n : Int) : Int × Int × Bool :=
  if n = 0 ∨ n = 1 ∨ n = 2 then (n, 3, true) else if n = 65535 then (3, 3, true) else if n = 4 then (2, 2, true) else if n = 8 then (3, 2, true) else (3, 0, false)
theorem ret_three {a b a' b' : Int} {c c' : Bool} (h : (a, b, c) = (a', b', c')) : Ending.returned (.tuple #[.int .i64 a, .int .i64 b, .bool c]) = .returned (.tuple #[.int .i64 a', .int .i64 b', .bool c']) := by
  cases h; rfl
def srcB (m r n : Int) (l : Bool) : Bool :=
  if m = 0 then isB r 0 15 && (r != 3) && (n == 0) && !l
  else if m = 1 then plainB r && isB n 0 65535 && !l
  else if m = 2 then (r == 0) && isB n 0 65535 && !l
  else if m = 3 then plainB r && (n == 0) && !l
  else if m = 4 then plainB r && (r != 0) && (n == 0) && !l
  else if m = 5 then (r == 0) && isB n 0 65535 && (!l || (shortI n).2.2)
  else false
end Go.Proofs.Ytcnjeeckkpiilaa
namespace Go.Proofs.Ytcnjeeckkpiilaa
open Go.RowKit

def zeroB (m r n : Int) (l : Bool) : Bool := (m == 0) && (r == 0) && (n == 0) && !l
def dstB (m r n : Int) (l : Bool) : Bool := if m = 0 then isB r 0 15 && (n == 0) && !l else if m = 1 ∨ m = 2 then srcB m r n l else false
def twosL : List ByteArray := [⟨#[109, 111, 118]⟩, ⟨#[97, 100, 100]⟩, ⟨#[97, 100, 100, 99]⟩, ⟨#[115, 117, 98, 99]⟩, ⟨#[115, 117, 98]⟩, ⟨#[99, 109, 112]⟩, ⟨#[100, 97, 100, 100]⟩, ⟨#[98, 105, 116]⟩, ⟨#[98, 105, 99]⟩, ⟨#[98, 105, 115]⟩, ⟨#[120, 111, 114]⟩, ⟨#[97, 110, 100]⟩]
def onesL : List ByteArray := [⟨#[114, 114, 99]⟩, ⟨#[115, 119, 112, 98]⟩, ⟨#[114, 114, 97]⟩, ⟨#[115, 120, 116]⟩, ⟨#[112, 117, 115, 104]⟩, ⟨#[99, 97, 108, 108]⟩, ⟨#[114, 101, 116, 105]⟩]
def jumpsL : List ByteArray := [⟨#[106, 110, 101]⟩, ⟨#[106, 101, 113]⟩, ⟨#[106, 110, 99]⟩, ⟨#[106, 99]⟩, ⟨#[106, 110]⟩, ⟨#[106, 103, 101]⟩, ⟨#[106, 108]⟩, ⟨#[106, 109, 112]⟩]
/- The place of a text among others, or -1. -/
def atF : List ByteArray → ByteArray → Nat → Int
  | [], _, _ => -1
  | s :: L, t, i => if s = t then (i : Int) else atF L t (i + 1)
def atI (L : List ByteArray) (t : ByteArray) : Int := atF L t 0
theorem atF_drop (L : List ByteArray) (t : ByteArray) (k : Nat) (h : k < L.length) : atF (L.drop k) t k = if L[k] = t then (k : Int) else atF (L.drop (k + 1)) t (k + 1) := by
  rw [List.drop_eq_getElem_cons h]; rfl
theorem text_ne {s t : ByteArray} (h : ¬ s = t) : (s.toList == t.toList) = false := by
  rw [beq_eq_false_iff_ne]
  intro e
  rw [ByteArray.toList_eq, ByteArray.toList_eq] at e
  apply h
  cases s; cases t
  congr 1
  exact Array.toList_inj.1 e
end Go.Proofs.Ytcnjeeckkpiilaa
namespace Go.Proofs.Ytcnjeeckkpiilaa
open Go.RowKit

theorem cells11 {W : World} {B : Nat} {v0 v1 v2 v3 v4 v5 v6 v7 v8 v9 v10 : Value} {t : TypeId} {fr : Nat × Nat} (h : W.heap[B]? = some (.cells #[v0, v1, v2, v3, v4, v5, v6, v7, v8, v9, v10] t fr)) :
    W.cell? ⟨B, 0, none⟩ = some v0 ∧ W.cell? ⟨B, 1, none⟩ = some v1 ∧ W.cell? ⟨B, 2, none⟩ = some v2 ∧ W.cell? ⟨B, 3, none⟩ = some v3 ∧ W.cell? ⟨B, 4, none⟩ = some v4 ∧ W.cell? ⟨B, 5, none⟩ = some v5 ∧ W.cell? ⟨B, 6, none⟩ = some v6 ∧ W.cell? ⟨B, 7, none⟩ = some v7 ∧ W.cell? ⟨B, 8, none⟩ = some v8 ∧ W.cell? ⟨B, 9, none⟩ = some v9 ∧ W.cell? ⟨B, 10, none⟩ = some v10 := by
  refine ⟨?_, ?_, ?_, ?_, ?_, ?_, ?_, ?_, ?_, ?_, ?_⟩ <;> simp [World.cell?, h]
theorem text_no {s : ByteArray} (l : List UInt8) (h : ¬ s = ⟨l.toArray⟩) : (s.toList == l) = false := by
  have h2 := text_ne h
  rw [ByteArray.toList_eq (bs := ⟨l.toArray⟩)] at h2
  exact h2
def wideB (op : ByteArray) : Bool := decide (op = ⟨#[115, 119, 112, 98]⟩) || decide (op = ⟨#[115, 120, 116]⟩) || decide (op = ⟨#[99, 97, 108, 108]⟩)
def handB (op : ByteArray) : Bool := decide (op = ⟨#[112, 117, 115, 104]⟩) || decide (op = ⟨#[99, 97, 108, 108]⟩)
def rightB (k1 k2 k3 : Int) (op : ByteArray) (b : Bool) (m r n : Int) (l : Bool) (m2 r2 n2 : Int) (l2 : Bool) (j : Int) : Bool :=
  if 0 ≤ k1 then srcB m r n l && dstB m2 r2 n2 l2 && (j == 0)
  else if 0 ≤ k2 then !b && zeroB m r n l && zeroB m2 r2 n2 l2 && isB j (-512) 511
  else if op = ⟨#[114, 101, 116, 105]⟩ then !b && zeroB m r n l && zeroB m2 r2 n2 l2 && (j == 0)
  else if k3 < 0 then false
  else srcB m r n l && zeroB m2 r2 n2 l2 && (j == 0) && (decide (op = ⟨#[112, 117, 115, 104]⟩) || decide (op = ⟨#[99, 97, 108, 108]⟩) || m != 5) && !((decide (op = ⟨#[115, 119, 112, 98]⟩) || decide (op = ⟨#[115, 120, 116]⟩) || decide (op = ⟨#[99, 97, 108, 108]⟩)) && b)
def insnB (op : ByteArray) (b : Bool) (m r n : Int) (l : Bool) (m2 r2 n2 : Int) (l2 : Bool) (j : Int) : Bool :=
  rightB (atI twosL op) (atI jumpsL op) (atI onesL op) op b m r n l m2 r2 n2 l2 j
end Go.Proofs.Ytcnjeeckkpiilaa
namespace Go.Proofs.Ytcnjeeckkpiilaa
open Go.RowKit
set_option linter.unusedVariables false

structure But (b : Nat) (w w' : World) : Prop where
  os : w'.os = w.os
  tape : w'.tape = w.tape
  output : w'.output = w.output
  size : w.heap.size ≤ w'.heap.size
  block : ∀ k, k < w.heap.size → k ≠ b → w'.heap[k]? = w.heap[k]?
theorem But.refl (b : Nat) (w : World) : But b w w := ⟨rfl, rfl, rfl, Nat.le_refl _, fun _ _ _ => rfl⟩
theorem But.trans {b : Nat} {x y z : World} (h : But b x y) (k : But b y z) : But b x z :=
  ⟨k.os.trans h.os, k.tape.trans h.tape, k.output.trans h.output, Nat.le_trans h.size k.size, fun i hi hb => (k.block i (Nat.lt_of_lt_of_le hi h.size) hb).trans (h.block i hi hb)⟩
theorem But.of {b : Nat} {w w' : World} (h : Below w.heap.size w w') : But b w w' := ⟨h.os, h.tape, h.output, h.size, fun k hk _ => h.block k hk⟩
theorem But.call {b : Nat} {x y z : World} (h : But b x y) (hb : Below y.heap.size y z) : But b x z := h.trans (But.of hb)
theorem But.alloc {b : Nat} {x y : World} (h : But b x y) (o : Obj) : But b x (y.alloc o) := h.call (below_new y o)
theorem But.drew {b : Nat} {x y : World} (h : But b x y) : But b x y.drew := ⟨h.os, h.tape, h.output, h.size, h.block⟩
theorem But.setB {b : Nat} {x y : World} (h : But b x y) {p : Addr} (hp : p.block = b) (v : Value) : But b x (y.setCell p v) :=
  h.trans ⟨rfl, rfl, rfl, by simp [World.setCell], fun k _ hk => Below.heap_setCell _ _ _ _ (by rw [hp]; exact hk)⟩
theorem But.setN {b : Nat} {x y : World} (h : But b x y) {p : Addr} (hp : x.heap.size ≤ p.block) (v : Value) : But b x (y.setCell p v) :=
  ⟨h.os, h.tape, h.output, by simpa [World.setCell] using h.size, fun k hk hb => (Below.heap_setCell _ _ _ _ (by omega)).trans (h.block k hk hb)⟩
theorem But.keep {b B : Nat} {w w' : World} {o : Obj} (h : w.heap[B]? = some o) (hb : But b w w') (hne : B ≠ b) : w'.heap[B]? = some o := (hb.block B (heap_lt h) hne).trans h
theorem But.below {b B : Nat} {W w w' : World} (h : Below B W w) (hb : But b w w') (hB : B ≤ b) (hs : B ≤ w.heap.size) : Below B W w' :=
  h.trans ⟨hb.os, hb.tape, hb.output, hb.size, fun k hk => hb.block k (by omega) (by omega)⟩
theorem But.cell {b : Nat} {w w' : World} (h : But b w w') {p : Addr} (hp : p.block < w.heap.size) (hne : p.block ≠ b) : w'.cell? p = w.cell? p := World.cell?_of_block (w := w) (h.block p.block hp hne)
theorem But.frozen {b : Nat} {w w' : World} (h : But b w w') {p : Addr} (hp : p.block < w.heap.size) (hne : p.block ≠ b) : w'.frozen? p = w.frozen? p := World.frozen?_of_block (w := w) (h.block p.block hp hne)
end Go.Proofs.Ytcnjeeckkpiilaa
