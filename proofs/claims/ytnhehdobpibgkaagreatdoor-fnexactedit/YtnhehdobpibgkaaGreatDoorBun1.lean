/- Rows of texts that a call itself makes; the laws' own helpers over them. -/
import Derived.Test.YtnhehdobpibgkaaGreatDoorRows
import Derived.WalkKit
import Derived.WalkSpells
import Derived.WalkLawsBesides
import Derived.Outline
import Derived.RegionTactic
import Derived.BigRegion
import Derived.Deep.QuietTactic
import Derived.BigQuiet
import Derived.Deep.RegionHeld3
import Derived.Lib.ItoaNum
import Derived.Test.YtnhehdobpibgkaaGreatDoorBun0
import Derived.Deep.RegionWith
namespace Go.Proofs.YtnhehdobpibgkaaGreatDoor
open Go.RowKit

theorem textS_ne {s t : ByteArray} (h : ¬ s = t) : (s.toList == t.toList) = false := by
  rw [beq_eq_false_iff_ne]
  intro e
  rw [ByteArray.toList_eq, ByteArray.toList_eq] at e
  apply h
  cases s; cases t
  congr 1
  exact Array.toList_inj.1 e
theorem below_drewS {B : Nat} {a w : World} (h : Below B a w) (n : Nat) : Below B a (w.drewN n) := ⟨h.os, h.tape, h.output, h.size, h.block⟩
def cellsS (L : List ByteArray) : List Value := L.map Value.string
def OwnS (w : World) (B : Nat) (v : Value) (L : List ByteArray) : Prop := w.ownsRow B 9 1 v L.length (cellsS L)
theorem infoS : (Tryz.prog.info? 9).map (fun i => (i.zero, i.size, i.bytes)) = some (some (.string ⟨#[]⟩), 1, 16) := by kernel_rfl
theorem one_cellS (x : ByteArray) : ∀ u ∈ [Value.string x], u.oneCell' = true := by intro u hu; simp at hu; subst hu; rfl
theorem OwnS.stays {w w' : World} {B : Nat} {v : Value} {L : List ByteArray} (h : OwnS w B v L) (hb : Below w.heap.size w w') : OwnS w' B v L := by
  obtain ⟨h1, h2⟩ := h
  refine ⟨h1, ?_⟩
  rcases h2 with h2 | ⟨g, cap, cur, hv, hB, hg, rest⟩
  · exact .inl h2
  · exact .inr ⟨g, cap, cur, hv, hB, heap_keep hg hb, rest⟩
theorem OwnS.alloc {w : World} {B : Nat} {v : Value} {L : List ByteArray} (h : OwnS w B v L) (o : Obj) : OwnS (w.alloc o) B v L := h.stays (below_new w o)
theorem OwnS.low {w : World} {B B' : Nat} {v : Value} {L : List ByteArray} (h : OwnS w B v L) (hB : B' ≤ B) : OwnS w B' v L := by
  obtain ⟨h1, h2⟩ := h
  refine ⟨h1, ?_⟩
  rcases h2 with h2 | ⟨g, cap, cur, hv, hg, rest⟩
  · exact .inl h2
  · exact .inr ⟨g, cap, cur, hv, by omega, rest⟩
theorem OwnS.nil (w : World) (B : Nat) : OwnS w B (.slice none 0 0) [] := ⟨rfl, .inl ⟨rfl, rfl⟩⟩
/- What such a row is: nothing, or a block whose first cells are the numbers. -/
theorem OwnS.form {w : World} {B : Nat} {v : Value} {L : List ByteArray} (h : OwnS w B v L) :
    (v = .slice none 0 0 ∧ L = []) ∨ ∃ g cap cur, v = .slice (some ⟨g, 0, none⟩) L.length cap ∧ B ≤ g ∧ w.heap[g]? = some (.cells cur 9 (0, 0)) ∧ L.length ≤ cap ∧ cap ≤ maxLen ∧ cur.size = cap ∧ (∀ i (hi : i < L.length), cur[i]? = some (.string L[i])) := by
  obtain ⟨h1, h2⟩ := h
  rcases h2 with ⟨h2, h3⟩ | ⟨g, cap, cur, hv, hB, hg, h4, h5, h6, h7⟩
  · exact .inl ⟨h2, List.eq_nil_of_length_eq_zero h3⟩
  · refine .inr ⟨g, cap, cur, hv, hB, hg, h4, h5, by omega, fun i hi => ?_⟩
    have e := congrArg (fun l => l[i]?) h7
    simp only [Nat.mul_one, List.getElem?_take, if_pos hi, cellsS, List.getElem?_map, List.getElem?_eq_getElem hi] at e
    simpa using e
theorem OwnS.mk {w : World} {B g cap : Nat} {cur : Array Value} {L : List ByteArray} (hB : B ≤ g) (hg : w.heap[g]? = some (.cells cur 9 (0, 0))) (h4 : L.length ≤ cap) (h5 : cap ≤ maxLen) (h6 : cur.size = cap) (h7 : ∀ i (hi : i < L.length), cur[i]? = some (.string L[i])) : OwnS w B (.slice (some ⟨g, 0, none⟩) L.length cap) L := by
  refine ⟨by simp [cellsS], .inr ⟨g, cap, cur, rfl, hB, hg, h4, h5, by omega, ?_⟩⟩
  apply List.ext_getElem?
  intro i
  rw [List.getElem?_take, Nat.mul_one]
  by_cases hi : i < L.length
  · rw [if_pos hi]
    have := h7 i hi
    simp [cellsS, hi]
    simpa using this
  · rw [if_neg hi, List.getElem?_eq_none (by simp [cellsS]; omega)]
theorem eqS_step {A B : List ByteArray} (hl : A.length = B.length) (k : Nat) (hk : k < A.length) (he : A[k] = B[k]'(by omega)) : (A.drop k = B.drop k ↔ A.drop (k + 1) = B.drop (k + 1)) := by
  have e1 := List.drop_eq_getElem_cons hk
  have e2 := List.drop_eq_getElem_cons (show k < B.length by omega)
  constructor
  · intro h; rw [e1, e2] at h; exact (List.cons.inj h).2
  · intro h; rw [e1, e2, h, he]
theorem eqS_stop {A B : List ByteArray} (k : Nat) (hk : k < A.length) (hk2 : k < B.length) (he : ¬ A[k] = B[k]) : ¬ A = B := fun e => by subst e; exact he rfl
def decL (k : Nat) : List UInt8 := if k = 0 then [] else Lib.decDigits k
theorem decL_zero : decL 0 = [] := rfl
theorem decL_step (k : Nat) (h : 0 < k) : decL k = decL (k / 10) ++ [UInt8.ofNat (48 + k % 10)] := by
  have e : decL k = Lib.decDigits k := by unfold decL; rw [if_neg (by omega)]
  rw [e]
  by_cases hb : k < 10
  · rw [Lib.decDigits, dif_pos hb, show k / 10 = 0 by omega, decL_zero, show k % 10 = k by omega]; rfl
  · have e2 : decL (k / 10) = Lib.decDigits (k / 10) := by unfold decL; rw [if_neg (by omega)]
    rw [Lib.decDigits, dif_neg hb, e2]
theorem decL_len : ∀ (n k : Nat), k < 10 ^ n → (decL k).length ≤ n
  | 0, k, h => by
    obtain rfl : k = 0 := by simpa using h
    simp [decL_zero]
  | n + 1, k, h => by
    by_cases hk : k = 0
    · subst hk; simp [decL_zero]
    · rw [decL_step k (by omega)]
      have := decL_len n (k / 10) (by rw [Nat.pow_succ] at h; omega)
      simp; omega
theorem byte_cell (j : Nat) : [Value.int .u8 (48 + (j : Int) % 10)].take 1 = cellsU [UInt8.ofNat (48 + j % 10)] := by
  simp [cellsU]
  omega
theorem text_cat (a b : List UInt8) : (⟨a.toArray⟩ : ByteArray) ++ ⟨b.toArray⟩ = ⟨(a ++ b).toArray⟩ := by
  apply ByteArray.ext
  simp
def markT (k : Nat) : ByteArray := ⟨([109] ++ decL k).toArray⟩
set_option maxRecDepth 100000 in
set_option maxHeartbeats 1600000 in
theorem markText_any (k : Nat) (w : World) (hk0 : 0 < k) (hk1 : k ≤ 1000000000) :
    Calls Tryz.prog 50 #[.int .i64 k] w fun e w' => e = .returned (.string (markT k)) ∧ Below w.heap.size w w' := by
  have hp : ¬ ((k : Int) ≤ 0) := by omega
  go_enter Tryz.func50, Tryz.ntmps50
  go_wp2
  go_loopw [0, 3] (fun q s wr => ∃ (j : Nat) (out : List UInt8), j ≤ k ∧ q = .int .i64 j ∧ s = .string ⟨out.toArray⟩ ∧ Hid (decL k = decL j ++ out) ∧ Hid (Below w.heap.size w wr)) (fun q _ _ => (intOf q).toNat)
  case atStart => exact ⟨k, [], Nat.le_refl _, rfl, rfl, by show _ = _; simp, Below.refl _ _⟩
  case round =>
    obtain ⟨j, out, hj, rfl, rfl, HD, HB⟩ := hrel
    have ho : out.length ≤ 10 := by have h1 := congrArg List.length HD.out; have h2 := decL_len 10 k (by omega); simp at h1; omega
    by_cases hlt : 0 < j
    · have hd := decL_step j hlt
      have HS : Hid (_ = _) := hd
      clear hd
      have hpos : (0 : Int) < (j : Int) := by omega
      have hcv := conv_row (wr.alloc (.cells #[.int .u8 (48 + (j : Int) % 10)] 5)) wr.heap.size 1 1 5 [.int .u8 (48 + (j : Int) % 10)] [UInt8.ofNat (48 + j % 10)] (heap_alloc_new _ _) rfl (byte_cell j)
      generalize UInt8.ofNat (48 + j % 10) = c at *
      go_wp2
      go_roundw
      case rel => exact ⟨j / 10, c :: out, by omega, by go_num, by simp [text_cat], by show _ = _; rw [HD.out, HS.out]; simp, below_more HB.out _⟩
      case measure => simp [intOf]; omega
    · obtain rfl : j = 0 := by omega
      have HE : Hid (decL k = out) := by show _ = _; rw [HD.out, decL_zero]; rfl
      go_wp2
      go_ret
      exact ⟨ret_str (by rw [markT, HE.out]; simp [text_cat]), HB.out⟩
def marksS (k n : Nat) : List ByteArray := (List.range n).map fun (i : Nat) => markT (k + i)
theorem marksS_len (k n : Nat) : (marksS k n).length = n := by simp [marksS]
theorem marksS_at (k n i : Nat) (h : i < (marksS k n).length) : (marksS k n)[i] = markT (k + i) := by simp [marksS]
end Go.Proofs.YtnhehdobpibgkaaGreatDoor
namespace Go.Proofs.YtnhehdobpibgkaaGreatDoor
open Go.RowKit

structure Opd where
  mode : Int
  reg : Int
  n : Int
  long : Bool
def Opd.val (o : Opd) : Value := .agg #[.int .i64 o.mode, .int .i64 o.reg, .int .i64 o.n, .bool o.long]
def isB (n low high : Int) : Bool := decide (low ≤ n) && decide (n ≤ high)
theorem l02Is_any (n low high : Int) (w : World) : Calls Tryz.prog 31 #[.int .i64 n, .int .i64 low, .int .i64 high] w fun e w' => e = .returned (.bool (isB n low high)) ∧ w' = w := by
  by_cases h1 : low ≤ n
  · go_enter Tryz.func31, Tryz.ntmps31
    go_wp2
    go_ret
    exact ⟨ret_bool (by simp [isB, h1]), rfl⟩
  · go_enter Tryz.func31, Tryz.ntmps31
    go_wp2
    go_ret
    exact ⟨ret_bool (by simp [isB]; omega), rfl⟩
theorem l02Word_any (n : Int) (w : World) : Calls Tryz.prog 89 #[.int .i64 n] w fun e w' => e = .returned (.bool (isB n 0 65535)) ∧ w' = w := by
  go_enter Tryz.func89, Tryz.ntmps89
  go_wp2_with fail
  refine (l02Is_any n 0 65535 _).mono ?_
  rintro e w1 ⟨rfl, rfl⟩
  go_wp2
  go_ret
  exact ⟨rfl, rfl⟩
def plainB (r : Int) : Bool := isB r 0 15 && (r != 2 && r != 3)
def shortI (n : Int) : Int × Int × Bool :=
  if n = 0 ∨ n = 1 ∨ n = 2 then (n, 3, true) else if n = 65535 then (3, 3, true) else if n = 4 then (2, 2, true) else if n = 8 then (3, 2, true) else (3, 0, false)
theorem ret_three {a b a' b' : Int} {c c' : Bool} (h : (a, b, c) = (a', b', c')) : Ending.returned (.tuple #[.int .i64 a, .int .i64 b, .bool c]) = .returned (.tuple #[.int .i64 a', .int .i64 b', .bool c']) := by
  cases h; rfl
def srcB (m r n : Int) (l : Bool) : Bool :=
  if m = 0 then isB r 0 15 && (r != 3) && (n == 0) && !l
  else if m = 1 then plainB r && isB n 0 65535 && !l
  else if m = 2 then (r == 0) && isB n 0 65535 && !l
  else if m = 3 then plainB r && (n == 0) && !l
  else if m = 4 then plainB r && (r != 0) && (n == 0) && !l
  else if m = 5 then (r == 0) && isB n 0 65535 && (!l || (shortI n).2.2)
  else false
end Go.Proofs.YtnhehdobpibgkaaGreatDoor
namespace Go.Proofs.YtnhehdobpibgkaaGreatDoor
open Go.RowKit

def zeroB (m r n : Int) (l : Bool) : Bool := (m == 0) && (r == 0) && (n == 0) && !l
def dstB (m r n : Int) (l : Bool) : Bool := if m = 0 then isB r 0 15 && (n == 0) && !l else if m = 1 ∨ m = 2 then srcB m r n l else false
def twosL : List ByteArray := [⟨#[109, 111, 118]⟩, ⟨#[97, 100, 100]⟩, ⟨#[97, 100, 100, 99]⟩, ⟨#[115, 117, 98, 99]⟩, ⟨#[115, 117, 98]⟩, ⟨#[99, 109, 112]⟩, ⟨#[100, 97, 100, 100]⟩, ⟨#[98, 105, 116]⟩, ⟨#[98, 105, 99]⟩, ⟨#[98, 105, 115]⟩, ⟨#[120, 111, 114]⟩, ⟨#[97, 110, 100]⟩]
def onesL : List ByteArray := [⟨#[114, 114, 99]⟩, ⟨#[115, 119, 112, 98]⟩, ⟨#[114, 114, 97]⟩, ⟨#[115, 120, 116]⟩, ⟨#[112, 117, 115, 104]⟩, ⟨#[99, 97, 108, 108]⟩, ⟨#[114, 101, 116, 105]⟩]
def jumpsL : List ByteArray := [⟨#[106, 110, 101]⟩, ⟨#[106, 101, 113]⟩, ⟨#[106, 110, 99]⟩, ⟨#[106, 99]⟩, ⟨#[106, 110]⟩, ⟨#[106, 103, 101]⟩, ⟨#[106, 108]⟩, ⟨#[106, 109, 112]⟩]
/- The place of a text among others, or -1. -/
def atF : List ByteArray → ByteArray → Nat → Int
  | [], _, _ => -1
  | s :: L, t, i => if s = t then (i : Int) else atF L t (i + 1)
def atI (L : List ByteArray) (t : ByteArray) : Int := atF L t 0
theorem atF_drop (L : List ByteArray) (t : ByteArray) (k : Nat) (h : k < L.length) : atF (L.drop k) t k = if L[k] = t then (k : Int) else atF (L.drop (k + 1)) t (k + 1) := by
  rw [List.drop_eq_getElem_cons h]; rfl
theorem text_ne {s t : ByteArray} (h : ¬ s = t) : (s.toList == t.toList) = false := by
  rw [beq_eq_false_iff_ne]
  intro e
  rw [ByteArray.toList_eq, ByteArray.toList_eq] at e
  apply h
  cases s; cases t
  congr 1
  exact Array.toList_inj.1 e
end Go.Proofs.YtnhehdobpibgkaaGreatDoor
namespace Go.Proofs.YtnhehdobpibgkaaGreatDoor
open Go.RowKit

theorem cells11 {W : World} {B : Nat} {v0 v1 v2 v3 v4 v5 v6 v7 v8 v9 v10 : Value} {t : TypeId} {fr : Nat × Nat} (h : W.heap[B]? = some (.cells #[v0, v1, v2, v3, v4, v5, v6, v7, v8, v9, v10] t fr)) :
    W.cell? ⟨B, 0, none⟩ = some v0 ∧ W.cell? ⟨B, 1, none⟩ = some v1 ∧ W.cell? ⟨B, 2, none⟩ = some v2 ∧ W.cell? ⟨B, 3, none⟩ = some v3 ∧ W.cell? ⟨B, 4, none⟩ = some v4 ∧ W.cell? ⟨B, 5, none⟩ = some v5 ∧ W.cell? ⟨B, 6, none⟩ = some v6 ∧ W.cell? ⟨B, 7, none⟩ = some v7 ∧ W.cell? ⟨B, 8, none⟩ = some v8 ∧ W.cell? ⟨B, 9, none⟩ = some v9 ∧ W.cell? ⟨B, 10, none⟩ = some v10 := by
  refine ⟨?_, ?_, ?_, ?_, ?_, ?_, ?_, ?_, ?_, ?_, ?_⟩ <;> simp [World.cell?, h]
theorem text_no {s : ByteArray} (l : List UInt8) (h : ¬ s = ⟨l.toArray⟩) : (s.toList == l) = false := by
  have h2 := text_ne h
  rw [ByteArray.toList_eq (bs := ⟨l.toArray⟩)] at h2
  exact h2
def wideB (op : ByteArray) : Bool := decide (op = ⟨#[115, 119, 112, 98]⟩) || decide (op = ⟨#[115, 120, 116]⟩) || decide (op = ⟨#[99, 97, 108, 108]⟩)
def handB (op : ByteArray) : Bool := decide (op = ⟨#[112, 117, 115, 104]⟩) || decide (op = ⟨#[99, 97, 108, 108]⟩)
def rightB (k1 k2 k3 : Int) (op : ByteArray) (b : Bool) (m r n : Int) (l : Bool) (m2 r2 n2 : Int) (l2 : Bool) (j : Int) : Bool :=
  if 0 ≤ k1 then srcB m r n l && dstB m2 r2 n2 l2 && (j == 0)
  else if 0 ≤ k2 then !b && zeroB m r n l && zeroB m2 r2 n2 l2 && isB j (-512) 511
  else if op = ⟨#[114, 101, 116, 105]⟩ then !b && zeroB m r n l && zeroB m2 r2 n2 l2 && (j == 0)
  else if k3 < 0 then false
  else srcB m r n l && zeroB m2 r2 n2 l2 && (j == 0) && (decide (op = ⟨#[112, 117, 115, 104]⟩) || decide (op = ⟨#[99, 97, 108, 108]⟩) || m != 5) && !((decide (op = ⟨#[115, 119, 112, 98]⟩) || decide (op = ⟨#[115, 120, 116]⟩) || decide (op = ⟨#[99, 97, 108, 108]⟩)) && b)
def insnB (op : ByteArray) (b : Bool) (m r n : Int) (l : Bool) (m2 r2 n2 : Int) (l2 : Bool) (j : Int) : Bool :=
  rightB (atI twosL op) (atI jumpsL op) (atI onesL op) op b m r n l m2 r2 n2 l2 j
end Go.Proofs.YtnhehdobpibgkaaGreatDoor
namespace Go.Proofs.YtnhehdobpibgkaaGreatDoor
open Go.RowKit
set_option linter.unusedVariables false

structure But (b : Nat) (w w' : World) : Prop where
  os : w'.os = w.os
  tape : w'.tape = w.tape
  output : w'.output = w.output
  size : w.heap.size ≤ w'.heap.size
  block : ∀ k, k < w.heap.size → k ≠ b → w'.heap[k]? = w.heap[k]?
theorem But.refl (b : Nat) (w : World) : But b w w := ⟨rfl, rfl, rfl, Nat.le_refl _, fun _ _ _ => rfl⟩
theorem But.trans {b : Nat} {x y z : World} (h : But b x y) (k : But b y z) : But b x z :=
  ⟨k.os.trans h.os, k.tape.trans h.tape, k.output.trans h.output, Nat.le_trans h.size k.size, fun i hi hb => (k.block i (Nat.lt_of_lt_of_le hi h.size) hb).trans (h.block i hi hb)⟩
theorem But.of {b : Nat} {w w' : World} (h : Below w.heap.size w w') : But b w w' := ⟨h.os, h.tape, h.output, h.size, fun k hk _ => h.block k hk⟩
theorem But.call {b : Nat} {x y z : World} (h : But b x y) (hb : Below y.heap.size y z) : But b x z := h.trans (But.of hb)
theorem But.alloc {b : Nat} {x y : World} (h : But b x y) (o : Obj) : But b x (y.alloc o) := h.call (below_new y o)
theorem But.drew {b : Nat} {x y : World} (h : But b x y) : But b x y.drew := ⟨h.os, h.tape, h.output, h.size, h.block⟩
theorem But.setB {b : Nat} {x y : World} (h : But b x y) {p : Addr} (hp : p.block = b) (v : Value) : But b x (y.setCell p v) :=
  h.trans ⟨rfl, rfl, rfl, by simp [World.setCell], fun k _ hk => Below.heap_setCell _ _ _ _ (by rw [hp]; exact hk)⟩
theorem But.setN {b : Nat} {x y : World} (h : But b x y) {p : Addr} (hp : x.heap.size ≤ p.block) (v : Value) : But b x (y.setCell p v) :=
  ⟨h.os, h.tape, h.output, by simpa [World.setCell] using h.size, fun k hk hb => (Below.heap_setCell _ _ _ _ (by omega)).trans (h.block k hk hb)⟩
theorem But.keep {b B : Nat} {w w' : World} {o : Obj} (h : w.heap[B]? = some o) (hb : But b w w') (hne : B ≠ b) : w'.heap[B]? = some o := (hb.block B (heap_lt h) hne).trans h
theorem But.below {b B : Nat} {W w w' : World} (h : Below B W w) (hb : But b w w') (hB : B ≤ b) (hs : B ≤ w.heap.size) : Below B W w' :=
  h.trans ⟨hb.os, hb.tape, hb.output, hb.size, fun k hk => hb.block k (by omega) (by omega)⟩
theorem But.cell {b : Nat} {w w' : World} (h : But b w w') {p : Addr} (hp : p.block < w.heap.size) (hne : p.block ≠ b) : w'.cell? p = w.cell? p := World.cell?_of_block (w := w) (h.block p.block hp hne)
theorem But.frozen {b : Nat} {w w' : World} (h : But b w w') {p : Addr} (hp : p.block < w.heap.size) (hne : p.block ≠ b) : w'.frozen? p = w.frozen? p := World.frozen?_of_block (w := w) (h.block p.block hp hne)
end Go.Proofs.YtnhehdobpibgkaaGreatDoor
