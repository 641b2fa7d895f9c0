/- More on blocks of the call's own. -/
import Derived.Test.YtnhehdobpibgkabGreatDoorRows
import Derived.WalkKit
import Derived.Test.YtnhehdobpibgkabGreatDoorBun0
import Derived.WalkSpells
import Derived.WalkLawsBesides
import Derived.RegionTactic
import Derived.BigRegion
import Derived.Deep.RegionWith
namespace Go.Proofs.YtnhehdobpibgkabGreatDoor
open Go.RowKit

theorem alloc_at {W : World} {g : Nat} (h : W.heap.size = g) (o : Obj) : (W.alloc o).heap[g]? = some o := by subst h; exact heap_alloc_new W o
theorem set_two {W : World} {g : Nat} {z0 z1 a b : Value} {t : TypeId} (h : W.heap[g]? = some (.cells #[z0, z1] t (0, 0))) : ((W.setCell ⟨g, 0, none⟩ a).setCell ⟨g, 1, none⟩ b).heap[g]? = some (.cells #[a, b] t (0, 0)) :=
  heap_set (heap_set h 0 a) 1 b
theorem set_far {W : World} {B : Nat} {o : Obj} {a : Addr} {v : Value} (hne : B ≠ a.block) (h : W.heap[B]? = some o) : (W.setCell a v).heap[B]? = some o := heap_set_other h a hne v
theorem below_set {a w : World} {p : Addr} {v : Value} (hp : a.heap.size ≤ p.block) (h : Below a.heap.size a w) : Below a.heap.size a (w.setCell p v) := h.setCell hp v
end Go.Proofs.YtnhehdobpibgkabGreatDoor
namespace Go.Proofs.YtnhehdobpibgkabGreatDoor
open Go.RowKit

structure Opd where
  mode : Int
  reg : Int
  n : Int
  long : Bool
def Opd.val (o : Opd) : Value := .agg #[.int .i64 o.mode, .int .i64 o.reg, .int .i64 o.n, .bool o.long]
def isB (n low high : Int) : Bool := decide (low ≤ n) && decide (n ≤ high)
theorem l02Is_any (n low high : Int) (w : World) : Calls Tryz.prog 52 #[.int .i64 n, .int .i64 low, .int .i64 high] w fun e w' => e = .returned (.bool (isB n low high)) ∧ w' = w := by
  by_cases h1 : low ≤ n
  · go_enter Tryz.func52, Tryz.ntmps52
    go_wp2
    go_ret
    exact ⟨ret_bool (by simp [isB, h1]), rfl⟩
  · go_enter Tryz.func52, Tryz.ntmps52
    go_wp2
    go_ret
    exact ⟨ret_bool (by simp [isB]; omega), rfl⟩
theorem l02Word_any (n : Int) (w : World) : Calls Tryz.prog 42 #[.int .i64 n] w fun e w' => e = .returned (.bool (isB n 0 65535)) ∧ w' = w := by
  go_enter Tryz.func42, Tryz.ntmps42
  go_wp2_with fail
  refine (l02Is_any n 0 65535 _).mono ?_
  rintro e w1 ⟨rfl, rfl⟩
  go_wp2
  go_ret
  exact ⟨rfl, rfl⟩
def plainB (r : Int) : Bool := isB r 0 15 && (r != 2 && r != 3)
def shortI (n : Int) : Int × Int × Bool :=
  if n = 0 ∨ n = 1 ∨ n = 2 then (n, 3, true) else if n = 65535 then (3, 3, true) else if n = 4 then (2, 2, true) else if n = 8 then (3, 2, true) else (3, 0, false)
theorem ret_three {a b a' b' : Int} {c c' : Bool} (h : (a, b, c) = (a', b', c')) : Ending.returned (.tuple #[.int .i64 a, .int .i64 b, .bool c]) = .returned (.tuple #[.int .i64 a', .int .i64 b', .bool c']) := by
  cases h; rfl
def srcB (m r n : Int) (l : Bool) : Bool :=
  if m = 0 then isB r 0 15 && (r != 3) && (n == 0) && !l
  else if m = 1 then plainB r && isB n 0 65535 && !l
  else if m = 2 then (r == 0) && isB n 0 65535 && !l
  else if m = 3 then plainB r && (n == 0) && !l
  else if m = 4 then plainB r && (r != 0) && (n == 0) && !l
  else if m = 5 then (r == 0) && isB n 0 65535 && (!l || (shortI n).2.2)
  else false
end Go.Proofs.YtnhehdobpibgkabGreatDoor
namespace Go.Proofs.YtnhehdobpibgkabGreatDoor
open Go.RowKit

def zeroB (m r n : Int) (l : Bool) : Bool := (m == 0) && (r == 0) && (n == 0) && !l
def dstB (m r n : Int) (l : Bool) : Bool := if m = 0 then isB r 0 15 && (n == 0) && !l else if m = 1 ∨ m = 2 then srcB m r n l else false
def twosL : List ByteArray := [⟨#[109, 111, 118]⟩, ⟨#[97, 100, 100]⟩, ⟨#[97, 100, 100, 99]⟩, ⟨#[115, 117, 98, 99]⟩, ⟨#[115, 117, 98]⟩, ⟨#[99, 109, 112]⟩, ⟨#[100, 97, 100, 100]⟩, ⟨#[98, 105, 116]⟩, ⟨#[98, 105, 99]⟩, ⟨#[98, 105, 115]⟩, ⟨#[120, 111, 114]⟩, ⟨#[97, 110, 100]⟩]
def onesL : List ByteArray := [⟨#[114, 114, 99]⟩, ⟨#[115, 119, 112, 98]⟩, ⟨#[114, 114, 97]⟩, ⟨#[115, 120, 116]⟩, ⟨#[112, 117, 115, 104]⟩, ⟨#[99, 97, 108, 108]⟩, ⟨#[114, 101, 116, 105]⟩]
def jumpsL : List ByteArray := [⟨#[106, 110, 101]⟩, ⟨#[106, 101, 113]⟩, ⟨#[106, 110, 99]⟩, ⟨#[106, 99]⟩, ⟨#[106, 110]⟩, ⟨#[106, 103, 101]⟩, ⟨#[106, 108]⟩, ⟨#[106, 109, 112]⟩]
/- The place of a text among others, or -1. -/
def atF : List ByteArray → ByteArray → Nat → Int
  | [], _, _ => -1
  | s :: L, t, i => if s = t then (i : Int) else atF L t (i + 1)
def atI (L : List ByteArray) (t : ByteArray) : Int := atF L t 0
theorem atF_drop (L : List ByteArray) (t : ByteArray) (k : Nat) (h : k < L.length) : atF (L.drop k) t k = if L[k] = t then (k : Int) else atF (L.drop (k + 1)) t (k + 1) := by
  rw [List.drop_eq_getElem_cons h]; rfl
theorem text_ne {s t : ByteArray} (h : ¬ s = t) : (s.toList == t.toList) = false := by
  rw [beq_eq_false_iff_ne]
  intro e
  rw [ByteArray.toList_eq, ByteArray.toList_eq] at e
  apply h
  cases s; cases t
  congr 1
  exact Array.toList_inj.1 e
end Go.Proofs.YtnhehdobpibgkabGreatDoor
namespace Go.Proofs.YtnhehdobpibgkabGreatDoor
open Go.RowKit

theorem cells11 {W : World} {B : Nat} {v0 v1 v2 v3 v4 v5 v6 v7 v8 v9 v10 : Value} {t : TypeId} {fr : Nat × Nat} (h : W.heap[B]? = some (.cells #[v0, v1, v2, v3, v4, v5, v6, v7, v8, v9, v10] t fr)) :
    W.cell? ⟨B, 0, none⟩ = some v0 ∧ W.cell? ⟨B, 1, none⟩ = some v1 ∧ W.cell? ⟨B, 2, none⟩ = some v2 ∧ W.cell? ⟨B, 3, none⟩ = some v3 ∧ W.cell? ⟨B, 4, none⟩ = some v4 ∧ W.cell? ⟨B, 5, none⟩ = some v5 ∧ W.cell? ⟨B, 6, none⟩ = some v6 ∧ W.cell? ⟨B, 7, none⟩ = some v7 ∧ W.cell? ⟨B, 8, none⟩ = some v8 ∧ W.cell? ⟨B, 9, none⟩ = some v9 ∧ W.cell? ⟨B, 10, none⟩ = some v10 := by
  refine ⟨?_, ?_, ?_, ?_, ?_, ?_, ?_, ?_, ?_, ?_, ?_⟩ <;> simp [World.cell?, h]
theorem text_no {s : ByteArray} (l : List UInt8) (h : ¬ s = ⟨l.toArray⟩) : (s.toList == l) = false := by
  have h2 := text_ne h
  rw [ByteArray.toList_eq (bs := ⟨l.toArray⟩)] at h2
  exact h2
def wideB (op : ByteArray) : Bool := decide (op = ⟨#[115, 119, 112, 98]⟩) || decide (op = ⟨#[115, 120, 116]⟩) || decide (op = ⟨#[99, 97, 108, 108]⟩)
def handB (op : ByteArray) : Bool := decide (op = ⟨#[112, 117, 115, 104]⟩) || decide (op = ⟨#[99, 97, 108, 108]⟩)
def rightB (k1 k2 k3 : Int) (op : ByteArray) (b : Bool) (m r n : Int) (l : Bool) (m2 r2 n2 : Int) (l2 : Bool) (j : Int) : Bool :=
  if 0 ≤ k1 then srcB m r n l && dstB m2 r2 n2 l2 && (j == 0)
  else if 0 ≤ k2 then !b && zeroB m r n l && zeroB m2 r2 n2 l2 && isB j (-512) 511
  else if op = ⟨#[114, 101, 116, 105]⟩ then !b && zeroB m r n l && zeroB m2 r2 n2 l2 && (j == 0)
  else if k3 < 0 then false
  else srcB m r n l && zeroB m2 r2 n2 l2 && (j == 0) && (decide (op = ⟨#[112, 117, 115, 104]⟩) || decide (op = ⟨#[99, 97, 108, 108]⟩) || m != 5) && !((decide (op = ⟨#[115, 119, 112, 98]⟩) || decide (op = ⟨#[115, 120, 116]⟩) || decide (op = ⟨#[99, 97, 108, 108]⟩)) && b)
def insnB (op : ByteArray) (b : Bool) (m r n : Int) (l : Bool) (m2 r2 n2 : Int) (l2 : Bool) (j : Int) : Bool :=
  rightB (atI twosL op) (atI jumpsL op) (atI onesL op) op b m r n l m2 r2 n2 l2 j
end Go.Proofs.YtnhehdobpibgkabGreatDoor
namespace Go.Proofs.YtnhehdobpibgkabGreatDoor
open Go.RowKit
set_option linter.unusedVariables false

/- Each element of the row as its cells. -/
def RowIs {α : Type} (n : Nat) (c : α → List Value) (w : World) (a : Option Addr) (L : List α) : Prop :=
  0 < L.length → ∃ x : Addr, a = some x ∧ x.block < w.heap.size ∧ ∀ i (h : i < L.length) j v, (c L[i])[j]? = some v → w.cell? (x.add (i * n + j)) = some v
theorem add_blockX (x : Addr) (i : Nat) : (x.add i).block = x.block := by unfold Addr.add; split <;> rfl
theorem RowIs.below {α : Type} {n : Nat} {c : α → List Value} {w w' : World} {a : Option Addr} {L : List α} (h : RowIs n c w a L) (hb : Below w.heap.size w w') : RowIs n c w' a L := fun hl => by
  obtain ⟨x, rfl, hx, hc⟩ := h hl
  exact ⟨x, rfl, Nat.lt_of_lt_of_le hx hb.size, fun i hi j v hv => (hb.cell (by rw [add_blockX]; exact hx)).trans (hc i hi j v hv)⟩
theorem RowIs.alloc {α : Type} {n : Nat} {c : α → List Value} {w : World} {a : Option Addr} {L : List α} (h : RowIs n c w a L) (o : Obj) : RowIs n c (w.alloc o) a L := h.below (below_new w o)
theorem flat_get {α : Type} (n : Nat) (c : α → List Value) (hc : ∀ a, (c a).length = n) : ∀ (L : List α) (i j : Nat) (h : i < L.length), j < n → (L.flatMap c)[i * n + j]? = (c L[i])[j]?
  | [], i, j, h, hj => by simp at h
  | a :: L, 0, j, h, hj => by
    rw [List.flatMap_cons, Nat.zero_mul, Nat.zero_add, List.getElem?_append_left (by rw [hc]; exact hj)]
    rfl
  | a :: L, i + 1, j, h, hj => by
    rw [List.flatMap_cons, List.getElem?_append_right (by rw [hc, Nat.succ_mul]; omega)]
    have e : (i + 1) * n + j - (c a).length = i * n + j := by rw [hc, Nat.succ_mul]; omega
    rw [e, flat_get n c hc L i j (by simpa using h) hj]
    rfl
theorem flat_len {α : Type} (n : Nat) (c : α → List Value) (hc : ∀ a, (c a).length = n) : ∀ (L : List α), (L.flatMap c).length = L.length * n
  | [] => by simp
  | a :: L => by rw [List.flatMap_cons, List.length_append, hc, flat_len n c hc L, List.length_cons, Nat.succ_mul]; omega
theorem add_zero_block (g i : Nat) : (⟨g, 0, none⟩ : Addr).add i = ⟨g, i, none⟩ := by
  cases i with
  | zero => rfl
  | succ i => simp [Addr.add]
theorem made_rowIs {α : Type} {n : Nat} {c : α → List Value} {w : World} {g : Nat} {t : TypeId} {L : List α} (hc : ∀ a, (c a).length = n) (h : w.heap[g]? = some (.cells (L.flatMap c).toArray t (0, 0))) : RowIs n c w (some ⟨g, 0, none⟩) L := fun hl => by
  refine ⟨_, rfl, heap_lt h, fun i hi j v hv => ?_⟩
  have hj : j < n := by
    have := (List.getElem?_eq_some_iff.1 hv).1
    rw [hc] at this
    exact this
  rw [add_zero_block, cell_of_row w g _ _ _ _ h, List.getElem?_toArray, flat_get n c hc L i j hi hj, hv]
/- A row under way: the first k elements stand. -/
def RowTo {α : Type} (n : Nat) (c : α → List Value) (cur : Array Value) (L : List α) (k : Nat) : Prop := cur.size = L.length * n ∧ ∀ i (h : i < L.length), i < k → ∀ j, j < n → cur[i * n + j]? = (c L[i])[j]?
theorem RowTo.done {α : Type} {n : Nat} {c : α → List Value} {cur : Array Value} {L : List α} (hc : ∀ a, (c a).length = n) (h : RowTo n c cur L L.length) : cur = (L.flatMap c).toArray := by
  obtain ⟨hs, hv⟩ := h
  apply Array.ext
  · rw [hs]; simp [flat_len n c hc]
  · intro i h1 h2
    have hn : 0 < n := by
      rcases Nat.eq_zero_or_pos n with h0 | h0
      · rw [h0] at hs; omega
      · exact h0
    have hd : i / n < L.length := Nat.div_lt_of_lt_mul (by rw [Nat.mul_comm]; omega)
    have hm := Nat.mod_lt i hn
    have e : i = i / n * n + i % n := by rw [Nat.mul_comm]; exact (Nat.div_add_mod i n).symm
    have h3 := hv (i / n) hd hd (i % n) hm
    have h4 := flat_get n c hc L (i / n) (i % n) hd hm
    rw [← e] at h3 h4
    rw [Array.getElem?_eq_getElem h1] at h3
    rw [← h3] at h4
    have h5 : ((L.flatMap c).toArray)[i]? = some cur[i] := by rw [List.getElem?_toArray]; exact h4
    rw [Array.getElem?_eq_getElem h2] at h5
    exact (Option.some.inj h5).symm
theorem add_next (x : Addr) (m j : Nat) : x.add (m + (j + 1)) = ⟨(x.add m).block, (x.add m).off + (j + 1), none⟩ := by
  unfold Addr.add
  cases m with
  | zero => simp
  | succ m => simp; omega
/- The cells of one element, as a walk spells their places. -/
def ElemAt (w : World) (x : Addr) (m : Nat) : List Value → Prop
  | [] => True
  | v :: l => w.cell? (x.add m) = some v ∧ ∀ j u, l[j]? = some u → w.cell? ⟨(x.add m).block, (x.add m).off + (j + 1), none⟩ = some u
theorem RowIs.elem {α : Type} {n : Nat} {c : α → List Value} {w : World} {a : Option Addr} {L : List α} (h : RowIs n c w a L) (k : Nat) (hk : k < L.length) : ∃ x : Addr, a = some x ∧ x.block < w.heap.size ∧ ElemAt w x (k * n) (c L[k]) := by
  obtain ⟨x, rfl, hx, hc⟩ := h (by omega)
  refine ⟨x, rfl, hx, ?_⟩
  have h2 := hc k hk
  generalize c L[k] = l at h2
  cases l with
  | nil => trivial
  | cons v l =>
    refine ⟨h2 0 v rfl, fun j u hu => ?_⟩
    rw [← add_next]
    exact h2 (j + 1) u (by simpa using hu)
theorem ElemAt.two {w : World} {x : Addr} {m : Nat} {u v : Value} (h : ElemAt w x m [u, v]) : w.cell? (x.add m) = some u ∧ w.cell? ⟨(x.add m).block, (x.add m).off + 1, none⟩ = some v := ⟨h.1, h.2 0 v rfl⟩
theorem ElemAt.three {w : World} {x : Addr} {m : Nat} {u v z : Value} (h : ElemAt w x m [u, v, z]) : w.cell? (x.add m) = some u ∧ w.cell? ⟨(x.add m).block, (x.add m).off + 1, none⟩ = some v ∧ w.cell? ⟨(x.add m).block, (x.add m).off + 2, none⟩ = some z := ⟨h.1, h.2 0 v rfl, h.2 1 z rfl⟩
theorem ElemAt.four {w : World} {x : Addr} {m : Nat} {u v z y : Value} (h : ElemAt w x m [u, v, z, y]) : w.cell? (x.add m) = some u ∧ w.cell? ⟨(x.add m).block, (x.add m).off + 1, none⟩ = some v ∧ w.cell? ⟨(x.add m).block, (x.add m).off + 2, none⟩ = some z ∧ w.cell? ⟨(x.add m).block, (x.add m).off + 3, none⟩ = some y := ⟨h.1, h.2 0 v rfl, h.2 1 z rfl, h.2 2 y rfl⟩
end Go.Proofs.YtnhehdobpibgkabGreatDoor
