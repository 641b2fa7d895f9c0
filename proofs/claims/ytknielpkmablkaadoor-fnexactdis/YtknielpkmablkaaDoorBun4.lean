/- Instructions: destinations, the lists of operations, the place of a text among others. -/
import Derived.Test.YtknielpkmablkaaDoorRows
import Derived.WalkKit
import Derived.WalkSpells
import Derived.WalkLawsBesides
import Derived.Test.YtknielpkmablkaaDoorBun0
import Derived.Test.YtknielpkmablkaaDoorIsaX
import Derived.RegionTactic
import Derived.BigRegion
import Derived.Deep.RegionWith
import Derived.Test.YtknielpkmablkaaDoorBun3
namespace Go.Proofs.YtknielpkmablkaaDoor
open Go.RowKit

def zeroB (m r n : Int) (l : Bool) : Bool := (m == 0) && (r == 0) && (n == 0) && !l
theorem l02Zero_any (m r n : Int) (l : Bool) (w : World) : Calls Tryd.prog 65 #[.agg #[.int .i64 m, .int .i64 r, .int .i64 n, .bool l]] w fun e w' => e = .returned (.bool (zeroB m r n l)) ∧ Below w.heap.size w w' := by
  go_enter Tryd.func65, Tryd.ntmps65
  go_wp2
  all_goals
    go_ret
    exact ⟨ret_bool (by simp_all [zeroB]), (Below.refl _ _).alloc (Nat.le_refl _) _⟩
def dstB (m r n : Int) (l : Bool) : Bool := if m = 0 then isB r 0 15 && (n == 0) && !l else if m = 1 ∨ m = 2 then srcB m r n l else false
set_option maxHeartbeats 400000 in
theorem l02Dst_any (m r n : Int) (l : Bool) (w : World) : Calls Tryd.prog 64 #[.agg #[.int .i64 m, .int .i64 r, .int .i64 n, .bool l]] w fun e w' => e = .returned (.bool (dstB m r n l)) ∧ Below w.heap.size w w' := by
  by_cases h0 : m = 0
  · subst h0
    go_enter Tryd.func64, Tryd.ntmps64
    go_wp2_with fail
    refine (l02Is_any r 0 15 _).mono ?_
    rintro e w1 ⟨rfl, rfl⟩
    cases h : isB r 0 15
    · go_wp2
      all_goals
        go_ret
        exact ⟨ret_bool (by simp_all [dstB]), (Below.refl _ _).alloc (Nat.le_refl _) _⟩
    · go_wp2
      all_goals
        go_ret
        exact ⟨ret_bool (by simp_all [dstB]), (Below.refl _ _).alloc (Nat.le_refl _) _⟩
  have e0 : (m == 0) = false := by rw [beq_eq_false_iff_ne]; exact h0
  by_cases h1 : m = 1
  · subst h1
    go_enter Tryd.func64, Tryd.ntmps64
    go_wp2_with fail
    refine (l02Src_any 1 r n l _).mono ?_
    rintro e w1 ⟨rfl, hb⟩
    go_wp2
    go_ret
    exact ⟨ret_bool (by simp [dstB]), ((Below.refl _ _).alloc (Nat.le_refl _) _).trans (hb.mono (by simp))⟩
  have e1 : (m == 1) = false := by rw [beq_eq_false_iff_ne]; exact h1
  by_cases h2 : m = 2
  · subst h2
    go_enter Tryd.func64, Tryd.ntmps64
    go_wp2_with fail
    refine (l02Src_any 2 r n l _).mono ?_
    rintro e w1 ⟨rfl, hb⟩
    go_wp2
    go_ret
    exact ⟨ret_bool (by simp [dstB]), ((Below.refl _ _).alloc (Nat.le_refl _) _).trans (hb.mono (by simp))⟩
  have e2 : (m == 2) = false := by rw [beq_eq_false_iff_ne]; exact h2
  have HD : Hid (dstB m r n l = false) := by show _ = _; simp [dstB, h0, h1, h2]
  clear h0 h1 h2
  go_enter Tryd.func64, Tryd.ntmps64
  go_wp2
  go_ret
  exact ⟨ret_bool HD.out.symm, (Below.refl _ _).alloc (Nat.le_refl _) _⟩
def twosL : List ByteArray := [⟨#[109, 111, 118]⟩, ⟨#[97, 100, 100]⟩, ⟨#[97, 100, 100, 99]⟩, ⟨#[115, 117, 98, 99]⟩, ⟨#[115, 117, 98]⟩, ⟨#[99, 109, 112]⟩, ⟨#[100, 97, 100, 100]⟩, ⟨#[98, 105, 116]⟩, ⟨#[98, 105, 99]⟩, ⟨#[98, 105, 115]⟩, ⟨#[120, 111, 114]⟩, ⟨#[97, 110, 100]⟩]
theorem l02Twos_any (w : World) : Calls Tryd.prog 50 #[] w fun e w' => e = .returned (.slice (some ⟨w.heap.size, 0, none⟩) 12 12) ∧ w' = w.alloc (.cells (twosL.map Value.string).toArray 9) := by
  go_enter Tryd.func50, Tryd.ntmps50
  go_wp2
  go_ret
  exact ⟨rfl, rfl⟩
def onesL : List ByteArray := [⟨#[114, 114, 99]⟩, ⟨#[115, 119, 112, 98]⟩, ⟨#[114, 114, 97]⟩, ⟨#[115, 120, 116]⟩, ⟨#[112, 117, 115, 104]⟩, ⟨#[99, 97, 108, 108]⟩, ⟨#[114, 101, 116, 105]⟩]
theorem l02Ones_any (w : World) : Calls Tryd.prog 48 #[] w fun e w' => e = .returned (.slice (some ⟨w.heap.size, 0, none⟩) 7 7) ∧ w' = w.alloc (.cells (onesL.map Value.string).toArray 9) := by
  go_enter Tryd.func48, Tryd.ntmps48
  go_wp2
  go_ret
  exact ⟨rfl, rfl⟩
def jumpsL : List ByteArray := [⟨#[106, 110, 101]⟩, ⟨#[106, 101, 113]⟩, ⟨#[106, 110, 99]⟩, ⟨#[106, 99]⟩, ⟨#[106, 110]⟩, ⟨#[106, 103, 101]⟩, ⟨#[106, 108]⟩, ⟨#[106, 109, 112]⟩]
theorem l02Jumps_any (w : World) : Calls Tryd.prog 47 #[] w fun e w' => e = .returned (.slice (some ⟨w.heap.size, 0, none⟩) 8 8) ∧ w' = w.alloc (.cells (jumpsL.map Value.string).toArray 9) := by
  go_enter Tryd.func47, Tryd.ntmps47
  go_wp2
  go_ret
  exact ⟨rfl, rfl⟩
/- The place of a text among others, or -1. -/
def atF : List ByteArray → ByteArray → Nat → Int
  | [], _, _ => -1
  | s :: L, t, i => if s = t then (i : Int) else atF L t (i + 1)
def atI (L : List ByteArray) (t : ByteArray) : Int := atF L t 0
theorem atF_drop (L : List ByteArray) (t : ByteArray) (k : Nat) (h : k < L.length) : atF (L.drop k) t k = if L[k] = t then (k : Int) else atF (L.drop (k + 1)) t (k + 1) := by
  rw [List.drop_eq_getElem_cons h]; rfl
theorem text_ne {s t : ByteArray} (h : ¬ s = t) : (s.toList == t.toList) = false := by
  rw [beq_eq_false_iff_ne]
  intro e
  rw [ByteArray.toList_eq, ByteArray.toList_eq] at e
  apply h
  cases s; cases t
  congr 1
  exact Array.toList_inj.1 e
set_option maxHeartbeats 400000 in
theorem l02At_any (B : Nat) (L : List ByteArray) (cap : Nat) (t : ByteArray) (w : World) (hl : L.length ≤ 1000) (hc : ∀ i (h : i < L.length), w.cell? ⟨B, i, none⟩ = some (.string L[i])) :
    Calls Tryd.prog 36 #[.slice (some ⟨B, 0, none⟩) L.length cap, .string t] w fun e w' => e = .returned (.int .i64 (atI L t)) ∧ w' = w := by
  go_enter Tryd.func36, Tryd.ntmps36
  go_wp2
  go_loopw [5] (fun i wr => ∃ k : Nat, k ≤ L.length ∧ i = .int .i64 k ∧ wr = w ∧ Hid (atI L t = atF (L.drop k) t k)) (fun i _ => L.length - (intOf i).toNat)
  case atStart => exact ⟨0, by omega, rfl, rfl, rfl⟩
  case round =>
    obtain ⟨k, hk, rfl, rfl, HA⟩ := hrel
    by_cases hlt : k < L.length
    · have hcell := hc k hlt
      have HN : Hid (_ = _) := atF_drop L t k hlt
      by_cases he : L[k] = t
      · go_wp2
        go_ret
        exact ⟨ret_int (by rw [HA.out, HN.out, if_pos he]), rfl⟩
      · have he2 := text_ne he
        go_wp2
        go_roundw
        case rel => exact ⟨k + 1, by omega, by go_num, trivial, by show _ = _; rw [HA.out, HN.out, if_neg he]⟩
        case measure => simp [intOf]; omega
    · go_wp2
      go_ret
      exact ⟨ret_int (by rw [HA.out, List.drop_of_length_le (by omega)]; rfl), rfl⟩
theorem at_row (L : List ByteArray) (t : ByteArray) (k : Int) (hk : atI L t = k) (B N : Nat) (w : World) (ty : TypeId) (hN : L.length = N) (hl : N ≤ 1000) (hB : w.heap[B]? = some (.cells (L.map Value.string).toArray ty)) :
    Calls Tryd.prog 36 #[.slice (some ⟨B, 0, none⟩) N N, .string t] w fun e w' => e = .returned (.int .i64 k) ∧ w' = w := by
  subst hN
  subst hk
  exact l02At_any B L L.length t _ hl (fun i h => by simp [World.cell?, hB, h])
theorem twos_b (w : World) : Calls Tryd.prog 50 #[] w fun e w' => e = .returned (.slice (some ⟨w.heap.size, 0, none⟩) 12 12) ∧ Hid (w'.heap[w.heap.size]? = some (.cells (twosL.map Value.string).toArray 9)) ∧ Below w.heap.size w w' :=
  (l02Twos_any w).mono fun e w' ⟨h1, h2⟩ => by subst h2; exact ⟨h1, heap_alloc_new _ _, (Below.refl _ _).alloc (Nat.le_refl _) _⟩
theorem ones_b (w : World) : Calls Tryd.prog 48 #[] w fun e w' => e = .returned (.slice (some ⟨w.heap.size, 0, none⟩) 7 7) ∧ Hid (w'.heap[w.heap.size]? = some (.cells (onesL.map Value.string).toArray 9)) ∧ Below w.heap.size w w' :=
  (l02Ones_any w).mono fun e w' ⟨h1, h2⟩ => by subst h2; exact ⟨h1, heap_alloc_new _ _, (Below.refl _ _).alloc (Nat.le_refl _) _⟩
theorem jumps_b (w : World) : Calls Tryd.prog 47 #[] w fun e w' => e = .returned (.slice (some ⟨w.heap.size, 0, none⟩) 8 8) ∧ Hid (w'.heap[w.heap.size]? = some (.cells (jumpsL.map Value.string).toArray 9)) ∧ Below w.heap.size w w' :=
  (l02Jumps_any w).mono fun e w' ⟨h1, h2⟩ => by subst h2; exact ⟨h1, heap_alloc_new _ _, (Below.refl _ _).alloc (Nat.le_refl _) _⟩
end Go.Proofs.YtknielpkmablkaaDoor
namespace Go.Proofs.YtknielpkmablkaaDoor
open Go.RowKit

theorem cells11 {W : World} {B : Nat} {v0 v1 v2 v3 v4 v5 v6 v7 v8 v9 v10 : Value} {t : TypeId} {fr : Nat × Nat} (h : W.heap[B]? = some (.cells #[v0, v1, v2, v3, v4, v5, v6, v7, v8, v9, v10] t fr)) :
    W.cell? ⟨B, 0, none⟩ = some v0 ∧ W.cell? ⟨B, 1, none⟩ = some v1 ∧ W.cell? ⟨B, 2, none⟩ = some v2 ∧ W.cell? ⟨B, 3, none⟩ = some v3 ∧ W.cell? ⟨B, 4, none⟩ = some v4 ∧ W.cell? ⟨B, 5, none⟩ = some v5 ∧ W.cell? ⟨B, 6, none⟩ = some v6 ∧ W.cell? ⟨B, 7, none⟩ = some v7 ∧ W.cell? ⟨B, 8, none⟩ = some v8 ∧ W.cell? ⟨B, 9, none⟩ = some v9 ∧ W.cell? ⟨B, 10, none⟩ = some v10 := by
  refine ⟨?_, ?_, ?_, ?_, ?_, ?_, ?_, ?_, ?_, ?_, ?_⟩ <;> simp [World.cell?, h]
theorem text_no {s : ByteArray} (l : List UInt8) (h : ¬ s = ⟨l.toArray⟩) : (s.toList == l) = false := by
  have h2 := text_ne h
  rw [ByteArray.toList_eq (bs := ⟨l.toArray⟩)] at h2
  exact h2
def wideB (op : ByteArray) : Bool := decide (op = ⟨#[115, 119, 112, 98]⟩) || decide (op = ⟨#[115, 120, 116]⟩) || decide (op = ⟨#[99, 97, 108, 108]⟩)
def handB (op : ByteArray) : Bool := decide (op = ⟨#[112, 117, 115, 104]⟩) || decide (op = ⟨#[99, 97, 108, 108]⟩)
def rightB (k1 k2 k3 : Int) (op : ByteArray) (b : Bool) (m r n : Int) (l : Bool) (m2 r2 n2 : Int) (l2 : Bool) (j : Int) : Bool :=
  if 0 ≤ k1 then srcB m r n l && dstB m2 r2 n2 l2 && (j == 0)
  else if 0 ≤ k2 then !b && zeroB m r n l && zeroB m2 r2 n2 l2 && isB j (-512) 511
  else if op = ⟨#[114, 101, 116, 105]⟩ then !b && zeroB m r n l && zeroB m2 r2 n2 l2 && (j == 0)
  else if k3 < 0 then false
  else srcB m r n l && zeroB m2 r2 n2 l2 && (j == 0) && (decide (op = ⟨#[112, 117, 115, 104]⟩) || decide (op = ⟨#[99, 97, 108, 108]⟩) || m != 5) && !((decide (op = ⟨#[115, 119, 112, 98]⟩) || decide (op = ⟨#[115, 120, 116]⟩) || decide (op = ⟨#[99, 97, 108, 108]⟩)) && b)
def insnB (op : ByteArray) (b : Bool) (m r n : Int) (l : Bool) (m2 r2 n2 : Int) (l2 : Bool) (j : Int) : Bool :=
  rightB (atI twosL op) (atI jumpsL op) (atI onesL op) op b m r n l m2 r2 n2 l2 j
end Go.Proofs.YtknielpkmablkaaDoor
namespace Go.Proofs.YtknielpkmablkaaDoor
open Go.RowKit

theorem isReg_any (n : Int) (w : World) : Calls Tryd.prog 73 #[.int .i64 n] w fun e w' => e = .returned (.bool (isB n 0 15)) ∧ w' = w := by
  by_cases h1 : 0 ≤ n
  · go_enter Tryd.func73, Tryd.ntmps73
    go_wp2
    go_ret
    exact ⟨ret_bool (by simp [isB, h1]), rfl⟩
  · go_enter Tryd.func73, Tryd.ntmps73
    go_wp2
    go_ret
    exact ⟨ret_bool (by simp [isB]; omega), rfl⟩
theorem holdsAddress_any (r : Int) (w : World) : Calls Tryd.prog 72 #[.int .i64 r] w fun e w' => e = .returned (.bool (plainB r)) ∧ w' = w := by
  go_enter Tryd.func72, Tryd.ntmps72
  go_wp2_with fail
  refine (isReg_any r _).mono ?_
  rintro e w1 ⟨rfl, rfl⟩
  cases h : isB r 0 15
  · go_wp2
    go_ret
    exact ⟨ret_bool (by simp [plainB, h]), rfl⟩
  · go_wp2
    all_goals
      go_ret
      exact ⟨ret_bool (by simp_all [plainB]), rfl⟩
/- The two tables, as the program lays them. -/
def namesL : List (List ByteArray) :=
  [⟨#[]⟩ :: ⟨#[]⟩ :: ⟨#[]⟩ :: ⟨#[]⟩ :: twosL, onesL ++ List.replicate 9 ⟨#[]⟩, jumpsL ++ List.replicate 8 ⟨#[]⟩]
def namesV : Array Value := (namesL.flatten.map Value.string).toArray
def shortsL : List Int := [0, 0, 3, 1, 1, 3, 2, 2, 3, 65535, 3, 3, 4, 2, 2, 8, 3, 2]
def shortsV : Array Value := (shortsL.map (Value.int .i64)).toArray
structure Tabs (w : World) : Prop where
  ops : ∃ t fr, w.heap[0]? = some (.cells namesV t fr)
  shorts : ∃ t fr, w.heap[1]? = some (.cells shortsV t fr)
theorem Tabs.below {w w' : World} (h : Tabs w) (hb : Below w.heap.size w w') : Tabs w' := by
  obtain ⟨⟨t, fr, h1⟩, ⟨u, fs, h2⟩⟩ := h
  exact ⟨⟨t, fr, heap_keep h1 hb⟩, ⟨u, fs, heap_keep h2 hb⟩⟩
theorem Tabs.alloc {w : World} (h : Tabs w) (o : Obj) : Tabs (w.alloc o) := h.below ((Below.refl _ _).alloc (Nat.le_refl _) _)
theorem Tabs.drew {w : World} (h : Tabs w) : Tabs w.drew := ⟨h.ops, h.shorts⟩
theorem namesV_size : namesV.size = 48 := by kernel_rfl
theorem shortsV_size : shortsV.size = 18 := by kernel_rfl
end Go.Proofs.YtknielpkmablkaaDoor
