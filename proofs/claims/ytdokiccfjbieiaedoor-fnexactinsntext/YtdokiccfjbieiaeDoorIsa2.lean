/- Instructions: destinations, the lists of operations, the place of a text among others. -/
import Derived.Test.YtdokiccfjbieiaeDoorRows
import Derived.WalkKit
import Derived.WalkSpells
import Derived.WalkLawsBesides
import Derived.Test.YtdokiccfjbieiaeDoorBase
import Derived.Test.YtdokiccfjbieiaeDoorIsa
namespace Go.Proofs.YtdokiccfjbieiaeDoor
open Go.RowKit

def zeroB (m r n : Int) (l : Bool) : Bool := (m == 0) && (r == 0) && (n == 0) && !l
theorem l02Zero_any (m r n : Int) (l : Bool) (w : World) : Calls Tryd.prog 32 #[.agg #[.int .i64 m, .int .i64 r, .int .i64 n, .bool l]] w fun e w' => e = .returned (.bool (zeroB m r n l)) ∧ Below w.heap.size w w' := by
  go_enter Tryd.func32, Tryd.ntmps32
  go_wp2
  all_goals
    go_ret
    exact ⟨ret_bool (by simp_all [zeroB]), (Below.refl _ _).alloc (Nat.le_refl _) _⟩
def dstB (m r n : Int) (l : Bool) : Bool := if m = 0 then isB r 0 15 && (n == 0) && !l else if m = 1 ∨ m = 2 then srcB m r n l else false
set_option maxHeartbeats 400000 in
theorem l02Dst_any (m r n : Int) (l : Bool) (w : World) : Calls Tryd.prog 30 #[.agg #[.int .i64 m, .int .i64 r, .int .i64 n, .bool l]] w fun e w' => e = .returned (.bool (dstB m r n l)) ∧ Below w.heap.size w w' := by
  by_cases h0 : m = 0
  · subst h0
    go_enter Tryd.func30, Tryd.ntmps30
    go_wp2_with fail
    refine (l02Is_any r 0 15 _).mono ?_
    rintro e w1 ⟨rfl, rfl⟩
    cases h : isB r 0 15
    · go_wp2
      all_goals
        go_ret
        exact ⟨ret_bool (by simp_all [dstB]), (Below.refl _ _).alloc (Nat.le_refl _) _⟩
    · go_wp2
      all_goals
        go_ret
        exact ⟨ret_bool (by simp_all [dstB]), (Below.refl _ _).alloc (Nat.le_refl _) _⟩
  have e0 : (m == 0) = false := by rw [beq_eq_false_iff_ne]; exact h0
  by_cases h1 : m = 1
  · subst h1
    go_enter Tryd.func30, Tryd.ntmps30
    go_wp2_with fail
    refine (l02Src_any 1 r n l _).mono ?_
    rintro e w1 ⟨rfl, hb⟩
    go_wp2
    go_ret
    exact ⟨ret_bool (by simp [dstB]), ((Below.refl _ _).alloc (Nat.le_refl _) _).trans (hb.mono (by simp))⟩
  have e1 : (m == 1) = false := by rw [beq_eq_false_iff_ne]; exact h1
  by_cases h2 : m = 2
  · subst h2
    go_enter Tryd.func30, Tryd.ntmps30
    go_wp2_with fail
    refine (l02Src_any 2 r n l _).mono ?_
    rintro e w1 ⟨rfl, hb⟩
    go_wp2
    go_ret
    exact ⟨ret_bool (by simp [dstB]), ((Below.refl _ _).alloc (Nat.le_refl _) _).trans (hb.mono (by simp))⟩
  have e2 : (m == 2) = false := by rw [beq_eq_false_iff_ne]; exact h2
  have HD : Hid (dstB m r n l = false) := by show _ = _; simp [dstB, h0, h1, h2]
  clear h0 h1 h2
  go_enter Tryd.func30, Tryd.ntmps30
  go_wp2
  go_ret
  exact ⟨ret_bool HD.out.symm, (Below.refl _ _).alloc (Nat.le_refl _) _⟩
def twosL : List ByteArray := [⟨#[109, 111, 118]⟩, ⟨#[97, 100, 100]⟩, ⟨#[97, 100, 100, 99]⟩, ⟨#[115, 117, 98, 99]⟩, ⟨#[115, 117, 98]⟩, ⟨#[99, 109, 112]⟩, ⟨#[100, 97, 100, 100]⟩, ⟨#[98, 105, 116]⟩, ⟨#[98, 105, 99]⟩, ⟨#[98, 105, 115]⟩, ⟨#[120, 111, 114]⟩, ⟨#[97, 110, 100]⟩]
theorem l02Twos_any (w : World) : Calls Tryd.prog 28 #[] w fun e w' => e = .returned (.slice (some ⟨w.heap.size, 0, none⟩) 12 12) ∧ w' = w.alloc (.cells (twosL.map Value.string).toArray 9) := by
  go_enter Tryd.func28, Tryd.ntmps28
  go_wp2
  go_ret
  exact ⟨rfl, rfl⟩
def onesL : List ByteArray := [⟨#[114, 114, 99]⟩, ⟨#[115, 119, 112, 98]⟩, ⟨#[114, 114, 97]⟩, ⟨#[115, 120, 116]⟩, ⟨#[112, 117, 115, 104]⟩, ⟨#[99, 97, 108, 108]⟩, ⟨#[114, 101, 116, 105]⟩]
theorem l02Ones_any (w : World) : Calls Tryd.prog 34 #[] w fun e w' => e = .returned (.slice (some ⟨w.heap.size, 0, none⟩) 7 7) ∧ w' = w.alloc (.cells (onesL.map Value.string).toArray 9) := by
  go_enter Tryd.func34, Tryd.ntmps34
  go_wp2
  go_ret
  exact ⟨rfl, rfl⟩
def jumpsL : List ByteArray := [⟨#[106, 110, 101]⟩, ⟨#[106, 101, 113]⟩, ⟨#[106, 110, 99]⟩, ⟨#[106, 99]⟩, ⟨#[106, 110]⟩, ⟨#[106, 103, 101]⟩, ⟨#[106, 108]⟩, ⟨#[106, 109, 112]⟩]
theorem l02Jumps_any (w : World) : Calls Tryd.prog 31 #[] w fun e w' => e = .returned (.slice (some ⟨w.heap.size, 0, none⟩) 8 8) ∧ w' = w.alloc (.cells (jumpsL.map Value.string).toArray 9) := by
  go_enter Tryd.func31, Tryd.ntmps31
  go_wp2
  go_ret
  exact ⟨rfl, rfl⟩
/- The place of a text among others, or -1. -/
def atF : List ByteArray → ByteArray → Nat → Int
  | [], _, _ => -1
  | s :: L, t, i => if s = t then (i : Int) else atF L t (i + 1)
def atI (L : List ByteArray) (t : ByteArray) : Int := atF L t 0
theorem atF_drop (L : List ByteArray) (t : ByteArray) (k : Nat) (h : k < L.length) : atF (L.drop k) t k = if L[k] = t then (k : Int) else atF (L.drop (k + 1)) t (k + 1) := by
  rw [List.drop_eq_getElem_cons h]; rfl
theorem text_ne {s t : ByteArray} (h : ¬ s = t) : (s.toList == t.toList) = false := by
  rw [beq_eq_false_iff_ne]
  intro e
  rw [ByteArray.toList_eq, ByteArray.toList_eq] at e
  apply h
  cases s; cases t
  congr 1
  exact Array.toList_inj.1 e
set_option maxHeartbeats 400000 in
theorem l02At_any (B : Nat) (L : List ByteArray) (cap : Nat) (t : ByteArray) (w : World) (hl : L.length ≤ 1000) (hc : ∀ i (h : i < L.length), w.cell? ⟨B, i, none⟩ = some (.string L[i])) :
    Calls Tryd.prog 27 #[.slice (some ⟨B, 0, none⟩) L.length cap, .string t] w fun e w' => e = .returned (.int .i64 (atI L t)) ∧ w' = w := by
  go_enter Tryd.func27, Tryd.ntmps27
  go_wp2
  go_loopw [5] (fun i wr => ∃ k : Nat, k ≤ L.length ∧ i = .int .i64 k ∧ wr = w ∧ Hid (atI L t = atF (L.drop k) t k)) (fun i _ => L.length - (intOf i).toNat)
  case atStart => exact ⟨0, by omega, rfl, rfl, rfl⟩
  case round =>
    obtain ⟨k, hk, rfl, rfl, HA⟩ := hrel
    by_cases hlt : k < L.length
    · have hcell := hc k hlt
      have HN : Hid (_ = _) := atF_drop L t k hlt
      by_cases he : L[k] = t
      · go_wp2
        go_ret
        exact ⟨ret_int (by rw [HA.out, HN.out, if_pos he]), rfl⟩
      · have he2 := text_ne he
        go_wp2
        go_roundw
        case rel => exact ⟨k + 1, by omega, by go_num, trivial, by show _ = _; rw [HA.out, HN.out, if_neg he]⟩
        case measure => simp [intOf]; omega
    · go_wp2
      go_ret
      exact ⟨ret_int (by rw [HA.out, List.drop_of_length_le (by omega)]; rfl), rfl⟩
theorem at_row (L : List ByteArray) (t : ByteArray) (k : Int) (hk : atI L t = k) (B N : Nat) (w : World) (ty : TypeId) (hN : L.length = N) (hl : N ≤ 1000) (hB : w.heap[B]? = some (.cells (L.map Value.string).toArray ty)) :
    Calls Tryd.prog 27 #[.slice (some ⟨B, 0, none⟩) N N, .string t] w fun e w' => e = .returned (.int .i64 k) ∧ w' = w := by
  subst hN
  subst hk
  exact l02At_any B L L.length t _ hl (fun i h => by simp [World.cell?, hB, h])
theorem twos_b (w : World) : Calls Tryd.prog 28 #[] w fun e w' => e = .returned (.slice (some ⟨w.heap.size, 0, none⟩) 12 12) ∧ Hid (w'.heap[w.heap.size]? = some (.cells (twosL.map Value.string).toArray 9)) ∧ Below w.heap.size w w' :=
  (l02Twos_any w).mono fun e w' ⟨h1, h2⟩ => by subst h2; exact ⟨h1, heap_alloc_new _ _, (Below.refl _ _).alloc (Nat.le_refl _) _⟩
theorem ones_b (w : World) : Calls Tryd.prog 34 #[] w fun e w' => e = .returned (.slice (some ⟨w.heap.size, 0, none⟩) 7 7) ∧ Hid (w'.heap[w.heap.size]? = some (.cells (onesL.map Value.string).toArray 9)) ∧ Below w.heap.size w w' :=
  (l02Ones_any w).mono fun e w' ⟨h1, h2⟩ => by subst h2; exact ⟨h1, heap_alloc_new _ _, (Below.refl _ _).alloc (Nat.le_refl _) _⟩
theorem jumps_b (w : World) : Calls Tryd.prog 31 #[] w fun e w' => e = .returned (.slice (some ⟨w.heap.size, 0, none⟩) 8 8) ∧ Hid (w'.heap[w.heap.size]? = some (.cells (jumpsL.map Value.string).toArray 9)) ∧ Below w.heap.size w w' :=
  (l02Jumps_any w).mono fun e w' ⟨h1, h2⟩ => by subst h2; exact ⟨h1, heap_alloc_new _ _, (Below.refl _ _).alloc (Nat.le_refl _) _⟩
end Go.Proofs.YtdokiccfjbieiaeDoor
