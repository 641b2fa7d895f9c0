/- Lists and numbers alone: the bytes of a number, seven bits a byte. -/
import Derived.WalkKit
import Derived.Laws.BitsAllLaws
import Derived.Test.YtnhehdobpibgkaaGreatDoorRows
import Derived.WalkSpells
import Derived.WalkLawsBesides
import Derived.Test.YtnhehdobpibgkaaGreatDoorBun0
import Derived.Test.YtnhehdobpibgkaaGreatDoorBun8
namespace Go.Proofs.YtnhehdobpibgkaaGreatDoor
open Go.RowKit

def vbF : Nat → Nat → List UInt8
  | 0, u => [UInt8.ofNat u]
  | f + 1, u => if u < 128 then [UInt8.ofNat u] else UInt8.ofNat (u % 128 + 128) :: vbF f (u / 128)
def putL (u : Nat) : List UInt8 := vbF 9 u
def putS (u : Nat) : ByteArray := ⟨(putL u).toArray⟩
theorem vbF_last (f u : Nat) (h : u < 128) : vbF f u = [UInt8.ofNat u] := by
  cases f with
  | zero => rfl
  | succ f => simp [vbF, h]
theorem vbF_more (f u : Nat) (h : 128 ≤ u) : vbF (f + 1) u = UInt8.ofNat (u % 128 + 128) :: vbF f (u / 128) := by
  have : ¬ u < 128 := by omega
  simp [vbF, this]
theorem vbF_len (f : Nat) : ∀ u, 1 ≤ (vbF f u).length ∧ (vbF f u).length ≤ f + 1 := by
  induction f with
  | zero => intro u; simp [vbF]
  | succ f ih =>
    intro u
    by_cases h : u < 128
    · rw [vbF_last _ _ h]; simp
    · rw [vbF_more _ _ (by omega)]; have := ih (u / 128); simp; omega
theorem putS_size (u : Nat) : (putS u).size = (putL u).length := rfl
theorem putS_le (u : Nat) : (putS u).size ≤ 10 := (vbF_len 9 u).2

-- what holds behind k bytes: c is left, L stands
def Behind (u k c : Nat) (L : List UInt8) : Prop := k ≤ 9 ∧ L.length = k ∧ c * 128 ^ k < 18446744073709551616 ∧ L ++ vbF (9 - k) c = putL u
theorem behind_start (u : Nat) (h : u < 18446744073709551616) : Behind u 0 u [] := ⟨by omega, rfl, by simpa using h, rfl⟩
theorem behind_more {u k c : Nat} {L : List UInt8} (h : Behind u k c L) (hc : 128 ≤ c) : k < 9 ∧ Behind u (k + 1) (c / 128) (L ++ [UInt8.ofNat (c % 128 + 128)]) := by
  obtain ⟨h1, h2, h3, h4⟩ := h
  have hk : k < 9 := by
    rcases Nat.lt_or_ge k 9 with hk | hk
    · exact hk
    · obtain rfl : k = 9 := by omega
      omega
  refine ⟨hk, by omega, by simp [h2], ?_, ?_⟩
  · have : c / 128 * 128 ^ (k + 1) ≤ c * 128 ^ k := by
      rw [Nat.pow_succ, Nat.mul_comm (128 ^ k) 128, ← Nat.mul_assoc]
      exact Nat.mul_le_mul_right _ (Nat.div_mul_le_self c 128)
    omega
  · have e : 9 - k = (9 - (k + 1)) + 1 := by omega
    rw [e, vbF_more _ _ hc] at h4
    rw [← h4]; simp
theorem behind_last {u k c : Nat} {L : List UInt8} (h : Behind u k c L) (hc : c < 128) : L ++ [UInt8.ofNat c] = putL u := by
  rw [← h.2.2.2, vbF_last _ _ hc]
theorem behind_lt {u k c : Nat} {L : List UInt8} (h : Behind u k c L) : c < 18446744073709551616 := by
  have h3 := h.2.2.1
  have : c * 1 ≤ c * 128 ^ k := Nat.mul_le_mul_left _ (Nat.one_le_two_pow (n := 7 * k) |> fun h => by rw [Nat.pow_mul] at h; exact h)
  omega
theorem byte_more (c : Nat) : ((UInt8.ofNat (c % 128 + 128)).toNat : Int) = (c : Int) % 128 + 128 := by
  simp; omega
theorem byte_last (c : Nat) (h : c < 128) : ((UInt8.ofNat c).toNat : Int) = (c : Int) := by
  simp; omega
theorem and127 (c : Nat) (h : c < 18446744073709551616) : bits BinOp.and IntKind.u64 (c : Int) 127 = ((c % 128 : Nat) : Int) := by
  have := u64_and_nat c 127 h (by omega)
  rw [nat_mask7] at this; exact this
end Go.Proofs.YtnhehdobpibgkaaGreatDoor
namespace Go.Proofs.YtnhehdobpibgkaaGreatDoor
open Go.RowKit

def foldN (n : Int) : Nat := if n < 0 then (-2 * n - 1).toNat else (2 * n).toNat
theorem foldN_lt (n : Int) (h0 : -9223372036854775808 ≤ n) (h1 : n ≤ 9223372036854775807) : foldN n < 18446744073709551616 := by
  unfold foldN; split <;> omega

theorem not64 (x : Nat) (h : x < 18446744073709551616) : bits BinOp.xor IntKind.u64 IntKind.u64.max (x : Int) = ((18446744073709551615 - x : Nat) : Int) := by
  have hm : IntKind.u64.max = ((18446744073709551615 : Nat) : Int) := by decide
  rw [hm, bits_xor_u64_nat _ x (by omega) h]
  have : 18446744073709551615 ^^^ x = 18446744073709551615 - x := by
    have hx : (BitVec.allOnes 64 ^^^ BitVec.ofNat 64 x).toNat = (~~~ BitVec.ofNat 64 x).toNat := by rw [BitVec.allOnes_xor]
    rw [BitVec.toNat_xor, BitVec.toNat_not, BitVec.toNat_allOnes, BitVec.toNat_ofNat, Nat.mod_eq_of_lt (by omega)] at hx
    exact hx
  rw [this]
theorem fold_neg (n : Int) (h0 : -9223372036854775808 ≤ n) (h : n < 0) : bits BinOp.xor IntKind.u64 IntKind.u64.max (IntKind.u64.wrap (IntKind.u64.wrap n * 2)) = ((-2 * n - 1).toNat : Int) := by
  have e : IntKind.u64.wrap (IntKind.u64.wrap n * 2) = ((18446744073709551616 + 2 * n).toNat : Int) := by
    rw [IntKind.wrap_u64, IntKind.wrap_u64]; omega
  rw [e, not64 _ (by omega)]
  omega

set_option maxHeartbeats 400000 in
theorem l01Fold_any (n : Int) (w : World) (h0 : -9223372036854775808 ≤ n) (h1 : n ≤ 9223372036854775807) :
    Calls Tryz.prog 70 #[.int .i64 n] w fun e w' => e = .returned (.int .u64 (foldN n : Nat)) ∧ w' = w := by
  by_cases h : n < 0
  · have HF : Hid (foldN n = _) := if_pos h
    go_enter Tryz.func70, Tryz.ntmps70
    go_wp2
    go_ret
    exact ⟨ret_int (by rw [HF.out]; omega), rfl⟩
  · have HF : Hid (foldN n = _) := if_neg h
    go_enter Tryz.func70, Tryz.ntmps70
    go_wp2
    go_ret
    exact ⟨ret_int (by rw [HF.out]; omega), rfl⟩
set_option maxHeartbeats 400000 in
theorem foldSign_any (n : Int) (w : World) (h0 : -9223372036854775808 ≤ n) (h1 : n ≤ 9223372036854775807) :
    Calls Tryz.prog 84 #[.int .i64 n] w fun e w' => e = .returned (.int .u64 (foldN n : Nat)) ∧ w' = w := by
  by_cases h : n < 0
  · have HF : Hid (foldN n = _) := if_pos h
    have HN : Hid (_ = _) := fold_neg n h0 h
    go_enter Tryz.func84, Tryz.ntmps84
    go_wp2
    go_ret
    exact ⟨ret_int (by rw [HF.out, HN.out]), rfl⟩
  · have HF : Hid (foldN n = _) := if_neg h
    go_enter Tryz.func84, Tryz.ntmps84
    go_wp2
    go_ret
    exact ⟨ret_int (by rw [HF.out]; omega), rfl⟩
end Go.Proofs.YtnhehdobpibgkaaGreatDoor
namespace Go.Proofs.YtnhehdobpibgkaaGreatDoor
open Go.RowKit

theorem byte_at {s : ByteArray} {q : Nat} {b : UInt8} {l : List UInt8} (h : s.data.toList.drop q = b :: l) : ∃ hq : q < s.size, s[q] = b ∧ s.data.toList.drop (q + 1) = l := by
  have hq : q < s.data.toList.length := by
    rcases Nat.lt_or_ge q s.data.toList.length with h1 | h1
    · exact h1
    · rw [List.drop_of_length_le h1] at h; cases h
  have h2 := List.drop_eq_getElem_cons hq
  rw [h] at h2
  obtain ⟨h3, h4⟩ := List.cons.inj h2
  refine ⟨by simpa using hq, ?_, h4.symm⟩
  rw [h3]; simp; rfl
theorem of_small (c : Nat) (h : c < 256) : (UInt8.ofNat c).toNat = c := by rw [UInt8.toNat_ofNat_of_lt' (by simpa using h)]
theorem pow_128 (i : Nat) : 128 ^ i = 2 ^ (7 * i) := by rw [Nat.pow_mul]

theorem rdF_put (s : ByteArray) (p : Nat) : ∀ (f i c U : Nat) (post : List UInt8), i + f = 9 → c * 2 ^ (7 * i) < 18446744073709551616 → (c = 0 → i = 0) →
    s.data.toList.drop (p + i) = vbF f c ++ post → rdF s p (f + 1) i U = (unf (U + c * 2 ^ (7 * i)), (p : Int) + i + (vbF f c).length, 0) := by
  intro f
  induction f with
  | zero =>
    intro i c U post hi hc h0 hd
    obtain rfl : i = 9 := by omega
    have hc2 : c < 2 := by simp at hc; omega
    rw [vbF_last 0 c (by omega)] at hd ⊢
    obtain ⟨hq, hb, _⟩ := byte_at hd
    have hv : s[p + 9].toNat = c := by rw [hb]; exact of_small c (by omega)
    rw [rdF_last hq (by omega) (by omega) (by omega), hv, Nat.mod_eq_of_lt (by omega)]
    simp
  | succ f ih =>
    intro i c U post hi hc h0 hd
    by_cases h128 : c < 128
    · rw [vbF_last _ c h128] at hd ⊢
      obtain ⟨hq, hb, _⟩ := byte_at hd
      have hv : s[p + i].toNat = c := by rw [hb]; exact of_small c (by omega)
      rw [rdF_last hq (by omega) (by omega) (by omega), hv, Nat.mod_eq_of_lt h128]
      simp
    · rw [vbF_more _ _ (by omega)] at hd ⊢
      obtain ⟨hq, hb, hd2⟩ := byte_at hd
      have hv : s[p + i].toNat = c % 128 + 128 := by rw [hb]; exact of_small _ (by omega)
      have he : 2 ^ (7 * (i + 1)) = 128 * 2 ^ (7 * i) := by rw [show 7 * (i + 1) = 7 + 7 * i by omega, Nat.pow_add]
      have hle : c / 128 * 2 ^ (7 * (i + 1)) ≤ c * 2 ^ (7 * i) := by
        rw [he, ← Nat.mul_assoc]; exact Nat.mul_le_mul_right _ (Nat.div_mul_le_self c 128)
      rw [rdF_more hq (by omega) (by omega)]
      have hr := ih (i + 1) (c / 128) (U + s[p + i].toNat % 128 * 2 ^ (7 * i)) post (by omega) (by omega) (by omega) hd2
      rw [hr, hv]
      have e1 : (c % 128 + 128) % 128 = c % 128 := by omega
      have e2 : U + c % 128 * 2 ^ (7 * i) + c / 128 * 2 ^ (7 * (i + 1)) = U + c * 2 ^ (7 * i) := by
        rw [he, ← Nat.mul_assoc, Nat.add_assoc, ← Nat.add_mul]; congr 2; omega
      rw [e1, e2]
      simp; omega
theorem rdF_cut (s : ByteArray) (p : Nat) : ∀ (f i c U : Nat), i + f = 9 → c * 2 ^ (7 * i) < 18446744073709551616 → s.data.toList.drop (p + i) = (vbF f c).dropLast → s.size = p + i + (vbF f c).dropLast.length → rdF s p (f + 1) i U = (0, 0, 4) := by
  intro f
  induction f with
  | zero =>
    intro i c U hi hc hd hs
    obtain rfl : i = 9 := by omega
    rw [vbF_last 0 c (by simp at hc; omega)] at hs
    exact rdF_short (by simp at hs; omega)
  | succ f ih =>
    intro i c U hi hc hd hs
    by_cases h128 : c < 128
    · rw [vbF_last _ c h128] at hs
      exact rdF_short (by simp at hs; omega)
    · have hne : vbF f (c / 128) ≠ [] := by
        intro h; have := (vbF_len f (c / 128)).1; rw [h] at this; simp at this
      rw [vbF_more _ _ (by omega), List.dropLast_cons_of_ne_nil hne] at hd hs
      obtain ⟨hq, hb, hd2⟩ := byte_at hd
      have hv : s[p + i].toNat = c % 128 + 128 := by rw [hb]; exact of_small _ (by omega)
      have he : 2 ^ (7 * (i + 1)) = 128 * 2 ^ (7 * i) := by rw [show 7 * (i + 1) = 7 + 7 * i by omega, Nat.pow_add]
      have hle : c / 128 * 2 ^ (7 * (i + 1)) ≤ c * 2 ^ (7 * i) := by
        rw [he, ← Nat.mul_assoc]; exact Nat.mul_le_mul_right _ (Nat.div_mul_le_self c 128)
      rw [rdF_more hq (by omega) (by omega)]
      exact ih (i + 1) (c / 128) _ (by omega) (by omega) hd2 (by simp at hs ⊢; omega)
theorem getN_put (s : ByteArray) (pre post : List UInt8) (u : Nat) (hu : u < 18446744073709551616) (h : s.data.toList = pre ++ (putL u ++ post)) :
    getN s (pre.length : Int) = (unf u, (pre.length : Int) + (putL u).length, 0) := by
  have hl := (vbF_len 9 u).1
  have hs : s.size = pre.length + ((putL u).length + post.length) := by
    have := congrArg List.length h; simpa using this
  unfold getN
  rw [if_neg (by omega), if_neg (by unfold putL at hs; omega), Int.toNat_natCast]
  have := rdF_put s pre.length 9 0 u 0 post rfl (by simpa using hu) (fun _ => rfl) (by rw [h]; simp [putL])
  simpa [putL] using this
theorem getN_cut (s : ByteArray) (u : Nat) (hu : u < 18446744073709551616) (h : s.data.toList = (putL u).dropLast) : getN s 0 = (0, 0, 4) := by
  have hs : s.size = (putL u).dropLast.length := by
    have := congrArg List.length h; simpa using this
  unfold getN
  rw [if_neg (by omega)]
  by_cases h0 : (s.size : Int) ≤ 0
  · rw [if_pos h0]
  · rw [if_neg h0]
    exact rdF_cut s 0 9 0 u 0 rfl (by simpa using hu) (by simpa [putL] using h) (by simpa [putL] using hs)
theorem unf_fold (n : Int) : unf (foldN n) = n := by
  unfold unf foldN
  split <;> split <;> omega
end Go.Proofs.YtnhehdobpibgkaaGreatDoor
