/- Lists and numbers alone: the bytes of a number, seven bits a byte. -/
import Derived.WalkKit
import Derived.Laws.BitsAllLaws
import Derived.Test.YtcnjeeckkpiilaaRows
import Derived.WalkSpells
import Derived.WalkLawsBesides
import Derived.Test.YtcnjeeckkpiilaaBun0
namespace Go.Proofs.Ytcnjeeckkpiilaa
open Go.RowKit

def vbF : Nat → Nat → List UInt8
  | 0, u => [UInt8.ofNat u]
  | f + 1, u => if u < 128 then [UInt8.ofNat u] else UInt8.ofNat (u % 128 + 128) :: vbF f (u / 128)
def putL (u : Nat) : List UInt8 := vbF 9 u
def putS (u : Nat) : ByteArray := ⟨(putL u).toArray⟩
theorem vbF_last (f u : Nat) (h : u < 128) : vbF f u = [UInt8.ofNat u] := by
  cases f with
  | zero => rfl
  | succ f => simp [vbF, h]
theorem vbF_more (f u : Nat) (h : 128 ≤ u) : vbF (f + 1) u = UInt8.ofNat (u % 128 + 128) :: vbF f (u / 128) := by
  have : ¬ u < 128 := by omega
  simp [vbF, this]
theorem vbF_len (f : Nat) : ∀ u, 1 ≤ (vbF f u).length ∧ (vbF f u).length ≤ f + 1 := by
  induction f with
  | zero => intro u; simp [vbF]
  | succ f ih =>
    intro u
    by_cases h : u < 128
    · rw [vbF_last _ _ h]; simp
    · rw [vbF_more _ _ (by omega)]; have := ih (u / 128); simp; omega
theorem putS_size (u : Nat) : (putS u).size = (putL u).length := rfl
theorem putS_le (u : Nat) : (putS u).size ≤ 10 := (vbF_len 9 u).2

-- what holds behind k bytes: c is left, L stands
def Behind (u k c : Nat) (L : List UInt8) : Prop := k ≤ 9 ∧ L.length = k ∧ c * 128 ^ k < 18446744073709551616 ∧ L ++ vbF (9 - k) c = putL u
theorem behind_start (u : Nat) (h : u < 18446744073709551616) : Behind u 0 u [] := ⟨by omega, rfl, by simpa using h, rfl⟩
theorem behind_more {u k c : Nat} {L : List UInt8} (h : Behind u k c L) (hc : 128 ≤ c) : k < 9 ∧ Behind u (k + 1) (c / 128) (L ++ [UInt8.ofNat (c % 128 + 128)]) := by
  obtain ⟨h1, h2, h3, h4⟩ := h
  have hk : k < 9 := by
    rcases Nat.lt_or_ge k 9 with hk | hk
    · exact hk
    · obtain rfl : k = 9 := by omega
      omega
  refine ⟨hk, by omega, by simp [h2], ?_, ?_⟩
  · have : c / 128 * 128 ^ (k + 1) ≤ c * 128 ^ k := by
      rw [Nat.pow_succ, Nat.mul_comm (128 ^ k) 128, ← Nat.mul_assoc]
      exact Nat.mul_le_mul_right _ (Nat.div_mul_le_self c 128)
    omega
  · have e : 9 - k = (9 - (k + 1)) + 1 := by omega
    rw [e, vbF_more _ _ hc] at h4
    rw [← h4]; simp
theorem behind_last {u k c : Nat} {L : List UInt8} (h : Behind u k c L) (hc : c < 128) : L ++ [UInt8.ofNat c] = putL u := by
  rw [← h.2.2.2, vbF_last _ _ hc]
theorem behind_lt {u k c : Nat} {L : List UInt8} (h : Behind u k c L) : c < 18446744073709551616 := by
  have h3 := h.2.2.1
  have : c * 1 ≤ c * 128 ^ k := Nat.mul_le_mul_left _ (Nat.one_le_two_pow (n := 7 * k) |> fun h => by rw [Nat.pow_mul] at h; exact h)
  omega
theorem byte_more (c : Nat) : ((UInt8.ofNat (c % 128 + 128)).toNat : Int) = (c : Int) % 128 + 128 := by
  simp; omega
theorem byte_last (c : Nat) (h : c < 128) : ((UInt8.ofNat c).toNat : Int) = (c : Int) := by
  simp; omega
theorem and127 (c : Nat) (h : c < 18446744073709551616) : bits BinOp.and IntKind.u64 (c : Int) 127 = ((c % 128 : Nat) : Int) := by
  have := u64_and_nat c 127 h (by omega)
  rw [nat_mask7] at this; exact this
end Go.Proofs.Ytcnjeeckkpiilaa
namespace Go.Proofs.Ytcnjeeckkpiilaa
open Go.RowKit

def foldN (n : Int) : Nat := if n < 0 then (-2 * n - 1).toNat else (2 * n).toNat
theorem foldN_lt (n : Int) (h0 : -9223372036854775808 ≤ n) (h1 : n ≤ 9223372036854775807) : foldN n < 18446744073709551616 := by
  unfold foldN; split <;> omega

theorem not64 (x : Nat) (h : x < 18446744073709551616) : bits BinOp.xor IntKind.u64 IntKind.u64.max (x : Int) = ((18446744073709551615 - x : Nat) : Int) := by
  have hm : IntKind.u64.max = ((18446744073709551615 : Nat) : Int) := by decide
  rw [hm, bits_xor_u64_nat _ x (by omega) h]
  have : 18446744073709551615 ^^^ x = 18446744073709551615 - x := by
    have hx : (BitVec.allOnes 64 ^^^ BitVec.ofNat 64 x).toNat = (~~~ BitVec.ofNat 64 x).toNat := by rw [BitVec.allOnes_xor]
    rw [BitVec.toNat_xor, BitVec.toNat_not, BitVec.toNat_allOnes, BitVec.toNat_ofNat, Nat.mod_eq_of_lt (by omega)] at hx
    exact hx
  rw [this]
theorem fold_neg (n : Int) (h0 : -9223372036854775808 ≤ n) (h : n < 0) : bits BinOp.xor IntKind.u64 IntKind.u64.max (IntKind.u64.wrap (IntKind.u64.wrap n * 2)) = ((-2 * n - 1).toNat : Int) := by
  have e : IntKind.u64.wrap (IntKind.u64.wrap n * 2) = ((18446744073709551616 + 2 * n).toNat : Int) := by
    rw [IntKind.wrap_u64, IntKind.wrap_u64]; omega
  rw [e, not64 _ (by omega)]
  omega

set_option maxHeartbeats 400000 in
theorem l01Fold_any (n : Int) (w : World) (h0 : -9223372036854775808 ≤ n) (h1 : n ≤ 9223372036854775807) :
    Calls Try.prog 96 #[.int .i64 n] w fun e w' => e = .returned (.int .u64 (foldN n : Nat)) ∧ w' = w := by
  by_cases h : n < 0
  · have HF : Hid (foldN n = _) := if_pos h
    go_enter Try.func96, Try.ntmps96
    go_wp2
    go_ret
    exact ⟨ret_int (by rw [HF.out]; omega), rfl⟩
  · have HF : Hid (foldN n = _) := if_neg h
    go_enter Try.func96, Try.ntmps96
    go_wp2
    go_ret
    exact ⟨ret_int (by rw [HF.out]; omega), rfl⟩
set_option maxHeartbeats 400000 in
theorem foldSign_any (n : Int) (w : World) (h0 : -9223372036854775808 ≤ n) (h1 : n ≤ 9223372036854775807) :
    Calls Try.prog 76 #[.int .i64 n] w fun e w' => e = .returned (.int .u64 (foldN n : Nat)) ∧ w' = w := by
  by_cases h : n < 0
  · have HF : Hid (foldN n = _) := if_pos h
    have HN : Hid (_ = _) := fold_neg n h0 h
    go_enter Try.func76, Try.ntmps76
    go_wp2
    go_ret
    exact ⟨ret_int (by rw [HF.out, HN.out]), rfl⟩
  · have HF : Hid (foldN n = _) := if_neg h
    go_enter Try.func76, Try.ntmps76
    go_wp2
    go_ret
    exact ⟨ret_int (by rw [HF.out]; omega), rfl⟩
end Go.Proofs.Ytcnjeeckkpiilaa
