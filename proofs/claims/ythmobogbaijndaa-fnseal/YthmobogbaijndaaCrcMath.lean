/- Numbers alone: the register of the CRC, bit by bit and byte by byte, in the two ways in which it is reckoned. -/
import Derived.WalkKit
import Derived.Laws.BitsAllLaws
namespace Go.Proofs.Ythmobogbaijndaa
open Go.RowKit

def polyN : Nat := 3988292384
def stepN (r : Nat) : Nat := if r % 2 = 1 then (r / 2) ^^^ 3988292384 else r / 2
def specK (r : Nat) : Nat → Nat
  | 0 => r
  | k + 1 => stepN (specK r k)
theorem specK_succ (r k : Nat) : specK r (k + 1) = if specK r k % 2 = 1 then (specK r k / 2) ^^^ 3988292384 else specK r k / 2 := rfl
def implK (r b : Nat) : Nat → Nat
  | 0 => r
  | k + 1 => if (b / 2 ^ k ^^^ implK r b k) % 2 = 1 then (implK r b k / 2) ^^^ 3988292384 else implK r b k / 2
def crcB (r b : Nat) : Nat := specK (r ^^^ b) 8
def crcL (r : Nat) : List UInt8 → Nat
  | [] => r
  | c :: l => crcL (crcB r c.toNat) l

theorem xor_half (a b : Nat) : (a ^^^ b) / 2 = a / 2 ^^^ b / 2 := by
  have := Nat.shiftRight_xor_distrib (a := a) (b := b) (i := 1)
  simpa [Nat.shiftRight_eq_div_pow] using this
theorem xor_odd (a b : Nat) : (a ^^^ b) % 2 = (a % 2 + b % 2) % 2 := by
  have h := Nat.xor_mod_two_pow (a := a) (b := b) (n := 1)
  simp only [Nat.pow_one] at h
  rw [h]
  rcases Nat.mod_two_eq_zero_or_one a with ha | ha <;> rcases Nat.mod_two_eq_zero_or_one b with hb | hb <;> rw [ha, hb] <;> rfl
theorem spec_impl (r b k : Nat) : specK (r ^^^ b) k = implK r b k ^^^ (b / 2 ^ k) := by
  induction k with
  | zero => simp [specK, implK]
  | succ k ih =>
    have hp : b / 2 ^ (k + 1) = b / 2 ^ k / 2 := by rw [Nat.pow_succ, Nat.div_div_eq_div_mul]
    simp only [specK, implK, stepN]
    rw [ih, hp, xor_half, Nat.xor_comm (implK r b k) (b / 2 ^ k)]
    split
    · rw [Nat.xor_assoc, Nat.xor_comm (b / 2 ^ k / 2), ← Nat.xor_assoc]
    · rfl
theorem implK_8 (r b : Nat) (hb : b < 256) : implK r b 8 = crcB r b := by
  unfold crcB
  rw [spec_impl]
  have : b / 2 ^ 8 = 0 := Nat.div_eq_of_lt (by omega)
  rw [this, Nat.xor_zero]
theorem xor_lt32 {a b : Nat} (ha : a < 4294967296) (hb : b < 4294967296) : a ^^^ b < 4294967296 := Nat.xor_lt_two_pow (n := 32) ha hb
theorem stepN_lt {r : Nat} (h : r < 4294967296) : stepN r < 4294967296 := by
  unfold stepN; split
  · exact xor_lt32 (by omega) (by omega)
  · omega
theorem specK_lt {r : Nat} (h : r < 4294967296) (k : Nat) : specK r k < 4294967296 := by
  induction k with
  | zero => exact h
  | succ k ih => exact stepN_lt ih
theorem implK_lt {r b : Nat} (h : r < 4294967296) (k : Nat) : implK r b k < 4294967296 := by
  induction k with
  | zero => exact h
  | succ k ih =>
    simp only [implK]; split
    · exact xor_lt32 (by omega) (by omega)
    · omega
theorem crcB_lt {r b : Nat} (h : r < 4294967296) (hb : b < 256) : crcB r b < 4294967296 := specK_lt (xor_lt32 h (by omega)) 8
theorem crcL_lt (l : List UInt8) : ∀ {r : Nat}, r < 4294967296 → crcL r l < 4294967296 := by
  induction l with
  | nil => intro r h; exact h
  | cons c l ih => intro r h; exact ih (crcB_lt h c.toNat_lt)
theorem crcL_append (l m : List UInt8) : ∀ r : Nat, crcL r (l ++ m) = crcL (crcL r l) m := by
  induction l with
  | nil => intro r; rfl
  | cons c l ih => intro r; exact ih _
theorem take_snoc (s : ByteArray) (k : Nat) (h : k < s.size) : s.data.toList.take (k + 1) = s.data.toList.take k ++ [s[k]] := by
  rw [List.take_succ_eq_append_getElem (by simpa using h)]; rfl
theorem crcL_take (r : Nat) (s : ByteArray) (k : Nat) (h : k < s.size) : crcL r (s.data.toList.take (k + 1)) = crcB (crcL r (s.data.toList.take k)) s[k].toNat := by
  rw [take_snoc s k h, crcL_append]; rfl
theorem take_all (s : ByteArray) : s.data.toList.take s.size = s.data.toList := List.take_of_length_le (by simp)

-- how the walk spells one bit
theorem bit_test (r b k : Nat) (hr : r < 4294967296) (hb : b < 256) :
    bits BinOp.and IntKind.u32 (bits BinOp.xor IntKind.u32 (bits BinOp.and IntKind.u32 ((b : Int) / 2 ^ k % 4294967296) 1) (r : Int)) 1 = (((b / 2 ^ k ^^^ r) % 2 : Nat) : Int) := by
  have h0 : b / 2 ^ k < 4294967296 := Nat.lt_of_le_of_lt (Nat.div_le_self _ _) (by omega)
  have e1 : ((b : Int) / 2 ^ k % 4294967296) = ((b / 2 ^ k : Nat) : Int) := by
    have : ((b : Int) / 2 ^ k) = ((b / 2 ^ k : Nat) : Int) := by simp
    rw [this]; generalize b / 2 ^ k = q at h0 ⊢; omega
  have e2 : bits BinOp.and IntKind.u32 ((b / 2 ^ k : Nat) : Int) 1 = ((b / 2 ^ k % 2 : Nat) : Int) := by
    have := u32_and_nat (b / 2 ^ k) 1 h0 (by omega)
    rw [nat_mask1] at this; exact this
  rw [e1, e2]
  have e3 := u32_xor_nat (b / 2 ^ k % 2) r (by omega) hr
  rw [e3]
  have hx : b / 2 ^ k % 2 ^^^ r < 4294967296 := xor_lt32 (by omega) hr
  have e4 := u32_and_nat (b / 2 ^ k % 2 ^^^ r) 1 hx (by omega)
  rw [nat_mask1] at e4
  have e5 : (b / 2 ^ k % 2 ^^^ r) % 2 = (b / 2 ^ k ^^^ r) % 2 := by rw [xor_odd, xor_odd]; omega
  rw [e5] at e4; exact e4
theorem xor_poly (r : Nat) (hr : r < 4294967296) : bits BinOp.xor IntKind.u32 ((r : Int) / 2) 3988292384 = ((r / 2 ^^^ 3988292384 : Nat) : Int) := by
  have := u32_xor_nat (r / 2) 3988292384 (by omega) (by omega)
  have e : ((r : Int) / 2) = ((r / 2 : Nat) : Int) := by omega
  rw [e]; exact this
theorem max_u32 : IntKind.u32.max = 4294967295 := by decide
theorem not32 (x : Nat) (h : x < 4294967296) : bits BinOp.xor IntKind.u32 IntKind.u32.max (x : Int) = ((x ^^^ 4294967295 : Nat) : Int) := by
  rw [max_u32, Nat.xor_comm]; exact u32_xor_nat 4294967295 x (by omega) h
theorem xor_max (x : Nat) (h : x < 4294967296) : bits BinOp.xor IntKind.u32 (x : Int) 4294967295 = ((x ^^^ 4294967295 : Nat) : Int) := u32_xor_nat x 4294967295 h (by omega)
theorem small64 (x : Nat) (h : x < 4294967296) : wrap64 (x : Int) = (x : Int) := by unfold wrap64; omega
def crcOf (c : Nat) (s : ByteArray) : Nat := crcL (c ^^^ 4294967295) s.data.toList ^^^ 4294967295
theorem crcOf_lt (c : Nat) (s : ByteArray) (hc : c < 4294967296) : crcOf c s < 4294967296 := xor_lt32 (crcL_lt _ (xor_lt32 hc (by omega))) (by omega)
theorem crc_end1 (c : Nat) (s : ByteArray) (hc : c < 4294967296) : wrap64 (bits BinOp.xor IntKind.u32 (crcL (c ^^^ 4294967295) (s.data.toList.take s.size) : Nat) 4294967295) = (crcOf c s : Nat) := by
  rw [take_all, xor_max _ (crcL_lt _ (xor_lt32 hc (by omega)))]; exact small64 _ (crcOf_lt c s hc)
theorem crc_end2 (c : Nat) (s : ByteArray) (hc : c < 4294967296) : wrap64 (bits BinOp.xor IntKind.u32 IntKind.u32.max (crcL (c ^^^ 4294967295) (s.data.toList.take s.size) : Nat)) = (crcOf c s : Nat) := by
  rw [take_all, not32 _ (crcL_lt _ (xor_lt32 hc (by omega)))]; exact small64 _ (crcOf_lt c s hc)
end Go.Proofs.Ythmobogbaijndaa
