/- The walks of the CRC: both registers, of a byte and of a text, and both functions over them. -/
import Derived.Test.YthmobogbaijndaaRows
import Derived.WalkKit
import Derived.WalkSpells
import Derived.WalkLawsBesides
import Derived.Test.YthmobogbaijndaaBase
import Derived.Test.YthmobogbaijndaaCrcMath
namespace Go.Proofs.Ythmobogbaijndaa
open Go.RowKit


set_option maxHeartbeats 400000 in
theorem crcByte_any (r b : Nat) (w : World) (hr : r < 4294967296) (hb : b < 256) :
    Calls Try.prog 23 #[.int .u32 (r : Int), .int .u8 (b : Int)] w fun e w' => e = .returned (.int .u32 (crcB r b : Nat)) ∧ w' = w := by
  go_enter Try.func23, Try.ntmps23
  go_wp2
  go_loop [0, 8] (fun x i => ∃ k : Nat, k ≤ 8 ∧ i = .int .i64 k ∧ x = .int .u32 (implK r b k : Nat)) (fun _ i => 8 - (intOf i).toNat)
  case atStart => exact ⟨0, by omega, rfl, rfl⟩
  case round =>
    obtain ⟨k, hk, rfl, rfl⟩ := hrel
    by_cases hlt : k < 8
    · have hx := implK_lt (b := b) hr k
      have HT : Hid (_ = _) := bit_test (implK r b k) b k hx hb
      have HP : Hid (_ = _) := xor_poly (implK r b k) hx
      have HK : Hid (implK r b (k + 1) = if (b / 2 ^ k ^^^ implK r b k) % 2 = 1 then (implK r b k / 2) ^^^ 3988292384 else implK r b k / 2) := rfl
      go_wp2
      · rename_i ht
        rw [HT.out, beq_iff_eq] at ht
        have hy := HK.out
        rw [if_pos (by omega)] at hy
        exact ⟨⟨k + 1, by omega, by go_num, val_u32 (by rw [HP.out, hy])⟩, by simp [intOf]; omega⟩
      · rename_i ht
        rw [HT.out, beq_eq_false_iff_ne] at ht
        have hy := HK.out
        rw [if_neg (by omega)] at hy
        exact ⟨⟨k + 1, by omega, by go_num, val_u32 (by rw [hy]; omega)⟩, by simp [intOf]; omega⟩
    · obtain rfl : k = 8 := by omega
      have H8 : Hid (_ = _) := implK_8 r b hb
      go_wp2
      go_ret
      exact ⟨ret_int (by rw [H8.out]), rfl⟩

theorem odd_test (x : Nat) (h : x < 4294967296) : bits BinOp.and IntKind.u32 (x : Int) 1 = ((x % 2 : Nat) : Int) := by
  have := u32_and_nat x 1 h (by omega)
  rw [nat_mask1] at this; exact this
set_option maxHeartbeats 400000 in
theorem l01Crc_any (c : Nat) (s : ByteArray) (w : World) (hc : c < 4294967296) (hs : s.size ≤ 8000) :
    Calls Try.prog 20 #[.int .i64 (c : Int), .string s] w fun e w' => e = .returned (.int .i64 (crcOf c s : Nat)) ∧ w' = w := by
  have hR : c ^^^ 4294967295 < 4294967296 := xor_lt32 hc (by omega)
  have HR : Hid (_ = _) := u32_xor_nat c 4294967295 hc (by omega)
  go_enter Try.func20, Try.ntmps20
  go_wp2
  go_loop [5, 6] (fun r i => ∃ k : Nat, k ≤ s.size ∧ i = .int .i64 k ∧ r = .int .u32 (crcL (c ^^^ 4294967295) (s.data.toList.take k) : Nat)) (fun _ i => s.size - (intOf i).toNat)
  case atStart => exact ⟨0, by omega, rfl, val_u32 HR.out⟩
  case round =>
    obtain ⟨k, hk, rfl, rfl⟩ := hrel
    have hx := crcL_lt (s.data.toList.take k) hR
    by_cases hlt : k < s.size
    · have HT : Hid (_ = _) := crcL_take (c ^^^ 4294967295) s k hlt
      have hb : s[k].toNat < 256 := s[k].toNat_lt
      have HX : Hid (_ = _) := u32_xor_nat (crcL (c ^^^ 4294967295) (s.data.toList.take k)) s[k].toNat hx (by omega)
      go_wp2
      go_loop [5, 7] (fun r i => ∃ j : Nat, j ≤ 8 ∧ i = .int .i64 j ∧ r = .int .u32 (specK (crcL (c ^^^ 4294967295) (s.data.toList.take k) ^^^ s[k].toNat) j : Nat)) (fun _ i => 8 - (intOf i).toNat)
      case atStart => exact ⟨0, by omega, rfl, val_u32 HX.out⟩
      case round =>
        obtain ⟨j, hj, rfl, rfl⟩ := hrel
        have hy := specK_lt (xor_lt32 hx (b := s[k].toNat) (by omega)) j
        by_cases hlj : j < 8
        · have HO : Hid (_ = _) := odd_test _ hy
          have HP : Hid (_ = _) := xor_poly _ hy
          have HK : Hid (_ = _) := specK_succ (crcL (c ^^^ 4294967295) (s.data.toList.take k) ^^^ s[k].toNat) j
          go_wp2
          · rename_i ht
            rw [HO.out, beq_iff_eq] at ht
            have hz := HK.out
            rw [if_pos (by omega)] at hz
            exact ⟨⟨j + 1, by omega, by go_num, val_u32 (by rw [HP.out, hz])⟩, by simp [intOf]; omega⟩
          · rename_i ht
            rw [HO.out, beq_eq_false_iff_ne] at ht
            have hz := HK.out
            rw [if_neg (by omega)] at hz
            exact ⟨⟨j + 1, by omega, by go_num, val_u32 (by rw [hz]; omega)⟩, by simp [intOf]; omega⟩
        · obtain rfl : j = 8 := by omega
          go_wp2
          exact ⟨⟨k + 1, by omega, by go_num, val_u32 (by rw [HT.out]; rfl)⟩, by simp [intOf]; omega⟩
    · obtain rfl : k = s.size := by omega
      go_wp2
      go_ret
      exact ⟨ret_int (crc_end1 c s hc), rfl⟩

set_option maxHeartbeats 400000 in
theorem implCrcMore_any (c : Nat) (s : ByteArray) (w : World) (hc : c < 4294967296) (hs : s.size ≤ 8000) :
    Calls Try.prog 10 #[.int .i64 (c : Int), .string s] w fun e w' => e = .returned (.int .i64 (crcOf c s : Nat)) ∧ w' = w := by
  have hR : c ^^^ 4294967295 < 4294967296 := xor_lt32 hc (by omega)
  go_enter Try.func10, Try.ntmps10
  go_wp2
  go_loop [5, 23] (fun r i => ∃ k : Nat, k ≤ s.size ∧ i = .int .i64 k ∧ r = .int .u32 (crcL (c ^^^ 4294967295) (s.data.toList.take k) : Nat)) (fun _ i => s.size - (intOf i).toNat)
  case atStart => exact ⟨0, by omega, rfl, val_u32 (not32 c hc)⟩
  case round =>
    obtain ⟨k, hk, rfl, rfl⟩ := hrel
    have hx := crcL_lt (s.data.toList.take k) hR
    by_cases hlt : k < s.size
    · have HT : Hid (_ = _) := crcL_take (c ^^^ 4294967295) s k hlt
      have hb : s[k].toNat < 256 := s[k].toNat_lt
      go_wp2_with fail
      refine (crcByte_any _ s[k].toNat _ hx hb).mono ?_
      rintro e w' ⟨rfl, rfl⟩
      go_wp2
      exact ⟨⟨k + 1, by omega, by go_num, val_u32 (by rw [HT.out])⟩, by simp [intOf]; omega⟩
    · obtain rfl : k = s.size := by omega
      go_wp2
      go_ret
      exact ⟨ret_int (crc_end2 c s hc), rfl⟩

set_option maxHeartbeats 400000 in
theorem implCrcMore_no (c : Int) (s : ByteArray) (w : World) (hs0 : s.size ≤ maxLen) (h : 8000 < s.size ∨ c < 0 ∨ 4294967295 < c) :
    Calls Try.prog 10 #[.int .i64 c, .string s] w fun e w' => e = .returned (.int .i64 0) ∧ w' = w := by
  unfold maxLen at hs0
  by_cases h1 : 8000 < s.size
  · go_enter Try.func10, Try.ntmps10
    go_wp2
    go_ret
    exact ⟨rfl, rfl⟩
  by_cases h2 : c < 0
  · go_enter Try.func10, Try.ntmps10
    go_wp2
    go_ret
    exact ⟨rfl, rfl⟩
  have h3 : 4294967295 < c := by omega
  go_enter Try.func10, Try.ntmps10
  go_wp2
  go_ret
  exact ⟨rfl, rfl⟩
set_option maxHeartbeats 400000 in
theorem specCrcMore_no (c : Int) (s : ByteArray) (w : World) (hs0 : s.size ≤ maxLen) (h : 8000 < s.size ∨ c < 0 ∨ 4294967295 < c) :
    Calls Try.prog 11 #[.int .i64 c, .string s] w fun e w' => e = .returned (.int .i64 0) ∧ w' = w := by
  unfold maxLen at hs0
  by_cases h1 : 8000 < s.size
  · go_enter Try.func11, Try.ntmps11
    go_wp2
    go_ret
    exact ⟨rfl, rfl⟩
  by_cases h2 : c < 0
  · go_enter Try.func11, Try.ntmps11
    go_wp2
    go_ret
    exact ⟨rfl, rfl⟩
  have h3 : 4294967295 < c := by omega
  go_enter Try.func11, Try.ntmps11
  go_wp2
  go_ret
  exact ⟨rfl, rfl⟩
set_option maxHeartbeats 400000 in
theorem specCrcMore_any (c : Nat) (s : ByteArray) (w : World) (hc : c < 4294967296) (hs : s.size ≤ 8000) :
    Calls Try.prog 11 #[.int .i64 (c : Int), .string s] w fun e w' => e = .returned (.int .i64 (crcOf c s : Nat)) ∧ w' = w := by
  go_enter Try.func11, Try.ntmps11
  go_wp2_with fail
  refine (l01Crc_any c s _ hc hs).mono ?_
  rintro e w' ⟨rfl, rfl⟩
  go_wp2
  go_ret
  exact ⟨rfl, rfl⟩

def crcI (s : ByteArray) : Int := if 8000 < s.size then 0 else (crcOf 0 s : Nat)
set_option maxHeartbeats 400000 in
theorem specCrc_any (s : ByteArray) (w : World) (hs0 : s.size ≤ maxLen) :
    Calls Try.prog 22 #[.string s] w fun e w' => e = .returned (.int .i64 (crcI s)) ∧ w' = w := by
  unfold maxLen at hs0
  by_cases h1 : 8000 < s.size
  · have HI : Hid (crcI s = 0) := if_pos h1
    go_enter Try.func22, Try.ntmps22
    go_wp2
    go_ret
    exact ⟨ret_int HI.out.symm, rfl⟩
  · have HI : Hid (crcI s = _) := if_neg h1
    have hs : s.size ≤ 8000 := by omega
    go_enter Try.func22, Try.ntmps22
    go_wp2_with fail
    refine (l01Crc_any 0 s _ (by omega) hs).mono ?_
    rintro e w' ⟨rfl, rfl⟩
    go_wp2
    go_ret
    exact ⟨ret_int HI.out.symm, rfl⟩
set_option maxHeartbeats 400000 in
theorem implCrc_any (s : ByteArray) (w : World) (hs0 : s.size ≤ maxLen) :
    Calls Try.prog 12 #[.string s] w fun e w' => e = .returned (.int .i64 (crcI s)) ∧ w' = w := by
  by_cases h1 : 8000 < s.size
  · have HI : Hid (crcI s = 0) := if_pos h1
    go_enter Try.func12, Try.ntmps12
    go_wp2_with fail
    refine (implCrcMore_no 0 s _ hs0 (Or.inl h1)).mono ?_
    rintro e w' ⟨rfl, rfl⟩
    go_wp2
    go_ret
    exact ⟨ret_int HI.out.symm, rfl⟩
  · have HI : Hid (crcI s = _) := if_neg h1
    have hs : s.size ≤ 8000 := by omega
    go_enter Try.func12, Try.ntmps12
    go_wp2_with fail
    refine (implCrcMore_any 0 s _ (by omega) hs).mono ?_
    rintro e w' ⟨rfl, rfl⟩
    go_wp2
    go_ret
    exact ⟨ret_int HI.out.symm, rfl⟩

end Go.Proofs.Ythmobogbaijndaa
