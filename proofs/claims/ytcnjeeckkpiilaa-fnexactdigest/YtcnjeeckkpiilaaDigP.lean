/- Digest, by the program. -/
import Derived.Test.YtcnjeeckkpiilaaRows
import Derived.WalkKit
import Derived.WalkSpells
import Derived.WalkLawsBesides
import Derived.Laws.BitsAllLaws
import Derived.Test.YtcnjeeckkpiilaaBase
import Derived.Test.YtcnjeeckkpiilaaRow
import Derived.Test.YtcnjeeckkpiilaaCopy
import Derived.Test.YtcnjeeckkpiilaaJoin
import Derived.Test.YtcnjeeckkpiilaaDigM
namespace Go.Proofs.Ytcnjeeckkpiilaa
open Go.RowKit

set_option maxHeartbeats 400000 in
theorem digestByte_any (n b : Nat) (w : World) (hn : n < 18446744073709551616) (hb : b < 256) :
    Calls Try.prog 25 #[.int .u64 (n : Int), .int .u8 (b : Int)] w fun e w' => e = .returned (.int .u64 (dgB n b : Nat)) ∧ w' = w := by
  have HX : Hid (_ = _) := u64_xor_nat n b hn (by omega)
  go_enter Try.func25, Try.ntmps25
  go_wp2
  go_ret
  exact ⟨ret_int (by rw [HX.out]; unfold dgB; rfl), rfl⟩
set_option maxRecDepth 100000 in
set_option maxHeartbeats 800000 in
theorem numberBytes_any (n : Nat) (w : World) (hn : n < 18446744073709551616) :
    Calls Try.prog 27 #[.int .u64 (n : Int)] w fun e w' => e = .returned (.string ⟨(dg8 n).toArray⟩) ∧ Below w.heap.size w w' := by
  have hcv := dg8_conv n hn 104 (w.alloc (.cells #[Value.int .u8 ((n : Int) / 72057594037927936), .int .u8 ((n : Int) / 281474976710656 % 256), .int .u8 ((n : Int) / 1099511627776 % 256), .int .u8 ((n : Int) / 4294967296 % 256), .int .u8 ((n : Int) / 16777216 % 256), .int .u8 ((n : Int) / 65536 % 256), .int .u8 ((n : Int) / 256 % 256), .int .u8 ((n : Int) % 256)] 104)) (heap_alloc_new _ _)
  go_enter Try.func27, Try.ntmps27
  go_wp2
  refine wp_loop_rounds 9 ?_
  rw [rounds_succ]
  go_wp2
  rw [rounds_succ]
  go_wp2
  rw [rounds_succ]
  go_wp2
  rw [rounds_succ]
  go_wp2
  rw [rounds_succ]
  go_wp2
  rw [rounds_succ]
  go_wp2
  rw [rounds_succ]
  go_wp2
  rw [rounds_succ]
  go_wp2
  rw [rounds_succ]
  go_wp2
  go_ret
  exact ⟨rfl, (Below.refl _ _).alloc (Nat.le_refl _) _⟩
theorem bytes_add (a b : List UInt8) : (⟨a.toArray⟩ : ByteArray) ++ ⟨b.toArray⟩ = ⟨(a ++ b).toArray⟩ := by
  apply ByteArray.ext
  simp
set_option maxRecDepth 100000 in
set_option maxHeartbeats 800000 in
theorem implDigest_any (s : ByteArray) (w : World) (hs : s.size ≤ maxLen) :
    Calls Try.prog 8 #[.string s] w fun e w' => e = .returned (.string (digI s)) ∧ Below w.heap.size w w' := by
  unfold maxLen at hs
  by_cases h8 : 8000 < s.size
  · have HI : Hid (digI s = _) := if_pos h8
    go_enter Try.func8, Try.ntmps8
    go_wp2
    go_ret
    exact ⟨ret_str (by rw [HI.out]), Below.refl _ _⟩
  have HI : Hid (digI s = digB s) := if_neg h8
  go_enter Try.func8, Try.ntmps8
  go_wp2
  go_loop [3, 10] (fun r i => ∃ k : Nat, k ≤ s.size ∧ i = .int .i64 k ∧ r = .int .u64 (dgL (s.data.toList.take k) : Nat)) (fun _ i => s.size - (intOf i).toNat)
  case atStart => exact ⟨0, by omega, rfl, rfl⟩
  case round =>
    obtain ⟨k, hk, rfl, rfl⟩ := hrel
    have hx := dgL_lt (s.data.toList.take k)
    by_cases hlt : k < s.size
    · have HT : Hid (_ = _) := dgL_take s k hlt
      have hb : s[k].toNat < 256 := s[k].toNat_lt
      go_wp2_with fail
      refine (digestByte_any _ s[k].toNat _ hx hb).mono ?_
      rintro e w' ⟨rfl, rfl⟩
      go_wp2
      exact ⟨⟨k + 1, by omega, by go_num, by rw [HT.out]⟩, by simp [intOf]; omega⟩
    · obtain rfl : k = s.size := by omega
      have HA : Hid (digB s = ⟨(dg8 (dgL (s.data.toList.take s.size))).toArray⟩ ++ ⟨(dg8 (dgB (dgL (s.data.toList.take s.size)) 1)).toArray⟩) := by
        show _ = _
        rw [dg_take_all, bytes_add]; rfl
      have hx2 := dgB_lt (dgL (s.data.toList.take s.size)) 1
      generalize dgL (s.data.toList.take s.size) = n at *
      have HDB := digestByte_any n 1
      generalize dgB n 1 = n2 at *
      go_wp2_with fail
      refine (numberBytes_any n _ hx).mono ?_
      rintro e w2 ⟨rfl, hb2⟩
      have HB2 : Hid (Below w.heap.size w w2) := hb2
      clear hb2
      go_wp2_with fail
      refine (HDB _ hx (by omega)).mono ?_
      rintro e w3 ⟨rfl, rfl⟩
      go_wp2_with fail
      refine (numberBytes_any n2 _ hx2).mono ?_
      rintro e w4 ⟨rfl, hb4⟩
      have HB4 : Hid (Below w.heap.size w w4) := HB2.out.trans (hb4.mono HB2.out.size)
      clear hb4
      go_wp2_with fail
      refine (join_two _ _ w4 (by show 8 + 8 ≤ 1000000; omega)).mono ?_
      rintro e w5 ⟨rfl, hb5⟩
      have HB5 : Hid (Below w.heap.size w w5) := HB4.out.trans (hb5.mono HB4.out.size)
      go_wp2
      go_ret
      exact ⟨ret_str (by rw [HI.out, HA.out]), HB5.out⟩
end Go.Proofs.Ytcnjeeckkpiilaa
