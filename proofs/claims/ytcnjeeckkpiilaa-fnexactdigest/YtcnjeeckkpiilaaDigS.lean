/- Digest, by the specification. -/
import Derived.Test.YtcnjeeckkpiilaaRows
import Derived.WalkKit
import Derived.WalkSpells
import Derived.WalkLawsBesides
import Derived.Laws.BitsAllLaws
import Derived.Test.YtcnjeeckkpiilaaBase
import Derived.Test.YtcnjeeckkpiilaaRow
import Derived.Test.YtcnjeeckkpiilaaRes
import Derived.Maps.AppendAt
import Derived.Test.YtcnjeeckkpiilaaCopy
import Derived.Test.YtcnjeeckkpiilaaDigM
namespace Go.Proofs.Ytcnjeeckkpiilaa
open Go.RowKit

set_option maxHeartbeats 400000 in
theorem l07Hash_any (s : ByteArray) (w : World) (hs : s.size ≤ 1000000) :
    Calls Try.prog 61 #[.string s] w fun e w' => e = .returned (.int .u64 (dgL s.data.toList : Nat)) ∧ w' = w := by
  go_enter Try.func61, Try.ntmps61
  go_wp2
  go_loop [3, 4] (fun r i => ∃ k : Nat, k ≤ s.size ∧ i = .int .i64 k ∧ r = .int .u64 (dgL (s.data.toList.take k) : Nat)) (fun _ i => s.size - (intOf i).toNat)
  case atStart => exact ⟨0, by omega, rfl, rfl⟩
  case round =>
    obtain ⟨k, hk, rfl, rfl⟩ := hrel
    have hx := dgL_lt (s.data.toList.take k)
    by_cases hlt : k < s.size
    · have HT : Hid (_ = _) := dgL_take s k hlt
      have hb : s[k].toNat < 256 := s[k].toNat_lt
      have HX : Hid (_ = _) := u64_xor_nat (dgL (s.data.toList.take k)) s[k].toNat hx (by omega)
      go_wp2
      exact ⟨⟨k + 1, by omega, by go_num, by rw [HT.out, HX.out]; unfold dgB; congr 1⟩, by simp [intOf]; omega⟩
    · obtain rfl : k = s.size := by omega
      have HA : Hid (_ = _) := dg_take_all s
      go_wp2
      go_ret
      exact ⟨ret_int (by rw [HA.out]), rfl⟩
theorem l07Hash_is {s : ByteArray} {n : Nat} (w : World) (hs : s.size ≤ 1000000) (h : dgL s.data.toList = n) :
    Calls Try.prog 61 #[.string s] w fun e w' => e = .returned (.int .u64 (n : Nat)) ∧ w' = w := by
  rw [← h]; exact l07Hash_any s w hs
theorem dg_some {L : List UInt8} {n : Nat} {W : World} {B : Nat} {v : Value} (h : W.ownsRow B 5 1 v n (cellsU L)) (h0 : 0 < n) : (convert 99 9 v).run Try.prog W = .ok (.string ⟨L.toArray⟩) W := own_conv W B v n L h h0
theorem own_off {v v2 : Value} {g h : Nat} (hat : v2.ownBlock = v.ownBlock ∨ v2.ownBlock = some h) (hv : v.ownBlock ≠ some g) (hg : g < h) : v2.ownBlock ≠ some g := by
  rcases hat with e | e
  · rw [e]; exact hv
  · rw [e]; intro k; cases k; omega
set_option maxRecDepth 100000 in
set_option maxHeartbeats 1600000 in
theorem l07Digest_at (s : ByteArray) (w : World) (hs : s.size ≤ 100000) (a b : Nat) (D : ByteArray) (ha : dgL s.data.toList = a) (ha2 : dgL (s ++ ⟨#[1]⟩).data.toList = b) (hd : D = ⟨(dg8 a ++ dg8 b).toArray⟩) (ha1 : a < 18446744073709551616) (hb1 : b < 18446744073709551616) :
    Calls Try.prog 24 #[.string s] w fun e w' => e = .returned (.string D) ∧ Below w.heap.size w w' := by
  have HA : Hid (dgL s.data.toList = a) := ha
  have HA2 : Hid (dgL (s ++ ⟨#[1]⟩).data.toList = b) := ha2
  have HD : Hid (D = ⟨(dg8 a ++ dg8 b).toArray⟩) := hd
  clear ha ha2 hd
  obtain ⟨i0, hi, hz0, hz1, hz2⟩ := info_parts info5
  go_enter Try.func24, Try.ntmps24
  go_wp2_with fail
  refine (l07Hash_is _ (by omega) HA.out).mono ?_
  rintro e w1 ⟨rfl, rfl⟩
  go_wp2_with fail
  refine (l07Hash_is _ (by rw [ByteArray.size_append]; show s.size + 1 ≤ _; omega) HA2.out).mono ?_
  rintro e w1 ⟨rfl, rfl⟩
  go_wp2
  go_loopw [3, 5] (fun v iv wr => ∃ i : Nat, i ≤ 2 ∧ iv = .int .i64 i ∧ Hid (wr.ownsRow w.heap.size 5 1 v (8 * i) (cellsU ((dg8 a ++ dg8 b).take (8 * i)))) ∧ Hid (v.ownBlock ≠ some (w.heap.size + 1)) ∧ Hid (wr.heap[w.heap.size + 1]? = some (.cells #[.int .u64 (a : Int), .int .u64 (b : Int)] 50 (0, 0))) ∧ Hid (Below w.heap.size w wr)) (fun _ iv _ => 2 - (intOf iv).toNat)
  case atStart => exact ⟨0, by omega, rfl, (World.ownsRow_lit _ _ 0 (Nat.le_refl _) (by simp [maxLen]) rfl).alloc _, by simp [Value.ownBlock, Hid], by show _ = _; exact heap_new2 _ _ _, below_more (below_new _ _) _⟩
  case round =>
    obtain ⟨i, hi2, rfl, HO, HV, HW, HB⟩ := hrel
    by_cases hlt : i < 2
    · obtain ⟨x, hx, hx1⟩ : ∃ x, (i = 0 ∧ x = a ∨ i = 1 ∧ x = b) ∧ x < 18446744073709551616 := by
        by_cases e : i = 0
        · exact ⟨a, .inl ⟨e, rfl⟩, ha1⟩
        · exact ⟨b, .inr ⟨by omega, rfl⟩, hb1⟩
      have HX : Hid (i = 0 ∧ x = a ∨ i = 1 ∧ x = b) := hx
      clear hx
      have hi0 : (0 : Int) ≤ (i : Int) := by omega
      have hlti : (i : Int) < 2 := by omega
      go_wp2
      go_loopw [3, 6] (fun v kv wr => ∃ j : Nat, j ≤ 8 ∧ kv = .int .i64 (56 - 8 * (j : Int)) ∧ Hid (wr.ownsRow w.heap.size 5 1 v (8 * i + j) (cellsU ((dg8 a ++ dg8 b).take (8 * i + j)))) ∧ Hid (v.ownBlock ≠ some (w.heap.size + 1)) ∧ Hid (wr.heap[w.heap.size + 1]? = some (.cells #[.int .u64 (a : Int), .int .u64 (b : Int)] 50 (0, 0))) ∧ Hid (Below w.heap.size w wr)) (fun _ kv _ => (intOf kv + 8).toNat)
      case atStart => exact ⟨0, by omega, rfl, HO.out, HV.out, HW.out, HB.out⟩
      case round =>
        obtain ⟨j, hj, rfl, HO, HV, HW, HB⟩ := hrel
        have hsz := HB.out.size
        by_cases hj8 : j < 8
        · obtain ⟨q, hq⟩ : ∃ q : Nat, 56 - 8 * (j : Int) = (q : Int) := ⟨56 - 8 * j, by omega⟩
          have HQ : Hid (q = 56 - 8 * j) := by show _ = _; omega
          have hq56 : q ≤ 56 := by omega
          rw [hq]
          have hcell : wr.cell? ⟨w.heap.size + 1, i, none⟩ = some (.int .u64 (x : Int)) := by
            rw [cell_of_row _ _ _ _ _ _ HW.out]
            rcases HX.out with ⟨rfl, rfl⟩ | ⟨rfl, rfl⟩ <;> rfl
          go_wp2_with (at_builtin; refine wpList_append_own_at _ rfl (.tmp 22) (.tmp 31) 99 rfl w.heap.size 5 i0 (.int .u8 0) 1 1 Try.underlying99 hi hz0 hz1 hz2 rfl (by decide) _ _ _ rfl (HO.out.alloc _) ⟨wr.heap.size, 0, none⟩ 1 1 [.int .u8 _] rfl rfl (cell_one_new _ _ _) (one_cell _) (by unfold maxLen; omega) (by omega) (by simp; omega) ?_; intro v2 w2 hown2 hgrow2 _ hat)
          have HOW : Hid (_) := hown2
          have HGB : Hid (World.grownBy _ _ _) := hgrow2
          have HOF : Hid (v2.ownBlock ≠ some (w.heap.size + 1)) := own_off hat HV.out (by have := heap_lt HW.out; simp; omega)
          have HRW : Hid (_ = _) := dgE HX.out j hj8 ((x : Int) / 2 ^ q % 256) (by rw [HQ.out]; push_cast; rfl)
          have HWK : Hid (w2.heap[w.heap.size + 1]? = some (.cells #[.int .u64 (a : Int), .int .u64 (b : Int)] 50 (0, 0))) := (hgrow2.block (w.heap.size + 1) (by have := heap_lt HW.out; simp; omega) (fun e => HV.out e.symm)).trans (heap_more HW.out _)
          have HB2 : Hid (Below w.heap.size w w2) := (HB.out.alloc hsz _).grown hgrow2 (by simp; omega) (fun j hj => (HO.out.lt j hj).1)
          clear hown2 hgrow2 hat
          go_roundw
          case rel => exact ⟨j + 1, by omega, by congr 1; omega, by rw [HRW.out]; exact HOW.out, HOF.out, HWK.out, HB2.out⟩
          case measure => simp [intOf]; omega
        · obtain rfl : j = 8 := by omega
          go_wp2
          go_roundw
          case rel => exact ⟨i + 1, by omega, by go_num, HO.out, HV.out, HW.out, HB.out⟩
          case measure => simp [intOf]; omega
    · obtain rfl : i = 2 := by omega
      have hcv := dg_some HO.out (by omega)
      have HT : Hid ((dg8 a ++ dg8 b).take (8 * 2) = dg8 a ++ dg8 b) := List.take_of_length_le (by simp [dg8_len])
      go_wp2
      go_ret
      exact ⟨ret_str (by rw [HT.out, HD.out]), HB.out⟩
theorem l07Digest_any (s : ByteArray) (w : World) (hs : s.size ≤ 100000) :
    Calls Try.prog 24 #[.string s] w fun e w' => e = .returned (.string (digB s)) ∧ Below w.heap.size w w' :=
  l07Digest_at s w hs _ _ _ rfl (dgL_one s) rfl (dgL_lt _) (dgB_lt _ _)
set_option maxHeartbeats 400000 in
theorem specDigest_any (s : ByteArray) (w : World) (hs : s.size ≤ maxLen) :
    Calls Try.prog 7 #[.string s] w fun e w' => e = .returned (.string (digI s)) ∧ Below w.heap.size w w' := by
  unfold maxLen at hs
  by_cases h8 : 8000 < s.size
  · have HI : Hid (digI s = _) := if_pos h8
    go_enter Try.func7, Try.ntmps7
    go_wp2
    go_ret
    exact ⟨ret_str (by rw [HI.out]), Below.refl _ _⟩
  have HI : Hid (digI s = digB s) := if_neg h8
  go_enter Try.func7, Try.ntmps7
  go_wp2_with fail
  refine (l07Digest_any s _ (by omega)).mono ?_
  rintro e w2 ⟨rfl, hb2⟩
  have HB2 : Hid (Below w.heap.size w w2) := hb2
  go_wp2
  go_ret
  exact ⟨ret_str (by rw [HI.out]), HB2.out⟩
end Go.Proofs.Ytcnjeeckkpiilaa
