/- The walks of PutNum, in both ways. -/
import Derived.Test.YtcnjeeckkpiilaaRows
import Derived.WalkKit
import Derived.WalkSpells
import Derived.WalkLawsBesides
import Derived.Test.YtcnjeeckkpiilaaBun0
import Derived.Laws.BytesArg
import Derived.Test.YtcnjeeckkpiilaaBun1
import Derived.Test.YtcnjeeckkpiilaaBun15
namespace Go.Proofs.Ytcnjeeckkpiilaa
open Go.RowKit

theorem cut_head (B k : Nat) (h : k ≤ 9) (W : World) : (Instr.sliceAt 117 (.pointer (some ⟨B, 0, none⟩)) none (some (.int .i64 ((k : Int) + 1))) none).run Try.prog W = .ok (.slice (some ⟨B, 0, none⟩) (k + 1) 10) W := by
  have ha : Try.prog.arrayLen 117 = 10 := by kernel_rfl
  have he : Try.prog.elem 117 = 5 := by kernel_rfl
  have hu : Try.prog.underlying 117 = some (.array (Try.prog.arrayLen 117) (Try.prog.elem 117)) := by kernel_rfl
  obtain ⟨i0, hi, hz0, hz1, hz2⟩ := info_parts info5
  rw [run_sliceAt_array_h (P := Try.prog) W 117 ⟨B, 0, none⟩ hu .i64 ((k : Int) + 1) (by omega) (by rw [ha]; omega), ha, he]
  have e : ((k : Int) + 1).toNat = k + 1 := by omega
  simp [sizeOf, typeInfo, hi, slicedAt, e, Addr.add]

set_option maxRecDepth 100000 in
set_option maxHeartbeats 400000 in
theorem implPutNum_any (n : Int) (w : World) (h0 : -9223372036854775808 ≤ n) (h1 : n ≤ 9223372036854775807) :
    Calls Try.prog 38 #[.int .i64 n] w fun e w' => e = .returned (.string (putS (foldN n))) ∧ Below w.heap.size w w' := by
  have HU : Hid (_) := foldN_lt n h0 h1
  go_enter Try.func38, Try.ntmps38
  go_wp2_with fail
  refine (foldSign_any n _ h0 h1).mono ?_
  rintro e w' ⟨rfl, rfl⟩
  go_wp2
  go_loopw [4, 5] (fun m x wr => ∃ (k c : Nat) (L : List UInt8) (R : List Value), m = .int .i64 k ∧ x = .int .u64 (c : Int) ∧ Behind (foldN n) k c L ∧ Hid (wr.heap[w.heap.size]? = some (.cells R.toArray 117 (0, 0))) ∧ R.length = 10 ∧ Hid (R.take k = cellsU L) ∧ Below w.heap.size w wr) (fun m _ _ => 9 - (intOf m).toNat)
  case atStart => exact ⟨0, foldN n, [], _, rfl, rfl, behind_start _ HU.out, heap_alloc_new _ _, rfl, rfl, (Below.refl _ _).alloc (Nat.le_refl _) _⟩
  case round =>
    obtain ⟨k, c, L, R, rfl, rfl, hbe, HR, hRl, HT, hB⟩ := hrel
    have hc := behind_lt hbe
    have hk := hbe.1
    have HA : Hid (_ = _) := and127 c hc
    have HBe : Hid (Behind (foldN n) k c L) := hbe
    clear hbe
    obtain ⟨hce, hfr⟩ := row_cell HR.out (k := k) (by omega)
    by_cases hm : 128 ≤ c
    · obtain ⟨hk9, hbe2⟩ := behind_more HBe.out hm
      have HB2 : Hid (_) := hbe2
      clear hbe2
      have HV : Hid ((bits BinOp.and IntKind.u64 (c : Int) 127 + 128) % 256 = ((UInt8.ofNat (c % 128 + 128)).toNat : Int)) := by
        show _ = _
        rw [HA.out, byte_more]; omega
      go_wp2
      refine ⟨⟨k + 1, c / 128, L ++ [UInt8.ofNat (c % 128 + 128)], R.set k (.int .u8 ((UInt8.ofNat (c % 128 + 128)).toNat : Int)), by go_num, by go_num, HB2.out, ?_, by simp [hRl], set_take (by omega) HT.out _, hB.setCell (Nat.le_refl _) _⟩, by simp [intOf]; omega⟩
      rw [HV.out]
      exact row_set HR.out _
    · have hsa := cut_head w.heap.size k (by omega)
      have HV : Hid ((c : Int) = ((UInt8.ofNat c).toNat : Int)) := (byte_last c (by omega)).symm
      have hcv := conv_row (wr.setCell ⟨w.heap.size, k, none⟩ (.int .u8 (c : Int))) w.heap.size (k + 1) 10 117 (R.set k (.int .u8 ((UInt8.ofNat c).toNat : Int))) (L ++ [UInt8.ofNat c]) (by rw [HV.out]; exact row_set HR.out _) (by simp [HBe.out.2.1]) (set_take (by omega) HT.out _)
      have HL : Hid (_ = _) := behind_last HBe.out (by omega)
      go_wp2
      go_ret
      exact ⟨ret_str (by rw [HL.out]; rfl), hB.setCell (Nat.le_refl _) _⟩
theorem last_conv {W : World} {B k c : Nat} {v : Value} {L : List UInt8} (h : W.ownsRow B 5 1 v (k + 1) (cellsU L ++ [.int .u8 (c : Int)])) (hv : (c : Int) = ((UInt8.ofNat c).toNat : Int)) :
    (convert 99 9 v).run Try.prog W = .ok (.string ⟨(L ++ [UInt8.ofNat c]).toArray⟩) W := by
  have e : cellsU (L ++ [UInt8.ofNat c]) = cellsU L ++ [.int .u8 (c : Int)] := by rw [hv]; simp [cellsU]
  rw [← e] at h
  exact own_conv W B v (k + 1) (L ++ [UInt8.ofNat c]) h (by omega)
theorem small_len (k : Nat) (h : k ≤ 9) : k + 1 ≤ maxLen := by unfold maxLen; omega
set_option maxRecDepth 100000 in
set_option maxHeartbeats 400000 in
theorem specPutNum_any (n : Int) (w : World) (h0 : -9223372036854775808 ≤ n) (h1 : n ≤ 9223372036854775807) :
    Calls Try.prog 67 #[.int .i64 n] w fun e w' => e = .returned (.string (putS (foldN n))) ∧ Below w.heap.size w w' := by
  have HU : Hid (_) := foldN_lt n h0 h1
  go_enter Try.func67, Try.ntmps67
  go_wp2_with fail
  refine (l01Fold_any n _ h0 h1).mono ?_
  rintro e w ⟨rfl, rfl⟩
  obtain ⟨i0, hi, hz0, hz1, hz2⟩ := info_parts info5
  go_wp2
  go_loopw [3, 4] (fun x v wr => ∃ (k c : Nat) (L : List UInt8), x = .int .u64 (c : Int) ∧ Behind (foldN n) k c L ∧ Hid (wr.ownsRow w.heap.size 5 1 v k (cellsU L)) ∧ Below w.heap.size w wr) (fun x _ _ => (intOf x).toNat)
  case atStart => exact ⟨0, foldN n, [], rfl, behind_start _ HU.out, World.ownsRow_lit _ _ 0 (Nat.le_refl _) (by simp [maxLen]) rfl, (Below.refl _ _).alloc (Nat.le_refl _) _⟩
  case round =>
    obtain ⟨k, c, L, rfl, hbe, HO, hB⟩ := hrel
    have hc := behind_lt hbe
    have hk := hbe.1
    have hsz := hB.size
    have HBe : Hid (Behind (foldN n) k c L) := hbe
    clear hbe
    by_cases hm : 128 ≤ c
    · obtain ⟨hk9, hbe2⟩ := behind_more HBe.out hm
      have HB2 : Hid (_) := hbe2
      clear hbe2
      have HV : Hid (((c : Int) % 128 + 128) = ((UInt8.ofNat (c % 128 + 128)).toNat : Int)) := (byte_more c).symm
      go_wp2_with (at_builtin; refine wpList_append_own _ rfl (.tmp 10) (.tmp 15) 99 rfl w.heap.size 5 i0 (.int .u8 0) 1 1 Try.underlying99 hi hz0 hz1 hz2 rfl (by decide) _ _ _ rfl (HO.out.alloc _) ⟨wr.heap.size, 0, none⟩ 1 1 [.int .u8 ((c : Int) % 128 + 128)] rfl rfl (cell_one_new _ _ _) (one_cell _) (small_len k hk) (by omega) (by simp; omega) ?_; intro v2 w2 hown2 hgrow2 _)
      go_roundw
      case rel =>
        refine ⟨k + 1, c / 128, L ++ [UInt8.ofNat (c % 128 + 128)], by go_num, HB2.out, ?_, (hB.alloc hsz _).grown hgrow2 (by simp; omega) (fun j hj => (HO.out.lt j hj).1)⟩
        have e : cellsU (L ++ [UInt8.ofNat (c % 128 + 128)]) = cellsU L ++ [.int .u8 ((c : Int) % 128 + 128)] := by rw [HV.out]; simp [cellsU]
        rw [e]; exact hown2
      case measure => simp [intOf]; omega
    · have HV : Hid ((c : Int) = ((UInt8.ofNat c).toNat : Int)) := (byte_last c (by omega)).symm
      have HL : Hid (_ = _) := behind_last HBe.out (by omega)
      go_wp2_with (at_builtin; refine wpList_append_own _ rfl (.tmp 19) (.tmp 22) 99 rfl w.heap.size 5 i0 (.int .u8 0) 1 1 Try.underlying99 hi hz0 hz1 hz2 rfl (by decide) _ _ _ rfl (HO.out.alloc _) ⟨wr.heap.size, 0, none⟩ 1 1 [.int .u8 (c : Int)] rfl rfl (cell_one_new _ _ _) (one_cell _) (small_len k hk) (by omega) (by simp; omega) ?_; intro v2 w2 hown2 hgrow2 _; have hcv := last_conv hown2 HV.out)
      have HBB : Hid (Below w.heap.size w w2) := (hB.alloc hsz _).grown hgrow2 (by simp; omega) (fun j hj => (HO.out.lt j hj).1)
      go_ret
      exact ⟨ret_str (by rw [HL.out]; rfl), HBB.out⟩

end Go.Proofs.Ytcnjeeckkpiilaa
