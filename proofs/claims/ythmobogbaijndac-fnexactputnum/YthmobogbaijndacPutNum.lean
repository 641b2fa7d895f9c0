/- The walks of PutNum, in both ways. -/
import Derived.Test.YthmobogbaijndacRows
import Derived.WalkKit
import Derived.WalkSpells
import Derived.WalkLawsBesides
import Derived.Laws.BytesArg
import Derived.Test.YthmobogbaijndacPutMath
import Derived.Test.YthmobogbaijndacFold
namespace Go.Proofs.Ythmobogbaijndac
open Go.RowKit

def cellsU (L : List UInt8) : List Value := L.map fun b => Value.int .u8 (b.toNat : Int)
theorem strOf (L : List UInt8) : strOfNums (L.map fun b => (b.toNat : Int)) = ⟨L.toArray⟩ := by
  unfold strOfNums
  have h : (L.map fun b : UInt8 => (b.toNat : Int)).map (fun n => UInt8.ofNat n.toNat) = L := by
    rw [List.map_map]
    conv => rhs; rw [← List.map_id L]
    apply List.map_congr_left
    intro b _
    simp
  rw [h]
theorem conv_row (W : World) (B n cap : Nat) (t : TypeId) (R : List Value) (L : List UInt8) (hR : W.heap[B]? = some (.cells R.toArray t (0, 0))) (hl : L.length = n) (hT : R.take n = cellsU L) :
    (convert 28 9 (.slice (some ⟨B, 0, none⟩) n cap)).run Try.prog W = .ok (.string ⟨L.toArray⟩) W := by
  have h := run_convert_bytes_arg (P := Try.prog) W 28 5 Try.underlying28 Try.underlying5 B 0 n cap (L.map fun b => (b.toNat : Int)) (by simp [hl]) (fun i hi => ?_) 9 Try.underlying9
  · rw [h, strOf]
  · have e : R[i]? = (R.take n)[i]? := by rw [List.getElem?_take, if_pos hi]
    have hi2 : i < L.length := by omega
    simp [World.cell?, hR, e, hT, cellsU, List.getD, List.getElem?_eq_getElem hi2]
theorem row_cell {W : World} {B k : Nat} {t : TypeId} {R : List Value} (hR : W.heap[B]? = some (.cells R.toArray t (0, 0))) (h : k < R.length) : W.cell? ⟨B, k, none⟩ = some R[k] ∧ W.frozen? ⟨B, k, none⟩ = false := by
  constructor
  · simp [World.cell?, hR, h]
  · simp [World.frozen?, hR]
theorem row_set {W : World} {B k : Nat} {t : TypeId} {R : List Value} (hR : W.heap[B]? = some (.cells R.toArray t (0, 0))) (v : Value) : (W.setCell ⟨B, k, none⟩ v).heap[B]? = some (.cells (R.set k v).toArray t (0, 0)) := by
  rw [setCell_eq_setRow W B k R.toArray t (0, 0) v hR]
  rw [setRow_heap W B R.toArray _ t _ hR]
  simp
theorem set_take {R : List Value} {k : Nat} {L : List UInt8} (h : k < R.length) (hT : R.take k = cellsU L) (b : UInt8) : (R.set k (.int .u8 (b.toNat : Int))).take (k + 1) = cellsU (L ++ [b]) := by
  have hl : L.length = k := by have := congrArg List.length hT; simp [cellsU] at this; omega
  apply List.ext_getElem?
  intro j
  rw [List.getElem?_take]
  have e := congrArg (fun l => l[j]?) hT
  simp only [List.getElem?_take, cellsU] at e
  simp only [cellsU, List.map_append, List.getElem?_append, List.length_map, List.getElem?_set, hl]
  by_cases h1 : j < k
  · rw [if_pos (by omega), if_neg (by omega), if_pos h1]; rw [if_pos h1] at e; exact e
  · by_cases h2 : j = k
    · subst h2; simp [h]
    · rw [if_neg (by omega), if_neg h1]
      have : ¬ j - k < 1 := by omega
      simp; omega

theorem info5 : (Try.prog.info? 5).map (fun i => (i.zero, i.size, i.bytes)) = some (some (.int .u8 0), 1, 1) := by kernel_rfl
theorem cut_head (B k : Nat) (h : k ≤ 9) (W : World) : (Instr.sliceAt 29 (.pointer (some ⟨B, 0, none⟩)) none (some (.int .i64 ((k : Int) + 1))) none).run Try.prog W = .ok (.slice (some ⟨B, 0, none⟩) (k + 1) 10) W := by
  have ha : Try.prog.arrayLen 29 = 10 := by kernel_rfl
  have he : Try.prog.elem 29 = 5 := by kernel_rfl
  have hu : Try.prog.underlying 29 = some (.array (Try.prog.arrayLen 29) (Try.prog.elem 29)) := by kernel_rfl
  obtain ⟨i0, hi, hz0, hz1, hz2⟩ := info_parts info5
  rw [run_sliceAt_array_h (P := Try.prog) W 29 ⟨B, 0, none⟩ hu .i64 ((k : Int) + 1) (by omega) (by rw [ha]; omega), ha, he]
  have e : ((k : Int) + 1).toNat = k + 1 := by omega
  simp [sizeOf, typeInfo, hi, slicedAt, e, Addr.add]
theorem ret_str {a b : ByteArray} (h : a = b) : Ending.returned (.string a) = .returned (.string b) := by rw [h]

set_option maxRecDepth 100000 in
set_option maxHeartbeats 400000 in
theorem implPutNum_any (n : Int) (w : World) (h0 : -9223372036854775808 ≤ n) (h1 : n ≤ 9223372036854775807) :
    Calls Try.prog 6 #[.int .i64 n] w fun e w' => e = .returned (.string (putS (foldN n))) ∧ Below w.heap.size w w' := by
  have HU : Hid (_) := foldN_lt n h0 h1
  go_enter Try.func6, Try.ntmps6
  go_wp2_with fail
  refine (foldSign_any n _ h0 h1).mono ?_
  rintro e w' ⟨rfl, rfl⟩
  go_wp2
  go_loopw [4, 5] (fun m x wr => ∃ (k c : Nat) (L : List UInt8) (R : List Value), m = .int .i64 k ∧ x = .int .u64 (c : Int) ∧ Behind (foldN n) k c L ∧ Hid (wr.heap[w.heap.size]? = some (.cells R.toArray 29 (0, 0))) ∧ R.length = 10 ∧ Hid (R.take k = cellsU L) ∧ Below w.heap.size w wr) (fun m _ _ => 9 - (intOf m).toNat)
  case atStart => exact ⟨0, foldN n, [], _, rfl, rfl, behind_start _ HU.out, heap_alloc_new _ _, rfl, rfl, (Below.refl _ _).alloc (Nat.le_refl _) _⟩
  case round =>
    obtain ⟨k, c, L, R, rfl, rfl, hbe, HR, hRl, HT, hB⟩ := hrel
    have hc := behind_lt hbe
    have hk := hbe.1
    have HA : Hid (_ = _) := and127 c hc
    have HBe : Hid (Behind (foldN n) k c L) := hbe
    clear hbe
    obtain ⟨hce, hfr⟩ := row_cell HR.out (k := k) (by omega)
    by_cases hm : 128 ≤ c
    · obtain ⟨hk9, hbe2⟩ := behind_more HBe.out hm
      have HB2 : Hid (_) := hbe2
      clear hbe2
      have HV : Hid ((bits BinOp.and IntKind.u64 (c : Int) 127 + 128) % 256 = ((UInt8.ofNat (c % 128 + 128)).toNat : Int)) := by
        show _ = _
        rw [HA.out, byte_more]; omega
      go_wp2
      refine ⟨⟨k + 1, c / 128, L ++ [UInt8.ofNat (c % 128 + 128)], R.set k (.int .u8 ((UInt8.ofNat (c % 128 + 128)).toNat : Int)), by go_num, by go_num, HB2.out, ?_, by simp [hRl], set_take (by omega) HT.out _, hB.setCell (Nat.le_refl _) _⟩, by simp [intOf]; omega⟩
      rw [HV.out]
      exact row_set HR.out _
    · have hsa := cut_head w.heap.size k (by omega)
      have HV : Hid ((c : Int) = ((UInt8.ofNat c).toNat : Int)) := (byte_last c (by omega)).symm
      have hcv := conv_row (wr.setCell ⟨w.heap.size, k, none⟩ (.int .u8 (c : Int))) w.heap.size (k + 1) 10 29 (R.set k (.int .u8 ((UInt8.ofNat c).toNat : Int))) (L ++ [UInt8.ofNat c]) (by rw [HV.out]; exact row_set HR.out _) (by simp [HBe.out.2.1]) (set_take (by omega) HT.out _)
      have HL : Hid (_ = _) := behind_last HBe.out (by omega)
      go_wp2
      go_ret
      exact ⟨ret_str (by rw [HL.out]; rfl), hB.setCell (Nat.le_refl _) _⟩
theorem own_conv (W : World) (B : Nat) (v : Value) (n : Nat) (L : List UInt8) (h : W.ownsRow B 5 1 v n (cellsU L)) (hn : 0 < n) :
    (convert 28 9 v).run Try.prog W = .ok (.string ⟨L.toArray⟩) W := by
  obtain ⟨hl, h2⟩ := h
  rcases h2 with ⟨_, h0⟩ | ⟨g, cap, cur, rfl, _, hg, _, _, _, hT⟩
  · omega
  · exact conv_row W g n cap 5 cur.toList L (by simpa using hg) (by simp [cellsU] at hl; omega) (by simpa using hT)

theorem last_conv {W : World} {B k c : Nat} {v : Value} {L : List UInt8} (h : W.ownsRow B 5 1 v (k + 1) (cellsU L ++ [.int .u8 (c : Int)])) (hv : (c : Int) = ((UInt8.ofNat c).toNat : Int)) :
    (convert 28 9 v).run Try.prog W = .ok (.string ⟨(L ++ [UInt8.ofNat c]).toArray⟩) W := by
  have e : cellsU (L ++ [UInt8.ofNat c]) = cellsU L ++ [.int .u8 (c : Int)] := by rw [hv]; simp [cellsU]
  rw [← e] at h
  exact own_conv W B v (k + 1) (L ++ [UInt8.ofNat c]) h (by omega)
theorem one_cell (x : Int) : ∀ u ∈ [Value.int .u8 x], u.oneCell' = true := by intro u hu; simp at hu; subst hu; rfl
theorem small_len (k : Nat) (h : k ≤ 9) : k + 1 ≤ maxLen := by unfold maxLen; omega
set_option maxRecDepth 100000 in
set_option maxHeartbeats 400000 in
theorem specPutNum_any (n : Int) (w : World) (h0 : -9223372036854775808 ≤ n) (h1 : n ≤ 9223372036854775807) :
    Calls Try.prog 5 #[.int .i64 n] w fun e w' => e = .returned (.string (putS (foldN n))) ∧ Below w.heap.size w w' := by
  have HU : Hid (_) := foldN_lt n h0 h1
  go_enter Try.func5, Try.ntmps5
  go_wp2_with fail
  refine (l01Fold_any n _ h0 h1).mono ?_
  rintro e w ⟨rfl, rfl⟩
  obtain ⟨i0, hi, hz0, hz1, hz2⟩ := info_parts info5
  go_wp2
  go_loopw [3, 4] (fun x v wr => ∃ (k c : Nat) (L : List UInt8), x = .int .u64 (c : Int) ∧ Behind (foldN n) k c L ∧ Hid (wr.ownsRow w.heap.size 5 1 v k (cellsU L)) ∧ Below w.heap.size w wr) (fun x _ _ => (intOf x).toNat)
  case atStart => exact ⟨0, foldN n, [], rfl, behind_start _ HU.out, World.ownsRow_lit _ _ 0 (Nat.le_refl _) (by simp [maxLen]) rfl, (Below.refl _ _).alloc (Nat.le_refl _) _⟩
  case round =>
    obtain ⟨k, c, L, rfl, hbe, HO, hB⟩ := hrel
    have hc := behind_lt hbe
    have hk := hbe.1
    have hsz := hB.size
    have HBe : Hid (Behind (foldN n) k c L) := hbe
    clear hbe
    by_cases hm : 128 ≤ c
    · obtain ⟨hk9, hbe2⟩ := behind_more HBe.out hm
      have HB2 : Hid (_) := hbe2
      clear hbe2
      have HV : Hid (((c : Int) % 128 + 128) = ((UInt8.ofNat (c % 128 + 128)).toNat : Int)) := (byte_more c).symm
      go_wp2_with (at_builtin; refine wpList_append_own _ rfl (.tmp 10) (.tmp 15) 28 rfl w.heap.size 5 i0 (.int .u8 0) 1 1 Try.underlying28 hi hz0 hz1 hz2 rfl (by decide) _ _ _ rfl (HO.out.alloc _) ⟨wr.heap.size, 0, none⟩ 1 1 [.int .u8 ((c : Int) % 128 + 128)] rfl rfl (cell_one_new _ _ _) (one_cell _) (small_len k hk) (by omega) (by simp; omega) ?_; intro v2 w2 hown2 hgrow2 _)
      go_roundw
      case rel =>
        refine ⟨k + 1, c / 128, L ++ [UInt8.ofNat (c % 128 + 128)], by go_num, HB2.out, ?_, (hB.alloc hsz _).grown hgrow2 (by simp; omega) (fun j hj => (HO.out.lt j hj).1)⟩
        have e : cellsU (L ++ [UInt8.ofNat (c % 128 + 128)]) = cellsU L ++ [.int .u8 ((c : Int) % 128 + 128)] := by rw [HV.out]; simp [cellsU]
        rw [e]; exact hown2
      case measure => simp [intOf]; omega
    · have HV : Hid ((c : Int) = ((UInt8.ofNat c).toNat : Int)) := (byte_last c (by omega)).symm
      have HL : Hid (_ = _) := behind_last HBe.out (by omega)
      go_wp2_with (at_builtin; refine wpList_append_own _ rfl (.tmp 19) (.tmp 22) 28 rfl w.heap.size 5 i0 (.int .u8 0) 1 1 Try.underlying28 hi hz0 hz1 hz2 rfl (by decide) _ _ _ rfl (HO.out.alloc _) ⟨wr.heap.size, 0, none⟩ 1 1 [.int .u8 (c : Int)] rfl rfl (cell_one_new _ _ _) (one_cell _) (small_len k hk) (by omega) (by simp; omega) ?_; intro v2 w2 hown2 hgrow2 _; have hcv := last_conv hown2 HV.out)
      have HBB : Hid (Below w.heap.size w w2) := (hB.alloc hsz _).grown hgrow2 (by simp; omega) (fun j hj => (HO.out.lt j hj).1)
      go_ret
      exact ⟨ret_str (by rw [HL.out]; rfl), HBB.out⟩

end Go.Proofs.Ythmobogbaijndac
