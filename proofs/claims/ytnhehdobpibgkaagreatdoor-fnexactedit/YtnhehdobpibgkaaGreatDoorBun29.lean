/- The walks of PutNum, in both ways. -/
import Derived.Test.YtnhehdobpibgkaaGreatDoorRows
import Derived.WalkKit
import Derived.WalkSpells
import Derived.WalkLawsBesides
import Derived.Test.YtnhehdobpibgkaaGreatDoorBun0
import Derived.Laws.BytesArg
import Derived.Test.YtnhehdobpibgkaaGreatDoorBun28
import Derived.Test.YtnhehdobpibgkaaGreatDoorJoinZq
import Derived.Test.YtnhehdobpibgkaaGreatDoorBun5
import Derived.Test.YtnhehdobpibgkaaGreatDoorBun2
import Derived.Test.YtnhehdobpibgkaaGreatDoorBun1
namespace Go.Proofs.YtnhehdobpibgkaaGreatDoor
open Go.RowKit

theorem cut_head (B k : Nat) (h : k ≤ 9) (W : World) : (Instr.sliceAt 115 (.pointer (some ⟨B, 0, none⟩)) none (some (.int .i64 ((k : Int) + 1))) none).run Tryz.prog W = .ok (.slice (some ⟨B, 0, none⟩) (k + 1) 10) W := by
  have ha : Tryz.prog.arrayLen 115 = 10 := by kernel_rfl
  have he : Tryz.prog.elem 115 = 5 := by kernel_rfl
  have hu : Tryz.prog.underlying 115 = some (.array (Tryz.prog.arrayLen 115) (Tryz.prog.elem 115)) := by kernel_rfl
  obtain ⟨i0, hi, hz0, hz1, hz2⟩ := info_parts info5
  rw [run_sliceAt_array_h (P := Tryz.prog) W 115 ⟨B, 0, none⟩ hu .i64 ((k : Int) + 1) (by omega) (by rw [ha]; omega), ha, he]
  have e : ((k : Int) + 1).toNat = k + 1 := by omega
  simp [sizeOf, typeInfo, hi, slicedAt, e, Addr.add]

set_option maxRecDepth 100000 in
set_option maxHeartbeats 400000 in
theorem implPutNum_any (n : Int) (w : World) (h0 : -9223372036854775808 ≤ n) (h1 : n ≤ 9223372036854775807) :
    Calls Tryz.prog 72 #[.int .i64 n] w fun e w' => e = .returned (.string (putS (foldN n))) ∧ Below w.heap.size w w' := by
  have HU : Hid (_) := foldN_lt n h0 h1
  go_enter Tryz.func72, Tryz.ntmps72
  go_wp2_with fail
  refine (foldSign_any n _ h0 h1).mono ?_
  rintro e w' ⟨rfl, rfl⟩
  go_wp2
  go_loopw [4, 5] (fun m x wr => ∃ (k c : Nat) (L : List UInt8) (R : List Value), m = .int .i64 k ∧ x = .int .u64 (c : Int) ∧ Behind (foldN n) k c L ∧ Hid (wr.heap[w.heap.size]? = some (.cells R.toArray 115 (0, 0))) ∧ R.length = 10 ∧ Hid (R.take k = cellsU L) ∧ Below w.heap.size w wr) (fun m _ _ => 9 - (intOf m).toNat)
  case atStart => exact ⟨0, foldN n, [], _, rfl, rfl, behind_start _ HU.out, heap_alloc_new _ _, rfl, rfl, (Below.refl _ _).alloc (Nat.le_refl _) _⟩
  case round =>
    obtain ⟨k, c, L, R, rfl, rfl, hbe, HR, hRl, HT, hB⟩ := hrel
    have hc := behind_lt hbe
    have hk := hbe.1
    have HA : Hid (_ = _) := and127 c hc
    have HBe : Hid (Behind (foldN n) k c L) := hbe
    clear hbe
    obtain ⟨hce, hfr⟩ := row_cell HR.out (k := k) (by omega)
    by_cases hm : 128 ≤ c
    · obtain ⟨hk9, hbe2⟩ := behind_more HBe.out hm
      have HB2 : Hid (_) := hbe2
      clear hbe2
      have HV : Hid ((bits BinOp.and IntKind.u64 (c : Int) 127 + 128) % 256 = ((UInt8.ofNat (c % 128 + 128)).toNat : Int)) := by
        show _ = _
        rw [HA.out, byte_more]; omega
      go_wp2
      refine ⟨⟨k + 1, c / 128, L ++ [UInt8.ofNat (c % 128 + 128)], R.set k (.int .u8 ((UInt8.ofNat (c % 128 + 128)).toNat : Int)), by go_num, by go_num, HB2.out, ?_, by simp [hRl], set_take (by omega) HT.out _, hB.setCell (Nat.le_refl _) _⟩, by simp [intOf]; omega⟩
      rw [HV.out]
      exact row_set HR.out _
    · have hsa := cut_head w.heap.size k (by omega)
      have HV : Hid ((c : Int) = ((UInt8.ofNat c).toNat : Int)) := (byte_last c (by omega)).symm
      have hcv := conv_row (wr.setCell ⟨w.heap.size, k, none⟩ (.int .u8 (c : Int))) w.heap.size (k + 1) 10 115 (R.set k (.int .u8 ((UInt8.ofNat c).toNat : Int))) (L ++ [UInt8.ofNat c]) (by rw [HV.out]; exact row_set HR.out _) (by simp [HBe.out.2.1]) (set_take (by omega) HT.out _)
      have HL : Hid (_ = _) := behind_last HBe.out (by omega)
      go_wp2
      go_ret
      exact ⟨ret_str (by rw [HL.out]; rfl), hB.setCell (Nat.le_refl _) _⟩
theorem last_conv {W : World} {B k c : Nat} {v : Value} {L : List UInt8} (h : W.ownsRow B 5 1 v (k + 1) (cellsU L ++ [.int .u8 (c : Int)])) (hv : (c : Int) = ((UInt8.ofNat c).toNat : Int)) :
    (convert 80 9 v).run Tryz.prog W = .ok (.string ⟨(L ++ [UInt8.ofNat c]).toArray⟩) W := by
  have e : cellsU (L ++ [UInt8.ofNat c]) = cellsU L ++ [.int .u8 (c : Int)] := by rw [hv]; simp [cellsU]
  rw [← e] at h
  exact own_conv W B v (k + 1) (L ++ [UInt8.ofNat c]) h (by omega)
theorem small_len (k : Nat) (h : k ≤ 9) : k + 1 ≤ maxLen := by unfold maxLen; omega
set_option maxRecDepth 100000 in
set_option maxHeartbeats 400000 in
theorem specPutNum_any (n : Int) (w : World) (h0 : -9223372036854775808 ≤ n) (h1 : n ≤ 9223372036854775807) :
    Calls Tryz.prog 52 #[.int .i64 n] w fun e w' => e = .returned (.string (putS (foldN n))) ∧ Below w.heap.size w w' := by
  have HU : Hid (_) := foldN_lt n h0 h1
  go_enter Tryz.func52, Tryz.ntmps52
  go_wp2_with fail
  refine (l01Fold_any n _ h0 h1).mono ?_
  rintro e w ⟨rfl, rfl⟩
  obtain ⟨i0, hi, hz0, hz1, hz2⟩ := info_parts info5
  go_wp2
  go_loopw [3, 4] (fun x v wr => ∃ (k c : Nat) (L : List UInt8), x = .int .u64 (c : Int) ∧ Behind (foldN n) k c L ∧ Hid (wr.ownsRow w.heap.size 5 1 v k (cellsU L)) ∧ Below w.heap.size w wr) (fun x _ _ => (intOf x).toNat)
  case atStart => exact ⟨0, foldN n, [], rfl, behind_start _ HU.out, World.ownsRow_lit _ _ 0 (Nat.le_refl _) (by simp [maxLen]) rfl, (Below.refl _ _).alloc (Nat.le_refl _) _⟩
  case round =>
    obtain ⟨k, c, L, rfl, hbe, HO, hB⟩ := hrel
    have hc := behind_lt hbe
    have hk := hbe.1
    have hsz := hB.size
    have HBe : Hid (Behind (foldN n) k c L) := hbe
    clear hbe
    by_cases hm : 128 ≤ c
    · obtain ⟨hk9, hbe2⟩ := behind_more HBe.out hm
      have HB2 : Hid (_) := hbe2
      clear hbe2
      have HV : Hid (((c : Int) % 128 + 128) = ((UInt8.ofNat (c % 128 + 128)).toNat : Int)) := (byte_more c).symm
      go_wp2_with (at_builtin; refine wpList_append_own _ rfl (.tmp 10) (.tmp 15) 80 rfl w.heap.size 5 i0 (.int .u8 0) 1 1 Tryz.underlying80 hi hz0 hz1 hz2 rfl (by decide) _ _ _ rfl (HO.out.alloc _) ⟨wr.heap.size, 0, none⟩ 1 1 [.int .u8 ((c : Int) % 128 + 128)] rfl rfl (cell_one_new _ _ _) (one_cell _) (small_len k hk) (by omega) (by simp; omega) ?_; intro v2 w2 hown2 hgrow2 _)
      go_roundw
      case rel =>
        refine ⟨k + 1, c / 128, L ++ [UInt8.ofNat (c % 128 + 128)], by go_num, HB2.out, ?_, (hB.alloc hsz _).grown hgrow2 (by simp; omega) (fun j hj => (HO.out.lt j hj).1)⟩
        have e : cellsU (L ++ [UInt8.ofNat (c % 128 + 128)]) = cellsU L ++ [.int .u8 ((c : Int) % 128 + 128)] := by rw [HV.out]; simp [cellsU]
        rw [e]; exact hown2
      case measure => simp [intOf]; omega
    · have HV : Hid ((c : Int) = ((UInt8.ofNat c).toNat : Int)) := (byte_last c (by omega)).symm
      have HL : Hid (_ = _) := behind_last HBe.out (by omega)
      go_wp2_with (at_builtin; refine wpList_append_own _ rfl (.tmp 19) (.tmp 22) 80 rfl w.heap.size 5 i0 (.int .u8 0) 1 1 Tryz.underlying80 hi hz0 hz1 hz2 rfl (by decide) _ _ _ rfl (HO.out.alloc _) ⟨wr.heap.size, 0, none⟩ 1 1 [.int .u8 (c : Int)] rfl rfl (cell_one_new _ _ _) (one_cell _) (small_len k hk) (by omega) (by simp; omega) ?_; intro v2 w2 hown2 hgrow2 _; have hcv := last_conv hown2 HV.out)
      have HBB : Hid (Below w.heap.size w w2) := (hB.alloc hsz _).grown hgrow2 (by simp; omega) (fun j hj => (HO.out.lt j hj).1)
      go_ret
      exact ⟨ret_str (by rw [HL.out]; rfl), HBB.out⟩

end Go.Proofs.YtnhehdobpibgkaaGreatDoor
namespace Go.Proofs.YtnhehdobpibgkaaGreatDoor
open Go.RowKit

def putT (s : ByteArray) : ByteArray := if 8000 < s.size then ⟨#[]⟩ else putS (foldN (s.size : Int)) ++ s
set_option maxHeartbeats 400000 in
theorem specPutText_any (s : ByteArray) (w : World) (hs0 : s.size ≤ maxLen) :
    Calls Tryz.prog 36 #[.string s] w fun e w' => e = .returned (.string (putT s)) ∧ Below w.heap.size w w' := by
  unfold maxLen at hs0
  by_cases h1 : 8000 < s.size
  · have HI : Hid (putT s = _) := if_pos h1
    go_enter Tryz.func36, Tryz.ntmps36
    go_wp2
    go_ret
    exact ⟨ret_str HI.out.symm, Below.refl _ _⟩
  · have HI : Hid (putT s = _) := if_neg h1
    have hp := putS_le (foldN (s.size : Int))
    go_enter Tryz.func36, Tryz.ntmps36
    go_wp2_with fail
    refine (specPutNum_any (s.size : Int) _ (by omega) (by omega)).mono ?_
    rintro e w1 ⟨rfl, hb⟩
    go_wp2
    go_ret
    exact ⟨ret_str HI.out.symm, hb⟩
set_option maxHeartbeats 400000 in
theorem implPutText_any (s : ByteArray) (w : World) (hs0 : s.size ≤ maxLen) :
    Calls Tryz.prog 56 #[.string s] w fun e w' => e = .returned (.string (putT s)) ∧ Below w.heap.size w w' := by
  unfold maxLen at hs0
  by_cases h1 : 8000 < s.size
  · have HI : Hid (putT s = _) := if_pos h1
    go_enter Tryz.func56, Tryz.ntmps56
    go_wp2
    go_ret
    exact ⟨ret_str HI.out.symm, Below.refl _ _⟩
  · have HI : Hid (putT s = _) := if_neg h1
    have hp := putS_le (foldN (s.size : Int))
    go_enter Tryz.func56, Tryz.ntmps56
    go_wp2_with fail
    refine (implPutNum_any (s.size : Int) _ (by omega) (by omega)).mono ?_
    rintro e w1 ⟨rfl, hb⟩
    go_wp2_with fail
    refine (join_two (putS (foldN (s.size : Int))) s _ (by omega)).mono ?_
    rintro e w2 ⟨rfl, hb2⟩
    go_wp2
    go_ret
    exact ⟨ret_str HI.out.symm, hb.trans (hb2.mono hb.size)⟩
end Go.Proofs.YtnhehdobpibgkaaGreatDoor
namespace Go.Proofs.YtnhehdobpibgkaaGreatDoor
open Go.RowKit

def strC (s : ByteArray) : List Value := [.string s]
theorem made_rowX (w : World) (n : Nat) (hn : n ≤ 400000000) : ∃ Z : List Value, Z.length = n ∧
    (Instr.makeSlice 80 (.int .i64 (n : Int)) (.int .i64 (n : Int))).run Tryz.prog w = .ok (.slice (some ⟨w.heap.size, 0, none⟩) n n) (w.alloc (.cells Z.toArray 5)) := by
  obtain ⟨i0, hi, hz0, hz1, hz2⟩ := info_parts info5
  have h := run_make (P := Tryz.prog) w 80 5 i0 (.int .u8 0) Tryz.underlying80 hi hz0 .i64 .i64 n n (by omega) (by omega) (by rw [hz2]; omega) (by omega)
  refine ⟨(madeCells (Value.int .u8 0).cells (n * i0.size)).toList, ?_, ?_⟩
  · rw [Array.length_toList, size_madeCells, hz1]; omega
  · rw [h]; simp
theorem RowIs.str {w : World} {a : Option Addr} {ts : List ByteArray} (h : RowIs 1 strC w a ts) (k : Nat) (hk : k < ts.length) : ∃ x : Addr, a = some x ∧ x.block < w.heap.size ∧ w.cell? (x.add k) = some (.string ts[k]) := by
  obtain ⟨x, hx, hb, hc⟩ := h (by omega)
  refine ⟨x, hx, hb, ?_⟩
  have := hc k hk 0 (.string ts[k]) rfl
  rwa [Nat.mul_one, Nat.add_zero] at this
theorem OwnS.rows {w : World} {B : Nat} {v : Value} {L : List ByteArray} (h : OwnS w B v L) : ∃ a cap, v = .slice a L.length cap ∧ RowIs 1 strC w a L := by
  rcases h.form with ⟨rfl, rfl⟩ | ⟨g, cap, cur, rfl, hB, hg, h4, h5, h6, h7⟩
  · exact ⟨none, 0, rfl, fun h => absurd h (by simp)⟩
  · refine ⟨_, cap, rfl, fun hl => ⟨_, rfl, heap_lt hg, fun i hi j v hv => ?_⟩⟩
    match j, hv with
    | 0, hv =>
      simp only [strC, List.getElem?_cons_zero, Option.some.injEq] at hv
      subst hv
      rw [add_zero_block, cell_of_row w g _ _ _ _ hg, Nat.mul_one, Nat.add_zero]
      exact h7 i hi
    | j + 1, hv => simp [strC] at hv
set_option maxRecDepth 100000 in
set_option maxHeartbeats 800000 in
theorem join_rows (ts : List ByteArray) (a : Option Addr) (cap : Nat) (w : World) (hR : RowIs 1 strC w a ts) (hlen : ts.length ≤ 2000000) (htot : (catL ts).size ≤ 400000000) :
    Calls Tryz.prog 55 #[.slice a ts.length cap] w fun e w' => e = .returned (.string (catL ts)) ∧ Below w.heap.size w w' := by
  have HC : Hid (RowIs 1 strC w a ts) := hR
  clear hR
  go_enter Tryz.func55, Tryz.ntmps55
  go_wp2
  go_loop [3, 12] (fun m i => ∃ k : Nat, k ≤ ts.length ∧ i = .int .i64 k ∧ m = .int .i64 ((catL (ts.take k)).size : Nat)) (fun _ i => ts.length - (intOf i).toNat)
  case atStart => exact ⟨0, by omega, rfl, by simp [catL]⟩
  case round =>
    obtain ⟨k, hk, rfl, rfl⟩ := hrel
    have hle := catL_le ts k
    by_cases hlt : k < ts.length
    · obtain ⟨x, rfl, hx, hck⟩ := HC.out.str k hlt
      have HS : Hid (_ = _) := catL_take_size ts k hlt
      have hle2 := catL_le ts (k + 1)
      rw [catL_take_size ts k hlt] at hle2
      go_wp2
      exact ⟨⟨k + 1, by omega, by go_num, by rw [HS.out]; go_num⟩, by simp [intOf]; omega⟩
    · obtain rfl : k = ts.length := by omega
      obtain ⟨Z, hZ, hmk⟩ := made_rowX w (catL ts).size htot
      go_wp2
      go_loopw [7, 25] (fun m i wr => ∃ k : Nat, k ≤ ts.length ∧ i = .int .i64 k ∧ m = .int .i64 ((catL (ts.take k)).size : Nat) ∧ ∃ R : List Value, Hid (wr.heap[w.heap.size]? = some (.cells R.toArray 5 (0, 0))) ∧ R.length = (catL ts).size ∧ Hid (R.take (catL (ts.take k)).size = bcells (catL (ts.take k))) ∧ Below w.heap.size w wr) (fun _ i _ => ts.length - (intOf i).toNat)
      case atStart => exact ⟨0, by omega, rfl, by simp [catL], Z, heap_alloc_new _ _, hZ, by simp [catL, bcells, Hid], (Below.refl _ _).alloc (Nat.le_refl _) _⟩
      case round =>
        obtain ⟨k, hk, rfl, rfl, R, HR, hRl, HT, hB⟩ := hrel
        have hle := catL_le ts k
        clear hmk
        by_cases hlt : k < ts.length
        · obtain ⟨x, rfl, hx, hck⟩ := (HC.out.below hB).str k hlt
          have HS : Hid (_ = _) := catL_take_size ts k hlt
          have hle2 := catL_le ts (k + 1)
          rw [catL_take_size ts k hlt] at hle2
          obtain ⟨dp, hdp, hsl⟩ := cut_row w.heap.size (catL ts).size (catL (ts.take k)).size hle
          have HD : Hid (_ → _) := hdp
          clear hdp
          obtain ⟨w2, hcp, HR2, hB2⟩ := copy_text (P := Tryz.prog) wr 80 9 3 5 Tryz.underlying80 size5 dp _ ((catL ts).size - (catL (ts.take k)).size) ts[k] w.heap.size (catL (ts.take k)).size R 5 HR.out (show ts[k].size ≤ (catL ts).size - (catL (ts.take k)).size by omega) (fun h => HD.out (by omega)) (by omega) w.heap.size w hB (Nat.le_refl _)
          go_wp2
          have HT2 : Hid (_ = _) := row_step ts k hlt R hRl HT.out
          go_roundw
          case rel => exact ⟨k + 1, by omega, by go_num, by rw [HS.out]; go_num, splice R (catL (ts.take k)).size (bcells ts[k]), HR2, by rw [length_splice _ _ _ (by rw [bcells_len]; omega)]; exact hRl, HT2, hB2⟩
          case measure => simp [intOf]; omega
        · obtain rfl : k = ts.length := by omega
          have hcv := row_text ts R wr HR.out hRl HT.out
          go_wp2
          go_ret
          exact ⟨rfl, hB⟩

theorem join_ownX (ts : List ByteArray) (v : Value) (B : Nat) (w : World) (h : OwnS w B v ts) (hlen : ts.length ≤ 2000000) (htot : (catL ts).size ≤ 400000000) :
    Calls Tryz.prog 55 #[v] w fun e w' => e = .returned (.string (catL ts)) ∧ Below w.heap.size w w' := by
  obtain ⟨a, cap, rfl, hR⟩ := h.rows
  exact join_rows ts a cap w hR hlen htot
theorem new_rows (w : World) (ts : List ByteArray) : RowIs 1 strC (w.alloc (.cells (ts.map Value.string).toArray 9)) (some ⟨w.heap.size, 0, none⟩) ts :=
  made_rowIs (fun _ => rfl) (by rw [heap_alloc_new]; congr 2; induction ts with | nil => rfl | cons t ts ih => simp_all [strC])
theorem join_new (ts : List ByteArray) (n : Nat) (w : World) (hn : ts.length = n) (hlen : n ≤ 2000000) (htot : (catL ts).size ≤ 400000000) :
    Calls Tryz.prog 55 #[.slice (some ⟨w.heap.size, 0, none⟩) n n] (w.alloc (.cells (ts.map Value.string).toArray 9)) fun e w' => e = .returned (.string (catL ts)) ∧ Below w.heap.size w w' := by
  subst hn
  exact (join_rows ts _ _ _ (new_rows w ts) hlen htot).mono fun e w' hw => ⟨hw.1, below_call (below_new w _) hw.2⟩
end Go.Proofs.YtnhehdobpibgkaaGreatDoor
