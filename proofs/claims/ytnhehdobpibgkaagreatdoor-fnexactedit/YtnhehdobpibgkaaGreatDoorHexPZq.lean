/- A line of a hex text, by the program. -/
import Derived.Test.YtnhehdobpibgkaaGreatDoorRows
import Derived.WalkKit
import Derived.WalkSpells
import Derived.WalkLawsBesides
import Derived.Outline
import Derived.RegionTactic
import Derived.BigRegion
import Derived.Deep.RegionHeld3
import Derived.Deep.AppendLies
import Derived.Test.YtnhehdobpibgkaaGreatDoorBun0
import Derived.Test.YtnhehdobpibgkaaGreatDoorBun2
import Derived.Test.YtnhehdobpibgkaaGreatDoorBun11
import Derived.Test.YtnhehdobpibgkaaGreatDoorBun12
namespace Go.Proofs.YtnhehdobpibgkaaGreatDoor
open Go.RowKit
set_option linter.unusedVariables false

theorem isBase_any (n : Int) (w : World) : Calls Tryz.prog 107 #[.int .i64 n] w fun e w' => e = .returned (.bool (baseB n)) ∧ w' = w := by
  by_cases h0 : 0 ≤ n
  · by_cases h1 : n ≤ 65534
    · have HE : Hid (baseB n = (n % 2 == 0)) := by show _ = _; simp [baseB, isB, h0, h1]
      go_enter Tryz.func107, Tryz.ntmps107
      go_wp2
      go_ret
      exact ⟨ret_bool (by rw [HE.out]), rfl⟩
    · have HE : Hid (baseB n = false) := by show _ = _; simp [baseB, isB, h1]
      go_enter Tryz.func107, Tryz.ntmps107
      go_wp2
      go_ret
      exact ⟨ret_bool (by rw [HE.out]), rfl⟩
  · have HE : Hid (baseB n = false) := by show _ = _; simp [baseB, isB, h0]
    go_enter Tryz.func107, Tryz.ntmps107
    go_wp2
    go_ret
    exact ⟨ret_bool (by rw [HE.out]), rfl⟩
theorem lies_any (n : Int) (k : Nat) (w : World) (h0 : 0 ≤ n) (h1 : n ≤ 65534) (hk : k ≤ 2000000) : Calls Tryz.prog 108 #[.int .i64 n, .int .i64 k] w fun e w' => e = .returned (.bool (decide (n + 2 * (k : Int) ≤ 65536))) ∧ w' = w := by
  go_enter Tryz.func108, Tryz.ntmps108
  go_wp2
  go_ret
  exact ⟨ret_bool rfl, rfl⟩
theorem i64_and255 (n : Int) : bits .and .i64 n 255 = n % 256 := by
  have h127 : (BitVec.ofInt 64 255).toNat = 2 ^ 8 - 1 := by decide
  have key : (BitVec.ofInt 64 n &&& BitVec.ofInt 64 255).toNat = (n % ((2 ^ 64 : Nat) : Int)).toNat % 2 ^ 8 := by
    rw [BitVec.toNat_and, h127, Nat.and_two_pow_sub_one_eq_mod, BitVec.toNat_ofInt]
  show IntKind.i64.wrap ((BitVec.ofInt 64 n &&& BitVec.ofInt 64 255).toNat : Nat) = n % 256
  rw [key, IntKind.wrap_i64]
  omega
theorem cellsU_more (L M : List UInt8) : cellsU (L ++ M) = cellsU L ++ cellsU M := by simp [cellsU]
theorem conv_end {W : World} {B : Nat} {v : Value} {L : List UInt8} (h : W.ownsRow B 5 1 v (L.length + 1) (cellsU L ++ [.int .u8 10])) : (convert 80 9 v).run Tryz.prog W = .ok (.string ⟨(L ++ [10]).toArray⟩) W := by
  have e : cellsU (L ++ [10]) = cellsU L ++ [.int .u8 10] := by simp [cellsU]
  rw [← e] at h
  exact own_conv W B v (L.length + 1) (L ++ [10]) h (by omega)
set_option maxRecDepth 100000 in
set_option maxHeartbeats 4000000 in
theorem hexRow_any (ad : Int) (a : Option Addr) (ws : List Int) (cap : Nat) (w : World) (hR : ReadI w a ws) (hl : ws.length ≤ 8) (hA0 : 0 ≤ ad) (hA1 : ad ≤ 65535) (hw : ∀ n ∈ ws, 0 ≤ n ∧ n ≤ 65535) :
    Calls Tryz.prog 109 #[.int .i64 ad, .slice a ws.length cap] w fun e w' => e = .returned (.string ⟨(recL (rowB ad ws)).toArray⟩) ∧ Below w.heap.size w w' := by
  have HR : Hid (ReadI w a ws) := hR
  have HW : Hid (∀ n ∈ ws, 0 ≤ n ∧ n ≤ 65535) := hw
  clear hR hw
  obtain ⟨i0, hi, hz0, hz1, hz2⟩ := info_parts infoI
  go_enter Tryz.func109, Tryz.ntmps109
  go_wp2
  go_loopw [5, 24] (fun v iv wr => ∃ (k : Nat) (R : List Int), k ≤ ws.length ∧ iv = .int .i64 k ∧ R.length ≤ 4 + 2 * k ∧ Hid (R = [2 * (ws.length : Int), ad / 256, ad % 256, 0] ++ pairsB (ws.take k)) ∧ Hid (OwnI wr w.heap.size v R) ∧ Hid (Below w.heap.size w wr)) (fun _ iv _ => ws.length - (intOf iv).toNat)
  case atStart => exact ⟨0, [2 * (ws.length : Int), ad / 256, ad % 256, 0], by omega, rfl, by simp, by show _ = _; simp [pairsB], own_four (Below.refl _ _) rfl rfl rfl rfl rfl, below_new _ _⟩
  case round =>
    obtain ⟨k, R, hk, rfl, hRl, HRE, HO, HB⟩ := hrel
    have hsz := HB.out.size
    by_cases hlt : k < ws.length
    · obtain ⟨x, rfl, hx, hc⟩ := ReadI.below HR.out HB.out (by omega)
      have hck := hc k hlt
      have HT : Hid (_ = _) := pairs_take ws k hlt
      obtain ⟨hw0, hw1⟩ := HW.out _ (List.getElem_mem hlt)
      clear hc hx
      generalize ws[k] = wd at *
      have hi0 : (0 : Int) ≤ (k : Int) := by omega
      have hi1 : (k : Int) < (ws.length : Int) := by omega
      go_wp2_with (at_builtin; refine wpList_append_own _ rfl (.tmp 28) (.tmp 33) 88 rfl w.heap.size 2 i0 (.int .i64 0) 1 8 Tryz.underlying88 hi hz0 hz1 hz2 rfl (by decide) _ R.length (cellsI R) rfl (HO.out.alloc _) ⟨wr.heap.size, 0, none⟩ 2 2 [.int .i64 (wd % 256), .int .i64 (wd / 256)] rfl rfl (World.news_of_block (cs := #[.int .i64 (wd % 256), .int .i64 (wd / 256)]) (t := 2) (fr := (0, 0)) (heap_alloc_new wr _)) (by simp [Value.oneCell']) (by unfold maxLen; omega) (by omega) (by simp; omega) ?_; intro v2 w2 hown2 hgrow2 _)
      have HO2 : Hid (OwnI w2 w.heap.size v2 (R ++ pairB wd)) := OwnI.moreL (M := pairB wd) hown2
      have HB2 : Hid (Below w.heap.size w w2) := (below_more HB.out _).grown hgrow2 (by simp; omega) (fun q hq => (HO.out.lt q hq).1)
      clear hown2 hgrow2
      go_roundw
      case rel => exact ⟨k + 1, R ++ pairB wd, by omega, by go_num, by simp [pairB]; omega, by show _ = _; rw [HRE.out, HT.out]; simp, by show OwnI _ _ _ _; exact HO2.out, HB2.out⟩
      case measure => simp [intOf]; omega
    · obtain rfl : k = ws.length := by omega
      have HRW : Hid (R = rowB ad ws) := by show _ = _; rw [HRE.out, List.take_length]; rfl
      have HY : Hid (bytesB R) := by show bytesB R; rw [HRW.out]; exact rowB_bytes hA0 hA1 hl HW.out
      obtain ⟨g, gc, rfl, hg, hgc, hgm, hcell⟩ := HO.out.some (by rw [HRW.out, rowB_len]; omega)
      have HC : Hid (∀ z, Below wr.heap.size wr z → ∀ i (h : i < R.length), z.cell? ⟨g, i, none⟩ = some (.int .i64 R[i])) := fun z h i hi => (h.cell (p := ⟨g, i, none⟩) (World.block_lt_of_cell? _ _ (hcell i hi))).trans (hcell i hi)
      clear hcell
      unfold maxLen at hgm
      go_wp2
      go_loop [8, 38] (fun m iv => ∃ (j : Nat) (s : Int), j ≤ R.length ∧ iv = .int .i64 j ∧ m = .int .i64 s ∧ 0 ≤ s ∧ s ≤ 255 * (j : Int) ∧ Hid (s = sumB (R.take j))) (fun _ iv => R.length - (intOf iv).toNat)
      case atStart => exact ⟨0, 0, by omega, rfl, rfl, by omega, by omega, rfl⟩
      case round =>
        obtain ⟨j, s, hj, rfl, rfl, hs0, hs1, HS⟩ := hrel
        by_cases hlt : j < R.length
        · have hck := HC.out wr (Below.refl _ _) j hlt
          obtain ⟨b0, b1⟩ := HY.out.at j hlt
          have HS2 : Hid (_ = _) := sumB_take R j hlt
          generalize R[j] = b at *
          have hi0 : (0 : Int) ≤ (j : Int) := by omega
          have hi1 : (j : Int) < (R.length : Int) := by omega
          go_wp2
          go_round
          case rel => exact ⟨j + 1, s + b, by omega, by go_num, by go_num, by omega, by omega, by show _ = _; rw [HS2.out, HS.out]⟩
          case measure => simp [intOf]; omega
        · obtain rfl : j = R.length := by omega
          have hc0 : bits .and .i64 (-s) 255 = (256 - s % 256) % 256 := by rw [i64_and255]; omega
          have hk0 : 0 ≤ (256 - s % 256) % 256 := by omega
          have hk1 : (256 - s % 256) % 256 ≤ 255 := by omega
          have HCK : Hid ((256 - s % 256) % 256 = ckB R) := by show _ = _; have h := HS.out; rw [List.take_length] at h; rw [h]; rfl
          generalize (256 - s % 256) % 256 = c at *
          go_wp2_with (at_builtin; refine wpList_append_lies _ rfl (.tmp 46) (.tmp 50) 88 rfl w.heap.size 2 i0 (.int .i64 0) 1 8 Tryz.underlying88 hi hz0 hz1 hz2 rfl (by omega) _ R.length (cellsI R) rfl (HO.out.alloc _) ⟨wr.heap.size, 0, none⟩ 1 1 [.int .i64 c] rfl rfl (cell_one_new _ _ _) (one_cellI _) (by omega) (by unfold maxLen; omega) (by omega) (by simp; omega) (wr.heap.size + 1) (by simp) ?_; intro g2 cap2 w2 hown2 hgrow2 hat2 hlt2)
          have HO2 : Hid (OwnI w2 w.heap.size (.slice (some ⟨g2, 0, none⟩) (R.length + 1) cap2) (R ++ [c])) := OwnI.moreL (M := [c]) hown2
          have HB2 : Hid (Below w.heap.size w w2) := (below_more HB.out _).grown hgrow2 (by simp; omega) (fun q hq => (HO.out.lt q hq).1)
          have hlen : (R ++ [c]).length = R.length + 1 := by simp
          have HYc : Hid (bytesB (R ++ [c])) := by
            intro q hq
            rcases List.mem_append.1 hq with hq | hq
            · exact HY.out q hq
            · obtain rfl := List.mem_singleton.1 hq; exact ⟨hk0, hk1⟩
          have HFin : Hid (recL (rowB ad ws) = 58 :: hexs (R ++ [c]) ++ [10]) := by
            show _ = _
            unfold recL
            rw [← HRW.out, ← HCK.out, hexs_append]
            simp [hexs]
          obtain ⟨g3, gc3, hv3, hg3, hgc3, hgm3, hcell3⟩ := HO2.out.some (by simp)
          obtain ⟨rfl, rfl⟩ : g3 = g2 ∧ gc3 = cap2 := by
            simp only [Value.slice.injEq, Option.some.injEq, Addr.mk.injEq, and_true] at hv3
            exact ⟨hv3.1.symm, hv3.2.2.symm⟩
          clear hv3 hown2 hgrow2 hat2 HC HS HCK
          generalize hRc : R ++ [c] = Rc at *
          have HC : Hid (∀ z, Below w2.heap.size w2 z → ∀ i (h : i < Rc.length), z.cell? ⟨g3, i, none⟩ = some (.int .i64 Rc[i])) := fun z h i hi => (h.cell (p := ⟨g3, i, none⟩) (World.block_lt_of_cell? _ _ (hcell3 i hi))).trans (hcell3 i hi)
          have HL : Hid (Rc.length = R.length + 1) := hlen
          clear hRc hcell3 hlen
          obtain ⟨u0, hu, uz0, uz1, uz2⟩ := info_parts info5
          have hrn : ((R.length : Int) + 1) ≤ 21 := by omega
          go_loopw [11, 55] (fun v iv z => ∃ (j : Nat) (T : List UInt8), j ≤ R.length + 1 ∧ iv = .int .i64 j ∧ T.length ≤ 1 + 2 * j ∧ 0 < T.length ∧ Hid (T = 58 :: hexs (Rc.take j)) ∧ Hid (z.ownsRow w2.heap.size 5 1 v T.length (cellsU T)) ∧ Hid (Below w2.heap.size w2 z)) (fun _ iv _ => R.length + 1 - (intOf iv).toNat)
          case atStart => exact ⟨0, [58], by omega, rfl, by simp, by simp, by show _ = _; simp [hexs], World.ownsRow_lit w2 #[.int .u8 58] _ (Nat.le_refl _) (by simp [maxLen]) rfl, below_new _ _⟩
          case round =>
            obtain ⟨j, T, hj, rfl, hT1, hT0, HT, HV, HZ⟩ := hrel
            have hsz2 := HZ.out.size
            by_cases hlt : j < R.length + 1
            · have hlt' : j < Rc.length := by rw [HL.out]; exact hlt
              have hck := HC.out wr HZ.out j hlt'
              obtain ⟨b0, b1⟩ := HYc.out.at j hlt'
              have HT2 : Hid (58 :: hexs (Rc.take (j + 1)) = (58 :: hexs (Rc.take j)) ++ hex2 Rc[j]) := by show _ = _; rw [hexs_take Rc j hlt']; rfl
              generalize Rc[j] = bt at *
              have hq1 : IntKind.i64.wrap (bt.tdiv 16) = bt / 16 := by rw [Int.tdiv_eq_ediv_of_nonneg b0, IntWalk.i64_left]; exact IntWalk.wrap64_in _ (by omega)
              have hq2 : bt.tmod 16 = bt % 16 := Int.tmod_eq_emod_of_nonneg b0
              have hd1 := fun h => digit_at (bt / 16).toNat (by omega) h
              have hd2 := fun h => digit_at (bt % 16).toNat (by omega) h
              unfold digitsT at hd1 hd2
              have HX : Hid (hex2 bt = [hexd (bt / 16).toNat, hexd (bt % 16).toNat]) := rfl
              have a0 : 0 ≤ bt / 16 := by omega
              have a1 : bt / 16 < 16 := by omega
              have c0 : 0 ≤ bt % 16 := by omega
              have c1 : bt % 16 < 16 := by omega
              generalize hexd (bt / 16).toNat = p at *
              generalize hexd (bt % 16).toNat = q at *
              generalize bt / 16 = qa at *
              generalize bt % 16 = qb at *
              have hi0 : (0 : Int) ≤ (j : Int) := by omega
              have hi1 : (j : Int) < (R.length : Int) + 1 := by omega
              go_wp2_with fail
              go_region_held3 (fun z' => True) (trivial) (first
                | (refine step_append_lies _ (by rfl) _ _ _ (by rfl) w2.heap.size 5 u0 (.int .u8 0) 1 1 Tryz.underlying80 hu uz0 uz1 uz2 rfl (by omega) _ T.length (cellsU T) (by rfl) (World.ownsRow.drew (HV.out.alloc _)) ⟨wr.heap.size, 0, none⟩ 2 2 [.int .u8 (p.toNat : Int), .int .u8 (q.toNat : Int)] (by rfl) (by rfl) (World.news_of_block (cs := #[.int .u8 (p.toNat : Int), .int .u8 (q.toNat : Int)]) (t := 5) (fr := (0, 0)) (heap_alloc_new wr _)) (by simp [Value.oneCell']) (by omega) (by unfold maxLen; omega) (by omega) (by simp; omega) (wr.heap.size + 1) (by simp) ?_; intro gg capz z3 hown1 hgrow hat hltz))
              all_goals
                have HV3 : Hid (z3.ownsRow w2.heap.size 5 1 (.slice (some ⟨gg, 0, none⟩) (T.length + 2) capz) (T ++ [p, q]).length (cellsU (T ++ [p, q]))) := by
                  show World.ownsRow _ _ _ _ _ _ _
                  rw [List.length_append, cellsU_more]
                  exact hown1
                have HZ3 : Hid (Below w2.heap.size w2 z3) := ((below_more HZ.out _).drew).grown hgrow (by simp; omega) (fun q hq => (HV.out.lt q hq).1)
                clear hown1 hgrow hat
                go_wp2
                go_roundw
                case rel => exact ⟨j + 1, T ++ [p, q], by omega, by go_num, by simp; omega, by simp, by show _ = _; rw [HT2.out, HT.out, HX.out], by show World.ownsRow _ _ _ _ _ _ _; exact HV3.out, HZ3.out⟩
                case measure => simp [intOf]; omega
            · obtain rfl : j = R.length + 1 := by omega
              have HTE : Hid (T = 58 :: hexs Rc) := by show _ = _; rw [HT.out, List.take_of_length_le (by rw [HL.out]; omega)]
              go_wp2_with (at_builtin; refine wpList_append_own _ rfl (.tmp 69) (.tmp 70) 80 rfl w2.heap.size 5 u0 (.int .u8 0) 1 1 Tryz.underlying80 hu uz0 uz1 uz2 rfl (by decide) _ T.length (cellsU T) rfl (HV.out.alloc _) ⟨wr.heap.size, 0, none⟩ 1 1 [.int .u8 10] rfl rfl (cell_one_new _ _ _) (one_cell _) (by unfold maxLen; omega) (by omega) (by simp; omega) ?_; intro v4 w4 hown4 hgrow4 _; have hcv := conv_end hown4)
              have HZ4 : Hid (Below w2.heap.size w2 w4) := (below_more HZ.out _).grown hgrow4 (by simp; omega) (fun q hq => (HV.out.lt q hq).1)
              go_ret
              exact ⟨ret_str (by rw [HFin.out, HTE.out]), HB2.out.trans (HZ4.out.mono HB2.out.size)⟩
end Go.Proofs.YtnhehdobpibgkaaGreatDoor
