/- HexText of the specification. -/
import Derived.Test.YtnhehdobpibgkaaGreatDoorRows
import Derived.WalkKit
import Derived.WalkSpells
import Derived.WalkLawsBesides
import Derived.Outline
import Derived.RegionTactic
import Derived.BigRegion
import Derived.Deep.RegionHeld3
import Derived.Deep.AppendLies
import Derived.Test.YtnhehdobpibgkaaGreatDoorBun0
import Derived.Test.YtnhehdobpibgkaaGreatDoorBun2
import Derived.Test.YtnhehdobpibgkaaGreatDoorBun11
import Derived.Test.YtnhehdobpibgkaaGreatDoorBun12
import Derived.Test.YtnhehdobpibgkaaGreatDoorBun5
import Derived.Test.YtnhehdobpibgkaaGreatDoorJoinZq
namespace Go.Proofs.YtnhehdobpibgkaaGreatDoor
open Go.RowKit
set_option linter.unusedVariables false

theorem min_spec (a b m : Int) (w : World) (h : m = min a b) : Calls Tryz.prog 88 #[.int .i64 a, .int .i64 b] w fun e w' => e = .returned (.int .i64 m) ∧ w' = w := by
  subst h
  by_cases hl : a < b
  · go_enter Tryz.func88, Tryz.ntmps88
    go_wp2
    go_ret
    exact ⟨ret_int (by omega), rfl⟩
  · go_enter Tryz.func88, Tryz.ntmps88
    go_wp2
    go_ret
    exact ⟨ret_int (by omega), rfl⟩
theorem hexT_no {b : Int} {L : List Int} (h : hexB b L = false) : hexT b L = ⟨#[]⟩ := by unfold hexT; rw [h]; rfl
theorem hexT_yes {b : Int} {L : List Int} (h : hexB b L = true) : hexT b L = ⟨(hexL b L).toArray⟩ := by unfold hexT; rw [h]; rfl
theorem words_no {L : List Int} {j : Nat} (hj : j < L.length) (h : isB L[j] 0 65535 = false) : wordsB L = false := by
  cases hw : wordsB L
  · rfl
  · have := List.all_eq_true.1 hw _ (List.getElem_mem hj)
    rw [h] at this; cases this
theorem hexB_no {b : Int} {L : List Int} (h : wordsB L = false) : hexB b L = false := by unfold hexB; rw [h]; simp
theorem take_drop_one (L : List Int) (i j : Nat) (hij : i ≤ j) (hj : j < L.length) : (L.drop i).take (j + 1 - i) = (L.drop i).take (j - i) ++ [L[j]] := by
  have h : j - i < (L.drop i).length := by simp; omega
  rw [show j + 1 - i = (j - i) + 1 by omega, List.take_succ_eq_append_getElem h]
  congr 2
  simp [show i + (j - i) = j by omega]
theorem isB_bd {n a b : Int} (h : isB n a b = true) : a ≤ n ∧ n ≤ b := by unfold isB at h; simpa using h
set_option maxRecDepth 100000 in
set_option maxHeartbeats 4000000 in
theorem specHex_main (b : Int) (a : Option Addr) (L : List Int) (cap : Nat) (w : World) (hR : ReadI w a L) (hl : L.length ≤ 400) (hb : baseB b = true) (hs : b + 2 * (L.length : Int) ≤ 65536) :
    Calls Tryz.prog 77 #[.int .i64 b, .slice a L.length cap] w fun e w' => e = .returned (.string (hexT b L)) ∧ Below w.heap.size w w' := by
  have HR : Hid (ReadI w a L) := hR
  have HB0 : Hid (baseB b = true) := hb
  obtain ⟨hb0, hb1, hb2⟩ := base_ok hb
  clear hR hb hb2
  obtain ⟨i0, hi, hz0, hz1, hz2⟩ := info_parts infoI
  go_enter Tryz.func77, Tryz.ntmps77
  go_wp2_with fail
  refine (base_spec b _).mono ?_
  rintro e w1 ⟨rfl, rfl⟩
  rw [HB0.out]
  go_wp2
  go_loopw [5, 6] (fun t iv wr => ∃ (k i : Nat) (out : List UInt8), i < L.length + 8 ∧ iv = .int .i64 i ∧ t = .string ⟨out.toArray⟩ ∧ out.length ≤ 44 * k ∧ 8 * k ≤ i ∧ Hid (i = 8 * k) ∧ Hid (out = rowsL b L k) ∧ Hid (wordsB (L.take i) = true) ∧ Hid (Below w1.heap.size w1 wr)) (fun _ iv _ => L.length + 8 - (intOf iv).toNat)
  case atStart => exact ⟨0, 0, [], by omega, rfl, rfl, by simp, by omega, rfl, rfl, rfl, Below.refl _ _⟩
  case round =>
    obtain ⟨k, i, out, hi8, rfl, rfl, ho, hki, HK, HT, HW, HB⟩ := hrel
    by_cases hlt : i < L.length
    · obtain ⟨n, hn⟩ : ∃ n, ((L.drop i).take 8).length = n := ⟨_, rfl⟩
      have hn' : n = min 8 (L.length - i) := by rw [← hn]; simp
      have HN : Hid (((L.drop i).take 8).length = n) := hn
      have hn8 : n ≤ 8 := by omega
      have hn0 : 0 < n := by omega
      have hin : i + n ≤ L.length := by omega
      have hmin : ((i + n : Nat) : Int) = min (L.length : Int) ((i : Int) + 8) := by omega
      clear hn hn'
      obtain ⟨ad, hA⟩ : ∃ ad : Int, b + 2 * (i : Int) = ad := ⟨_, rfl⟩
      have hA0 : 0 ≤ ad := by omega
      have hA1 : ad ≤ 65535 := by omega
      have HA : Hid (b + 2 * (i : Int) = ad) := hA
      have HM : Hid (_ = _) := hmin
      clear hmin
      go_wp2_with fail
      refine (min_spec _ _ ((i + n : Nat) : Int) _ HM.out).mono ?_
      rintro e y ⟨rfl, rfl⟩
      have hq : 2 * (((i + n : Nat) : Int) - (i : Int)) = 2 * (n : Int) := by omega
      go_wp2
      have hsz := HB.out.size
      go_loopw [9, 10] (fun v jv z => ∃ (j : Nat) (R : List Int), i ≤ j ∧ j ≤ i + n ∧ jv = .int .i64 j ∧ R.length ≤ 20 ∧ Hid (R.length = 4 + 2 * (j - i)) ∧ Hid (R = [2 * (n : Int), ad / 256, ad % 256, 0] ++ pairsB ((L.drop i).take (j - i))) ∧ Hid (OwnI z w1.heap.size v R) ∧ Hid (wordsB (L.take j) = true) ∧ Hid (Below w1.heap.size w1 z)) (fun _ jv _ => i + n - (intOf jv).toNat)
      case atStart => exact ⟨i, [2 * (n : Int), ad / 256, ad % 256, 0], by omega, by omega, rfl, by simp, by show _ = _; simp, by show _ = _; rw [Nat.sub_self]; simp [pairsB], own_four HB.out rfl (by omega) rfl rfl rfl, HW.out, below_more HB.out _⟩
      case round =>
        obtain ⟨j, R, hij, hjn, rfl, hRl, HRL, HR1, HO, HV, HZ⟩ := hrel
        by_cases hjl : j < i + n
        · obtain ⟨x, rfl, hx, hc⟩ := HR.out (by omega)
          have HC : Hid (∀ z', Below w1.heap.size w1 z' → z'.cell? (x.add j) = some (.int .i64 L[j])) := fun z' h => (h.cell (by rw [add_blockI]; exact hx)).trans (hc j (by omega))
          have hck := HC.out _ HZ.out
          have HTD : Hid (_ = _) := take_drop_one L i j hij (by omega)
          have HNO : Hid (isB L[j] 0 65535 = false → wordsB L = false) := words_no (by omega)
          have HTK : Hid (wordsB (L.take j) = true → isB L[j] 0 65535 = true → wordsB (L.take (j + 1)) = true) := fun h1 h2 => by
            rw [List.take_succ_eq_append_getElem (by omega)]
            unfold wordsB at *
            rw [List.all_append, h1]
            simpa using h2
          clear hc hx
          generalize L[j] = wd at *
          have hi0 : (0 : Int) ≤ (j : Int) := by omega
          have hi1 : (j : Int) < (L.length : Int) := by omega
          cases hwb : isB wd 0 65535
          · have HWB : Hid (_ = _) := hwb
            have HNo : Hid (wordsB L = false) := HNO.out hwb
            clear hwb
            go_wp2_with fail
            refine (l02Word_any wd _).mono ?_
            rintro e z2 ⟨rfl, rfl⟩
            rw [HWB.out]
            go_wp2
            go_ret
            exact ⟨ret_str (by rw [hexT_no (hexB_no HNo.out)]), HZ.out⟩
          · have HWB : Hid (_ = _) := hwb
            obtain ⟨hw0, hw1⟩ := isB_bd hwb
            have HTK2 : Hid (_ = _) := HTK.out HV.out hwb
            clear hwb
            go_wp2_with fail
            refine (l02Word_any wd _).mono ?_
            rintro e z2 ⟨rfl, rfl⟩
            rw [HWB.out]
            have hcl : z2.cell? (x.add j) = some (.int .i64 wd) := HC.out _ HZ.out
            have hsz2 := HZ.out.size
            have hq1 : wd.tmod 256 = wd % 256 := Int.tmod_eq_emod_of_nonneg hw0
            have hq2 : IntKind.i64.wrap (wd.tdiv 256) = wd / 256 := by rw [Int.tdiv_eq_ediv_of_nonneg hw0, IntWalk.i64_left]; exact IntWalk.wrap64_in _ (by omega)
            go_wp2_with fail
            go_region_held3 (fun z' => z'.cell? (x.add j) = some (.int .i64 wd)) (first | go_keep | exact HC.out _ (((below_more HZ.out _).drew).grown hgrow (by simp; omega) (fun q hq => (HO.out.lt q hq).1))) (first
              | (refine step_append_lies _ (by rfl) _ _ _ (by rfl) w1.heap.size 2 i0 (.int .i64 0) 1 8 Tryz.underlying88 hi hz0 hz1 hz2 rfl (by omega) _ R.length (cellsI R) (by rfl) (OwnI.drew (HO.out.alloc _)) ⟨z2.heap.size, 0, none⟩ 2 2 [.int .i64 (wd % 256), .int .i64 (wd / 256)] (by rfl) (by rfl) (World.news_of_block (cs := #[.int .i64 (wd % 256), .int .i64 (wd / 256)]) (t := 2) (fr := (0, 0)) (heap_alloc_new z2 _)) (by simp [Value.oneCell']) (by omega) (by unfold maxLen; omega) (by omega) (by simp; omega) (z2.heap.size + 1) (by simp) ?_; intro gg cap2 z3 hown1 hgrow hat hlt2))
            have HO3 : Hid (OwnI z3 w1.heap.size (.slice (some ⟨gg, 0, none⟩) (R.length + 2) cap2) (R ++ pairB wd)) := OwnI.moreL (M := pairB wd) hown1
            have HZ3 : Hid (Below w1.heap.size w1 z3) := ((below_more HZ.out _).drew).grown hgrow (by simp; omega) (fun q hq => (HO.out.lt q hq).1)
            clear hown1 hgrow hat
            go_wp2
            go_roundw
            case rel => exact ⟨j + 1, R ++ pairB wd, by omega, by omega, by go_num, by have := HRL.out; simp [pairB]; omega, by have := HRL.out; show _ = _; simp [pairB]; omega, by show _ = _; rw [HR1.out, HTD.out]; simp [pairsB], by show OwnI _ _ _ _; exact HO3.out, HTK2.out, HZ3.out⟩
            case measure => simp [intOf]; omega
        · obtain rfl : j = i + n := by omega
          have HRW : Hid (R = rowB (b + 16 * (k : Int)) ((L.drop (8 * k)).take 8)) := by
            show _ = _
            have h1 := HR1.out
            have h2 := HK.out
            have h3 := HA.out
            have h4 := HN.out
            have e : (L.drop i).take (i + n - i) = (L.drop i).take 8 := by rw [show i + n - i = n by omega, ← h4]; simp
            rw [e] at h1
            rw [h1, ← h2, show b + 16 * (k : Int) = ad by omega]
            unfold rowB
            rw [h4]
          have HRB : Hid (bytesB R) := by
            show bytesB R
            rw [HR1.out]
            have hw := words_bd HV.out
            intro q hq
            simp only [List.cons_append, List.nil_append, List.mem_cons, pairsB, List.mem_flatMap, pairB, List.not_mem_nil, or_false] at hq
            rcases hq with rfl | rfl | rfl | rfl | ⟨m, hm, hq⟩
            · omega
            · omega
            · omega
            · omega
            · have hm2 : m ∈ L.take (i + n) := by
                have : (L.drop i).take (i + n - i) = (L.take (i + n)).drop i := by rw [List.drop_take]
                rw [this] at hm
                exact List.mem_of_mem_drop hm
              have := hw m hm2
              rcases hq with rfl | rfl <;> omega
          have HR0 : Hid (0 < R.length) := by show 0 < R.length; rw [HRL.out]; omega
          have e1 : out.length ≤ 2200 := by omega
          have e2 : (recL R).length ≤ 44 := by rw [recL_len]; omega
          have HV2 : Hid (wordsB (L.take (i + 8)) = true) := by
            show _ = _
            have h := HV.out
            have h4 := HN.out
            have e : L.take (i + 8) = L.take (i + n) := by
              by_cases hc : n = 8
              · rw [hc]
              · rw [List.take_of_length_le (by simp at h4; omega), List.take_of_length_le (by simp at h4; omega)]
            rw [e]; exact h
          have HT2 : Hid (rowsL b L (k + 1) = rowsL b L k ++ recL R) := by show _ = _; rw [rowsL_succ, HRW.out]; rfl
          go_wp2_with fail
          refine (record_spec _ w1.heap.size R _ HO.out HRB.out hRl HR0.out).mono ?_
          rintro e z2 ⟨rfl, hbz⟩
          have HZ2 : Hid (Below w1.heap.size w1 z2) := below_call HZ.out hbz
          clear hbz
          go_wp2
          go_roundw
          case rel => exact ⟨k + 1, i + 8, out ++ recL R, by omega, by go_num, by simp [text_catL], by simp; omega, by omega, by have := HK.out; show _ = _; omega, by show _ = _; rw [HT2.out, HT.out], HV2.out, HZ2.out⟩
          case measure => simp [intOf]; omega
    · have HE : Hid (hexT b L = ⟨(out ++ endL).toArray⟩) := by
        show _ = _
        have h1 := HK.out
        have h2 := HW.out
        rw [List.take_of_length_le (by omega)] at h2
        have hB : hexB b L = true := by
          unfold hexB
          rw [HB0.out, h2]
          simp
          omega
        rw [hexT_yes hB, HT.out]
        unfold hexL
        rw [show hexN L = k by unfold hexN; omega]
      have e1 : out.length ≤ 2200 := by have := HK.out; omega
      go_wp2
      go_ret
      exact ⟨ret_str (by rw [HE.out]; simp [text_catL, endL]), HB.out⟩
theorem hexB_big {b : Int} {L : List Int} (h : 400 < L.length) : hexB b L = false := by unfold hexB; rw [decide_eq_false (by omega)]; rfl
theorem hexB_base {b : Int} {L : List Int} (h : baseB b = false) : hexB b L = false := by unfold hexB; rw [h]; simp
theorem hexB_far {b : Int} {L : List Int} (h : 65536 < b + 2 * (L.length : Int)) : hexB b L = false := by unfold hexB; rw [decide_eq_false (show ¬ b + 2 * (L.length : Int) ≤ 65536 by omega)]; simp
set_option maxRecDepth 100000 in
set_option maxHeartbeats 1600000 in
theorem specHex_any (b : Int) (a : Option Addr) (L : List Int) (cap : Nat) (w : World) (hR : ReadI w a L) (hl : L.length ≤ 100000000) :
    Calls Tryz.prog 77 #[.int .i64 b, .slice a L.length cap] w fun e w' => e = .returned (.string (hexT b L)) ∧ Below w.heap.size w w' := by
  by_cases h4 : 400 < L.length
  · have HE : Hid (_ = _) := hexT_no (hexB_big (b := b) h4)
    clear hR
    go_enter Tryz.func77, Tryz.ntmps77
    go_wp2
    go_ret
    exact ⟨ret_str (by rw [HE.out]), Below.refl _ _⟩
  cases hb : baseB b
  · have HE : Hid (_ = _) := hexT_no (hexB_base (L := L) hb)
    have HB : Hid (_ = _) := hb
    clear hR hb
    go_enter Tryz.func77, Tryz.ntmps77
    go_wp2_with fail
    refine (base_spec b _).mono ?_
    rintro e w1 ⟨rfl, rfl⟩
    rw [HB.out]
    go_wp2
    go_ret
    exact ⟨ret_str (by rw [HE.out]), Below.refl _ _⟩
  by_cases hf : 65536 < b + 2 * (L.length : Int)
  · have HE : Hid (_ = _) := hexT_no (hexB_far hf)
    have HB : Hid (_ = _) := hb
    obtain ⟨hb0, hb1, hb2⟩ := base_ok hb
    clear hR hb hb2
    go_enter Tryz.func77, Tryz.ntmps77
    go_wp2_with fail
    refine (base_spec b _).mono ?_
    rintro e w1 ⟨rfl, rfl⟩
    rw [HB.out]
    go_wp2
    go_ret
    exact ⟨ret_str (by rw [HE.out]), Below.refl _ _⟩
  exact specHex_main b a L cap w hR (by omega) hb (by omega)
end Go.Proofs.YtnhehdobpibgkaaGreatDoor
namespace Go.Proofs.YtnhehdobpibgkaaGreatDoor
open Go.RowKit

set_option maxHeartbeats 400000 in
theorem join_cap (ts : List ByteArray) (g cap : Nat) (w : World) (hcell : ∀ j, (h : j < ts.length) → w.cell? ⟨g, j, none⟩ = some (.string ts[j])) (hgB : g < w.heap.size) (hlen : ts.length ≤ 1000) (htot : (catL ts).size ≤ 1000000) :
    Calls Tryz.prog 55 #[.slice (some ⟨g, 0, none⟩) ts.length cap] w fun e w' => e = .returned (.string (catL ts)) ∧ Below w.heap.size w w' := by
  have HC : Hid (∀ j, (h : j < ts.length) → w.cell? ⟨g, j, none⟩ = some (.string ts[j])) := hcell
  clear hcell
  go_enter Tryz.func55, Tryz.ntmps55
  go_wp2
  go_loop [3, 12] (fun m i => ∃ k : Nat, k ≤ ts.length ∧ i = .int .i64 k ∧ m = .int .i64 ((catL (ts.take k)).size : Nat)) (fun _ i => ts.length - (intOf i).toNat)
  case atStart => exact ⟨0, by omega, rfl, by simp [catL]⟩
  case round =>
    obtain ⟨k, hk, rfl, rfl⟩ := hrel
    have hle := catL_le ts k
    by_cases hlt : k < ts.length
    · have hck := HC.out k hlt
      have HS : Hid (_ = _) := catL_take_size ts k hlt
      have hle2 := catL_le ts (k + 1)
      rw [catL_take_size ts k hlt] at hle2
      go_wp2
      exact ⟨⟨k + 1, by omega, by go_num, by rw [HS.out]; go_num⟩, by simp [intOf]; omega⟩
    · obtain rfl : k = ts.length := by omega
      obtain ⟨Z, hZ, hmk⟩ := made_row w (catL ts).size htot
      go_wp2
      go_loopw [7, 25] (fun m i wr => ∃ k : Nat, k ≤ ts.length ∧ i = .int .i64 k ∧ m = .int .i64 ((catL (ts.take k)).size : Nat) ∧ ∃ R : List Value, Hid (wr.heap[w.heap.size]? = some (.cells R.toArray 5 (0, 0))) ∧ R.length = (catL ts).size ∧ Hid (R.take (catL (ts.take k)).size = bcells (catL (ts.take k))) ∧ Below w.heap.size w wr) (fun _ i _ => ts.length - (intOf i).toNat)
      case atStart => exact ⟨0, by omega, rfl, by simp [catL], Z, heap_alloc_new _ _, hZ, by simp [catL, bcells, Hid], (Below.refl _ _).alloc (Nat.le_refl _) _⟩
      case round =>
        obtain ⟨k, hk, rfl, rfl, R, HR, hRl, HT, hB⟩ := hrel
        have hle := catL_le ts k
        clear hmk
        by_cases hlt : k < ts.length
        · have hck : wr.cell? ⟨g, k, none⟩ = some (.string ts[k]) := (hB.cell hgB).trans (HC.out k hlt)
          have HS : Hid (_ = _) := catL_take_size ts k hlt
          have hle2 := catL_le ts (k + 1)
          rw [catL_take_size ts k hlt] at hle2
          obtain ⟨dp, hdp, hsl⟩ := cut_row w.heap.size (catL ts).size (catL (ts.take k)).size hle
          have HD : Hid (_ → _) := hdp
          clear hdp
          obtain ⟨w2, hcp, HR2, hB2⟩ := copy_text (P := Tryz.prog) wr 80 9 3 5 Tryz.underlying80 size5 dp _ ((catL ts).size - (catL (ts.take k)).size) ts[k] w.heap.size (catL (ts.take k)).size R 5 HR.out (show ts[k].size ≤ (catL ts).size - (catL (ts.take k)).size by omega) (fun h => HD.out (by omega)) (by omega) w.heap.size w hB (Nat.le_refl _)
          go_wp2
          have HT2 : Hid (_ = _) := row_step ts k hlt R hRl HT.out
          go_roundw
          case rel => exact ⟨k + 1, by omega, by go_num, by rw [HS.out]; go_num, splice R (catL (ts.take k)).size (bcells ts[k]), HR2, by rw [length_splice _ _ _ (by rw [bcells_len]; omega)]; exact hRl, HT2, hB2⟩
          case measure => simp [intOf]; omega
        · obtain rfl : k = ts.length := by omega
          have hcv := row_text ts R wr HR.out hRl HT.out
          go_wp2
          go_ret
          exact ⟨rfl, hB⟩

end Go.Proofs.YtnhehdobpibgkaaGreatDoor
