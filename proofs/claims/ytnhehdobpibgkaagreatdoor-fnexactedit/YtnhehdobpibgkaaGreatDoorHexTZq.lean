/- HexText of the program. -/
import Derived.Test.YtnhehdobpibgkaaGreatDoorRows
import Derived.WalkKit
import Derived.WalkSpells
import Derived.WalkLawsBesides
import Derived.DataElems
import Derived.Outline
import Derived.RegionTactic
import Derived.BigRegion
import Derived.Deep.RegionHeld3
import Derived.Deep.AppendLies
import Derived.Test.YtnhehdobpibgkaaGreatDoorBun0
import Derived.Test.YtnhehdobpibgkaaGreatDoorBun2
import Derived.Test.YtnhehdobpibgkaaGreatDoorBun1
import Derived.Test.YtnhehdobpibgkaaGreatDoorBun11
import Derived.Test.YtnhehdobpibgkaaGreatDoorBun13
import Derived.Test.YtnhehdobpibgkaaGreatDoorBun12
import Derived.Test.YtnhehdobpibgkaaGreatDoorHexPZq
namespace Go.Proofs.YtnhehdobpibgkaaGreatDoor
open Go.RowKit
set_option linter.unusedVariables false

theorem OwnS.moreL {w : World} {B : Nat} {v : Value} {L M : List ByteArray} (h : w.ownsRow B 9 1 v (L.length + M.length) (cellsS L ++ cellsS M)) : OwnS w B v (L ++ M) := by
  unfold OwnS
  rw [List.length_append]
  simpa [cellsS] using h
theorem OwnS.blockS {w : World} {B : Nat} {v : Value} {L : List ByteArray} (h : OwnS w B v L) (hl : 0 < L.length) : ∃ g cap, v = .slice (some ⟨g, 0, none⟩) L.length cap ∧ B ≤ g ∧ g < w.heap.size ∧ L.length ≤ cap ∧ cap ≤ maxLen ∧ ∀ i (hi : i < L.length), w.cell? ⟨g, i, none⟩ = some (.string L[i]) := by
  rcases h.form with ⟨_, e⟩ | ⟨g, cap, cur, hv, hB, hg, h4, h5, h6, h7⟩
  · subst e; simp at hl
  · exact ⟨g, cap, hv, hB, heap_lt hg, h4, h5, fun i hi => by simp [World.cell?, hg, h7 i hi]⟩
theorem OwnS.cells {w : World} {B g n cap : Nat} {L : List ByteArray} (h : OwnS w B (.slice (some ⟨g, 0, none⟩) n cap) L) (hl : 0 < L.length) : g < w.heap.size ∧ ∀ i (hi : i < L.length), w.cell? ⟨g, i, none⟩ = some (.string L[i]) := by
  obtain ⟨g', cap', hv, _, h1, _, _, h2⟩ := h.blockS hl
  simp only [Value.slice.injEq, Option.some.injEq, Addr.mk.injEq, and_true] at hv
  obtain ⟨rfl, _⟩ := hv
  exact ⟨h1, h2⟩
/- A part of a row of numbers. -/
theorem cutIJ (x : Addr) (n cap i k : Nat) (h : i < k) (hk : k ≤ cap) (W : World) : (Instr.slice 88 (.slice (some x) n cap) (some (.int .i64 (i : Int))) (some (.int .i64 (k : Int))) none).run Tryz.prog W = .ok (.slice (some (x.add i)) (k - i) (cap - i)) W := by
  obtain ⟨i0, hi, hz0, hz1, hz2⟩ := info_parts infoI
  have h2 : ¬ cap = i := by omega
  simp [Instr.slice, run_underlying Tryz.underlying88, Instr.sliceBounds, Instr.sliceBound, asIntOf, sizeOf, typeInfo, hi, hz1, hk, h2]
  omega
theorem ReadI.cut {w : World} {x : Addr} {L : List Int} (h : ReadI w (some x) L) (i : Nat) (n : Nat) : ReadI w (some (x.add i)) ((L.drop i).take n) := fun hl => by
  have hlt : i < L.length := by simp at hl; omega
  obtain ⟨y, hy, hb, hc⟩ := h (by omega)
  cases hy
  refine ⟨_, rfl, by rw [add_blockI]; exact hb, fun q hq => ?_⟩
  have hq2 : i + q < L.length := by simp at hq; omega
  rw [Addr.add_add, hc (i + q) hq2]
  simp
def textsB (b : Int) (L : List Int) (k : Nat) : List ByteArray := (List.range k).map fun i => ⟨(rowL b L i).toArray⟩
theorem textsB_succ (b : Int) (L : List Int) (k : Nat) : textsB b L (k + 1) = textsB b L k ++ [⟨(rowL b L k).toArray⟩] := by simp [textsB, List.range_succ]
theorem textsB_len (b : Int) (L : List Int) (k : Nat) : (textsB b L k).length = k := by simp [textsB]
theorem textsB_cat (b : Int) (L : List Int) (k : Nat) : catL (textsB b L k) = ⟨(rowsL b L k).toArray⟩ := by
  induction k with
  | zero => rfl
  | succ k ih => rw [textsB_succ, catL_append, ih, rowsL_succ]; simp [catL, text_catL]
set_option maxRecDepth 100000 in
set_option maxHeartbeats 4000000 in
theorem implHex_main (b : Int) (a : Option Addr) (L : List Int) (cap : Nat) (w : World) (hR : ReadI w a L) (hl : L.length ≤ 400) (hcap : L.length ≤ cap) (hcm : cap ≤ maxLen) (hb : baseB b = true) (hw : wordsB L = true) (hs : b + 2 * (L.length : Int) ≤ 65536) :
    Calls Tryz.prog 99 #[.int .i64 b, .slice a L.length cap] w fun e w' => e = .returned (.string (hexT b L)) ∧ Below w.heap.size w w' := by
  have HR : Hid (ReadI w a L) := hR
  have HB0 : Hid (baseB b = true) := hb
  have HW : Hid (wordsB L = true) := hw
  obtain ⟨hb0, hb1, hb2⟩ := base_ok hb
  have HS : Hid (decide (b + 2 * (L.length : Int) ≤ 65536) = true) := decide_eq_true hs
  clear hR hb hb2 hw
  unfold maxLen at hcm
  obtain ⟨i0, hi, hz0, hz1, hz2⟩ := info_parts infoS
  go_enter Tryz.func99, Tryz.ntmps99
  go_wp2_with fail
  refine (areWords_any a L cap _ HR.out (by omega)).mono ?_
  rintro e w1 ⟨rfl, rfl⟩
  rw [HW.out]
  go_wp2_with fail
  refine (isBase_any b _).mono ?_
  rintro e w1 ⟨rfl, rfl⟩
  rw [HB0.out]
  go_wp2_with fail
  refine (lies_any b L.length _ hb0 hb1 (by omega)).mono ?_
  rintro e w1 ⟨rfl, rfl⟩
  rw [HS.out]
  go_wp2
  go_loopw [5, 6] (fun v iv wr => ∃ (k i : Nat), i < L.length + 8 ∧ iv = .int .i64 i ∧ 8 * k ≤ i ∧ Hid (i = 8 * k) ∧ Hid (OwnS wr w1.heap.size v (textsB b L k)) ∧ Hid (Below w1.heap.size w1 wr)) (fun _ iv _ => L.length + 8 - (intOf iv).toNat)
  case atStart => exact ⟨0, 0, by omega, rfl, by omega, rfl, OwnS.nil _ _, Below.refl _ _⟩
  case round =>
    obtain ⟨k, i, hi8, rfl, hki, HK, HO, HB⟩ := hrel
    have hsz := HB.out.size
    by_cases hlt : i < L.length
    · obtain ⟨n, hn⟩ : ∃ n, ((L.drop i).take 8).length = n := ⟨_, rfl⟩
      have hn' : n = min 8 (L.length - i) := by rw [← hn]; simp
      have HN : Hid (((L.drop i).take 8).length = n) := hn
      have hn8 : n ≤ 8 := by omega
      have hn0 : 0 < n := by omega
      have hin : i + n ≤ L.length := by omega
      have HNM : Hid (n = min 8 (L.length - i)) := hn'
      clear hn hn'
      obtain ⟨x, rfl, hx, hc⟩ := ReadI.below HR.out HB.out (by omega)
      have HRW : Hid (ReadI wr (some (x.add i)) ((L.drop i).take 8)) := ReadI.cut (fun _ => ⟨x, rfl, hx, hc⟩) i 8
      clear hc hx
      have HCUT : Hid (∀ W, (Instr.slice 88 (.slice (some x) L.length cap) (some (.int .i64 (i : Int))) (some (.int .i64 ((i + n : Nat) : Int))) none).run Tryz.prog W = .ok (.slice (some (x.add i)) n (cap - i)) W) := fun W => by
        have h := cutIJ x L.length cap i (i + n) (by omega) (by omega) W
        rw [show i + n - i = n by omega] at h
        exact h
      obtain ⟨ad, hA⟩ : ∃ ad : Int, b + 2 * (i : Int) = ad := ⟨_, rfl⟩
      have hA0 : 0 ≤ ad := by omega
      have hA1 : ad ≤ 65535 := by omega
      have HA : Hid (b + 2 * (i : Int) = ad) := hA
      have hrow := hexRow_any ad (some (x.add i)) ((L.drop i).take 8) (cap - i) wr HRW.out (by rw [HN.out]; omega) hA0 hA1 (fun q hq => words_bd HW.out q (List.mem_of_mem_drop (List.mem_of_mem_take hq)))
      rw [HN.out] at hrow
      have HROW : Hid (Calls Tryz.prog _ _ _ _) := hrow
      have HT2 : Hid (rowsL b L (k + 1) = rowsL b L k ++ recL (rowB ad ((L.drop i).take 8))) := by
        show _ = _
        rw [rowsL_succ]
        unfold rowL
        rw [← HK.out, show b + 16 * (k : Int) = ad by have := HK.out; omega]
      have HS2 : Hid (textsB b L (k + 1) = textsB b L k ++ [⟨(recL (rowB ad ((L.drop i).take 8))).toArray⟩]) := by
        show _ = _
        rw [textsB_succ]
        unfold rowL
        rw [← HK.out, show b + 16 * (k : Int) = ad by have := HK.out; omega]
      have HTL : Hid ((textsB b L k).length = k) := textsB_len b L k
      generalize textsB b L k = TS at *
      generalize hrc : recL (rowB ad ((L.drop i).take 8)) = rc at *
      clear hrow hrc
      have hTS : TS.length ≤ 60 := by have := HTL.out; have := HK.out; omega
      by_cases hfull : i + 8 ≤ L.length
      all_goals
        have hcut : ∀ W, _ := HCUT.out
        first
        | (have hf1 : (i : Int) + 8 ≤ (L.length : Int) := by omega
           have hf2 : ¬ (L.length : Int) < (i : Int) + 8 := by omega
           rw [show ((i + n : Nat) : Int) = (i : Int) + 8 by have := HNM.out; omega] at hcut)
        | (have hf1 : ¬ (i : Int) + 8 ≤ (L.length : Int) := by omega
           have hf2 : (L.length : Int) < (i : Int) + 8 := by omega
           rw [show ((i + n : Nat) : Int) = (L.length : Int) by have := HNM.out; omega] at hcut)
        go_wp2_with fail
        refine HROW.out.mono ?_
        rintro e y ⟨rfl, hby⟩
        have HOy : Hid (OwnS y w1.heap.size _ TS) := HO.out.stays hby
        have HBy : Hid (Below w1.heap.size w1 y) := below_call HB.out hby
        have hszy := HBy.out.size
        clear hby hcut
        go_wp2_with (at_builtin; refine wpList_append_own _ rfl (.tmp 39) (.tmp 49) 79 rfl w1.heap.size 9 i0 (.string ⟨#[]⟩) 1 16 Tryz.underlying79 hi hz0 hz1 hz2 rfl (by decide) _ TS.length (cellsS TS) rfl (HOy.out.alloc _) ⟨y.heap.size, 0, none⟩ 1 1 [.string ⟨rc.toArray⟩] rfl rfl (cell_one_new _ _ _) (one_cellS _) (by unfold maxLen; omega) (by omega) (by simp; omega) ?_; intro v2 w2 hown2 hgrow2 _)
        have HO2 : Hid (OwnS w2 w1.heap.size v2 (TS ++ [⟨rc.toArray⟩])) := OwnS.moreL (M := [⟨rc.toArray⟩]) hown2
        have HB2 : Hid (Below w1.heap.size w1 w2) := (below_more HBy.out _).grown hgrow2 (by simp; omega) (fun q hq => (HOy.out.lt q hq).1)
        clear hown2 hgrow2
        go_roundw
        case rel => exact ⟨k + 1, i + 8, by omega, by go_num, by omega, by have := HK.out; show _ = _; omega, by show OwnS _ _ _ _; rw [HS2.out]; exact HO2.out, HB2.out⟩
        case measure => simp [intOf]; omega
    · have HKN : Hid (hexN L = k) := by have := HK.out; show _ = _; unfold hexN; omega
      have hTS : (textsB b L k).length ≤ 60 := by rw [textsB_len]; have := HK.out; omega
      have HE : Hid (hexT b L = catL (textsB b L k ++ [⟨endL.toArray⟩])) := by
        show _ = _
        have hB : hexB b L = true := by unfold hexB; rw [HB0.out, HW.out]; simp; omega
        rw [hexT_yes hB, catL_append, textsB_cat]
        unfold hexL
        rw [HKN.out]
        simp [catL, text_catL]
      have HSZ : Hid ((catL (textsB b L k ++ [⟨endL.toArray⟩])).size ≤ 1000000) := by
        show _ ≤ _
        rw [catL_append, textsB_cat, ByteArray.size_append]
        have h1 := rowsL_len b L k
        have h2 := HK.out
        have h3 : (⟨(rowsL b L k).toArray⟩ : ByteArray).size = (rowsL b L k).length := rfl
        have h4 : (catL [⟨endL.toArray⟩]).size = 12 := by simp [catL]; rfl
        rw [h3, h4]
        omega
      generalize textsB b L k = TS at *
      go_wp2_with (at_builtin; refine wpList_append_lies _ rfl (.tmp 51) (.tmp 52) 79 rfl w1.heap.size 9 i0 (.string ⟨#[]⟩) 1 16 Tryz.underlying79 hi hz0 hz1 hz2 rfl (by omega) _ TS.length (cellsS TS) rfl (HO.out.alloc _) ⟨wr.heap.size, 0, none⟩ 1 1 [.string ⟨#[58, 48, 48, 48, 48, 48, 48, 48, 49, 70, 70, 10]⟩] rfl rfl (cell_one_new _ _ _) (one_cellS _) (by omega) (by unfold maxLen; omega) (by omega) (by simp; omega) (wr.heap.size + 1) (by simp) ?_; intro g2 cap2 w2 hown2 hgrow2 hat2 hlt2)
      have HO2 : Hid (OwnS w2 w1.heap.size (.slice (some ⟨g2, 0, none⟩) (TS.length + 1) cap2) (TS ++ [⟨endL.toArray⟩])) := OwnS.moreL (M := [⟨endL.toArray⟩]) hown2
      have HB2 : Hid (Below w1.heap.size w1 w2) := (below_more HB.out _).grown hgrow2 (by simp; omega) (fun q hq => (HO.out.lt q hq).1)
      clear hown2 hgrow2 hat2
      obtain ⟨hg2, hc2⟩ := HO2.out.cells (by simp)
      have hj := join_cap (TS ++ [⟨endL.toArray⟩]) g2 cap2 w2 hc2 hg2 (by simp; omega) HSZ.out
      rw [show (TS ++ [(⟨endL.toArray⟩ : ByteArray)]).length = TS.length + 1 by simp] at hj
      refine hj.mono ?_
      rintro e y ⟨rfl, hby⟩
      go_wp2
      go_ret
      exact ⟨ret_str (by rw [HE.out]), below_call HB2.out hby⟩
set_option maxRecDepth 100000 in
set_option maxHeartbeats 1600000 in
theorem implHex_any (b : Int) (a : Option Addr) (L : List Int) (cap : Nat) (w : World) (hR : ReadI w a L) (hl : L.length ≤ 100000000) (hcap : L.length ≤ cap) (hcm : cap ≤ maxLen) :
    Calls Tryz.prog 99 #[.int .i64 b, .slice a L.length cap] w fun e w' => e = .returned (.string (hexT b L)) ∧ Below w.heap.size w w' := by
  have hcm' := hcm
  unfold maxLen at hcm'
  by_cases h4 : 400 < L.length
  · have HE : Hid (_ = _) := hexT_no (hexB_big (b := b) h4)
    clear hR
    go_enter Tryz.func99, Tryz.ntmps99
    go_wp2
    go_ret
    exact ⟨ret_str (by rw [HE.out]), Below.refl _ _⟩
  cases hw : wordsB L
  · have HE : Hid (_ = _) := hexT_no (hexB_no (b := b) hw)
    have HW : Hid (_ = _) := hw
    have HR : Hid (ReadI w a L) := hR
    clear hR hw
    go_enter Tryz.func99, Tryz.ntmps99
    go_wp2_with fail
    refine (areWords_any a L cap _ HR.out (by omega)).mono ?_
    rintro e w1 ⟨rfl, rfl⟩
    rw [HW.out]
    go_wp2
    go_ret
    exact ⟨ret_str (by rw [HE.out]), Below.refl _ _⟩
  cases hb : baseB b
  · have HE : Hid (_ = _) := hexT_no (hexB_base (L := L) hb)
    have HB : Hid (_ = _) := hb
    have HW : Hid (_ = _) := hw
    have HR : Hid (ReadI w a L) := hR
    clear hR hb hw
    go_enter Tryz.func99, Tryz.ntmps99
    go_wp2_with fail
    refine (areWords_any a L cap _ HR.out (by omega)).mono ?_
    rintro e w1 ⟨rfl, rfl⟩
    rw [HW.out]
    go_wp2_with fail
    refine (isBase_any b _).mono ?_
    rintro e w1 ⟨rfl, rfl⟩
    rw [HB.out]
    go_wp2
    go_ret
    exact ⟨ret_str (by rw [HE.out]), Below.refl _ _⟩
  by_cases hf : 65536 < b + 2 * (L.length : Int)
  · have HE : Hid (_ = _) := hexT_no (hexB_far hf)
    have HB : Hid (_ = _) := hb
    have HW : Hid (_ = _) := hw
    have HR : Hid (ReadI w a L) := hR
    have HF : Hid (decide (b + 2 * (L.length : Int) ≤ 65536) = false) := decide_eq_false (by omega)
    obtain ⟨hb0, hb1, hb2⟩ := base_ok hb
    clear hR hb hb2 hw
    go_enter Tryz.func99, Tryz.ntmps99
    go_wp2_with fail
    refine (areWords_any a L cap _ HR.out (by omega)).mono ?_
    rintro e w1 ⟨rfl, rfl⟩
    rw [HW.out]
    go_wp2_with fail
    refine (isBase_any b _).mono ?_
    rintro e w1 ⟨rfl, rfl⟩
    rw [HB.out]
    go_wp2_with fail
    refine (lies_any b L.length _ hb0 hb1 (by omega)).mono ?_
    rintro e w1 ⟨rfl, rfl⟩
    rw [HF.out]
    go_wp2
    go_ret
    exact ⟨ret_str (by rw [HE.out]), Below.refl _ _⟩
  exact implHex_main b a L cap w hR (by omega) hcap hcm hb hw (by omega)
end Go.Proofs.YtnhehdobpibgkaaGreatDoor
