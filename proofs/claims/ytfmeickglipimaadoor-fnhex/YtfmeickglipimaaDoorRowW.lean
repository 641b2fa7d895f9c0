/- The words of a line of a hex text, as the program reads them; the base. -/
import Derived.Test.YtfmeickglipimaaDoorRows
import Derived.WalkKit
import Derived.WalkSpells
import Derived.WalkLawsBesides
import Derived.Test.YtfmeickglipimaaDoorBase
import Derived.Test.YtfmeickglipimaaDoorRes2
import Derived.Test.YtfmeickglipimaaDoorOwn
import Derived.Test.YtfmeickglipimaaDoorOwnT
import Derived.Test.YtfmeickglipimaaDoorNumH
namespace Go.Proofs.YtfmeickglipimaaDoor
open Go.RowKit
set_option linter.unusedVariables false

def wordAt (s : ByteArray) (p : Nat) : Int := 256 * numH (s.extract (p + 2) (p + 4)) + numH (s.extract p (p + 2))
def wordsOf (s : ByteArray) : List Int := (List.range ((s.size - 9) / 4)).map fun i => wordAt s (9 + 4 * i)
def baseT (s : ByteArray) : Int := if s.size < 9 then 0 else numH (s.extract 3 7)
theorem ex_size (s : ByteArray) (a b : Nat) (h : b ≤ s.size) : (s.extract a b).size = b - a := by
  simp only [ByteArray.size_extract]; omega
set_option maxRecDepth 100000 in
set_option maxHeartbeats 1600000 in
theorem baseOf_any (s : ByteArray) (w : World) (hs : s.size ≤ 8000) (hE : ErrV w) : Calls Tryd.prog 35 #[.string s] w fun e w' => e = .returned (.int .i64 (baseT s)) ∧ Below w.heap.size w w' := by
  by_cases h9 : s.size < 9
  · have HT : Hid (baseT s = 0) := if_pos h9
    clear hE
    go_enter Tryd.func35, Tryd.ntmps35
    go_wp2
    go_ret
    exact ⟨ret_int (by rw [HT.out]), Below.refl _ _⟩
  · have HT : Hid (baseT s = numH (s.extract 3 7)) := if_neg h9
    have HE : Hid (ErrV w) := hE
    have HX : Hid ((s.extract 3 7).size = 4) := by show _ = _; rw [ex_size s 3 7 (by omega)]
    clear hE
    go_enter Tryd.func35, Tryd.ntmps35
    go_wp2_with fail
    refine (numberOfHex_any _ (by rw [HX.out]; omega) (by rw [HX.out]; omega) _ HE.out).mono ?_
    rintro e w' ⟨rfl, hb⟩
    go_wp2
    go_ret
    exact ⟨ret_int (by rw [HT.out]), hb⟩
set_option maxRecDepth 100000 in
set_option maxHeartbeats 1600000 in
theorem wordsOfRow_any (s : ByteArray) (w : World) (hs : s.size ≤ 8000) (hE : ErrV w) : Calls Tryd.prog 37 #[.string s] w fun e w' => (∃ v, e = .returned v ∧ OwnI w' w.heap.size v (wordsOf s)) ∧ Below w.heap.size w w' := by
  have HE : Hid (ErrV w) := hE
  clear hE
  obtain ⟨i0, hi, hz0, hz1, hz2⟩ := info_parts infoI
  go_enter Tryd.func37, Tryd.ntmps37
  go_wp2
  go_loopw [3, 4] (fun v iv wr => ∃ (k p : Nat) (R : List Int), p ≤ 9 + 4 * ((s.size - 9) / 4) ∧ iv = .int .i64 p ∧ p ≤ 8020 ∧ Hid (p = 9 + 4 * k) ∧ R.length ≤ 3000 ∧ Hid (R.length = k) ∧ Hid (R = (List.range k).map fun i => wordAt s (9 + 4 * i)) ∧ Hid (OwnI wr w.heap.size v R) ∧ Hid (Below w.heap.size w wr)) (fun _ iv _ => 10000 - (intOf iv).toNat)
  case atStart => exact ⟨0, 9, [], by omega, rfl, by omega, rfl, by simp, rfl, rfl, OwnI.nil _ _, Below.refl _ _⟩
  case round =>
    obtain ⟨k, p, R, hp, rfl, hp2, HK, hR, HRL, HRE, HO, HB⟩ := hrel
    have hsz := HB.out.size
    by_cases hlt : p + 4 ≤ s.size
    · have hx1 : (s.extract p (p + 2)).size = 2 := by rw [ex_size s _ _ (by omega)]; omega
      have hx2 : (s.extract (p + 2) (p + 4)).size = 2 := by rw [ex_size s _ _ (by omega)]; omega
      obtain ⟨n0, n1⟩ := numH_bd (s.extract p (p + 2)) (by omega)
      obtain ⟨m0, m1⟩ := numH_bd (s.extract (p + 2) (p + 4)) (by omega)
      have HW : Hid (wordAt s p = 256 * numH (s.extract (p + 2) (p + 4)) + numH (s.extract p (p + 2))) := rfl
      have HX1 : Hid (_ = _) := hx1
      have HX2 : Hid (_ = _) := hx2
      clear hx1 hx2
      have hlt' : (p : Int) + 4 ≤ (s.size : Int) := by omega
      have hp0 : (0 : Int) ≤ (p : Int) := by omega
      go_wp2_with fail
      refine (numberOfHex_any _ (by rw [HX1.out]; omega) (by rw [HX1.out]; omega) _ (HE.out.below HB.out)).mono ?_
      rintro e y ⟨rfl, hb⟩
      have HO1 : Hid (OwnI y w.heap.size _ R) := HO.out.stays hb
      have HB1 : Hid (Below w.heap.size w y) := below_call HB.out hb
      clear hb
      go_wp2_with fail
      refine (numberOfHex_any _ (by rw [HX2.out]; omega) (by rw [HX2.out]; omega) _ (HE.out.below HB1.out)).mono ?_
      rintro e z ⟨rfl, hb⟩
      have HO2 : Hid (OwnI z w.heap.size _ R) := HO1.out.stays hb
      have HB2 : Hid (Below w.heap.size w z) := below_call HB1.out hb
      have hsz2 := HB2.out.size
      clear hb
      generalize numH (s.extract p (p + 2)) = n at *
      generalize numH (s.extract (p + 2) (p + 4)) = m at *
      go_wp2_with (at_builtin; refine wpList_append_own _ rfl (.tmp 27) (.tmp 32) 23 rfl w.heap.size 2 i0 (.int .i64 0) 1 8 Tryd.underlying23 hi hz0 hz1 hz2 rfl (by decide) _ R.length (cellsI R) rfl (HO2.out.alloc _) ⟨z.heap.size, 0, none⟩ 1 1 [.int .i64 (256 * m + n)] rfl rfl (cell_one_new _ _ _) (one_cellI _) (by unfold maxLen; omega) (by omega) (by simp; omega) ?_; intro v2 w2 hown2 hgrow2 _)
      have HO3 : Hid (OwnI w2 w.heap.size v2 (R ++ [256 * m + n])) := OwnI.moreL (M := [256 * m + n]) hown2
      have HB3 : Hid (Below w.heap.size w w2) := (below_more HB2.out _).grown hgrow2 (by simp; omega) (fun q hq => (HO2.out.lt q hq).1)
      clear hown2 hgrow2
      go_roundw
      case rel => exact ⟨k + 1, p + 4, R ++ [256 * m + n], by have := HK.out; omega, by go_num, by omega, by have := HK.out; show _ = _; omega, by have := HRL.out; have := HK.out; simp; omega, by have := HRL.out; show _ = _; simp; omega, by show _ = _; rw [List.range_succ, List.map_append, ← HRE.out, List.map_cons, List.map_nil, ← HK.out, HW.out], HO3.out, HB3.out⟩
      case measure => simp [intOf]; omega
    · have HE2 : Hid (R = wordsOf s) := by have := HK.out; show _ = _; rw [HRE.out]; unfold wordsOf; rw [show k = (s.size - 9) / 4 by omega]
      have hge : ¬ (p : Int) + 4 ≤ (s.size : Int) := by omega
      go_wp2
      go_ret
      exact ⟨⟨_, rfl, by have h := HO.out; rw [HE2.out] at h; exact h⟩, HB.out⟩
theorem wordsOf_len (s : ByteArray) : (wordsOf s).length = (s.size - 9) / 4 := by simp [wordsOf]
end Go.Proofs.YtfmeickglipimaaDoor
