/- Digits and bytes of a hex text's line, by the specification. -/
import Derived.Test.YtfmeickglipimaaDoorRows
import Derived.WalkKit
import Derived.WalkSpells
import Derived.WalkLawsBesides
import Derived.Test.YtfmeickglipimaaDoorBase
import Derived.Test.YtfmeickglipimaaDoorRes2
import Derived.Test.YtfmeickglipimaaDoorOwn
import Derived.Test.YtfmeickglipimaaDoorOwnT
import Derived.Test.YtfmeickglipimaaDoorLinesM
namespace Go.Proofs.YtfmeickglipimaaDoor
open Go.RowKit
set_option linter.unusedVariables false

def sdig (c : UInt8) : Int := if 48 ≤ c.toNat ∧ c.toNat ≤ 57 then (c.toNat : Int) - 48 else if 65 ≤ c.toNat ∧ c.toNat ≤ 70 then (c.toNat : Int) - 65 + 10 else 16
theorem sdig_bd (c : UInt8) : 0 ≤ sdig c ∧ sdig c ≤ 16 := by
  unfold sdig
  split
  · omega
  · split <;> omega
set_option maxHeartbeats 1600000 in
theorem digit_spec (c : UInt8) (w : World) : Calls Tryd.prog 61 #[.int .u8 (c.toNat : Int)] w fun e w' => e = .returned (.int .i64 (sdig c)) ∧ w' = w := by
  have hc := c.toNat_lt
  by_cases h1 : 48 ≤ c.toNat
  · by_cases h2 : c.toNat ≤ 57
    · have HE : Hid (sdig c = (c.toNat : Int) - 48) := by show _ = _; unfold sdig; rw [if_pos ⟨h1, h2⟩]
      go_enter Tryd.func61, Tryd.ntmps61
      go_wp2
      go_ret
      exact ⟨ret_int (by rw [HE.out]), rfl⟩
    · by_cases h3 : 65 ≤ c.toNat
      · by_cases h4 : c.toNat ≤ 70
        · have HE : Hid (sdig c = (c.toNat : Int) - 65 + 10) := by show _ = _; unfold sdig; rw [if_neg (by omega), if_pos ⟨h3, h4⟩]
          go_enter Tryd.func61, Tryd.ntmps61
          go_wp2
          go_ret
          exact ⟨ret_int (by rw [HE.out]), rfl⟩
        · have HE : Hid (sdig c = 16) := by show _ = _; unfold sdig; rw [if_neg (by omega), if_neg (by omega)]
          go_enter Tryd.func61, Tryd.ntmps61
          go_wp2
          go_ret
          exact ⟨ret_int (by rw [HE.out]), rfl⟩
      · have HE : Hid (sdig c = 16) := by show _ = _; unfold sdig; rw [if_neg (by omega), if_neg (by omega)]
        go_enter Tryd.func61, Tryd.ntmps61
        go_wp2
        go_ret
        exact ⟨ret_int (by rw [HE.out]), rfl⟩
  · have HE : Hid (sdig c = 16) := by show _ = _; unfold sdig; rw [if_neg (by omega), if_neg (by omega)]
    go_enter Tryd.func61, Tryd.ntmps61
    go_wp2
    go_ret
    exact ⟨ret_int (by rw [HE.out]), rfl⟩
def pairsD : List UInt8 → Option (List Int)
  | [] => some []
  | [_] => none
  | h :: l :: r => if sdig h > 15 ∨ sdig l > 15 then none else (pairsD r).map fun R => (16 * sdig h + sdig l) :: R
def lineB (s : ByteArray) : Option (List Int) := if s.size < 11 ∨ s.size % 2 = 0 ∨ s.data.toList.getD 0 0 ≠ 58 then none else pairsD (s.data.toList.drop 1)
theorem pairsD_bytes : ∀ (l : List UInt8) (L : List Int), pairsD l = some L → (∀ b ∈ L, 0 ≤ b ∧ b ≤ 255) ∧ l.length = 2 * L.length
  | [], L, h => by cases h; simp
  | [_], L, h => by cases h
  | h :: l :: r, L, hL => by
    unfold pairsD at hL
    split at hL
    · cases hL
    · rename_i hb
      cases hp : pairsD r with
      | none => rw [hp] at hL; cases hL
      | some R =>
        rw [hp] at hL
        cases hL
        obtain ⟨h1, h2⟩ := pairsD_bytes r R hp
        have d1 := sdig_bd h
        have d2 := sdig_bd l
        refine ⟨fun b hb' => ?_, by simp; omega⟩
        rcases List.mem_cons.1 hb' with rfl | hb'
        · omega
        · exact h1 b hb'
def byE (o : Option (List Int)) (B : Nat) (e : Ending) (w' : World) : Prop := (o = none ∧ e = .returned (.tuple #[.slice none 0 0, .bool false])) ∨ ∃ L v, o = some L ∧ e = .returned (.tuple #[v, .bool true]) ∧ OwnI w' B v L
set_option maxRecDepth 100000 in
set_option maxHeartbeats 1600000 in
theorem lineB_spec (s : ByteArray) (w : World) (hs : s.size ≤ 100000) : Calls Tryd.prog 40 #[.string s] w fun e w' => byE (lineB s) w.heap.size e w' ∧ Below w.heap.size w w' := by
  obtain ⟨i0, hi, hz0, hz1, hz2⟩ := info_parts infoI
  by_cases h11 : s.size < 11
  · have HE : Hid (lineB s = none) := if_pos (.inl h11)
    go_enter Tryd.func40, Tryd.ntmps40
    go_wp2
    go_ret2
    exact ⟨.inl ⟨HE.out, rfl⟩, Below.refl _ _⟩
  by_cases h2 : s.size % 2 = 0
  · have HE : Hid (lineB s = none) := if_pos (.inr (.inl h2))
    have h2' : ((s.size : Int) % 2 == 0) = true := by rw [beq_iff_eq]; omega
    clear h2
    go_enter Tryd.func40, Tryd.ntmps40
    go_wp2
    go_ret2
    exact ⟨.inl ⟨HE.out, rfl⟩, Below.refl _ _⟩
  have h2' : ((s.size : Int) % 2 == 0) = false := by rw [beq_eq_false_iff_ne]; omega
  have hg0 : s.data.toList.getD 0 0 = s[0]'(by omega) := by
    have hl : 0 < s.data.toList.length := by rw [← Lib.size_eq]; omega
    rw [List.getD_eq_getElem?_getD, List.getElem?_eq_getElem hl]; rfl
  by_cases h58 : s[0]'(by omega) = 58
  · have HE : Hid (lineB s = pairsD (s.data.toList.drop 1)) := if_neg (by rw [hg0, h58]; simp; omega)
    have h58' : ((s[0]'(by omega)).toNat : Int) = 58 := by rw [h58]; rfl
    have HODD : Hid (s.size % 2 = 1) := by show _ = _; omega
    have hlen : s.data.toList.length = s.size := (Lib.size_eq s).symm
    have HLEN : Hid (_ = _) := hlen
    clear hg0 h58 h2 hlen
    go_enter Tryd.func40, Tryd.ntmps40
    go_wp2
    go_loopw [4, 5] (fun v iv wr => ∃ (i k : Nat) (R : List Int), i ≤ s.size ∧ iv = .int .i64 i ∧ 1 ≤ i ∧ R.length ≤ 60000 ∧ Hid (i = 1 + 2 * k) ∧ Hid (R.length = k) ∧ Hid (pairsD (s.data.toList.drop 1) = (pairsD (s.data.toList.drop i)).map fun Q => R ++ Q) ∧ Hid (OwnI wr w.heap.size v R) ∧ Hid (Below w.heap.size w wr)) (fun _ iv _ => s.size - (intOf iv).toNat)
    case atStart => exact ⟨1, 0, [], by omega, rfl, by omega, by simp, rfl, rfl, by show _ = _; simp, OwnI.mk (Nat.le_refl _) (heap_alloc_new w _) (by simp) (by simp [maxLen]) rfl (fun i hi => by simp at hi), below_new _ _⟩
    case round =>
      obtain ⟨i, k, R, his, rfl, hi1, hR, HK, HRL, HP, HO, HB⟩ := hrel
      have hsz := HB.out.size
      by_cases hlt : i < s.size
      · have hlt2 : i + 1 < s.size := by have h1 := HODD.out; have h2 := HK.out; omega
        have HD : Hid (s.data.toList.drop i = s[i] :: s[i + 1] :: s.data.toList.drop (i + 2)) := by
          show _ = _
          rw [List.drop_eq_getElem_cons (by rw [HLEN.out]; exact hlt), List.drop_eq_getElem_cons (by rw [HLEN.out]; exact hlt2)]
          rfl
        have hi0 : (0 : Int) ≤ (i : Int) := by omega
        have hii : (i : Int) < (s.size : Int) := by omega
        have hij : (i : Int) + 1 < (s.size : Int) := by omega
        obtain ⟨a0, a1⟩ := sdig_bd s[i]
        obtain ⟨b0, b1⟩ := sdig_bd s[i + 1]
        by_cases hbad : sdig s[i] > 15 ∨ sdig s[i + 1] > 15
        · have HNO : Hid (pairsD (s.data.toList.drop 1) = none) := by show _ = _; rw [HP.out, HD.out, pairsD, if_pos hbad]; rfl
          have HBAD : Hid (_ ∨ _) := hbad
          clear hbad
          go_wp2_with fail
          refine (digit_spec s[i] _).mono ?_
          rintro e y ⟨rfl, rfl⟩
          go_wp2_with fail
          refine (digit_spec s[i + 1] _).mono ?_
          rintro e y ⟨rfl, rfl⟩
          by_cases h1 : 15 < sdig s[i]
          · go_wp2
            go_ret2
            exact ⟨.inl ⟨by rw [HE.out, HNO.out], rfl⟩, HB.out⟩
          · have h2 : 15 < sdig s[i + 1] := by have := HBAD.out; omega
            go_wp2
            go_ret2
            exact ⟨.inl ⟨by rw [HE.out, HNO.out], rfl⟩, HB.out⟩
        · have HOK : Hid (pairsD (s.data.toList.drop i) = (pairsD (s.data.toList.drop (i + 2))).map fun Q => (16 * sdig s[i] + sdig s[i + 1]) :: Q) := by show _ = _; rw [HD.out, pairsD, if_neg hbad]
          have h1 : ¬ 15 < sdig s[i] := by omega
          have h2 : ¬ 15 < sdig s[i + 1] := by omega
          have HRE : Hid (R.length = k) := HRL.out
          clear hbad
          go_wp2_with fail
          refine (digit_spec s[i] _).mono ?_
          rintro e y ⟨rfl, rfl⟩
          go_wp2_with fail
          refine (digit_spec s[i + 1] _).mono ?_
          rintro e y ⟨rfl, rfl⟩
          go_wp2_with (at_builtin; refine wpList_append_own _ rfl (.tmp 44) (.tmp 49) 23 rfl w.heap.size 2 i0 (.int .i64 0) 1 8 Tryd.underlying23 hi hz0 hz1 hz2 rfl (by decide) _ R.length (cellsI R) rfl (HO.out.alloc _) ⟨_, 0, none⟩ 1 1 [.int .i64 (16 * sdig s[i] + sdig s[i + 1])] rfl rfl (cell_one_new _ _ _) (one_cellI _) (by unfold maxLen; omega) (by omega) (by simp; omega) ?_; intro v2 w2 hown2 hgrow2 _)
          have HO2 : Hid (OwnI w2 w.heap.size v2 (R ++ [16 * sdig s[i] + sdig s[i + 1]])) := OwnI.moreL (M := [16 * sdig s[i] + sdig s[i + 1]]) hown2
          have HB2 : Hid (Below w.heap.size w w2) := (below_more HB.out _).grown hgrow2 (by simp; omega) (fun q hq => (HO.out.lt q hq).1)
          clear hown2 hgrow2
          go_roundw
          case rel => exact ⟨i + 2, k + 1, R ++ [16 * sdig s[i] + sdig s[i + 1]], by omega, by go_num, by omega, by have := HRL.out; have := HK.out; simp; omega, by have := HK.out; show _ = _; omega, by have := HRL.out; show _ = _; simp; omega, by show _ = _; rw [HP.out, HOK.out]; cases pairsD (s.data.toList.drop (i + 2)) <;> simp, HO2.out, HB2.out⟩
          case measure => simp [intOf]; omega
      · obtain rfl : i = s.size := by omega
        have HPE : Hid (pairsD (s.data.toList.drop 1) = some R) := by
          show _ = _
          rw [HP.out, List.drop_eq_nil_of_le (by rw [HLEN.out]; omega)]
          simp [pairsD]
        go_wp2
        go_ret2
        exact ⟨.inr ⟨R, _, by rw [HE.out, HPE.out], rfl, HO.out⟩, HB.out⟩
  · have HE : Hid (lineB s = none) := if_pos (.inr (.inr (by rw [hg0]; exact h58)))
    have h58' : (((s[0]'(by omega)).toNat : Int) != 58) = true := by
      rw [bne_iff_ne]
      intro h
      apply h58
      exact UInt8.toNat_inj.1 (show (s[0]'(by omega)).toNat = 58 by omega)
    clear hg0 h58 h2
    go_enter Tryd.func40, Tryd.ntmps40
    go_wp2
    go_ret2
    exact ⟨.inl ⟨HE.out, rfl⟩, Below.refl _ _⟩
end Go.Proofs.YtfmeickglipimaaDoor
