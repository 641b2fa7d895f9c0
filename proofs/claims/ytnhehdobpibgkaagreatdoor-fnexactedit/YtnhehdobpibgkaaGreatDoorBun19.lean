/- l01Split of the specification, at a line feed. -/
import Derived.Test.YtnhehdobpibgkaaGreatDoorRows
import Derived.WalkKit
import Derived.WalkSpells
import Derived.WalkLawsBesides
import Derived.Test.YtnhehdobpibgkaaGreatDoorBun0
import Derived.Test.YtnhehdobpibgkaaGreatDoorBun1
import Derived.Test.YtnhehdobpibgkaaGreatDoorBun17
import Derived.Test.YtnhehdobpibgkaaGreatDoorBun2
import Derived.Test.YtnhehdobpibgkaaGreatDoorBun11
namespace Go.Proofs.YtnhehdobpibgkaaGreatDoor
open Go.RowKit
set_option linter.unusedVariables false

theorem OwnS.moreQ {w : World} {B : Nat} {v : Value} {L : List ByteArray} {x : ByteArray} (h : w.ownsRow B 9 1 v (L.length + 1) (cellsS L ++ [.string x])) : OwnS w B v (L ++ [x]) := by
  unfold OwnS
  rw [List.length_append, List.length_singleton]
  simpa [cellsS] using h
theorem drop_at {l : List UInt8} {f i : Nat} (hf : f ≤ i) (hi : i < l.length) : l.drop f = (l.drop f).take (i - f) ++ l[i] :: l.drop (i + 1) := by
  conv => lhs; rw [← List.take_append_drop (i - f) (l.drop f)]
  rw [List.drop_drop, show f + (i - f) = i by omega, List.drop_eq_getElem_cons hi]
theorem take_one {l : List UInt8} {f i : Nat} (hf : f ≤ i) (hi : i < l.length) : (l.drop f).take (i + 1 - f) = (l.drop f).take (i - f) ++ [l[i]] := by
  have h : i - f < (l.drop f).length := by simp; omega
  rw [show i + 1 - f = (i - f) + 1 by omega, List.take_succ_eq_append_getElem h]
  congr 2
  simp [show f + (i - f) = i by omega]
theorem piece_eq (s : ByteArray) (f i : Nat) : s.extract f i = textL ((s.data.toList.drop f).take (i - f)) := by
  apply ByteArray.ext
  apply Array.toList_inj.1
  simp [textL, ByteArray.data_extract, List.extract_eq_take_drop]
set_option maxRecDepth 100000 in
set_option maxHeartbeats 1600000 in
theorem split_spec (s : ByteArray) (w : World) (hs : s.size ≤ 100000) : Calls Tryz.prog 75 #[.string s, .int .u8 10] w fun e w' => (∃ v, e = .returned v ∧ OwnS w' w.heap.size v ((splitL s.data.toList).map textL)) ∧ Below w.heap.size w w' := by
  obtain ⟨i0, hi, hz0, hz1, hz2⟩ := info_parts infoS
  have hlen : s.data.toList.length = s.size := (Lib.size_eq s).symm
  have HLEN : Hid (_ = _) := hlen
  clear hlen
  go_enter Tryz.func75, Tryz.ntmps75
  go_wp2
  go_loopw [5, 6, 7] (fun v fv iv wr => ∃ (f i : Nat) (T : List ByteArray), f ≤ i ∧ i ≤ s.size ∧ fv = .int .i64 f ∧ iv = .int .i64 i ∧ T.length ≤ f ∧ Hid ((splitL s.data.toList).map textL = T ++ (splitL (s.data.toList.drop f)).map textL) ∧ Hid ((10 : UInt8) ∉ (s.data.toList.drop f).take (i - f)) ∧ Hid (OwnS wr w.heap.size v T) ∧ Hid (Below w.heap.size w wr)) (fun _ _ iv _ => s.size - (intOf iv).toNat)
  case atStart => exact ⟨0, 0, [], by omega, by omega, rfl, rfl, by simp, by show _ = _; simp, by show _ ∉ _; simp, OwnS.mk (Nat.le_refl _) (heap_alloc_new w _) (by simp) (by simp [maxLen]) rfl (fun i hi => by simp at hi), below_new _ _⟩
  case round =>
    obtain ⟨f, i, T, hfi, his, rfl, rfl, hT, HE, HN, HO, HB⟩ := hrel
    have hsz := HB.out.size
    by_cases hlt : i < s.size
    · have hil : i < s.data.toList.length := by rw [HLEN.out]; exact hlt
      have HD : Hid (_ = _) := drop_at hfi hil
      have HTK : Hid (_ = _) := take_one hfi hil
      have hgc : s.data.toList[i] = s[i] := rfl
      by_cases h10 : s[i] = 10
      · have H10 : Hid (s.data.toList[i] = 10) := by show _ = _; rw [hgc, h10]
        have HP : Hid (s.extract f i = textL ((s.data.toList.drop f).take (i - f))) := piece_eq s f i
        have hb10 : ((s[i].toNat : Int) == 10) = true := by rw [h10]; rfl
        have hf0 : (0 : Int) ≤ (f : Int) := by omega
        have hfi' : (f : Int) ≤ (i : Int) := by omega
        have his' : (i : Int) ≤ (s.size : Int) := by omega
        clear hgc h10
        go_wp2_with (at_builtin; refine wpList_append_own _ rfl (.tmp 20) (.tmp 25) 79 rfl w.heap.size 9 i0 (.string ⟨#[]⟩) 1 16 Tryz.underlying79 hi hz0 hz1 hz2 rfl (by decide) _ T.length (cellsS T) rfl (HO.out.alloc _) ⟨wr.heap.size, 0, none⟩ 1 1 [.string (s.extract f i)] rfl rfl (cell_one_new _ _ _) (one_cellS _) (by unfold maxLen; omega) (by omega) (by simp; omega) ?_; intro v2 w2 hown2 hgrow2 _)
        have HO2 : Hid (OwnS w2 w.heap.size v2 (T ++ [s.extract f i])) := OwnS.moreQ hown2
        have HB2 : Hid (Below w.heap.size w w2) := (below_more HB.out _).grown hgrow2 (by simp; omega) (fun q hq => (HO.out.lt q hq).1)
        clear hown2 hgrow2
        go_roundw
        case rel =>
          refine ⟨i + 1, i + 1, T ++ [s.extract f i], by omega, by omega, by go_num, by go_num, by simp; omega, ?_, by show _ ∉ _; simp, HO2.out, HB2.out⟩
          show _ = _
          rw [HE.out, HD.out, H10.out, splitL_some _ _ HN.out, HP.out]
          simp
        case measure => simp [intOf]; omega
      · have hb10 : ((s[i].toNat : Int) == 10) = false := by
          rw [beq_eq_false_iff_ne]
          intro h
          apply h10
          have h2 : s[i].toNat = 10 := by omega
          exact UInt8.toNat_inj.1 h2
        have H10 : Hid (¬ s.data.toList[i] = 10) := by show ¬ _; rw [hgc]; exact h10
        clear hgc h10
        go_wp2
        go_roundw
        case rel =>
          refine ⟨f, i + 1, T, by omega, by omega, rfl, by go_num, by omega, HE.out, ?_, HO.out, HB.out⟩
          show _ ∉ _
          rw [HTK.out]
          intro h
          rcases List.mem_append.1 h with h | h
          · exact HN.out h
          · exact H10.out (List.mem_singleton.1 h).symm
        case measure => simp [intOf]; omega
    · obtain rfl : i = s.size := by omega
      have HP : Hid (s.extract f s.size = textL (s.data.toList.drop f)) := by
        show _ = _
        rw [piece_eq s f s.size, List.take_of_length_le (by simp)]
      have HL2 : Hid (splitL (s.data.toList.drop f) = [s.data.toList.drop f]) := by
        have h := HN.out
        rw [List.take_of_length_le (by simp)] at h
        exact splitL_none _ h
      have hf0 : (0 : Int) ≤ (f : Int) := by omega
      have hfi' : (f : Int) ≤ (s.size : Int) := by omega
      go_wp2_with (at_builtin; refine wpList_append_own _ rfl (.tmp 29) (.tmp 33) 79 rfl w.heap.size 9 i0 (.string ⟨#[]⟩) 1 16 Tryz.underlying79 hi hz0 hz1 hz2 rfl (by decide) _ T.length (cellsS T) rfl (HO.out.alloc _) ⟨wr.heap.size, 0, none⟩ 1 1 [.string (s.extract f s.size)] rfl rfl (cell_one_new _ _ _) (one_cellS _) (by unfold maxLen; omega) (by omega) (by simp; omega) ?_; intro v2 w2 hown2 hgrow2 _)
      have HO2 : Hid (OwnS w2 w.heap.size v2 (T ++ [s.extract f s.size])) := OwnS.moreQ hown2
      have HB2 : Hid (Below w.heap.size w w2) := (below_more HB.out _).grown hgrow2 (by simp; omega) (fun q hq => (HO.out.lt q hq).1)
      clear hown2 hgrow2
      go_ret
      refine ⟨⟨_, rfl, ?_⟩, HB2.out⟩
      rw [HE.out, HL2.out]
      have h := HO2.out
      rw [HP.out] at h
      exact h
end Go.Proofs.YtnhehdobpibgkaaGreatDoor
namespace Go.Proofs.YtnhehdobpibgkaaGreatDoor
open Go.RowKit
set_option linter.unusedVariables false

def sdig (c : UInt8) : Int := if 48 ≤ c.toNat ∧ c.toNat ≤ 57 then (c.toNat : Int) - 48 else if 65 ≤ c.toNat ∧ c.toNat ≤ 70 then (c.toNat : Int) - 65 + 10 else 16
theorem sdig_bd (c : UInt8) : 0 ≤ sdig c ∧ sdig c ≤ 16 := by
  unfold sdig
  split
  · omega
  · split <;> omega
set_option maxHeartbeats 1600000 in
theorem digit_spec (c : UInt8) (w : World) : Calls Tryz.prog 86 #[.int .u8 (c.toNat : Int)] w fun e w' => e = .returned (.int .i64 (sdig c)) ∧ w' = w := by
  have hc := c.toNat_lt
  by_cases h1 : 48 ≤ c.toNat
  · by_cases h2 : c.toNat ≤ 57
    · have HE : Hid (sdig c = (c.toNat : Int) - 48) := by show _ = _; unfold sdig; rw [if_pos ⟨h1, h2⟩]
      go_enter Tryz.func86, Tryz.ntmps86
      go_wp2
      go_ret
      exact ⟨ret_int (by rw [HE.out]), rfl⟩
    · by_cases h3 : 65 ≤ c.toNat
      · by_cases h4 : c.toNat ≤ 70
        · have HE : Hid (sdig c = (c.toNat : Int) - 65 + 10) := by show _ = _; unfold sdig; rw [if_neg (by omega), if_pos ⟨h3, h4⟩]
          go_enter Tryz.func86, Tryz.ntmps86
          go_wp2
          go_ret
          exact ⟨ret_int (by rw [HE.out]), rfl⟩
        · have HE : Hid (sdig c = 16) := by show _ = _; unfold sdig; rw [if_neg (by omega), if_neg (by omega)]
          go_enter Tryz.func86, Tryz.ntmps86
          go_wp2
          go_ret
          exact ⟨ret_int (by rw [HE.out]), rfl⟩
      · have HE : Hid (sdig c = 16) := by show _ = _; unfold sdig; rw [if_neg (by omega), if_neg (by omega)]
        go_enter Tryz.func86, Tryz.ntmps86
        go_wp2
        go_ret
        exact ⟨ret_int (by rw [HE.out]), rfl⟩
  · have HE : Hid (sdig c = 16) := by show _ = _; unfold sdig; rw [if_neg (by omega), if_neg (by omega)]
    go_enter Tryz.func86, Tryz.ntmps86
    go_wp2
    go_ret
    exact ⟨ret_int (by rw [HE.out]), rfl⟩
def pairsD : List UInt8 → Option (List Int)
  | [] => some []
  | [_] => none
  | h :: l :: r => if sdig h > 15 ∨ sdig l > 15 then none else (pairsD r).map fun R => (16 * sdig h + sdig l) :: R
def lineB (s : ByteArray) : Option (List Int) := if s.size < 11 ∨ s.size % 2 = 0 ∨ s.data.toList.getD 0 0 ≠ 58 then none else pairsD (s.data.toList.drop 1)
theorem pairsD_bytes : ∀ (l : List UInt8) (L : List Int), pairsD l = some L → (∀ b ∈ L, 0 ≤ b ∧ b ≤ 255) ∧ l.length = 2 * L.length
  | [], L, h => by cases h; simp
  | [_], L, h => by cases h
  | h :: l :: r, L, hL => by
    unfold pairsD at hL
    split at hL
    · cases hL
    · rename_i hb
      cases hp : pairsD r with
      | none => rw [hp] at hL; cases hL
      | some R =>
        rw [hp] at hL
        cases hL
        obtain ⟨h1, h2⟩ := pairsD_bytes r R hp
        have d1 := sdig_bd h
        have d2 := sdig_bd l
        refine ⟨fun b hb' => ?_, by simp; omega⟩
        rcases List.mem_cons.1 hb' with rfl | hb'
        · omega
        · exact h1 b hb'
def byE (o : Option (List Int)) (B : Nat) (e : Ending) (w' : World) : Prop := (o = none ∧ e = .returned (.tuple #[.slice none 0 0, .bool false])) ∨ ∃ L v, o = some L ∧ e = .returned (.tuple #[v, .bool true]) ∧ OwnI w' B v L
set_option maxRecDepth 100000 in
set_option maxHeartbeats 1600000 in
theorem lineB_spec (s : ByteArray) (w : World) (hs : s.size ≤ 100000) : Calls Tryz.prog 76 #[.string s] w fun e w' => byE (lineB s) w.heap.size e w' ∧ Below w.heap.size w w' := by
  obtain ⟨i0, hi, hz0, hz1, hz2⟩ := info_parts infoI
  by_cases h11 : s.size < 11
  · have HE : Hid (lineB s = none) := if_pos (.inl h11)
    go_enter Tryz.func76, Tryz.ntmps76
    go_wp2
    go_ret2
    exact ⟨.inl ⟨HE.out, rfl⟩, Below.refl _ _⟩
  by_cases h2 : s.size % 2 = 0
  · have HE : Hid (lineB s = none) := if_pos (.inr (.inl h2))
    have h2' : ((s.size : Int) % 2 == 0) = true := by rw [beq_iff_eq]; omega
    clear h2
    go_enter Tryz.func76, Tryz.ntmps76
    go_wp2
    go_ret2
    exact ⟨.inl ⟨HE.out, rfl⟩, Below.refl _ _⟩
  have h2' : ((s.size : Int) % 2 == 0) = false := by rw [beq_eq_false_iff_ne]; omega
  have hg0 : s.data.toList.getD 0 0 = s[0]'(by omega) := by
    have hl : 0 < s.data.toList.length := by rw [← Lib.size_eq]; omega
    rw [List.getD_eq_getElem?_getD, List.getElem?_eq_getElem hl]; rfl
  by_cases h58 : s[0]'(by omega) = 58
  · have HE : Hid (lineB s = pairsD (s.data.toList.drop 1)) := if_neg (by rw [hg0, h58]; simp; omega)
    have h58' : ((s[0]'(by omega)).toNat : Int) = 58 := by rw [h58]; rfl
    have HODD : Hid (s.size % 2 = 1) := by show _ = _; omega
    have hlen : s.data.toList.length = s.size := (Lib.size_eq s).symm
    have HLEN : Hid (_ = _) := hlen
    clear hg0 h58 h2 hlen
    go_enter Tryz.func76, Tryz.ntmps76
    go_wp2
    go_loopw [4, 5] (fun v iv wr => ∃ (i k : Nat) (R : List Int), i ≤ s.size ∧ iv = .int .i64 i ∧ 1 ≤ i ∧ R.length ≤ 60000 ∧ Hid (i = 1 + 2 * k) ∧ Hid (R.length = k) ∧ Hid (pairsD (s.data.toList.drop 1) = (pairsD (s.data.toList.drop i)).map fun Q => R ++ Q) ∧ Hid (OwnI wr w.heap.size v R) ∧ Hid (Below w.heap.size w wr)) (fun _ iv _ => s.size - (intOf iv).toNat)
    case atStart => exact ⟨1, 0, [], by omega, rfl, by omega, by simp, rfl, rfl, by show _ = _; simp, OwnI.mk (Nat.le_refl _) (heap_alloc_new w _) (by simp) (by simp [maxLen]) rfl (fun i hi => by simp at hi), below_new _ _⟩
    case round =>
      obtain ⟨i, k, R, his, rfl, hi1, hR, HK, HRL, HP, HO, HB⟩ := hrel
      have hsz := HB.out.size
      by_cases hlt : i < s.size
      · have hlt2 : i + 1 < s.size := by have h1 := HODD.out; have h2 := HK.out; omega
        have HD : Hid (s.data.toList.drop i = s[i] :: s[i + 1] :: s.data.toList.drop (i + 2)) := by
          show _ = _
          rw [List.drop_eq_getElem_cons (by rw [HLEN.out]; exact hlt), List.drop_eq_getElem_cons (by rw [HLEN.out]; exact hlt2)]
          rfl
        have hi0 : (0 : Int) ≤ (i : Int) := by omega
        have hii : (i : Int) < (s.size : Int) := by omega
        have hij : (i : Int) + 1 < (s.size : Int) := by omega
        obtain ⟨a0, a1⟩ := sdig_bd s[i]
        obtain ⟨b0, b1⟩ := sdig_bd s[i + 1]
        by_cases hbad : sdig s[i] > 15 ∨ sdig s[i + 1] > 15
        · have HNO : Hid (pairsD (s.data.toList.drop 1) = none) := by show _ = _; rw [HP.out, HD.out, pairsD, if_pos hbad]; rfl
          have HBAD : Hid (_ ∨ _) := hbad
          clear hbad
          go_wp2_with fail
          refine (digit_spec s[i] _).mono ?_
          rintro e y ⟨rfl, rfl⟩
          go_wp2_with fail
          refine (digit_spec s[i + 1] _).mono ?_
          rintro e y ⟨rfl, rfl⟩
          by_cases h1 : 15 < sdig s[i]
          · go_wp2
            go_ret2
            exact ⟨.inl ⟨by rw [HE.out, HNO.out], rfl⟩, HB.out⟩
          · have h2 : 15 < sdig s[i + 1] := by have := HBAD.out; omega
            go_wp2
            go_ret2
            exact ⟨.inl ⟨by rw [HE.out, HNO.out], rfl⟩, HB.out⟩
        · have HOK : Hid (pairsD (s.data.toList.drop i) = (pairsD (s.data.toList.drop (i + 2))).map fun Q => (16 * sdig s[i] + sdig s[i + 1]) :: Q) := by show _ = _; rw [HD.out, pairsD, if_neg hbad]
          have h1 : ¬ 15 < sdig s[i] := by omega
          have h2 : ¬ 15 < sdig s[i + 1] := by omega
          have HRE : Hid (R.length = k) := HRL.out
          clear hbad
          go_wp2_with fail
          refine (digit_spec s[i] _).mono ?_
          rintro e y ⟨rfl, rfl⟩
          go_wp2_with fail
          refine (digit_spec s[i + 1] _).mono ?_
          rintro e y ⟨rfl, rfl⟩
          go_wp2_with (at_builtin; refine wpList_append_own _ rfl (.tmp 44) (.tmp 49) 88 rfl w.heap.size 2 i0 (.int .i64 0) 1 8 Tryz.underlying88 hi hz0 hz1 hz2 rfl (by decide) _ R.length (cellsI R) rfl (HO.out.alloc _) ⟨_, 0, none⟩ 1 1 [.int .i64 (16 * sdig s[i] + sdig s[i + 1])] rfl rfl (cell_one_new _ _ _) (one_cellI _) (by unfold maxLen; omega) (by omega) (by simp; omega) ?_; intro v2 w2 hown2 hgrow2 _)
          have HO2 : Hid (OwnI w2 w.heap.size v2 (R ++ [16 * sdig s[i] + sdig s[i + 1]])) := OwnI.moreL (M := [16 * sdig s[i] + sdig s[i + 1]]) hown2
          have HB2 : Hid (Below w.heap.size w w2) := (below_more HB.out _).grown hgrow2 (by simp; omega) (fun q hq => (HO.out.lt q hq).1)
          clear hown2 hgrow2
          go_roundw
          case rel => exact ⟨i + 2, k + 1, R ++ [16 * sdig s[i] + sdig s[i + 1]], by omega, by go_num, by omega, by have := HRL.out; have := HK.out; simp; omega, by have := HK.out; show _ = _; omega, by have := HRL.out; show _ = _; simp; omega, by show _ = _; rw [HP.out, HOK.out]; cases pairsD (s.data.toList.drop (i + 2)) <;> simp, HO2.out, HB2.out⟩
          case measure => simp [intOf]; omega
      · obtain rfl : i = s.size := by omega
        have HPE : Hid (pairsD (s.data.toList.drop 1) = some R) := by
          show _ = _
          rw [HP.out, List.drop_eq_nil_of_le (by rw [HLEN.out]; omega)]
          simp [pairsD]
        go_wp2
        go_ret2
        exact ⟨.inr ⟨R, _, by rw [HE.out, HPE.out], rfl, HO.out⟩, HB.out⟩
  · have HE : Hid (lineB s = none) := if_pos (.inr (.inr (by rw [hg0]; exact h58)))
    have h58' : (((s[0]'(by omega)).toNat : Int) != 58) = true := by
      rw [bne_iff_ne]
      intro h
      apply h58
      exact UInt8.toNat_inj.1 (show (s[0]'(by omega)).toNat = 58 by omega)
    clear hg0 h58 h2
    go_enter Tryz.func76, Tryz.ntmps76
    go_wp2
    go_ret2
    exact ⟨.inl ⟨HE.out, rfl⟩, Below.refl _ _⟩
end Go.Proofs.YtnhehdobpibgkaaGreatDoor
