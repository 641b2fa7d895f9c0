/- l01Split of the specification, at a line feed. -/
import Derived.Test.YtfmeickglipimaaDoorRows
import Derived.WalkKit
import Derived.WalkSpells
import Derived.WalkLawsBesides
import Derived.Test.YtfmeickglipimaaDoorBase
import Derived.Test.YtfmeickglipimaaDoorRes2
import Derived.Test.YtfmeickglipimaaDoorOwnS
import Derived.Test.YtfmeickglipimaaDoorLinesM
namespace Go.Proofs.YtfmeickglipimaaDoor
open Go.RowKit
set_option linter.unusedVariables false

theorem OwnS.moreQ {w : World} {B : Nat} {v : Value} {L : List ByteArray} {x : ByteArray} (h : w.ownsRow B 9 1 v (L.length + 1) (cellsS L ++ [.string x])) : OwnS w B v (L ++ [x]) := by
  unfold OwnS
  rw [List.length_append, List.length_singleton]
  simpa [cellsS] using h
theorem drop_at {l : List UInt8} {f i : Nat} (hf : f ≤ i) (hi : i < l.length) : l.drop f = (l.drop f).take (i - f) ++ l[i] :: l.drop (i + 1) := by
  conv => lhs; rw [← List.take_append_drop (i - f) (l.drop f)]
  rw [List.drop_drop, show f + (i - f) = i by omega, List.drop_eq_getElem_cons hi]
theorem take_one {l : List UInt8} {f i : Nat} (hf : f ≤ i) (hi : i < l.length) : (l.drop f).take (i + 1 - f) = (l.drop f).take (i - f) ++ [l[i]] := by
  have h : i - f < (l.drop f).length := by simp; omega
  rw [show i + 1 - f = (i - f) + 1 by omega, List.take_succ_eq_append_getElem h]
  congr 2
  simp [show f + (i - f) = i by omega]
theorem piece_eq (s : ByteArray) (f i : Nat) : s.extract f i = textL ((s.data.toList.drop f).take (i - f)) := by
  apply ByteArray.ext
  apply Array.toList_inj.1
  simp [textL, ByteArray.data_extract, List.extract_eq_take_drop]
set_option maxRecDepth 100000 in
set_option maxHeartbeats 1600000 in
theorem split_spec (s : ByteArray) (w : World) (hs : s.size ≤ 100000) : Calls Tryd.prog 39 #[.string s, .int .u8 10] w fun e w' => (∃ v, e = .returned v ∧ OwnS w' w.heap.size v ((splitL s.data.toList).map textL)) ∧ Below w.heap.size w w' := by
  obtain ⟨i0, hi, hz0, hz1, hz2⟩ := info_parts infoS
  have hlen : s.data.toList.length = s.size := (Lib.size_eq s).symm
  have HLEN : Hid (_ = _) := hlen
  clear hlen
  go_enter Tryd.func39, Tryd.ntmps39
  go_wp2
  go_loopw [5, 6, 7] (fun v fv iv wr => ∃ (f i : Nat) (T : List ByteArray), f ≤ i ∧ i ≤ s.size ∧ fv = .int .i64 f ∧ iv = .int .i64 i ∧ T.length ≤ f ∧ Hid ((splitL s.data.toList).map textL = T ++ (splitL (s.data.toList.drop f)).map textL) ∧ Hid ((10 : UInt8) ∉ (s.data.toList.drop f).take (i - f)) ∧ Hid (OwnS wr w.heap.size v T) ∧ Hid (Below w.heap.size w wr)) (fun _ _ iv _ => s.size - (intOf iv).toNat)
  case atStart => exact ⟨0, 0, [], by omega, by omega, rfl, rfl, by simp, by show _ = _; simp, by show _ ∉ _; simp, OwnS.mk (Nat.le_refl _) (heap_alloc_new w _) (by simp) (by simp [maxLen]) rfl (fun i hi => by simp at hi), below_new _ _⟩
  case round =>
    obtain ⟨f, i, T, hfi, his, rfl, rfl, hT, HE, HN, HO, HB⟩ := hrel
    have hsz := HB.out.size
    by_cases hlt : i < s.size
    · have hil : i < s.data.toList.length := by rw [HLEN.out]; exact hlt
      have HD : Hid (_ = _) := drop_at hfi hil
      have HTK : Hid (_ = _) := take_one hfi hil
      have hgc : s.data.toList[i] = s[i] := rfl
      by_cases h10 : s[i] = 10
      · have H10 : Hid (s.data.toList[i] = 10) := by show _ = _; rw [hgc, h10]
        have HP : Hid (s.extract f i = textL ((s.data.toList.drop f).take (i - f))) := piece_eq s f i
        have hb10 : ((s[i].toNat : Int) == 10) = true := by rw [h10]; rfl
        have hf0 : (0 : Int) ≤ (f : Int) := by omega
        have hfi' : (f : Int) ≤ (i : Int) := by omega
        have his' : (i : Int) ≤ (s.size : Int) := by omega
        clear hgc h10
        go_wp2_with (at_builtin; refine wpList_append_own _ rfl (.tmp 20) (.tmp 25) 53 rfl w.heap.size 9 i0 (.string ⟨#[]⟩) 1 16 Tryd.underlying53 hi hz0 hz1 hz2 rfl (by decide) _ T.length (cellsS T) rfl (HO.out.alloc _) ⟨wr.heap.size, 0, none⟩ 1 1 [.string (s.extract f i)] rfl rfl (cell_one_new _ _ _) (one_cellS _) (by unfold maxLen; omega) (by omega) (by simp; omega) ?_; intro v2 w2 hown2 hgrow2 _)
        have HO2 : Hid (OwnS w2 w.heap.size v2 (T ++ [s.extract f i])) := OwnS.moreQ hown2
        have HB2 : Hid (Below w.heap.size w w2) := (below_more HB.out _).grown hgrow2 (by simp; omega) (fun q hq => (HO.out.lt q hq).1)
        clear hown2 hgrow2
        go_roundw
        case rel =>
          refine ⟨i + 1, i + 1, T ++ [s.extract f i], by omega, by omega, by go_num, by go_num, by simp; omega, ?_, by show _ ∉ _; simp, HO2.out, HB2.out⟩
          show _ = _
          rw [HE.out, HD.out, H10.out, splitL_some _ _ HN.out, HP.out]
          simp
        case measure => simp [intOf]; omega
      · have hb10 : ((s[i].toNat : Int) == 10) = false := by
          rw [beq_eq_false_iff_ne]
          intro h
          apply h10
          have h2 : s[i].toNat = 10 := by omega
          exact UInt8.toNat_inj.1 h2
        have H10 : Hid (¬ s.data.toList[i] = 10) := by show ¬ _; rw [hgc]; exact h10
        clear hgc h10
        go_wp2
        go_roundw
        case rel =>
          refine ⟨f, i + 1, T, by omega, by omega, rfl, by go_num, by omega, HE.out, ?_, HO.out, HB.out⟩
          show _ ∉ _
          rw [HTK.out]
          intro h
          rcases List.mem_append.1 h with h | h
          · exact HN.out h
          · exact H10.out (List.mem_singleton.1 h).symm
        case measure => simp [intOf]; omega
    · obtain rfl : i = s.size := by omega
      have HP : Hid (s.extract f s.size = textL (s.data.toList.drop f)) := by
        show _ = _
        rw [piece_eq s f s.size, List.take_of_length_le (by simp)]
      have HL2 : Hid (splitL (s.data.toList.drop f) = [s.data.toList.drop f]) := by
        have h := HN.out
        rw [List.take_of_length_le (by simp)] at h
        exact splitL_none _ h
      have hf0 : (0 : Int) ≤ (f : Int) := by omega
      have hfi' : (f : Int) ≤ (s.size : Int) := by omega
      go_wp2_with (at_builtin; refine wpList_append_own _ rfl (.tmp 29) (.tmp 33) 53 rfl w.heap.size 9 i0 (.string ⟨#[]⟩) 1 16 Tryd.underlying53 hi hz0 hz1 hz2 rfl (by decide) _ T.length (cellsS T) rfl (HO.out.alloc _) ⟨wr.heap.size, 0, none⟩ 1 1 [.string (s.extract f s.size)] rfl rfl (cell_one_new _ _ _) (one_cellS _) (by unfold maxLen; omega) (by omega) (by simp; omega) ?_; intro v2 w2 hown2 hgrow2 _)
      have HO2 : Hid (OwnS w2 w.heap.size v2 (T ++ [s.extract f s.size])) := OwnS.moreQ hown2
      have HB2 : Hid (Below w.heap.size w w2) := (below_more HB.out _).grown hgrow2 (by simp; omega) (fun q hq => (HO.out.lt q hq).1)
      clear hown2 hgrow2
      go_ret
      refine ⟨⟨_, rfl, ?_⟩, HB2.out⟩
      rw [HE.out, HL2.out]
      have h := HO2.out
      rw [HP.out] at h
      exact h
end Go.Proofs.YtfmeickglipimaaDoor
