/- linesOf: the lines of a text, by the program, over the library's Split and TrimSuffix. -/
import Derived.Test.YtfmeickglipimaaDoorRows
import Derived.WalkKit
import Derived.WalkSpells
import Derived.WalkLawsBesides
import Derived.Test.YtfmeickglipimaaDoorBase
import Derived.Test.YtfmeickglipimaaDoorRes2
import Derived.Test.YtfmeickglipimaaDoorOwnS
import Derived.Test.YtfmeickglipimaaDoorShf
import Derived.Test.YtfmeickglipimaaDoorLinesM
namespace Go.Proofs.YtfmeickglipimaaDoor
open Go.RowKit
set_option linter.unusedVariables false

theorem texts_own (w : World) (T : List ByteArray) (hT : T.length ≤ 1000000) : OwnS (w.alloc (.cells (T.map Value.string).toArray 9)) w.heap.size (.slice (some ⟨w.heap.size, 0, none⟩) T.length T.length) T :=
  OwnS.mk (Nat.le_refl _) (heap_alloc_new w _) (Nat.le_refl _) (by unfold maxLen; omega) (by simp) (fun i hi => by simp [hi])
set_option maxRecDepth 100000 in
set_option maxHeartbeats 1600000 in
theorem split_one (s : ByteArray) (w : World) (hs : s.size ≤ 100000) : Calls Tryd.prog 59 #[.string s, .string ⟨#[10]⟩] w fun e w' => e = .returned (.slice (some ⟨w.heap.size, 0, none⟩) (splitL s.data.toList).length (splitL s.data.toList).length) ∧ OwnS w' w.heap.size (.slice (some ⟨w.heap.size, 0, none⟩) (splitL s.data.toList).length (splitL s.data.toList).length) ((splitL s.data.toList).map textL) ∧ Below w.heap.size w w' := by
  have hle := Lib.countB_le ⟨#[10]⟩ (by show 1 ≤ 1; omega) s.size s (Nat.le_refl _)
  have hlen := Lib.splitB_all ⟨#[10]⟩ (by show 1 ≤ 1; omega) 0 _ s rfl
  have c : Calls Tryd.prog 86 #[.string s, .string ⟨#[10]⟩, .int .i64 ((0 : Nat) : Int), .int .i64 (-1)] w _ := Any.strings_genSplit_core (P := Tryd.prog) (ρ := shf_lays146_ren) { shf_lays146 with } (by kernel_rfl) s ⟨#[10]⟩ 0 (-1) (Lib.countB s ⟨#[10]⟩ + 1) w (by omega) (by show 1 ≤ 1; omega) (Nat.zero_le _)
    (fun x c hx => (shf_strings_Index_one x 10 _).mono fun e w' ⟨he, hw⟩ => ⟨by rw [he]; show Ending.returned (Value.int .i64 (Lib.indexByte x.data.toList 10)) = Ending.returned (Value.int .i64 (Lib.index x.data.toList [10])); rw [Lib.index_one], hw⟩)
    ((shf_strings_Count_one s 10 w).mono fun e w' ⟨he, hw⟩ => ⟨by rw [he]; show Ending.returned (Value.int .i64 ((Lib.countByte s.data.toList 10 : Nat) : Int)) = Ending.returned (Value.int .i64 ((Lib.count s.data.toList [10] : Nat) : Int)); rw [Lib.count_one]; rfl, hw⟩)
    (by decide) (by decide) (by rw [if_pos (by decide)]; omega)
  rw [Nat.add_sub_cancel, hlen] at c
  have e2 : Lib.cellsOf (Lib.splitB ⟨#[10]⟩ 0 (Lib.countB s ⟨#[10]⟩) s) (Lib.countB s ⟨#[10]⟩ + 1) = ((Lib.splitB ⟨#[10]⟩ 0 (Lib.countB s ⟨#[10]⟩) s).map Value.string).toArray := by rw [← hlen]; exact Lib.cellsOf_full _
  rw [e2, ← hlen, split_texts s, List.length_map] at c
  have hsl := splitL_len s.data.toList
  have h2 : s.data.toList.length = s.size := (Lib.size_eq s).symm
  have ho := texts_own w ((splitL s.data.toList).map textL) (by simp; omega)
  rw [List.length_map] at ho
  have HO : Hid (OwnS _ _ _ _) := ho
  have hb := below_new w (.cells (((splitL s.data.toList).map textL).map Value.string).toArray 9)
  have HB : Hid (Below _ _ _) := hb
  have c2 : Calls Tryd.prog 86 #[.string s, .string ⟨#[10]⟩, .int .i64 ((0 : Nat) : Int), .int .i64 (-1)] w (fun e w' => e = .returned (.slice (some ⟨w.heap.size, 0, none⟩) (splitL s.data.toList).length (splitL s.data.toList).length) ∧ OwnS w' w.heap.size (.slice (some ⟨w.heap.size, 0, none⟩) (splitL s.data.toList).length (splitL s.data.toList).length) ((splitL s.data.toList).map textL) ∧ Below w.heap.size w w') := c.mono (fun e w' h => ⟨h.1, by rw [h.2]; exact HO.out, by rw [h.2]; exact HB.out⟩)
  have HC : Hid (Calls Tryd.prog _ _ _ _) := c2
  clear c c2 e2 hlen hle ho hb HO HB h2 hsl
  go_enter Tryd.func59, Tryd.ntmps59
  go_wp2_with fail
  refine HC.out.mono ?_
  rintro e w' ⟨rfl, ho, hb⟩
  have HO : Hid (OwnS _ _ _ _) := ho
  have HB : Hid (Below _ _ _) := hb
  clear ho hb
  go_wp2
  go_ret
  exact ⟨rfl, HO.out, HB.out⟩
set_option maxRecDepth 100000 in
set_option maxHeartbeats 1600000 in
theorem linesOf_any (s : ByteArray) (w : World) (hs : s.size ≤ 100000) : Calls Tryd.prog 36 #[.string s] w fun e w' => (∃ v, e = .returned v ∧ OwnS w' w.heap.size v ((linesL s.data.toList).map textL)) ∧ Below w.heap.size w w' := by
  by_cases h0 : s = ⟨#[]⟩
  · subst h0
    go_enter Tryd.func36, Tryd.ntmps36
    go_wp2
    go_ret
    exact ⟨⟨_, rfl, OwnS.nil _ _⟩, Below.refl _ _⟩
  · have hne : (s.toList == []) = false := by
      rw [beq_eq_false_iff_ne]
      intro h
      apply h0
      have : s.data.toList = [] := by rw [← Lib.toList_data]; exact h
      exact ByteArray.ext (Array.toList_inj.1 this)
    have HL : Hid (linesL s.data.toList = splitL (trimL s.data.toList)) := by
      show _ = _
      unfold linesL
      rw [if_neg]
      intro h
      exact h0 (ByteArray.ext (Array.toList_inj.1 h))
    have hts : (⟨(Lib.trimSuffix s.data.toList [10]).toArray⟩ : ByteArray).size ≤ 100000 := by
      have := trimL_len s.data.toList
      have h2 : s.data.toList.length = s.size := (Lib.size_eq s).symm
      show (Lib.trimSuffix s.data.toList [10]).toArray.size ≤ _
      unfold trimL at this
      simp at *
      omega
    have HS : Hid (_ ≤ _) := hts
    clear hts h0
    go_enter Tryd.func36, Tryd.ntmps36
    go_wp2_with fail
    refine (shf_strings_TrimSuffix s ⟨#[10]⟩ _ (by omega)).mono ?_
    rintro e w' ⟨rfl, rfl⟩
    go_wp2_with fail
    refine (split_one _ _ HS.out).mono ?_
    rintro e w2 ⟨rfl, ho, hb⟩
    have HO : Hid (OwnS _ _ _ _) := ho
    have HB : Hid (Below _ _ _) := hb
    clear ho hb
    go_wp2
    go_ret
    refine ⟨⟨_, rfl, ?_⟩, HB.out⟩
    rw [HL.out]
    exact HO.out
end Go.Proofs.YtfmeickglipimaaDoor
