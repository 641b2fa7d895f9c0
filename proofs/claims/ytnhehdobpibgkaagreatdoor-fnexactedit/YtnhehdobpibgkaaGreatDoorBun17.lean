/- The words of a line of a hex text, as the program reads them; the base. -/
import Derived.Test.YtnhehdobpibgkaaGreatDoorRows
import Derived.WalkKit
import Derived.WalkSpells
import Derived.WalkLawsBesides
import Derived.Test.YtnhehdobpibgkaaGreatDoorBun0
import Derived.Test.YtnhehdobpibgkaaGreatDoorBun2
import Derived.Test.YtnhehdobpibgkaaGreatDoorBun11
import Derived.Test.YtnhehdobpibgkaaGreatDoorNumHZq
import Derived.Lib.Strings
import Derived.Lib.Split
import Derived.Lib.SplitLaws
import Derived.Lib.IndexBytes
import Derived.Test.YtnhehdobpibgkaaGreatDoorBun1
import Derived.Test.YtnhehdobpibgkaaGreatDoorShf
namespace Go.Proofs.YtnhehdobpibgkaaGreatDoor
open Go.RowKit
set_option linter.unusedVariables false

def wordAt (s : ByteArray) (p : Nat) : Int := 256 * numH (s.extract (p + 2) (p + 4)) + numH (s.extract p (p + 2))
def wordsOf (s : ByteArray) : List Int := (List.range ((s.size - 9) / 4)).map fun i => wordAt s (9 + 4 * i)
def baseT (s : ByteArray) : Int := if s.size < 9 then 0 else numH (s.extract 3 7)
theorem ex_size (s : ByteArray) (a b : Nat) (h : b ≤ s.size) : (s.extract a b).size = b - a := by
  simp only [ByteArray.size_extract]; omega
set_option maxRecDepth 100000 in
set_option maxHeartbeats 1600000 in
theorem baseOf_any (s : ByteArray) (w : World) (hs : s.size ≤ 8000) (hE : ErrV w) : Calls Tryz.prog 96 #[.string s] w fun e w' => e = .returned (.int .i64 (baseT s)) ∧ Below w.heap.size w w' := by
  by_cases h9 : s.size < 9
  · have HT : Hid (baseT s = 0) := if_pos h9
    clear hE
    go_enter Tryz.func96, Tryz.ntmps96
    go_wp2
    go_ret
    exact ⟨ret_int (by rw [HT.out]), Below.refl _ _⟩
  · have HT : Hid (baseT s = numH (s.extract 3 7)) := if_neg h9
    have HE : Hid (ErrV w) := hE
    have HX : Hid ((s.extract 3 7).size = 4) := by show _ = _; rw [ex_size s 3 7 (by omega)]
    clear hE
    go_enter Tryz.func96, Tryz.ntmps96
    go_wp2_with fail
    refine (numberOfHex_any _ (by rw [HX.out]; omega) (by rw [HX.out]; omega) _ HE.out).mono ?_
    rintro e w' ⟨rfl, hb⟩
    go_wp2
    go_ret
    exact ⟨ret_int (by rw [HT.out]), hb⟩
set_option maxRecDepth 100000 in
set_option maxHeartbeats 1600000 in
theorem wordsOfRow_any (s : ByteArray) (w : World) (hs : s.size ≤ 8000) (hE : ErrV w) : Calls Tryz.prog 98 #[.string s] w fun e w' => (∃ v, e = .returned v ∧ OwnI w' w.heap.size v (wordsOf s)) ∧ Below w.heap.size w w' := by
  have HE : Hid (ErrV w) := hE
  clear hE
  obtain ⟨i0, hi, hz0, hz1, hz2⟩ := info_parts infoI
  go_enter Tryz.func98, Tryz.ntmps98
  go_wp2
  go_loopw [3, 4] (fun v iv wr => ∃ (k p : Nat) (R : List Int), p ≤ 9 + 4 * ((s.size - 9) / 4) ∧ iv = .int .i64 p ∧ p ≤ 8020 ∧ Hid (p = 9 + 4 * k) ∧ R.length ≤ 3000 ∧ Hid (R.length = k) ∧ Hid (R = (List.range k).map fun i => wordAt s (9 + 4 * i)) ∧ Hid (OwnI wr w.heap.size v R) ∧ Hid (Below w.heap.size w wr)) (fun _ iv _ => 10000 - (intOf iv).toNat)
  case atStart => exact ⟨0, 9, [], by omega, rfl, by omega, rfl, by simp, rfl, rfl, OwnI.nil _ _, Below.refl _ _⟩
  case round =>
    obtain ⟨k, p, R, hp, rfl, hp2, HK, hR, HRL, HRE, HO, HB⟩ := hrel
    have hsz := HB.out.size
    by_cases hlt : p + 4 ≤ s.size
    · have hx1 : (s.extract p (p + 2)).size = 2 := by rw [ex_size s _ _ (by omega)]; omega
      have hx2 : (s.extract (p + 2) (p + 4)).size = 2 := by rw [ex_size s _ _ (by omega)]; omega
      obtain ⟨n0, n1⟩ := numH_bd (s.extract p (p + 2)) (by omega)
      obtain ⟨m0, m1⟩ := numH_bd (s.extract (p + 2) (p + 4)) (by omega)
      have HW : Hid (wordAt s p = 256 * numH (s.extract (p + 2) (p + 4)) + numH (s.extract p (p + 2))) := rfl
      have HX1 : Hid (_ = _) := hx1
      have HX2 : Hid (_ = _) := hx2
      clear hx1 hx2
      have hlt' : (p : Int) + 4 ≤ (s.size : Int) := by omega
      have hp0 : (0 : Int) ≤ (p : Int) := by omega
      go_wp2_with fail
      refine (numberOfHex_any _ (by rw [HX1.out]; omega) (by rw [HX1.out]; omega) _ (HE.out.below HB.out)).mono ?_
      rintro e y ⟨rfl, hb⟩
      have HO1 : Hid (OwnI y w.heap.size _ R) := HO.out.stays hb
      have HB1 : Hid (Below w.heap.size w y) := below_call HB.out hb
      clear hb
      go_wp2_with fail
      refine (numberOfHex_any _ (by rw [HX2.out]; omega) (by rw [HX2.out]; omega) _ (HE.out.below HB1.out)).mono ?_
      rintro e z ⟨rfl, hb⟩
      have HO2 : Hid (OwnI z w.heap.size _ R) := HO1.out.stays hb
      have HB2 : Hid (Below w.heap.size w z) := below_call HB1.out hb
      have hsz2 := HB2.out.size
      clear hb
      generalize numH (s.extract p (p + 2)) = n at *
      generalize numH (s.extract (p + 2) (p + 4)) = m at *
      go_wp2_with (at_builtin; refine wpList_append_own _ rfl (.tmp 27) (.tmp 32) 88 rfl w.heap.size 2 i0 (.int .i64 0) 1 8 Tryz.underlying88 hi hz0 hz1 hz2 rfl (by decide) _ R.length (cellsI R) rfl (HO2.out.alloc _) ⟨z.heap.size, 0, none⟩ 1 1 [.int .i64 (256 * m + n)] rfl rfl (cell_one_new _ _ _) (one_cellI _) (by unfold maxLen; omega) (by omega) (by simp; omega) ?_; intro v2 w2 hown2 hgrow2 _)
      have HO3 : Hid (OwnI w2 w.heap.size v2 (R ++ [256 * m + n])) := OwnI.moreL (M := [256 * m + n]) hown2
      have HB3 : Hid (Below w.heap.size w w2) := (below_more HB2.out _).grown hgrow2 (by simp; omega) (fun q hq => (HO2.out.lt q hq).1)
      clear hown2 hgrow2
      go_roundw
      case rel => exact ⟨k + 1, p + 4, R ++ [256 * m + n], by have := HK.out; omega, by go_num, by omega, by have := HK.out; show _ = _; omega, by have := HRL.out; have := HK.out; simp; omega, by have := HRL.out; show _ = _; simp; omega, by show _ = _; rw [List.range_succ, List.map_append, ← HRE.out, List.map_cons, List.map_nil, ← HK.out, HW.out], HO3.out, HB3.out⟩
      case measure => simp [intOf]; omega
    · have HE2 : Hid (R = wordsOf s) := by have := HK.out; show _ = _; rw [HRE.out]; unfold wordsOf; rw [show k = (s.size - 9) / 4 by omega]
      have hge : ¬ (p : Int) + 4 ≤ (s.size : Int) := by omega
      go_wp2
      go_ret
      exact ⟨⟨_, rfl, by have h := HO.out; rw [HE2.out] at h; exact h⟩, HB.out⟩
theorem wordsOf_len (s : ByteArray) : (wordsOf s).length = (s.size - 9) / 4 := by simp [wordsOf]
end Go.Proofs.YtnhehdobpibgkaaGreatDoor
namespace Go.Proofs.YtnhehdobpibgkaaGreatDoor
open Go.RowKit
set_option linter.unusedVariables false

def splitL : List UInt8 → List (List UInt8)
  | [] => [[]]
  | b :: l => if b = 10 then [] :: splitL l else match splitL l with
    | [] => [[b]]
    | x :: r => (b :: x) :: r
theorem splitL_none : ∀ (l : List UInt8), (10 : UInt8) ∉ l → splitL l = [l]
  | [], _ => rfl
  | b :: l, h => by
    have h1 : ¬ b = 10 := fun e => h (by simp [e])
    have h2 := splitL_none l (fun e => h (by simp [e]))
    unfold splitL
    rw [if_neg h1, h2]
theorem splitL_some : ∀ (a r : List UInt8), (10 : UInt8) ∉ a → splitL (a ++ 10 :: r) = a :: splitL r
  | [], r, _ => by simp [splitL]
  | b :: a, r, h => by
    have h1 : ¬ b = 10 := fun e => h (by simp [e])
    have h2 := splitL_some a r (fun e => h (by simp [e]))
    rw [List.cons_append, splitL, if_neg h1, h2]
theorem index_none : ∀ (l : List UInt8), (10 : UInt8) ∉ l → Lib.indexByte l 10 = -1
  | [], _ => rfl
  | b :: l, h => by
    have h1 : (b == 10) = false := beq_eq_false_iff_ne.2 (fun e => h (by simp [e]))
    have h2 := index_none l (fun e => h (by simp [e]))
    unfold Lib.indexByte
    rw [h1, h2]; rfl
theorem index_some : ∀ (a r : List UInt8), (10 : UInt8) ∉ a → Lib.indexByte (a ++ 10 :: r) 10 = (a.length : Int)
  | [], r, _ => by simp [Lib.indexByte]
  | b :: a, r, h => by
    have h1 : (b == 10) = false := beq_eq_false_iff_ne.2 (fun e => h (by simp [e]))
    have h2 := index_some a r (fun e => h (by simp [e]))
    rw [List.cons_append, Lib.indexByte, h1, h2]
    have : ((a.length : Int) == -1) = false := beq_eq_false_iff_ne.2 (by omega)
    rw [this]
    simp
theorem splitK_eq : ∀ (n : Nat) (l : List UInt8), l.length ≤ n → Lib.splitK [10] 0 (l.count 10) l = splitL l
  | n, l, hn => by
    by_cases h : (10 : UInt8) ∈ l
    · obtain ⟨a, r, rfl, ha⟩ := List.eq_append_cons_of_mem h
      have hc : (a ++ 10 :: r).count 10 = r.count 10 + 1 := by rw [List.count_append, List.count_cons_self, List.count_eq_zero_of_not_mem ha]; omega
      match n, hn with
      | 0, hn => simp at hn
      | n + 1, hn =>
        have ih := splitK_eq n r (by simp at hn; omega)
        rw [hc, splitL_some a r ha, ← ih]
        conv => lhs; unfold Lib.splitK
        rw [Lib.index_one, index_some a r ha]
        have : ((a.length : Int) == -1) = false := beq_eq_false_iff_ne.2 (by omega)
        simp [this]
    · rw [List.count_eq_zero_of_not_mem h, splitL_none l h]
      rfl
def textL (l : List UInt8) : ByteArray := ⟨l.toArray⟩
theorem textL_data (s : ByteArray) : textL s.data.toList = s := rfl
theorem data_textL (l : List UInt8) : (textL l).data.toList = l := by simp [textL]
def trimL (l : List UInt8) : List UInt8 := Lib.trimSuffix l [10]
def linesL (l : List UInt8) : List (List UInt8) := if l = [] then [] else splitL (trimL l)
theorem split_texts (s : ByteArray) : Lib.splitB ⟨#[10]⟩ 0 (Lib.countB s ⟨#[10]⟩) s = (splitL s.data.toList).map textL := by
  have h := Lib.splitB_data ⟨#[10]⟩ 0 (Lib.countB s ⟨#[10]⟩) s
  have hc : Lib.countB s ⟨#[10]⟩ = s.data.toList.count 10 := Lib.count_one 10 s.data.toList
  rw [hc] at h
  have h2 : Lib.splitK (⟨#[10]⟩ : ByteArray).data.toList 0 (s.data.toList.count 10) s.data.toList = splitL s.data.toList := splitK_eq _ _ (Nat.le_refl _)
  rw [h2] at h
  rw [hc, ← h, List.map_map]
  conv => lhs; rw [← List.map_id (Lib.splitB ⟨#[10]⟩ 0 (s.data.toList.count 10) s)]
  apply List.map_congr_left
  intro x _
  rfl
theorem splitL_len : ∀ (l : List UInt8), (splitL l).length ≤ l.length + 1
  | [] => by simp [splitL]
  | b :: l => by
    have ih := splitL_len l
    unfold splitL
    split
    · simp; omega
    · split
      · simp
      · rename_i x r e
        rw [e] at ih
        simp at *; omega
theorem splitL_pos : ∀ (l : List UInt8), 0 < (splitL l).length
  | [] => by simp [splitL]
  | b :: l => by
    unfold splitL
    split
    · simp
    · split <;> simp
theorem splitL_each : ∀ (l : List UInt8), ∀ x ∈ splitL l, x.length ≤ l.length
  | [], x, hx => by simp [splitL] at hx; simp [hx]
  | b :: l, x, hx => by
    have ih := splitL_each l
    unfold splitL at hx
    split at hx
    · rcases List.mem_cons.1 hx with rfl | hx
      · simp
      · have := ih x hx; simp; omega
    · split at hx
      · simp at hx; subst hx; simp
      · rename_i y r e
        rcases List.mem_cons.1 hx with rfl | hx
        · have := ih y (by rw [e]; simp); simp; omega
        · have := ih x (by rw [e]; simp [hx]); simp; omega
theorem trimL_len (l : List UInt8) : (trimL l).length ≤ l.length := by
  unfold trimL Lib.trimSuffix
  split
  · simp
  · omega
theorem linesL_len (l : List UInt8) : (linesL l).length ≤ l.length + 1 := by
  unfold linesL
  split
  · simp
  · have := splitL_len (trimL l); have := trimL_len l; omega
theorem linesL_each (l : List UInt8) : ∀ x ∈ linesL l, x.length ≤ l.length := by
  intro x hx
  unfold linesL at hx
  split at hx
  · cases hx
  · have := splitL_each _ x hx; have := trimL_len l; omega
theorem trimL_end (a : List UInt8) : trimL (a ++ [10]) = a := by
  unfold trimL Lib.trimSuffix Lib.hasSuffix
  rw [if_pos (by simp [List.isSuffixOf_iff_suffix])]
  simp
end Go.Proofs.YtnhehdobpibgkaaGreatDoor
namespace Go.Proofs.YtnhehdobpibgkaaGreatDoor
open Go.RowKit
set_option linter.unusedVariables false

theorem texts_own (w : World) (T : List ByteArray) (hT : T.length ≤ 1000000) : OwnS (w.alloc (.cells (T.map Value.string).toArray 9)) w.heap.size (.slice (some ⟨w.heap.size, 0, none⟩) T.length T.length) T :=
  OwnS.mk (Nat.le_refl _) (heap_alloc_new w _) (Nat.le_refl _) (by unfold maxLen; omega) (by simp) (fun i hi => by simp [hi])
set_option maxRecDepth 100000 in
set_option maxHeartbeats 1600000 in
theorem split_one (s : ByteArray) (w : World) (hs : s.size ≤ 100000) : Calls Tryz.prog 104 #[.string s, .string ⟨#[10]⟩] w fun e w' => e = .returned (.slice (some ⟨w.heap.size, 0, none⟩) (splitL s.data.toList).length (splitL s.data.toList).length) ∧ OwnS w' w.heap.size (.slice (some ⟨w.heap.size, 0, none⟩) (splitL s.data.toList).length (splitL s.data.toList).length) ((splitL s.data.toList).map textL) ∧ Below w.heap.size w w' := by
  have hle := Lib.countB_le ⟨#[10]⟩ (by show 1 ≤ 1; omega) s.size s (Nat.le_refl _)
  have hlen := Lib.splitB_all ⟨#[10]⟩ (by show 1 ≤ 1; omega) 0 _ s rfl
  have c : Calls Tryz.prog 111 #[.string s, .string ⟨#[10]⟩, .int .i64 ((0 : Nat) : Int), .int .i64 (-1)] w _ := Any.strings_genSplit_core (P := Tryz.prog) (ρ := shf_lays146_ren) { shf_lays146 with } (by kernel_rfl) s ⟨#[10]⟩ 0 (-1) (Lib.countB s ⟨#[10]⟩ + 1) w (by omega) (by show 1 ≤ 1; omega) (Nat.zero_le _)
    (fun x c hx => (shf_strings_Index_one x 10 _).mono fun e w' ⟨he, hw⟩ => ⟨by rw [he]; show Ending.returned (Value.int .i64 (Lib.indexByte x.data.toList 10)) = Ending.returned (Value.int .i64 (Lib.index x.data.toList [10])); rw [Lib.index_one], hw⟩)
    ((shf_strings_Count_one s 10 w).mono fun e w' ⟨he, hw⟩ => ⟨by rw [he]; show Ending.returned (Value.int .i64 ((Lib.countByte s.data.toList 10 : Nat) : Int)) = Ending.returned (Value.int .i64 ((Lib.count s.data.toList [10] : Nat) : Int)); rw [Lib.count_one]; rfl, hw⟩)
    (by decide) (by decide) (by rw [if_pos (by decide)]; omega)
  rw [Nat.add_sub_cancel, hlen] at c
  have e2 : Lib.cellsOf (Lib.splitB ⟨#[10]⟩ 0 (Lib.countB s ⟨#[10]⟩) s) (Lib.countB s ⟨#[10]⟩ + 1) = ((Lib.splitB ⟨#[10]⟩ 0 (Lib.countB s ⟨#[10]⟩) s).map Value.string).toArray := by rw [← hlen]; exact Lib.cellsOf_full _
  rw [e2, ← hlen, split_texts s, List.length_map] at c
  have hsl := splitL_len s.data.toList
  have h2 : s.data.toList.length = s.size := (Lib.size_eq s).symm
  have ho := texts_own w ((splitL s.data.toList).map textL) (by simp; omega)
  rw [List.length_map] at ho
  have HO : Hid (OwnS _ _ _ _) := ho
  have hb := below_new w (.cells (((splitL s.data.toList).map textL).map Value.string).toArray 9)
  have HB : Hid (Below _ _ _) := hb
  have c2 : Calls Tryz.prog 111 #[.string s, .string ⟨#[10]⟩, .int .i64 ((0 : Nat) : Int), .int .i64 (-1)] w (fun e w' => e = .returned (.slice (some ⟨w.heap.size, 0, none⟩) (splitL s.data.toList).length (splitL s.data.toList).length) ∧ OwnS w' w.heap.size (.slice (some ⟨w.heap.size, 0, none⟩) (splitL s.data.toList).length (splitL s.data.toList).length) ((splitL s.data.toList).map textL) ∧ Below w.heap.size w w') := c.mono (fun e w' h => ⟨h.1, by rw [h.2]; exact HO.out, by rw [h.2]; exact HB.out⟩)
  have HC : Hid (Calls Tryz.prog _ _ _ _) := c2
  clear c c2 e2 hlen hle ho hb HO HB h2 hsl
  go_enter Tryz.func104, Tryz.ntmps104
  go_wp2_with fail
  refine HC.out.mono ?_
  rintro e w' ⟨rfl, ho, hb⟩
  have HO : Hid (OwnS _ _ _ _) := ho
  have HB : Hid (Below _ _ _) := hb
  clear ho hb
  go_wp2
  go_ret
  exact ⟨rfl, HO.out, HB.out⟩
set_option maxRecDepth 100000 in
set_option maxHeartbeats 1600000 in
theorem linesOf_any (s : ByteArray) (w : World) (hs : s.size ≤ 100000) : Calls Tryz.prog 97 #[.string s] w fun e w' => (∃ v, e = .returned v ∧ OwnS w' w.heap.size v ((linesL s.data.toList).map textL)) ∧ Below w.heap.size w w' := by
  by_cases h0 : s = ⟨#[]⟩
  · subst h0
    go_enter Tryz.func97, Tryz.ntmps97
    go_wp2
    go_ret
    exact ⟨⟨_, rfl, OwnS.nil _ _⟩, Below.refl _ _⟩
  · have hne : (s.toList == []) = false := by
      rw [beq_eq_false_iff_ne]
      intro h
      apply h0
      have : s.data.toList = [] := by rw [← Lib.toList_data]; exact h
      exact ByteArray.ext (Array.toList_inj.1 this)
    have HL : Hid (linesL s.data.toList = splitL (trimL s.data.toList)) := by
      show _ = _
      unfold linesL
      rw [if_neg]
      intro h
      exact h0 (ByteArray.ext (Array.toList_inj.1 h))
    have hts : (⟨(Lib.trimSuffix s.data.toList [10]).toArray⟩ : ByteArray).size ≤ 100000 := by
      have := trimL_len s.data.toList
      have h2 : s.data.toList.length = s.size := (Lib.size_eq s).symm
      show (Lib.trimSuffix s.data.toList [10]).toArray.size ≤ _
      unfold trimL at this
      simp at *
      omega
    have HS : Hid (_ ≤ _) := hts
    clear hts h0
    go_enter Tryz.func97, Tryz.ntmps97
    go_wp2_with fail
    refine (shf_strings_TrimSuffix s ⟨#[10]⟩ _ (by omega)).mono ?_
    rintro e w' ⟨rfl, rfl⟩
    go_wp2_with fail
    refine (split_one _ _ HS.out).mono ?_
    rintro e w2 ⟨rfl, ho, hb⟩
    have HO : Hid (OwnS _ _ _ _) := ho
    have HB : Hid (Below _ _ _) := hb
    clear ho hb
    go_wp2
    go_ret
    refine ⟨⟨_, rfl, ?_⟩, HB.out⟩
    rw [HL.out]
    exact HO.out
end Go.Proofs.YtnhehdobpibgkaaGreatDoor
