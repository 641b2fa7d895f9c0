/- What the pieces of a text tell, held against how the specification reads a word. -/
import Derived.Test.YtodjccipfonaiaaGreatDoorRows
import Derived.WalkKit
import Derived.Test.YtodjccipfonaiaaGreatDoorBun0
import Derived.Test.YtodjccipfonaiaaGreatDoorBun16
import Derived.Test.YtodjccipfonaiaaGreatDoorBun25
import Derived.Test.YtodjccipfonaiaaGreatDoorNumSX
import Derived.Test.YtodjccipfonaiaaGreatDoorBun31
import Derived.Test.YtodjccipfonaiaaGreatDoorWordRSX
import Derived.Test.YtodjccipfonaiaaGreatDoorBun30
namespace Go.Proofs.YtodjccipfonaiaaGreatDoor
open Go.RowKit
set_option linter.unusedVariables false

def allN (s : ByteArray) : Prop := ∀ j, (h : j < s.size) → inN (s[j].toNat : Int) = true
theorem inN_lt {c : Int} (h : inN c = true) : c < 128 := by have := good_t h; omega
theorem runP_one (s : ByteArray) (f p : Nat) (st : PSt) (h : p < s.size) (ha : s[p].toNat < 128) : runP s (f + 1) p st = runP s f (p + 1) (stepP s st p) := by
  show (if p < s.size then runP s f (p + (Utf8.decode s p).2) (stepP s st p) else st) = _
  rw [if_pos h]
  have e : (Utf8.decode s p).2 = 1 := by rw [decode_ascii s p h ha]
  rw [e]
theorem rune_in (s : ByteArray) (p : Nat) (h : p < s.size) (hn : inN (s[p].toNat : Int) = true) : runeN ((Utf8.decode s p).1 : Int) = true := by
  have hl := inN_lt hn
  have e : (Utf8.decode s p).1 = s[p].toNat := by rw [decode_ascii s p h (by omega)]
  rw [e]
  unfold runeN
  rw [hn, decide_eq_true hl]
  rfl
theorem stepP_in (s : ByteArray) (st : PSt) (p : Nat) (h : p < s.size) (hn : inN (s[p].toNat : Int) = true) (ht : st.tog = true ∨ p = 0) : stepP s st p = ⟨st.fr, true, st.acc⟩ := by
  have hr := rune_in s p h hn
  unfold stepP
  rw [hr, if_neg]
  rintro ⟨h1, h2⟩
  rcases ht with ht | ht
  · exact h2 ⟨ht, rfl⟩
  · omega
theorem stepP_cut (s : ByteArray) (st : PSt) (p : Nat) (b : Bool) (hp : 0 < p) (hr : runeN ((Utf8.decode s p).1 : Int) = b) (hb : ¬ (st.tog = true ∧ b = true)) : stepP s st p = ⟨p, b, st.acc ++ [s.extract st.fr p]⟩ := by
  unfold stepP
  rw [hr, if_pos ⟨hp, hb⟩]
theorem runP_in (s : ByteArray) : ∀ (k f p fr : Nat) (acc : List ByteArray), p + k ≤ s.size → (∀ j, p ≤ j → j < p + k → (h : j < s.size) → inN (s[j].toNat : Int) = true) → runP s (f + k) p ⟨fr, true, acc⟩ = runP s f (p + k) ⟨fr, true, acc⟩
  | 0, f, p, fr, acc, h, ha => rfl
  | k + 1, f, p, fr, acc, h, ha => by
    have hp : p < s.size := by omega
    have hn := ha p (by omega) (by omega) hp
    have hl := inN_lt hn
    rw [show f + (k + 1) = (f + k) + 1 from rfl, runP_one s (f + k) p _ hp (by omega), stepP_in s _ p hp hn (.inl rfl)]
    rw [runP_in s k f (p + 1) fr acc (by omega) (fun j h1 h2 h3 => ha j (by omega) (by omega) h3)]
    rw [show p + 1 + k = p + (k + 1) by omega]
theorem ne_empty {s : ByteArray} (h : 1 ≤ s.size) : ¬ s = ⟨#[]⟩ := by
  rintro rfl
  exact absurd h (by decide)
theorem pieces_word (s : ByteArray) (h1 : 1 ≤ s.size) (ha : allN s) : piecesL s = [s] := by
  have hrun : runP s s.size 0 ⟨0, false, []⟩ = ⟨0, true, []⟩ := by
    obtain ⟨m, hm⟩ : ∃ m, s.size = 0 + m + 1 := ⟨s.size - 1, by omega⟩
    have hn := ha 0 (by omega)
    have hl := inN_lt hn
    have e : runP s (0 + m + 1) 0 ⟨0, false, []⟩ = ⟨0, true, []⟩ := by
      rw [runP_one s (0 + m) 0 _ (by omega) (by omega), stepP_in s _ 0 (by omega) hn (.inr rfl)]
      rw [runP_in s m 0 (0 + 1) 0 [] (by omega) (fun j _ _ h => ha j h)]
      rfl
    rw [← hm] at e
    exact e
  unfold piecesL
  rw [if_neg (ne_empty h1), hrun]
  simp
theorem pieces_three (s : ByteArray) (k : Nat) (hk0 : 0 < k) (hk : k + 1 < s.size) (ha : ∀ j, (h : j < s.size) → j ≠ k → inN (s[j].toNat : Int) = true) (hc : s[k].toNat = 43 ∨ s[k].toNat = 45) :
    piecesL s = [s.extract 0 k, s.extract k (k + 1), s.extract (k + 1) s.size] := by
  have hrun : runP s s.size 0 ⟨0, false, []⟩ = ⟨k + 1, true, [s.extract 0 k, s.extract k (k + 1)]⟩ := by
    obtain ⟨m1, hm1⟩ : ∃ m, k = 0 + 1 + m := ⟨k - 1, by omega⟩
    obtain ⟨m2, hm2⟩ : ∃ m, s.size = 0 + m + 1 + 1 + m1 + 1 := ⟨s.size - k - 2, by omega⟩
    have hn := ha 0 (by omega) (by omega)
    have hl := inN_lt hn
    have hn2 := ha (k + 1) hk (by omega)
    have hl2 := inN_lt hn2
    have hr : runeN ((Utf8.decode s k).1 : Int) = false := by
      have e : (Utf8.decode s k).1 = s[k].toNat := by rw [decode_ascii s k (by omega) (by omega)]
      rw [e]
      rcases hc with hc | hc <;> rw [hc] <;> rfl
    have e : runP s (0 + m2 + 1 + 1 + m1 + 1) 0 ⟨0, false, []⟩ = ⟨k + 1, true, [s.extract 0 k, s.extract k (k + 1)]⟩ := by
      rw [runP_one s _ 0 _ (by omega) (by omega), stepP_in s _ 0 (by omega) hn (.inr rfl)]
      rw [runP_in s m1 _ (0 + 1) 0 [] (by omega) (fun j _ _ h => ha j h (by omega))]
      rw [← hm1]
      rw [runP_one s _ k _ (by omega) (by omega), stepP_cut s _ k false hk0 hr (by simp)]
      rw [runP_one s _ (k + 1) _ (by omega) (by omega), stepP_cut s _ (k + 1) true (by omega) (rune_in s _ hk hn2) (by simp)]
      rw [runP_in s m2 0 (k + 1 + 1) _ _ (by omega) (fun j _ _ h => ha j h (by omega))]
      rfl
    rw [← hm2] at e
    exact e
  unfold piecesL
  rw [if_neg (ne_empty (by omega)), hrun]
  rfl
theorem ext_app (s : ByteArray) (a b : Nat) (h : a ≤ b) : s.extract 0 a ++ s.extract a b = s.extract 0 b := by
  apply ByteArray.ext
  rw [ByteArray.data_append, ByteArray.data_extract, ByteArray.data_extract, ByteArray.data_extract, Array.extract_append_extract]
  rw [Nat.min_eq_left (Nat.zero_le a), Nat.max_eq_right h]
theorem runP_cat (s : ByteArray) : ∀ (f p : Nat) (st : PSt), st.fr ≤ s.size → st.fr ≤ p → catL st.acc = s.extract 0 st.fr → (runP s f p st).fr ≤ s.size ∧ catL (runP s f p st).acc = s.extract 0 (runP s f p st).fr
  | 0, p, st, h1, h2, h3 => ⟨h1, h3⟩
  | f + 1, p, st, h1, h2, h3 => by
    show (if p < s.size then runP s f (p + (Utf8.decode s p).2) (stepP s st p) else st).fr ≤ s.size ∧ catL (if p < s.size then runP s f (p + (Utf8.decode s p).2) (stepP s st p) else st).acc = s.extract 0 (if p < s.size then runP s f (p + (Utf8.decode s p).2) (stepP s st p) else st).fr
    by_cases hp : p < s.size
    · rw [if_pos hp]
      have hst : (stepP s st p).fr ≤ s.size ∧ (stepP s st p).fr ≤ p ∧ catL (stepP s st p).acc = s.extract 0 (stepP s st p).fr := by
        unfold stepP
        split
        · exact ⟨by show p ≤ _; omega, Nat.le_refl _, by show catL (st.acc ++ [s.extract st.fr p]) = s.extract 0 p; rw [catL_append, catL_one, h3, ext_app s _ _ h2]⟩
        · exact ⟨h1, h2, h3⟩
      exact runP_cat s f _ _ hst.1 (by have := hst.2.1; omega) hst.2.2
    · rw [if_neg hp]
      exact ⟨h1, h3⟩
theorem pieces_cat (s : ByteArray) : catL (piecesL s) = s := by
  unfold piecesL
  by_cases he : s = ⟨#[]⟩
  · rw [if_pos he, he]; rfl
  · rw [if_neg he]
    obtain ⟨h1, h2⟩ := runP_cat s s.size 0 ⟨0, false, []⟩ (Nat.zero_le _) (Nat.le_refl _) (by show catL [] = s.extract 0 0; simp [catL])
    rw [catL_append, catL_one, h2, ext_app s _ _ h1]
    simp
def numT (m : Int) : List ByteArray → Option (Int × List ByteArray)
  | [] => none
  | p :: L => match numR p with | some n => if n ≤ m then some (n, L) else none | none => none
def signT : List ByteArray → Int × List ByteArray
  | [] => (0, [])
  | p :: L => if p = ⟨#[43]⟩ then (1, L) else if p = ⟨#[45]⟩ then (-1, L) else (0, p :: L)
def nameT : List ByteArray → Option (ByteArray × List ByteArray)
  | [] => none
  | p :: L => if nameB p = true then some (p, L) else none
def wordT (L : List ByteArray) : Option ((ByteArray × Int) × List ByteArray) :=
  match numT 65535 L with
  | some (n, L1) => some ((⟨#[]⟩, n), L1)
  | none => match nameT L with
    | none => none
    | some (p, L1) => if (signT L1).1 = 0 then some ((p, 0), L1) else (match numT 32767 (signT L1).2 with | some (n, L2) => some ((p, (signT L1).1 * n), L2) | none => none)
def wordP (s : ByteArray) : Option (ByteArray × Int) := match wordT (piecesL s) with | some (x, []) => some x | _ => none
theorem hexV_in (c : Int) (h : 0 ≤ hexV c) : inN c = true := by
  unfold hexV at h
  unfold inN goodB
  apply decide_eq_true
  split at h
  · omega
  · split at h <;> omega
theorem numF_in (b : Int) : ∀ (L : List UInt8) (n m : Int), numF b L n = some m → ∀ c ∈ L, inN (c.toNat : Int) = true
  | [], n, m, h => by simp
  | c :: L, n, m, h => by
    have h' : (if 0 ≤ hexV c.toNat ∧ hexV c.toNat < b then numF b L (b * n + hexV c.toNat) else none) = some m := h
    split at h'
    · rename_i hc
      intro d hd
      rcases List.mem_cons.1 hd with rfl | hd
      · exact hexV_in _ hc.1
      · exact numF_in b L _ _ h' d hd
    · cases h'
theorem ba_list {a b : ByteArray} (h : a.data.toList = b.data.toList) : a = b := ByteArray.ext (Array.toList_inj.1 h)
theorem app_list (a b : ByteArray) : (a ++ b).data.toList = a.data.toList ++ b.data.toList := by
  rw [ByteArray.data_append, Array.toList_append]
theorem size_list (a : ByteArray) : a.data.toList.length = a.size := by simp
theorem at_mem (s : ByteArray) (j : Nat) (h : j < s.size) : s[j] ∈ s.data.toList := by
  have hl : j < s.data.toList.length := by simpa using h
  have e : s.data.toList[j] = s[j] := rfl
  rw [← e]
  exact List.getElem_mem hl
theorem mem_all {s : ByteArray} (h : ∀ c ∈ s.data.toList, inN (c.toNat : Int) = true) : allN s := fun j hj => h _ (at_mem s j hj)
theorem take_list (s : ByteArray) (k : Nat) : (s.extract 0 k).data.toList = s.data.toList.take k := by
  rw [ByteArray.data_extract, Array.toList_extract, List.extract_eq_take_drop]
  simp
theorem hex_head {s : ByteArray} (h : s.extract 0 2 = ⟨#[48, 120]⟩) : s.data.toList = [48, 120] ++ s.data.toList.drop 2 := by
  have e := take_list s 2
  rw [h] at e
  have e2 : ([48, 120] : List UInt8) = s.data.toList.take 2 := e
  rw [e2, List.take_append_drop]
theorem numR_in {s : ByteArray} {n : Int} (h : numR s = some n) : 1 ≤ s.size ∧ allN s := by
  unfold numR at h
  split at h
  · rename_i h2
    split at h
    · refine ⟨by omega, mem_all ?_⟩
      rw [hex_head h2.2]
      intro c hc
      rcases List.mem_append.1 hc with hc | hc
      · simp at hc
        rcases hc with rfl | rfl <;> rfl
      · exact numF_in _ _ _ _ h c hc
    · cases h
  · split at h
    · rename_i h3
      exact ⟨h3.1, mem_all (numF_in _ _ _ _ h)⟩
    · cases h
theorem numR_ge {s : ByteArray} {n : Int} (h : numR s = some n) : numW s = (if n ≤ 65535 then some n else none) := by
  unfold numW; rw [h]
theorem numR_no {s : ByteArray} (h : numR s = none) : numW s = none := by
  unfold numW; rw [h]
theorem numW_yes {s : ByteArray} {n : Int} (h : numW s = some n) : numR s = some n ∧ n ≤ 65535 := by
  cases hr : numR s with
  | none => rw [numR_no hr] at h; cases h
  | some m =>
    rw [numR_ge hr] at h
    split at h
    · cases h; exact ⟨rfl, by assumption⟩
    · cases h
theorem name_parts {s : ByteArray} (h : nameB s = true) : 1 ≤ s.size ∧ s.size ≤ 20 ∧ allN s := by
  obtain ⟨h1, h2, h3⟩ := of_decide_eq_true h
  refine ⟨h1, h2, fun j hj => ?_⟩
  have := good_t (h3 j hj)
  unfold inN goodB
  apply decide_eq_true
  omega
theorem name_first {s : ByteArray} (h : nameB s = true) (h0 : 0 < s.size) : 97 ≤ s[0].toNat := by
  obtain ⟨h1, h2, h3⟩ := of_decide_eq_true h
  have := good_t (h3 0 h0)
  omega
theorem name_num {s : ByteArray} (h : nameB s = true) : numR s = none := by
  have h1 := (name_parts h).1
  have h9 := name_first h (by omega)
  have hd := drop_at s 0 (by omega)
  have hd' : s.data.toList = s[0] :: s.data.toList.drop 1 := hd
  unfold numR
  rw [if_neg]
  · split
    · rw [hd']
      show (if 0 ≤ hexV (s[0].toNat : Int) ∧ hexV (s[0].toNat : Int) < 10 then _ else none) = none
      rw [if_neg]
      unfold hexV
      split
      · omega
      · split <;> omega
    · rfl
  · rintro ⟨_, hx⟩
    have e := hex_head hx
    rw [hd'] at e
    have e2 : s[0] = 48 := (List.cons.inj e).1
    rw [e2] at h9
    exact absurd h9 (by decide)
theorem signL_in : ∀ (L : List UInt8), (∀ c ∈ L, inN (c.toNat : Int) = true) → signL L = L.length
  | [], _ => rfl
  | c :: L, h => by
    have hc := good_t (h c (List.mem_cons_self ..))
    show (if c.toNat = 43 ∨ c.toNat = 45 then 0 else signL L + 1) = _
    rw [if_neg (by omega), signL_in L (fun d hd => h d (List.mem_cons_of_mem _ hd))]
    rfl
theorem all_mem {s : ByteArray} (h : allN s) : ∀ c ∈ s.data.toList, inN (c.toNat : Int) = true := by
  intro c hc
  obtain ⟨j, hj, rfl⟩ := List.getElem_of_mem hc
  exact h j (by simpa using hj)
theorem signI_in {s : ByteArray} (h : allN s) : signI s = s.size := by
  unfold signI
  rw [signL_in _ (all_mem h)]
  exact size_list s
theorem signL_app (A : List UInt8) (c : UInt8) (B : List UInt8) (hA : ∀ d ∈ A, inN (d.toNat : Int) = true) (hc : c.toNat = 43 ∨ c.toNat = 45) : signL (A ++ c :: B) = A.length := by
  induction A with
  | nil => show (if c.toNat = 43 ∨ c.toNat = 45 then 0 else _) = 0; rw [if_pos hc]
  | cons d A ih =>
    have hd := good_t (hA d (List.mem_cons_self ..))
    show (if d.toNat = 43 ∨ d.toNat = 45 then 0 else signL (A ++ c :: B) + 1) = _
    rw [if_neg (by omega), ih (fun e he => hA e (List.mem_cons_of_mem _ he))]
    rfl
theorem sign_split (s : ByteArray) : ∀ k, k ≤ signI s → signI s = k + signL (s.data.toList.drop k)
  | 0, _ => by simp [signI]
  | k + 1, h => by
    have ih := sign_split s k (by omega)
    by_cases hk : k < s.size
    · by_cases hc : s[k].toNat = 43 ∨ s[k].toNat = 45
      · rw [sign_here s k hk hc] at ih
        omega
      · rw [sign_step s k hk hc] at ih
        omega
    · rw [sign_end s k (by omega)] at ih
      omega
theorem numF_nn (b : Int) (hb : 0 ≤ b) : ∀ (L : List UInt8) (n m : Int), 0 ≤ n → numF b L n = some m → 0 ≤ m
  | [], n, m, h0, h => by cases h; exact h0
  | c :: L, n, m, h0, h => by
    have h' : (if 0 ≤ hexV c.toNat ∧ hexV c.toNat < b then numF b L (b * n + hexV c.toNat) else none) = some m := h
    split at h'
    · rename_i hc
      have := Int.mul_nonneg hb h0
      exact numF_nn b hb L _ _ (by omega) h'
    · cases h'
theorem numR_nn {s : ByteArray} {n : Int} (h : numR s = some n) : 0 ≤ n := by
  unfold numR at h
  split at h
  · split at h
    · exact numF_nn 16 (by omega) _ _ _ (Int.le_refl _) h
    · cases h
  · split at h
    · exact numF_nn 10 (by omega) _ _ _ (Int.le_refl _) h
    · cases h
theorem ne_of_size {s : ByteArray} (h : 1 ≤ s.size) : ¬ s = ⟨#[]⟩ := ne_empty h
theorem wordN_name {p : ByteArray} {n : Int} (h : nameB p = true) (h0 : -32767 ≤ n) (h1 : n ≤ 32767) : wordN p n = some (p, n) := by
  have hp := name_parts h
  have hne := ne_empty hp.1
  unfold wordN wordB
  rw [if_neg hne, h, if_pos]
  refine ⟨hne, ?_⟩
  simp [isB, h0, h1]
theorem wordN_some {p : ByteArray} {n : Int} {x : ByteArray × Int} (h : wordN p n = some x) : x = (p, n) ∧ nameB p = true ∧ -32767 ≤ n ∧ n ≤ 32767 := by
  unfold wordN at h
  split at h
  · rename_i hc
    obtain ⟨hne, hw⟩ := hc
    unfold wordB at hw
    rw [if_neg hne] at hw
    simp [isB] at hw
    cases h
    exact ⟨rfl, hw.1, hw.2.1, hw.2.2⟩
  · cases h
/- A name, a sign and a text behind it: what stands where. -/
theorem tri_list (p q : ByteArray) (c : UInt8) : (p ++ (⟨#[c]⟩ ++ q)).data.toList = p.data.toList ++ c :: q.data.toList := by
  rw [app_list, app_list]; rfl
theorem tri_size (p q : ByteArray) (c : UInt8) : (p ++ (⟨#[c]⟩ ++ q)).size = p.size + 1 + q.size := by
  rw [← size_list, tri_list]; simp; omega
theorem tri_at (p q : ByteArray) (c : UInt8) (h : p.size < (p ++ (⟨#[c]⟩ ++ q)).size) : (p ++ (⟨#[c]⟩ ++ q))[p.size] = c := by
  have hl : p.size < (p ++ (⟨#[c]⟩ ++ q)).data.toList.length := by rw [size_list]; exact h
  have e : (p ++ (⟨#[c]⟩ ++ q)).data.toList[p.size] = (p ++ (⟨#[c]⟩ ++ q))[p.size] := rfl
  rw [← e]
  simp only [tri_list]
  rw [List.getElem_append_right (by rw [size_list]; exact Nat.le_refl _)]
  simp
theorem tri_left (p q : ByteArray) (c : UInt8) : (p ++ (⟨#[c]⟩ ++ q)).extract 0 p.size = p := by
  apply ba_list
  rw [take_list, tri_list, ← size_list, List.take_left]
theorem tri_right (p q : ByteArray) (c : UInt8) : (p ++ (⟨#[c]⟩ ++ q)).extract (p.size + 1) (p ++ (⟨#[c]⟩ ++ q)).size = q := by
  apply ba_list
  rw [drop_list, tri_list]
  rw [List.drop_append, List.drop_of_length_le (by rw [size_list]; omega), size_list, show p.size + 1 - p.size = 1 by omega]
  rfl
theorem tri_sign (p q : ByteArray) (c : UInt8) (hp : allN p) (hc : c.toNat = 43 ∨ c.toNat = 45) : signI (p ++ (⟨#[c]⟩ ++ q)) = p.size := by
  unfold signI
  rw [tri_list, signL_app _ _ _ (all_mem hp) hc, size_list]
theorem tri_num (p q : ByteArray) (c : UInt8) (hc : c.toNat = 43 ∨ c.toNat = 45) : numR (p ++ (⟨#[c]⟩ ++ q)) = none := by
  cases h : numR (p ++ (⟨#[c]⟩ ++ q)) with
  | none => rfl
  | some n =>
    exfalso
    have hs := tri_size p q c
    have := (numR_in h).2 p.size (by omega)
    rw [tri_at p q c (by omega)] at this
    have := good_t this
    omega
theorem tri_pieces (p q : ByteArray) (c : UInt8) (hp : allN p) (hp1 : 1 ≤ p.size) (hq : allN q) (hq1 : 1 ≤ q.size) (hc : c.toNat = 43 ∨ c.toNat = 45) : piecesL (p ++ (⟨#[c]⟩ ++ q)) = [p, ⟨#[c]⟩, q] := by
  have hs := tri_size p q c
  have hk : p.size < (p ++ (⟨#[c]⟩ ++ q)).size := by omega
  rw [pieces_three _ p.size (by omega) (by omega) ?_ (by rw [tri_at p q c hk]; exact hc)]
  · rw [tri_left, tri_right]
    have e : (p ++ (⟨#[c]⟩ ++ q)).extract p.size (p.size + 1) = ⟨#[c]⟩ := by
      apply ba_list
      rw [ByteArray.data_extract, Array.toList_extract, tri_list, List.extract_eq_take_drop, List.drop_append, List.drop_of_length_le (by rw [size_list]; omega), size_list, show p.size - p.size = 0 by omega, show p.size + 1 - p.size = 1 by omega]
      rfl
    rw [e]
  · intro j hj hne
    have hl : j < (p ++ (⟨#[c]⟩ ++ q)).data.toList.length := by rw [size_list]; exact hj
    have e : (p ++ (⟨#[c]⟩ ++ q)).data.toList[j] = (p ++ (⟨#[c]⟩ ++ q))[j] := rfl
    rw [← e]
    simp only [tri_list]
    by_cases hlt : j < p.size
    · rw [List.getElem_append_left (by rw [size_list]; exact hlt)]
      exact all_mem hp _ (List.getElem_mem _)
    · rw [List.getElem_append_right (by rw [size_list]; omega)]
      have hx : j - p.data.toList.length = (j - p.size - 1) + 1 := by rw [size_list]; omega
      simp only [hx, List.getElem_cons_succ]
      exact all_mem hq _ (List.getElem_mem _)
def sgn (c : UInt8) : Int := if c.toNat = 45 then -1 else 1
theorem signed_mul (c : UInt8) (n : Int) : signed c.toNat n = sgn c * n := by
  unfold signed sgn
  split <;> omega
theorem signT_of (c : UInt8) (L : List ByteArray) (hc : c.toNat = 43 ∨ c.toNat = 45) : signT (⟨#[c]⟩ :: L) = (sgn c, L) := by
  rcases hc with hc | hc
  · obtain rfl : c = 43 := UInt8.toNat_inj.1 hc
    rfl
  · obtain rfl : c = 45 := UInt8.toNat_inj.1 hc
    rfl
theorem signT_cases (L : List ByteArray) : ((signT L).1 = 0 ∧ (signT L).2 = L) ∨ ∃ (c : UInt8) (L' : List ByteArray), (c.toNat = 43 ∨ c.toNat = 45) ∧ L = ⟨#[c]⟩ :: L' ∧ signT L = (sgn c, L') := by
  cases L with
  | nil => exact .inl ⟨rfl, rfl⟩
  | cons p L =>
    by_cases h1 : p = ⟨#[43]⟩
    · subst h1
      exact .inr ⟨43, L, .inl rfl, rfl, rfl⟩
    · by_cases h2 : p = ⟨#[45]⟩
      · subst h2
        exact .inr ⟨45, L, .inr rfl, rfl, rfl⟩
      · refine .inl ?_
        have e : signT (p :: L) = (0, p :: L) := by show (if p = ⟨#[43]⟩ then _ else _) = _; rw [if_neg h1, if_neg h2]
        rw [e]
        exact ⟨rfl, rfl⟩
theorem sgn_ne (c : UInt8) : ¬ sgn c = 0 := by unfold sgn; split <;> decide
theorem numT_some {m n : Int} {L L1 : List ByteArray} (h : numT m L = some (n, L1)) : ∃ p, L = p :: L1 ∧ numR p = some n ∧ n ≤ m := by
  cases L with
  | nil => cases h
  | cons p L =>
    have h' : (match numR p with | some n => if n ≤ m then some (n, L) else none | none => none) = some (n, L1) := h
    cases hr : numR p with
    | none => rw [hr] at h'; cases h'
    | some k =>
      rw [hr] at h'
      dsimp only at h'
      split at h'
      · cases h'; exact ⟨p, rfl, hr, by assumption⟩
      · cases h'
theorem numT_of {m n : Int} {p : ByteArray} (L : List ByteArray) (h : numR p = some n) (hn : n ≤ m) : numT m (p :: L) = some (n, L) := by
  show (match numR p with | some n => if n ≤ m then some (n, L) else none | none => none) = _
  rw [h]
  dsimp only
  rw [if_pos hn]
theorem numT_no {m : Int} {p : ByteArray} (L : List ByteArray) (h : numR p = none) : numT m (p :: L) = none := by
  show (match numR p with | some n => if n ≤ m then some (n, L) else none | none => none) = _
  rw [h]
theorem nameT_of {p : ByteArray} (L : List ByteArray) (h : nameB p = true) : nameT (p :: L) = some (p, L) := by
  show (if nameB p = true then _ else _) = _
  rw [if_pos h]
theorem nameT_some {p : ByteArray} {L L1 : List ByteArray} (h : nameT L = some (p, L1)) : L = p :: L1 ∧ nameB p = true := by
  cases L with
  | nil => cases h
  | cons q L =>
    have h' : (if nameB q = true then some (q, L) else none) = some (p, L1) := h
    split at h'
    · cases h'; exact ⟨rfl, by assumption⟩
    · cases h'
theorem word_to {s : ByteArray} {x : ByteArray × Int} (h : wordR s = some x) : wordT (piecesL s) = some (x, []) := by
  unfold wordR at h
  cases hn : numW s with
  | some n =>
    rw [hn] at h
    cases h
    obtain ⟨h1, h2⟩ := numW_yes hn
    obtain ⟨h3, h4⟩ := numR_in h1
    rw [pieces_word s h3 h4]
    unfold wordT
    rw [numT_of [] h1 h2]
  | none =>
    rw [hn] at h
    dsimp only at h
    split at h
    · rename_i hk
      cases hq : numW (s.extract (signI s + 1) s.size) with
      | none => rw [hq] at h; cases h
      | some n =>
        rw [hq] at h
        dsimp only at h
        obtain ⟨rfl, hnm, hb0, hb1⟩ := wordN_some h
        obtain ⟨h1, h2⟩ := numW_yes hq
        obtain ⟨h3, h4⟩ := numR_in h1
        obtain ⟨h5, h6, h7⟩ := name_parts hnm
        have hc : s[signI s].toNat = 43 ∨ s[signI s].toNat = 45 := by
          by_cases hc : s[signI s].toNat = 43 ∨ s[signI s].toNat = 45
          · exact hc
          · exfalso
            have e := sign_split s (signI s) (by omega)
            have e2 : signL (s.data.toList.drop (signI s)) = 0 := by
              have : signI s = signI s + signL (s.data.toList.drop (signI s)) := e
              omega
            rw [sign_step s _ hk hc] at e2
            omega
        have hs : s = s.extract 0 (signI s) ++ (⟨#[s[signI s]]⟩ ++ s.extract (signI s + 1) s.size) := by
          apply ba_list
          rw [tri_list, take_list, drop_list, ← drop_at s _ hk, List.take_append_drop]
        have hp := tri_pieces (s.extract 0 (signI s)) (s.extract (signI s + 1) s.size) s[signI s] h7 h5 h4 h3 hc
        rw [← hs] at hp
        rw [hp]
        unfold wordT
        rw [numT_no _ (name_num hnm), nameT_of _ hnm]
        dsimp only
        rw [signT_of _ _ hc]
        dsimp only
        have hnn := numR_nn h1
        rw [if_neg (sgn_ne _), numT_of [] h1 (by unfold signed at hb0 hb1; split at hb0 <;> omega), signed_mul]
    · rename_i hk
      obtain ⟨rfl, hnm, hb0, hb1⟩ := wordN_some h
      obtain ⟨h5, h6, h7⟩ := name_parts hnm
      have he : s.extract 0 (signI s) = s := by
        apply ba_list
        rw [take_list, List.take_of_length_le (by rw [size_list]; omega)]
      rw [he] at hnm h5 h7 ⊢
      rw [pieces_word s h5 h7]
      unfold wordT
      rw [numT_no _ (name_num hnm), nameT_of _ hnm]
      rfl
theorem word_from {s : ByteArray} {x : ByteArray × Int} (h : wordT (piecesL s) = some (x, [])) : wordR s = some x := by
  have hcat := pieces_cat s
  unfold wordT at h
  cases hn : numT 65535 (piecesL s) with
  | some y =>
    obtain ⟨n, L1⟩ := y
    rw [hn] at h
    cases h
    obtain ⟨p, hp, hr, hm⟩ := numT_some hn
    rw [hp, catL_one] at hcat
    subst hcat
    unfold wordR numW
    rw [hr]
    dsimp only
    rw [if_pos hm]
  | none =>
    rw [hn] at h
    dsimp only at h
    cases hnm : nameT (piecesL s) with
    | none => rw [hnm] at h; cases h
    | some y =>
      obtain ⟨p, L1⟩ := y
      rw [hnm] at h
      dsimp only at h
      obtain ⟨hp, hpn⟩ := nameT_some hnm
      obtain ⟨h5, h6, h7⟩ := name_parts hpn
      rcases signT_cases L1 with ⟨hs1, hs2⟩ | ⟨c, L', hc, hL, hs⟩
      · rw [if_pos hs1] at h
        cases h
        rw [hp, catL_one] at hcat
        subst hcat
        unfold wordR
        rw [numR_no (name_num hpn)]
        dsimp only
        rw [dif_neg (by rw [signI_in h7]; omega), signI_in h7]
        have he : p.extract 0 p.size = p := by simp
        rw [he, wordN_name hpn (by omega) (by omega)]
      · rw [hs] at h
        dsimp only at h
        rw [if_neg (sgn_ne c)] at h
        cases hq : numT 32767 L' with
        | none => rw [hq] at h; cases h
        | some y =>
          obtain ⟨n, L2⟩ := y
          rw [hq] at h
          cases h
          obtain ⟨q, hL2, hr, hm⟩ := numT_some hq
          have hnn := numR_nn hr
          subst hL2
          subst hL
          rw [hp] at hcat
          have hcat2 : p ++ (⟨#[c]⟩ ++ q) = s := by
            rw [← hcat]
            simp [catL]
          subst hcat2
          have hsz := tri_size p q c
          have hsi := tri_sign p q c h7 hc
          unfold wordR
          rw [numR_no (tri_num p q c hc)]
          dsimp only
          rw [dif_pos (by omega)]
          simp only [hsi]
          rw [tri_right, tri_left, tri_at p q c (by omega), numR_ge hr, if_pos (by omega)]
          dsimp only
          rw [wordN_name hpn (by unfold signed; split <;> omega) (by unfold signed; split <;> omega), signed_mul]
theorem word_eq (s : ByteArray) : wordP s = wordR s := by
  unfold wordP
  cases hr : wordR s with
  | some x => rw [word_to hr]
  | none =>
    split
    · rename_i x hx
      rw [word_from hx] at hr
      cases hr
    · rfl
end Go.Proofs.YtodjccipfonaiaaGreatDoor
