/- What the specification takes as an operand: the same rows of pieces. -/
import Derived.Test.YtodjccipfonaiaaGreatDoorRows
import Derived.WalkKit
import Derived.Test.YtodjccipfonaiaaGreatDoorBun0
import Derived.Test.YtodjccipfonaiaaGreatDoorBun21
import Derived.Test.YtodjccipfonaiaaGreatDoorGramOX
namespace Go.Proofs.YtodjccipfonaiaaGreatDoor
open Go.RowKit
set_option linter.unusedVariables false

theorem headB_one (c : UInt8) (q : ByteArray) : headB (⟨#[c]⟩ ++ q) = c.toNat := by unfold headB; rw [app_list]; rfl
theorem tail_one (c : UInt8) (q : ByteArray) : (⟨#[c]⟩ ++ q).extract 1 (⟨#[c]⟩ ++ q).size = q := by
  apply ba_list
  rw [drop_list, app_list]
  rfl
theorem lastB_app (q : ByteArray) (c : UInt8) : lastB (q ++ ⟨#[c]⟩) = c.toNat := by
  unfold lastB
  rw [app_list]
  show ((q.data.toList ++ [c]).getLastD 0).toNat = _
  simp
theorem size_one (c : UInt8) : (⟨#[c]⟩ : ByteArray).size = 1 := rfl
theorem ext_list (s : ByteArray) (a b : Nat) : (s.extract a b).data.toList = (s.data.toList.drop a).take (b - a) := by
  rw [ByteArray.data_extract, Array.toList_extract, List.extract_eq_take_drop]
theorem mid_list (A B C : List UInt8) (s : ByteArray) (h : s.data.toList = A ++ (B ++ C)) : s.extract A.length (A.length + B.length) = ⟨B.toArray⟩ := by
  apply ba_list
  rw [ext_list, h, List.drop_left, show A.length + B.length - A.length = B.length by omega, List.take_left]
theorem mid_ba (a b c s : ByteArray) (h : s = a ++ (b ++ c)) : s.extract a.size (a.size + b.size) = b := by
  have e := mid_list a.data.toList b.data.toList c.data.toList s (by rw [h, app_list, app_list])
  rw [size_list, size_list] at e
  exact e
theorem head_app (a b : ByteArray) (h : 1 ≤ a.size) : headB (a ++ b) = headB a := by
  unfold headB
  rw [app_list]
  cases ha : a.data.toList with
  | nil => rw [← size_list, ha] at h; exact absurd h (by decide)
  | cons c L => rfl
theorem cons_head (u : ByteArray) (h : 1 ≤ u.size) (c : UInt8) (hc : headB u = c.toNat) : u = ⟨#[c]⟩ ++ u.extract 1 u.size := by
  apply ba_list
  rw [app_list, drop_list]
  unfold headB at hc
  cases hu : u.data.toList with
  | nil => rw [← size_list, hu] at h; exact absurd h (by decide)
  | cons d L =>
    rw [hu] at hc
    have : d = c := UInt8.toNat_inj.1 hc
    rw [this]
    rfl
theorem app_last (u : ByteArray) (h : 1 ≤ u.size) (c : UInt8) (hc : lastB u = c.toNat) : u = u.extract 0 (u.size - 1) ++ ⟨#[c]⟩ := by
  apply ba_list
  rw [app_list, take_list]
  have hne : u.data.toList ≠ [] := by
    intro e
    rw [← size_list, e] at h
    exact absurd h (by decide)
  unfold lastB at hc
  rw [List.getLastD_eq_getLast?, List.getLast?_eq_some_getLast hne] at hc
  have hc' : u.data.toList.getLast hne = c := UInt8.toNat_inj.1 hc
  have e := (List.dropLast_concat_getLast hne).symm
  rw [hc', List.dropLast_eq_take, size_list] at e
  exact e
theorem wordy_head {p : ByteArray} (h : wordy p) {c : Nat} (hc : inN (c : Int) = false) : ¬ headB p = c := by
  intro e
  have h1 := h.1
  rw [headB_at p (by omega)] at e
  have := h.2 0 (by omega)
  rw [e, hc] at this
  cases this
theorem wordy_last {p : ByteArray} (h : wordy p) {c : Nat} (hc : inN (c : Int) = false) : ¬ lastB p = c := by
  intro e
  have h1 := h.1
  rw [lastB_at p (by omega)] at e
  have := h.2 (p.size - 1) (by omega)
  rw [e, hc] at this
  cases this
theorem last_app (a b : ByteArray) (h : 1 ≤ b.size) : lastB (a ++ b) = lastB b := by
  unfold lastB
  rw [app_list]
  cases hb : b.data.toList with
  | nil => rw [← size_list, hb] at h; exact absurd h (by decide)
  | cons c L => rw [List.getLastD_eq_getLast?, List.getLastD_eq_getLast?, List.getLast?_append, List.getLast?_eq_some_getLast (l := c :: L) (by simp)]; rfl
/- Where a byte stands that no name holds. -/
theorem idxL_app (c : Nat) (A : List UInt8) (d : UInt8) (B : List UInt8) (hA : ∀ x ∈ A, ¬ x.toNat = c) (hd : d.toNat = c) : idxL c (A ++ d :: B) = A.length := by
  induction A with
  | nil => show (if d.toNat = c then 0 else _) = 0; rw [if_pos hd]
  | cons x A ih =>
    show (if x.toNat = c then 0 else idxL c (A ++ d :: B) + 1) = _
    rw [if_neg (hA x (List.mem_cons_self ..)), ih (fun y hy => hA y (List.mem_cons_of_mem _ hy))]
    rfl
theorem idxL_none (c : Nat) (A : List UInt8) (hA : ∀ x ∈ A, ¬ x.toNat = c) : idxL c A = A.length := by
  induction A with
  | nil => rfl
  | cons x A ih =>
    show (if x.toNat = c then 0 else idxL c A + 1) = _
    rw [if_neg (hA x (List.mem_cons_self ..)), ih (fun y hy => hA y (List.mem_cons_of_mem _ hy))]
    rfl
theorem idxL_lt (c : Nat) : ∀ (A : List UInt8), idxL c A < A.length → ∃ (d : UInt8), d.toNat = c ∧ A = A.take (idxL c A) ++ d :: A.drop (idxL c A + 1)
  | [], h => absurd h (Nat.not_lt_zero _)
  | x :: A, h => by
    by_cases hx : x.toNat = c
    · have e : idxL c (x :: A) = 0 := by show (if x.toNat = c then 0 else _) = 0; rw [if_pos hx]
      rw [e]
      exact ⟨x, hx, rfl⟩
    · have e : idxL c (x :: A) = idxL c A + 1 := by show (if x.toNat = c then 0 else _) = _; rw [if_neg hx]
      rw [e] at h ⊢
      obtain ⟨d, hd, hA⟩ := idxL_lt c A (by simpa using h)
      refine ⟨d, hd, ?_⟩
      show x :: A = x :: (A.take (idxL c A) ++ d :: A.drop (idxL c A + 1))
      rw [← hA]
def freeOf (c : Nat) (s : ByteArray) : Prop := ∀ x ∈ s.data.toList, ¬ x.toNat = c
theorem free_wordy {c : Nat} {s : ByteArray} (h : wordy s) (hc : inN (c : Int) = false) : freeOf c s := fun x hx e => by
  have := all_mem h.2 x hx
  rw [e, hc] at this
  cases this
theorem free_one {c : Nat} {d : UInt8} (h : ¬ d.toNat = c) : freeOf c ⟨#[d]⟩ := fun x hx => by
  have e : x = d := by simpa using hx
  rw [e]; exact h
theorem free_app {c : Nat} {a b : ByteArray} (ha : freeOf c a) (hb : freeOf c b) : freeOf c (a ++ b) := fun x hx => by
  rw [app_list] at hx
  rcases List.mem_append.1 hx with h | h
  · exact ha x h
  · exact hb x h
theorem idxI_app {c : Nat} {a : ByteArray} (ha : freeOf c a) (d : UInt8) (hd : d.toNat = c) (b : ByteArray) : idxI c (a ++ (⟨#[d]⟩ ++ b)) = a.size := by
  unfold idxI
  rw [tri_list, idxL_app c _ _ _ ha hd, size_list]
theorem idxI_none {c : Nat} {a : ByteArray} (ha : freeOf c a) : idxI c a = a.size := by
  unfold idxI
  rw [idxL_none c _ ha, size_list]
theorem idxI_lt {c : Nat} {a : ByteArray} (h : idxI c a < a.size) : ∃ d : UInt8, d.toNat = c ∧ a = a.extract 0 (idxI c a) ++ (⟨#[d]⟩ ++ a.extract (idxI c a + 1) a.size) := by
  obtain ⟨d, hd, e⟩ := idxL_lt c a.data.toList (by rw [size_list]; exact h)
  refine ⟨d, hd, ?_⟩
  apply ba_list
  rw [tri_list, take_list, drop_list]
  exact e
theorem regR_head {u : ByteArray} (h : ¬ headB u = 114) : regR u = none := by
  unfold regR
  rw [if_neg]
  rintro ⟨_, _, hh⟩
  apply h
  unfold headB
  rw [List.headD_eq_head?_getD, hh]
  rfl
theorem wordR_num {u : ByteArray} {n : Int} (h : numW u = some n) : wordR u = some (⟨#[]⟩, n) := by
  unfold wordR
  rw [h]
theorem named_num {u : ByteArray} {x : ByteArray × Int} (h : wordR u = some x) (hn : namedR u = false) : numW u = some x.2 := by
  unfold namedR at hn
  rw [h] at hn
  have hx : x.1 = ⟨#[]⟩ := by simpa using hn
  unfold wordR at h
  split at h
  · rename_i n hw; cases h; exact hw
  · exfalso
    have hk : ∀ {p : ByteArray} {n : Int}, wordN p n = some x → False := fun h => by
      have h2 := (wordN_some h).2.1
      have h1 := (wordN_some h).1
      rw [h1] at hx
      exact ne_empty (name_parts h2).1 hx
    split at h
    · split at h
      · exact hk h
      · cases h
    · exact hk h
theorem wordO_some {m r : Int} {l : Bool} {u v : ByteArray} {x : OpdV} (h : wordO m r l u = some (x, v)) (hn : namedR v = false) : ∃ n, numW u = some n ∧ x = (m, r, n, l) := by
  unfold wordO at h
  split at h
  · rename_i y hy
    cases h
    exact ⟨y.2, named_num hy hn, rfl⟩
  · cases h
theorem wordO_of {m r n : Int} {l : Bool} {u : ByteArray} (h : numW u = some n) : wordO m r l u = some ((m, r, n, l), u) := by
  unfold wordO
  rw [wordR_num h]
theorem named_of {u : ByteArray} {n : Int} (h : numW u = some n) : namedR u = false := by
  unfold namedR
  rw [wordR_num h]
  rfl
theorem named_nil : namedR ⟨#[]⟩ = false := by decide +kernel
theorem catL_three (a b c : ByteArray) : catL [a, b, c] = a ++ (b ++ c) := by show a ++ (b ++ (c ++ ByteArray.empty)) = _; rw [ByteArray.append_empty]
theorem catL_four (a b c d : ByteArray) : catL [a, b, c, d] = a ++ (b ++ (c ++ d)) := by show a ++ (b ++ (c ++ (d ++ ByteArray.empty))) = _; rw [ByteArray.append_empty]
/- The specification takes what is written so. -/
theorem gram_spec {P : List ByteArray} {x : OpdV} (h : OpG P x) : ∃ v, opndR (catL P) = some (x, v) ∧ namedR v = false := by
  rcases h with ⟨p, n, rfl, hp, rfl⟩ | ⟨p, n, rfl, hp, rfl⟩ | ⟨p, n, rfl, hp, rfl⟩ | ⟨q, r, rfl, hq, rfl⟩ | ⟨q, r, rfl, hq, rfl⟩ | ⟨p, n, q, r, rfl, hp, hq, rfl⟩ | ⟨q, r, rfl, hq, rfl⟩
  · refine ⟨p, ?_, named_of hp⟩
    rw [catL_two]
    have hh : headB (⟨#[38]⟩ ++ p) = 38 := headB_one 38 p
    have ht := tail_one 38 p
    have hne : ¬ (⟨#[38]⟩ ++ p) = (⟨#[]⟩ : ByteArray) := ne_empty (by rw [ByteArray.size_append, size_one]; omega)
    generalize (⟨#[38]⟩ : ByteArray) ++ p = u at *
    unfold opndR
    rw [if_neg hne, regR_head (by rw [hh]; decide)]
    dsimp only
    rw [if_neg (by rw [hh]; decide), if_pos hh, ht, wordO_of hp]
  · refine ⟨p, ?_, named_of hp⟩
    rw [catL_two]
    have hh : headB (⟨#[35]⟩ ++ p) = 35 := headB_one 35 p
    have ht := tail_one 35 p
    have hne : ¬ (⟨#[35]⟩ ++ p) = (⟨#[]⟩ : ByteArray) := ne_empty (by rw [ByteArray.size_append, size_one]; omega)
    have h2 : ¬ (1 < ((⟨#[35]⟩ : ByteArray) ++ p).size ∧ ((⟨#[35]⟩ : ByteArray) ++ p).extract 0 2 = ⟨#[35, 35]⟩) := by
      rintro ⟨_, h2⟩
      have e := take_list (⟨#[35]⟩ ++ p) 2
      rw [h2, app_list] at e
      have hw := numW_wordy hp
      cases hl : p.data.toList with
      | nil => rw [hl] at e; exact absurd e (by decide)
      | cons d D =>
        rw [hl] at e
        have e' : ([35, 35] : List UInt8) = [35, d] := e
        have hd : headB p = d.toNat := by unfold headB; rw [hl]; rfl
        have e3 : d = 35 := by cases e'; rfl
        rw [e3] at hd
        exact wordy_head hw (c := 35) (by decide) hd
    generalize (⟨#[35]⟩ : ByteArray) ++ p = u at *
    unfold opndR
    rw [if_neg hne, regR_head (by rw [hh]; decide)]
    dsimp only
    rw [if_neg (by rw [hh]; decide), if_neg (by rw [hh]; decide), if_neg h2, if_pos hh, ht, wordO_of hp]
  · refine ⟨p, ?_, named_of hp⟩
    rw [catL_three]
    have hh : headB (⟨#[35]⟩ ++ (⟨#[35]⟩ ++ p)) = 35 := headB_one 35 (⟨#[35]⟩ ++ p)
    have ht : (⟨#[35]⟩ ++ (⟨#[35]⟩ ++ p)).extract 2 ((⟨#[35]⟩ : ByteArray) ++ (⟨#[35]⟩ ++ p)).size = p := by
      apply ba_list
      rw [drop_list, app_list, app_list]
      rfl
    have hne : ¬ (⟨#[35]⟩ ++ (⟨#[35]⟩ ++ p)) = (⟨#[]⟩ : ByteArray) := ne_empty (by rw [ByteArray.size_append, size_one]; omega)
    have h2 : 1 < ((⟨#[35]⟩ : ByteArray) ++ (⟨#[35]⟩ ++ p)).size ∧ ((⟨#[35]⟩ : ByteArray) ++ (⟨#[35]⟩ ++ p)).extract 0 2 = ⟨#[35, 35]⟩ := by
      refine ⟨by rw [ByteArray.size_append, ByteArray.size_append, size_one]; omega, ?_⟩
      apply ba_list
      rw [take_list, app_list, app_list]
      rfl
    generalize (⟨#[35]⟩ : ByteArray) ++ (⟨#[35]⟩ ++ p) = u at *
    unfold opndR
    rw [if_neg hne, regR_head (by rw [hh]; decide)]
    dsimp only
    rw [if_neg (by rw [hh]; decide), if_neg (by rw [hh]; decide), if_pos h2, ht, wordO_of hp]
  · refine ⟨⟨#[]⟩, ?_, named_nil⟩
    rw [catL_two]
    have hw := isReg_w hq
    have hh : headB (⟨#[64]⟩ ++ q) = 64 := headB_one 64 q
    have ht := tail_one 64 q
    have hl : lastB (⟨#[64]⟩ ++ q) = lastB q := last_app _ _ hw.1
    have hl2 := wordy_last hw (c := 43) (by decide)
    have hne : ¬ (⟨#[64]⟩ ++ q) = (⟨#[]⟩ : ByteArray) := ne_empty (by rw [ByteArray.size_append, size_one]; omega)
    generalize (⟨#[64]⟩ : ByteArray) ++ q = u at *
    unfold opndR
    rw [if_neg hne, regR_head (by rw [hh]; decide)]
    dsimp only
    rw [if_pos hh, if_neg (by rw [hl]; exact hl2), ht]
    unfold regO
    rw [isReg_R hq]
  · refine ⟨⟨#[]⟩, ?_, named_nil⟩
    rw [catL_three]
    have hw := isReg_w hq
    have hh : headB (⟨#[64]⟩ ++ (q ++ ⟨#[43]⟩)) = 64 := headB_one 64 (q ++ ⟨#[43]⟩)
    have hl : lastB (⟨#[64]⟩ ++ (q ++ ⟨#[43]⟩)) = 43 := by rw [last_app _ _ (by rw [ByteArray.size_append, size_one]; omega), lastB_app]; rfl
    have hsz : ((⟨#[64]⟩ : ByteArray) ++ (q ++ ⟨#[43]⟩)).size = 1 + q.size + 1 := by rw [ByteArray.size_append, ByteArray.size_append, size_one, size_one]; omega
    have ht := mid_ba ⟨#[64]⟩ q ⟨#[43]⟩ _ rfl
    rw [size_one] at ht
    have hne : ¬ (⟨#[64]⟩ ++ (q ++ ⟨#[43]⟩)) = (⟨#[]⟩ : ByteArray) := ne_empty (by omega)
    generalize (⟨#[64]⟩ : ByteArray) ++ (q ++ ⟨#[43]⟩) = u at *
    unfold opndR
    rw [if_neg hne, regR_head (by rw [hh]; decide)]
    dsimp only
    rw [if_pos hh, if_pos hl, show u.size - 1 = 1 + q.size by omega, ht]
    unfold regO
    rw [isReg_R hq]
  · refine ⟨p, ?_, named_of hp⟩
    rw [catL_four]
    have hwp := numW_wordy hp
    have hw := isReg_w hq
    have hh : headB (p ++ (⟨#[40]⟩ ++ (q ++ ⟨#[41]⟩))) = headB p := head_app _ _ hwp.1
    have hl : lastB (p ++ (⟨#[40]⟩ ++ (q ++ ⟨#[41]⟩))) = 41 := by
      rw [last_app _ _ (by rw [ByteArray.size_append, size_one]; omega), last_app _ _ (by rw [ByteArray.size_append, size_one]; omega), lastB_app]; rfl
    have hsz : (p ++ ((⟨#[40]⟩ : ByteArray) ++ (q ++ ⟨#[41]⟩))).size = p.size + 1 + q.size + 1 := by rw [ByteArray.size_append, ByteArray.size_append, ByteArray.size_append, size_one, size_one]; omega
    have hi := idxI_app (c := 40) (free_wordy hwp (by decide)) 40 rfl (q ++ ⟨#[41]⟩)
    have h0 : (p ++ (⟨#[40]⟩ ++ (q ++ ⟨#[41]⟩))).extract 0 p.size = p := tri_left _ _ _
    have ht := mid_ba (p ++ ⟨#[40]⟩) q ⟨#[41]⟩ (p ++ (⟨#[40]⟩ ++ (q ++ ⟨#[41]⟩))) (by rw [ByteArray.append_assoc])
    rw [ByteArray.size_append, size_one] at ht
    have hnr : ∀ d : UInt8, d = 114 → headB p = d.toNat → False := fun d hd e => by
      have hn := numR_in (numW_yes hp).1
      have h9 := (numW_yes hp).1
      subst hd
      have hc := cons_head p hwp.1 114 e
      unfold numR at h9
      split at h9
      · rename_i hx
        have e5 := hex_head hx.2
        rw [hc, app_list] at e5
        exact absurd (List.cons.inj e5).1 (by decide)
      · split at h9
        · rw [hc, app_list] at h9
          have h10 : (if 0 ≤ hexV ((114 : UInt8).toNat : Int) ∧ hexV ((114 : UInt8).toNat : Int) < 10 then numF 10 (p.extract 1 p.size).data.toList (10 * 0 + hexV ((114 : UInt8).toNat : Int)) else none) = some n := h9
          rw [if_neg (by decide)] at h10
          cases h10
        · cases h9
    have hne : ¬ (p ++ (⟨#[40]⟩ ++ (q ++ ⟨#[41]⟩))) = (⟨#[]⟩ : ByteArray) := ne_empty (by omega)
    have h35 := wordy_head hwp (c := 35) (by decide)
    have h38 := wordy_head hwp (c := 38) (by decide)
    have h64 := wordy_head hwp (c := 64) (by decide)
    have hll : ¬ (1 < (p ++ (⟨#[40]⟩ ++ (q ++ ⟨#[41]⟩))).size ∧ (p ++ (⟨#[40]⟩ ++ (q ++ ⟨#[41]⟩))).extract 0 2 = (⟨#[35, 35]⟩ : ByteArray)) := by
      rintro ⟨_, h2⟩
      have e := take_list (p ++ (⟨#[40]⟩ ++ (q ++ ⟨#[41]⟩))) 2
      rw [h2] at e
      apply h35
      rw [← hh]
      unfold headB
      cases hu : (p ++ (⟨#[40]⟩ ++ (q ++ ⟨#[41]⟩))).data.toList with
      | nil => rw [hu] at e; exact absurd e (by decide)
      | cons d D =>
        rw [hu] at e
        have e2 : (35 : UInt8) = d := by
          cases D with
          | nil => exact absurd (congrArg List.length e) (by show ¬ ((2 : Nat) = 1); decide)
          | cons f F => exact (List.cons.inj e).1
        rw [← e2]
        rfl
    generalize p ++ ((⟨#[40]⟩ : ByteArray) ++ (q ++ ⟨#[41]⟩)) = u at *
    unfold opndR
    rw [if_neg hne, regR_head (by rw [hh]; exact fun e => hnr 114 rfl e)]
    dsimp only
    rw [if_neg (by rw [hh]; exact h64), if_neg (by rw [hh]; exact h38), if_neg hll, if_neg (by rw [hh]; exact h35)]
    unfold opndI
    rw [hi, if_pos ⟨by omega, hl⟩, show u.size - 1 = p.size + 1 + q.size by omega, ht, isReg_R hq]
    dsimp only
    rw [h0, wordO_of hp]
  · refine ⟨⟨#[]⟩, ?_, named_nil⟩
    rw [catL_one]
    unfold opndR
    rw [if_neg (ne_empty (isReg_w hq).1), isReg_R hq]
/- What the specification takes is written so. -/
theorem spec_gram {u v : ByteArray} {x : OpdV} (h : opndR u = some (x, v)) (hn : namedR v = false) : ∃ P, u = catL P ∧ OpG P x := by
  unfold opndR at h
  split at h
  · cases h
  rename_i hne
  have h1 : 1 ≤ u.size := by
    rcases Nat.eq_zero_or_pos u.size with h0 | h0
    · exact absurd (ba_list (List.eq_nil_of_length_eq_zero (by rw [size_list]; exact h0))) hne
    · exact h0
  split at h
  · rename_i r hr
    cases h
    exact ⟨[u], (catL_one u).symm, .inr (.inr (.inr (.inr (.inr (.inr ⟨u, r, rfl, regR_is hr, rfl⟩)))))⟩
  split at h
  · rename_i h64
    have hc := cons_head u h1 64 h64
    split at h
    · rename_i h43
      unfold regO at h
      split at h
      · rename_i r hr
        cases h
        have hs2 : 2 ≤ u.size := by
          rcases Nat.lt_or_ge u.size 2 with h0 | h0
          · exfalso
            have e1 := headB_at u (by omega)
            have e2 := lastB_at u (by omega)
            have : u.size - 1 = 0 := by omega
            simp only [this] at e2
            omega
          · exact h0
        have hl := app_last u h1 43 h43
        refine ⟨[⟨#[64]⟩, u.extract 1 (u.size - 1), ⟨#[43]⟩], ?_, .inr (.inr (.inr (.inr (.inl ⟨_, r, rfl, regR_is hr, rfl⟩))))⟩
        rw [catL_three]
        apply ba_list
        rw [app_list, app_list, ext_list]
        have e := congrArg (fun z => z.data.toList) hl
        (try dsimp only at e)
        rw [app_list, take_list] at e
        have e2 := congrArg (fun z => z.data.toList) hc
        (try dsimp only at e2)
        rw [app_list, drop_list] at e2
        have e3 : u.data.toList.take (u.size - 1) = 64 :: (u.data.toList.drop 1).take (u.size - 1 - 1) := by
          conv => lhs; rw [e2]
          rw [show u.size - 1 = (u.size - 1 - 1) + 1 by omega]
          rfl
        rw [e3] at e
        exact e
      · cases h
    · unfold regO at h
      split at h
      · rename_i r hr
        cases h
        exact ⟨[⟨#[64]⟩, u.extract 1 u.size], by rw [catL_two]; exact hc, .inr (.inr (.inr (.inl ⟨_, r, rfl, regR_is hr, rfl⟩)))⟩
      · cases h
  split at h
  · rename_i h38
    have hc := cons_head u h1 38 h38
    obtain ⟨n, hw, rfl⟩ := wordO_some h hn
    exact ⟨[⟨#[38]⟩, u.extract 1 u.size], by rw [catL_two]; exact hc, .inl ⟨_, n, rfl, hw, rfl⟩⟩
  split at h
  · rename_i hll
    obtain ⟨n, hw, rfl⟩ := wordO_some h hn
    refine ⟨[⟨#[35]⟩, ⟨#[35]⟩, u.extract 2 u.size], ?_, .inr (.inr (.inl ⟨_, n, rfl, hw, rfl⟩))⟩
    rw [catL_three]
    apply ba_list
    rw [app_list, app_list, drop_list]
    have e := take_list u 2
    rw [hll.2] at e
    have e2 : ([35, 35] : List UInt8) = u.data.toList.take 2 := e
    show _ = [35, 35] ++ u.data.toList.drop 2
    rw [e2, List.take_append_drop]
  split at h
  · rename_i h35
    have hc := cons_head u h1 35 h35
    obtain ⟨n, hw, rfl⟩ := wordO_some h hn
    exact ⟨[⟨#[35]⟩, u.extract 1 u.size], by rw [catL_two]; exact hc, .inr (.inl ⟨_, n, rfl, hw, rfl⟩)⟩
  · unfold opndI at h
    split at h
    · rename_i hi
      obtain ⟨hlt, h41⟩ := hi
      split at h
      · rename_i r hr
        obtain ⟨n, hw, rfl⟩ := wordO_some h hn
        obtain ⟨d, hd, e⟩ := idxI_lt hlt
        have hd' : d = 40 := UInt8.toNat_inj.1 hd
        subst hd'
        have hs : idxI 40 u + 1 < u.size := by
          rcases Nat.lt_or_ge (idxI 40 u + 1) u.size with h0 | h0
          · exact h0
          · exfalso
            have h5 : u.extract (idxI 40 u + 1) u.size = ⟨#[]⟩ := by
              apply ba_list
              rw [drop_list, List.drop_of_length_le (by rw [size_list]; omega)]
            rw [h5] at e
            have e3 : (⟨#[40]⟩ : ByteArray) ++ (⟨#[]⟩ : ByteArray) = ⟨#[40]⟩ := by decide +kernel
            rw [e3] at e
            rw [e, lastB_app] at h41
            exact absurd h41 (by decide)
        have e5 := app_last u h1 41 h41
        refine ⟨[u.extract 0 (idxI 40 u), ⟨#[40]⟩, u.extract (idxI 40 u + 1) (u.size - 1), ⟨#[41]⟩], ?_, .inr (.inr (.inr (.inr (.inr (.inl ⟨_, n, _, r, rfl, hw, regR_is hr, rfl⟩)))))⟩
        rw [catL_four]
        apply ba_list
        have e6 := congrArg (fun z => z.data.toList) e
        have e7 := congrArg (fun z => z.data.toList) e5
        (try dsimp only at e6 e7)
        rw [tri_list, take_list, drop_list] at e6
        rw [app_list, take_list] at e7
        rw [tri_list, take_list, app_list, ext_list]
        have e8 : u.data.toList.drop (idxI 40 u + 1) = (u.data.toList.drop (idxI 40 u + 1)).take (u.size - 1 - (idxI 40 u + 1)) ++ [41] := by
          conv => lhs; rw [e7]
          rw [List.drop_append, List.drop_take, List.length_take, size_list, show idxI 40 u + 1 - min (u.size - 1) u.size = 0 by omega]
          rfl
        have e9 : (⟨#[41]⟩ : ByteArray).data.toList = [41] := rfl
        rw [e9, ← e8]
        exact e6
      · cases h
    · cases h
end Go.Proofs.YtodjccipfonaiaaGreatDoor
