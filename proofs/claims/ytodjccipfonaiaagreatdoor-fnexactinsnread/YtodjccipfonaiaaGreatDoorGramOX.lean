/- What may be written as an operand, as a row of pieces; the program takes just these. -/
import Derived.Test.YtodjccipfonaiaaGreatDoorRows
import Derived.WalkKit
import Derived.Test.YtodjccipfonaiaaGreatDoorBun0
import Derived.Test.YtodjccipfonaiaaGreatDoorBun37
import Derived.Test.YtodjccipfonaiaaGreatDoorBun39
namespace Go.Proofs.YtodjccipfonaiaaGreatDoor
open Go.RowKit
set_option linter.unusedVariables false

abbrev OpdV := Int × Int × Int × Bool
def OpG (P : List ByteArray) (x : OpdV) : Prop :=
  (∃ p n, P = [⟨#[38]⟩, p] ∧ numW p = some n ∧ x = (2, 0, n, false))
  ∨ (∃ p n, P = [⟨#[35]⟩, p] ∧ numW p = some n ∧ x = (5, 0, n, false))
  ∨ (∃ p n, P = [⟨#[35]⟩, ⟨#[35]⟩, p] ∧ numW p = some n ∧ x = (5, 0, n, true))
  ∨ (∃ q r, P = [⟨#[64]⟩, q] ∧ isReg q r ∧ x = (3, r, 0, false))
  ∨ (∃ q r, P = [⟨#[64]⟩, q, ⟨#[43]⟩] ∧ isReg q r ∧ x = (4, r, 0, false))
  ∨ (∃ p n q r, P = [p, ⟨#[40]⟩, q, ⟨#[41]⟩] ∧ numW p = some n ∧ isReg q r ∧ x = (1, r, n, false))
  ∨ (∃ q r, P = [q] ∧ isReg q r ∧ x = (0, r, 0, false))
theorem ffB : ¬ (false = true) := by decide
theorem takeT_eq (m : ByteArray) (L : List ByteArray) : takeT m (m :: L) = (true, L) := by show (if m = m then _ else _) = _; rw [if_pos rfl]
theorem takeT_ne {m p : ByteArray} (L : List ByteArray) (h : ¬ p = m) : takeT m (p :: L) = (false, p :: L) := by show (if p = m then _ else _) = _; rw [if_neg h]
theorem takeT_split {m : ByteArray} {L : List ByteArray} (h : (takeT m L).1 = true) : L = m :: (takeT m L).2 := by
  cases L with
  | nil => cases h
  | cons p L =>
    by_cases hp : p = m
    · rw [hp, takeT_eq]
    · rw [takeT_ne L hp] at h; cases h
theorem wordy_ne {p : ByteArray} (h : wordy p) {c : UInt8} (hc : inN (c.toNat : Int) = false) : ¬ p = ⟨#[c]⟩ := by
  rintro rfl
  have := h.2 0 (by show 0 < 1; omega)
  have e : ((⟨#[c]⟩ : ByteArray)[0]'(by show 0 < 1; omega)) = c := rfl
  rw [e, hc] at this
  cases this
theorem numW_wordy {p : ByteArray} {n : Int} (h : numW p = some n) : wordy p := numR_in (numW_yes h).1
theorem wordT_num {L L1 : List ByteArray} {nm : ByteArray} {k : Int} (h : wordT L = some ((nm, k), L1)) (hn : nm = ⟨#[]⟩) : ∃ p, L = p :: L1 ∧ numW p = some k := by
  subst hn
  unfold wordT at h
  split at h
  · rename_i n L2 h1
    cases h
    obtain ⟨p, rfl, h2, h3⟩ := numT_some h1
    exact ⟨p, rfl, by rw [numR_ge h2, if_pos h3]⟩
  · split at h
    · cases h
    · rename_i p L2 h2
      have hne : ¬ p = ⟨#[]⟩ := by
        cases L with
        | nil => cases h2
        | cons q L =>
          have h3 : (if nameB q = true then some (q, L) else none) = some (p, L2) := h2
          split at h3
          · rename_i hq; cases h3; exact ne_empty (name_parts hq).1
          · cases h3
      split at h
      · cases h; exact absurd rfl hne
      · split at h
        · cases h; exact absurd rfl hne
        · cases h
theorem wordT_of {p : ByteArray} {n : Int} (L : List ByteArray) (h : numW p = some n) : wordT (p :: L) = some ((⟨#[]⟩, n), L) := by
  obtain ⟨h1, h2⟩ := numW_yes h
  unfold wordT
  rw [numT_of L h1 h2]
theorem withO_none (m r n : Int) (l : Bool) (k : Int) : withO m r n l (⟨#[]⟩, k) = ((m, r, k, l), ⟨#[]⟩, k) := withO_eq (by unfold withW; rw [if_pos rfl])
theorem regT_some {L L1 : List ByteArray} {r : Int} (h : regT L = some (r, L1)) : ∃ q, L = q :: L1 ∧ regM q = some r := by
  cases L with
  | nil => cases h
  | cons q L =>
    have h' : (regM q).map (fun n => (n, L)) = some (r, L1) := h
    cases hq : regM q with
    | none => rw [hq] at h'; cases h'
    | some n => rw [hq] at h'; cases h'; exact ⟨q, rfl, hq⟩
theorem regT_of {q : ByteArray} {r : Int} (L : List ByteArray) (h : isReg q r) : regT (q :: L) = some (r, L) := by
  show (regM q).map (fun n => (n, L)) = _
  rw [isReg_M h]; rfl
/- What the program takes as an operand without a Name, and with a right register. -/
theorem oper_gram {L L' : List ByteArray} {x : OpdV} {nm : ByteArray} {k : Int} (h : operT L = some ((x, nm, k), L')) (hn : nm = ⟨#[]⟩) (hr : x.2.1 ≤ 15) : ∃ P, L = P ++ L' ∧ OpG P x := by
  unfold operT at h
  split at h
  · rename_i h1
    have hL := takeT_split h1
    generalize (takeT ⟨#[38]⟩ L).2 = L1 at *
    cases hw : wordT L1 with
    | none => rw [hw] at h; cases h
    | some y =>
      obtain ⟨⟨nm2, k2⟩, L2⟩ := y
      rw [hw] at h
      have h' : some (withO 2 0 0 false (nm2, k2), L2) = some ((x, nm, k), L') := h
      have hn2 : nm2 = ⟨#[]⟩ := by cases h'; exact hn
      subst hn2
      rw [withO_none] at h'
      cases h'
      obtain ⟨p, rfl, hp⟩ := wordT_num hw rfl
      exact ⟨[⟨#[38]⟩, p], hL, .inl ⟨p, _, rfl, hp, rfl⟩⟩
  split at h
  · rename_i _ h1
    have hL := takeT_split h1
    generalize (takeT ⟨#[35]⟩ L).2 = L1 at *
    unfold immT at h
    split at h
    · rename_i h2
      have hL2 := takeT_split h2
      generalize (takeT ⟨#[35]⟩ L1).2 = L2 at *
      cases hw : numT 65535 L2 with
      | none => rw [hw] at h; cases h
      | some y =>
        obtain ⟨n, L3⟩ := y
        rw [hw] at h
        have h' : some (withO 5 0 0 true (⟨#[]⟩, n), L3) = some ((x, nm, k), L') := h
        rw [withO_none] at h'
        cases h'
        obtain ⟨p, rfl, h3, h4⟩ := numT_some hw
        exact ⟨[⟨#[35]⟩, ⟨#[35]⟩, p], by rw [hL, hL2]; rfl, .inr (.inr (.inl ⟨p, _, rfl, by rw [numR_ge h3, if_pos h4], rfl⟩))⟩
    · cases hw : wordT (takeT ⟨#[35]⟩ L1).2 with
      | none => rw [hw] at h; cases h
      | some y =>
        rename_i h2
        have h2' : (takeT ⟨#[35]⟩ L1).2 = L1 := mark_left (by simpa using h2)
        rw [h2'] at hw
        obtain ⟨⟨nm2, k2⟩, L2⟩ := y
        rw [h2', hw] at h
        have h' : some (withO 5 0 0 false (nm2, k2), L2) = some ((x, nm, k), L') := h
        have hn2 : nm2 = ⟨#[]⟩ := by cases h'; exact hn
        subst hn2
        rw [withO_none] at h'
        cases h'
        obtain ⟨p, rfl, hp⟩ := wordT_num hw rfl
        exact ⟨[⟨#[35]⟩, p], hL, .inr (.inl ⟨p, _, rfl, hp, rfl⟩)⟩
  split at h
  · rename_i _ _ h1
    have hL := takeT_split h1
    generalize (takeT ⟨#[64]⟩ L).2 = L1 at *
    unfold atT at h
    split at h
    · cases h
    · rename_i r L2 hq
      obtain ⟨q, rfl, hq2⟩ := regT_some hq
      split at h
      · rename_i h2
        have hL2 := takeT_split h2
        generalize (takeT ⟨#[43]⟩ L2).2 = L3 at *
        cases h
        exact ⟨[⟨#[64]⟩, q, ⟨#[43]⟩], by rw [hL, hL2]; rfl, .inr (.inr (.inr (.inr (.inl ⟨q, r, rfl, regM_is hq2 hr, rfl⟩))))⟩
      · cases h
        exact ⟨[⟨#[64]⟩, q], hL, .inr (.inr (.inr (.inl ⟨q, r, rfl, regM_is hq2 hr, rfl⟩)))⟩
  · unfold bareT at h
    split at h
    · rename_i y hy
      cases h
      unfold idxT at hy
      split at hy
      · cases hy
      · rename_i w L1 hw
        obtain ⟨nm2, k2⟩ := w
        split at hy
        · rename_i h2
          have hL1 := takeT_split h2
          generalize (takeT ⟨#[40]⟩ L1).2 = L2 at *
          split at hy
          · cases hy
          · rename_i r L3 hq
            obtain ⟨q, rfl, hq2⟩ := regT_some hq
            split at hy
            · rename_i h3
              have hL3 := takeT_split h3
              generalize (takeT ⟨#[41]⟩ L3).2 = L4 at *
              have hy' : some (withO 1 r 0 false (nm2, k2), L4) = some ((x, nm, k), L') := hy
              have hn2 : nm2 = ⟨#[]⟩ := by cases hy'; exact hn
              subst hn2
              rw [withO_none] at hy'
              cases hy'
              obtain ⟨p, rfl, hp⟩ := wordT_num hw rfl
              exact ⟨[p, ⟨#[40]⟩, q, ⟨#[41]⟩], by rw [hL1, hL3]; rfl, .inr (.inr (.inr (.inr (.inr (.inl ⟨p, _, q, r, rfl, hp, regM_is hq2 hr, rfl⟩)))))⟩
            · cases hy
        · cases hy
    · cases hr2 : regT L with
      | none => rw [hr2] at h; cases h
      | some y =>
        obtain ⟨r, L1⟩ := y
        rw [hr2] at h
        have h' : some (((0, r, 0, false), (⟨#[]⟩ : ByteArray), (0 : Int)), L1) = some ((x, nm, k), L') := h
        cases h'
        obtain ⟨q, rfl, hq2⟩ := regT_some hr2
        exact ⟨[q], rfl, .inr (.inr (.inr (.inr (.inr (.inr ⟨q, r, rfl, regM_is hq2 hr, rfl⟩)))))⟩
/- Behind an operand stands nothing, or a comma. -/
def commaHead : List ByteArray → Prop
  | [] => True
  | p :: _ => p = ⟨#[44]⟩
theorem comma_take {m : ByteArray} {L : List ByteArray} (h : commaHead L) (hm : ¬ (⟨#[44]⟩ : ByteArray) = m) : takeT m L = (false, L) := by
  cases L with
  | nil => rfl
  | cons p L => have hp : p = ⟨#[44]⟩ := h; subst hp; exact takeT_ne L hm
theorem comma_sign {L : List ByteArray} (h : commaHead L) : signT L = (0, L) := by
  cases L with
  | nil => rfl
  | cons p L =>
    have hp : p = ⟨#[44]⟩ := h
    subst hp
    show (if (⟨#[44]⟩ : ByteArray) = ⟨#[43]⟩ then ((1 : Int), L) else if (⟨#[44]⟩ : ByteArray) = ⟨#[45]⟩ then ((-1 : Int), L) else ((0 : Int), (⟨#[44]⟩ : ByteArray) :: L)) = _
    rw [if_neg (by decide), if_neg (by decide)]
theorem gram_oper {P L' : List ByteArray} {x : OpdV} (h : OpG P x) (hc : commaHead L') : ∃ k, operT (P ++ L') = some ((x, ⟨#[]⟩, k), L') := by
  unfold operT
  rcases h with ⟨p, n, rfl, hp, rfl⟩ | ⟨p, n, rfl, hp, rfl⟩ | ⟨p, n, rfl, hp, rfl⟩ | ⟨q, r, rfl, hq, rfl⟩ | ⟨q, r, rfl, hq, rfl⟩ | ⟨p, n, q, r, rfl, hp, hq, rfl⟩ | ⟨q, r, rfl, hq, rfl⟩
  · refine ⟨n, ?_⟩
    show (if (takeT ⟨#[38]⟩ (⟨#[38]⟩ :: p :: L')).1 = true then mapO (wordT (takeT ⟨#[38]⟩ (⟨#[38]⟩ :: p :: L')).2) _ else _) = _
    rw [takeT_eq, if_pos rfl, wordT_of L' hp]
    show some (withO 2 0 0 false (⟨#[]⟩, n), L') = _
    rw [withO_none]
  · refine ⟨n, ?_⟩
    show (if (takeT ⟨#[38]⟩ (⟨#[35]⟩ :: p :: L')).1 = true then _ else if (takeT ⟨#[35]⟩ (⟨#[35]⟩ :: p :: L')).1 = true then immT (takeT ⟨#[35]⟩ (⟨#[35]⟩ :: p :: L')).2 else _) = _
    rw [takeT_ne _ (by decide), if_neg ffB, takeT_eq, if_pos rfl]
    show immT (p :: L') = _
    unfold immT
    rw [takeT_ne _ (wordy_ne (numW_wordy hp) (by decide)), if_neg ffB]
    show mapO (wordT (p :: L')) _ = _
    rw [wordT_of L' hp]
    show some (withO 5 0 0 false (⟨#[]⟩, n), L') = _
    rw [withO_none]
  · refine ⟨n, ?_⟩
    show (if (takeT ⟨#[38]⟩ (⟨#[35]⟩ :: ⟨#[35]⟩ :: p :: L')).1 = true then _ else if (takeT ⟨#[35]⟩ (⟨#[35]⟩ :: ⟨#[35]⟩ :: p :: L')).1 = true then immT (takeT ⟨#[35]⟩ (⟨#[35]⟩ :: ⟨#[35]⟩ :: p :: L')).2 else _) = _
    rw [takeT_ne _ (by decide), if_neg ffB, takeT_eq, if_pos rfl]
    show immT (⟨#[35]⟩ :: p :: L') = _
    unfold immT
    obtain ⟨h1, h2⟩ := numW_yes hp
    rw [takeT_eq, if_pos rfl, numT_of L' h1 h2]
    show some (withO 5 0 0 true (⟨#[]⟩, n), L') = _
    rw [withO_none]
  · refine ⟨0, ?_⟩
    show (if (takeT ⟨#[38]⟩ (⟨#[64]⟩ :: q :: L')).1 = true then _ else if (takeT ⟨#[35]⟩ (⟨#[64]⟩ :: q :: L')).1 = true then _ else if (takeT ⟨#[64]⟩ (⟨#[64]⟩ :: q :: L')).1 = true then atT (takeT ⟨#[64]⟩ (⟨#[64]⟩ :: q :: L')).2 else _) = _
    rw [takeT_ne _ (by decide), if_neg ffB, takeT_ne _ (by decide), if_neg ffB, takeT_eq, if_pos rfl]
    show atT (q :: L') = _
    unfold atT
    rw [regT_of L' hq]
    dsimp only
    rw [comma_take hc (by decide), if_neg ffB]
  · refine ⟨0, ?_⟩
    show (if (takeT ⟨#[38]⟩ (⟨#[64]⟩ :: q :: ⟨#[43]⟩ :: L')).1 = true then _ else if (takeT ⟨#[35]⟩ (⟨#[64]⟩ :: q :: ⟨#[43]⟩ :: L')).1 = true then _ else if (takeT ⟨#[64]⟩ (⟨#[64]⟩ :: q :: ⟨#[43]⟩ :: L')).1 = true then atT (takeT ⟨#[64]⟩ (⟨#[64]⟩ :: q :: ⟨#[43]⟩ :: L')).2 else _) = _
    rw [takeT_ne _ (by decide), if_neg ffB, takeT_ne _ (by decide), if_neg ffB, takeT_eq, if_pos rfl]
    show atT (q :: ⟨#[43]⟩ :: L') = _
    unfold atT
    rw [regT_of _ hq]
    dsimp only
    rw [takeT_eq, if_pos rfl]
  · refine ⟨n, ?_⟩
    have hw := numW_wordy hp
    show (if (takeT ⟨#[38]⟩ (p :: ⟨#[40]⟩ :: q :: ⟨#[41]⟩ :: L')).1 = true then _ else if (takeT ⟨#[35]⟩ (p :: ⟨#[40]⟩ :: q :: ⟨#[41]⟩ :: L')).1 = true then _ else if (takeT ⟨#[64]⟩ (p :: ⟨#[40]⟩ :: q :: ⟨#[41]⟩ :: L')).1 = true then _ else bareT (p :: ⟨#[40]⟩ :: q :: ⟨#[41]⟩ :: L')) = _
    rw [takeT_ne _ (wordy_ne hw (by decide)), if_neg ffB, takeT_ne _ (wordy_ne hw (by decide)), if_neg ffB, takeT_ne _ (wordy_ne hw (by decide)), if_neg ffB]
    have hi : idxT (p :: ⟨#[40]⟩ :: q :: ⟨#[41]⟩ :: L') = some (((1, r, n, false), ⟨#[]⟩, n), L') := by
      unfold idxT
      rw [wordT_of _ hp]
      dsimp only
      rw [takeT_eq, if_pos rfl, regT_of _ hq]
      dsimp only
      rw [takeT_eq, if_pos rfl, withO_none]
    unfold bareT
    rw [hi]
  · refine ⟨0, ?_⟩
    have hw := isReg_w hq
    show (if (takeT ⟨#[38]⟩ (q :: L')).1 = true then _ else if (takeT ⟨#[35]⟩ (q :: L')).1 = true then _ else if (takeT ⟨#[64]⟩ (q :: L')).1 = true then _ else bareT (q :: L')) = _
    rw [takeT_ne _ (wordy_ne hw (by decide)), if_neg ffB, takeT_ne _ (wordy_ne hw (by decide)), if_neg ffB, takeT_ne _ (wordy_ne hw (by decide)), if_neg ffB]
    have hn : numT 65535 (q :: L') = none := by
      show (match numR q with | some n => if n ≤ 65535 then some (n, L') else none | none => none) = none
      rw [isReg_N hq]
    have hi : idxT (q :: L') = none := by
      unfold idxT wordT
      rw [hn]
      dsimp only
      have hnm : nameT (q :: L') = if nameB q = true then some (q, L') else none := rfl
      rw [hnm]
      split
      · rfl
      · rename_i w L1 hwd
        split at hwd
        · cases hwd
        · rename_i p L2 hp
          split at hp
          · cases hp
            rw [comma_sign hc] at hwd
            rw [if_pos rfl] at hwd
            cases hwd
            rw [comma_take hc (by decide), if_neg ffB]
          · cases hp
    unfold bareT
    rw [hi, regT_of L' hq]
    rfl
end Go.Proofs.YtodjccipfonaiaaGreatDoor
