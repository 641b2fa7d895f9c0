/- Rows of pieces that are the pieces of the text that they make. -/
import Derived.Test.YtodjccipfonaiaaGreatDoorRows
import Derived.WalkKit
import Derived.Test.YtodjccipfonaiaaGreatDoorBun0
import Derived.Test.YtodjccipfonaiaaGreatDoorPieceMX
import Derived.Lib.ItoaNum
import Derived.Lib.ItoaMem
import Derived.Test.YtodjccipfonaiaaGreatDoorBun16
import Derived.Test.YtodjccipfonaiaaGreatDoorBun26
import Derived.Test.YtodjccipfonaiaaGreatDoorBun34
import Derived.Test.YtodjccipfonaiaaGreatDoorBun19
import Derived.Test.YtodjccipfonaiaaGreatDoorInsS3X
import Derived.Test.YtodjccipfonaiaaGreatDoorBun37
import Derived.Test.YtodjccipfonaiaaGreatDoorBun21
import Derived.Maps.Views
import Derived.Test.YtodjccipfonaiaaGreatDoorBun7
import Derived.Test.YtodjccipfonaiaaGreatDoorTextIX
import Derived.Test.YtodjccipfonaiaaGreatDoorInsS8X
import Derived.WalkSpells
import Derived.WalkLawsBesides
import Derived.Outline
import Derived.Test.YtodjccipfonaiaaGreatDoorWordRSX
import Derived.Test.YtodjccipfonaiaaGreatDoorBun30
import Derived.RegionTactic
import Derived.BigRegion
import Derived.Deep.QuietTactic
import Derived.BigQuiet
import Derived.Deep.RegionHeld3
import Derived.Test.YtodjccipfonaiaaGreatDoorBun3
import Derived.Test.YtodjccipfonaiaaGreatDoorBun35
namespace Go.Proofs.YtodjccipfonaiaaGreatDoor
open Go.RowKit
set_option linter.unusedVariables false

def solo (p : ByteArray) : Prop := ∃ c : UInt8, c.toNat < 128 ∧ inN (c.toNat : Int) = false ∧ p = ⟨#[c]⟩
def wordy (p : ByteArray) : Prop := 1 ≤ p.size ∧ allN p
def soloHead : List ByteArray → Prop
  | [] => True
  | p :: _ => solo p
def WP : List ByteArray → Prop
  | [] => True
  | p :: L => (solo p ∧ WP L) ∨ (wordy p ∧ soloHead L ∧ WP L)
theorem solo_size {p : ByteArray} (h : solo p) : p.size = 1 := by obtain ⟨c, _, _, rfl⟩ := h; rfl
theorem solo_not {p : ByteArray} (h : solo p) (hw : wordy p) : False := by
  obtain ⟨c, _, h2, rfl⟩ := h
  have := hw.2 0 (by show 0 < 1; omega)
  have e : ((⟨#[c]⟩ : ByteArray)[0]'(by show 0 < 1; omega)) = c := rfl
  rw [e, h2] at this
  cases this
theorem tail_at {s p : ByteArray} {R : List UInt8} {o : Nat} (hd : s.data.toList.drop o = p.data.toList ++ R) (j : Nat) (hj : j < p.size) (h : o + j < s.size) : s[o + j] = p[j] := by
  have hl : o + j < s.data.toList.length := by rw [size_list]; exact h
  have e1 : s.data.toList[o + j] = s[o + j] := rfl
  have e2 : (s.data.toList.drop o)[j]'(by rw [List.length_drop]; omega) = s.data.toList[o + j] := List.getElem_drop
  rw [← e1, ← e2]
  simp only [hd]
  rw [List.getElem_append_left (by rw [size_list]; exact hj)]
  rfl
theorem ext_of {s p : ByteArray} {R : List UInt8} {o : Nat} (hd : s.data.toList.drop o = p.data.toList ++ R) : s.extract o (o + p.size) = p := by
  apply ba_list
  rw [ByteArray.data_extract, Array.toList_extract, List.extract_eq_take_drop, hd, show o + p.size - o = p.size by omega, ← size_list, List.take_left]
theorem runP_tail (s : ByteArray) : ∀ (L : List ByteArray) (o fr : Nat) (tog : Bool) (acc : List ByteArray) (q : ByteArray), 0 < o → s.extract fr o = q → s.data.toList.drop o = (catL L).data.toList → o ≤ s.size → WP L → (tog = true → soloHead L) →
    (runP s (catL L).size o ⟨fr, tog, acc⟩).acc ++ [s.extract (runP s (catL L).size o ⟨fr, tog, acc⟩).fr s.size] = acc ++ q :: L
  | [], o, fr, tog, acc, q, h0, hq, hd, ho, hw, ht => by
    have e : (catL []).data.toList = [] := rfl
    rw [e] at hd
    have h2 := congrArg List.length hd
    rw [List.length_drop, size_list] at h2
    have h3 : ([] : List UInt8).length = 0 := rfl
    have hz : (catL []).size = 0 := rfl
    rw [hz]
    show acc ++ [s.extract fr s.size] = _
    rw [show s.size = o by omega, hq]
  | p :: L, o, fr, tog, acc, q, h0, hq, hd, ho, hw, ht => by
    have hd' : s.data.toList.drop o = p.data.toList ++ (catL L).data.toList := by rw [hd, ← app_list]; rfl
    have hsz : (catL (p :: L)).size = (catL L).size + p.size := by
      show (p ++ catL L).size = _
      rw [ByteArray.size_append]; omega
    have hlen := congrArg List.length hd'
    rw [List.length_drop, List.length_append, size_list, size_list, size_list] at hlen
    have hd2 : s.data.toList.drop (o + p.size) = (catL L).data.toList := by
      rw [← List.drop_drop, hd', ← size_list, List.drop_left]
    have hx := ext_of hd'
    rcases hw with ⟨hs, hw⟩ | ⟨hp, hh, hw⟩
    · obtain ⟨c, hc, hn, rfl⟩ := hs
      have h1 : (⟨#[c]⟩ : ByteArray).size = 1 := rfl
      rw [h1] at hlen hsz hd2 hx
      have hlt : o < s.size := by omega
      have ha := tail_at hd' 0 (by rw [h1]; omega) (by omega)
      have ha' : s[o] = c := ha
      have hr : runeN ((Utf8.decode s o).1 : Int) = false := by
        have e : (Utf8.decode s o).1 = s[o].toNat := by rw [decode_ascii s o hlt (by rw [ha']; exact hc)]
        rw [e, ha']
        unfold runeN
        rw [hn, Bool.and_false]
      rw [hsz, runP_one s _ o _ hlt (by rw [ha']; exact hc), stepP_cut s _ o false h0 hr (by simp)]
      have ih := runP_tail s L (o + 1) o false (acc ++ [s.extract fr o]) ⟨#[c]⟩ (by omega) hx hd2 (by omega) hw (fun h => by cases h)
      rw [ih, hq]
      simp
    · obtain ⟨m, hm⟩ : ∃ m, p.size = m + 1 := ⟨p.size - 1, by have := hp.1; omega⟩
      have htog : tog = false := by
        cases tog with
        | false => rfl
        | true => exact absurd hp (fun hp => solo_not (ht rfl) hp)
      subst htog
      have hlt : o < s.size := by omega
      have hat : ∀ j, o ≤ j → j < o + p.size → (h : j < s.size) → inN (s[j].toNat : Int) = true := fun j h1 h2 h => by
        have e := tail_at hd' (j - o) (by omega) (by omega)
        have e2 : s[j] = p[j - o]'(by omega) := by rw [← e]; congr 1; omega
        rw [e2]
        exact hp.2 _ _
      have hn := hat o (by omega) (by omega) hlt
      have hl := inN_lt hn
      have hr := rune_in s o hlt hn
      rw [hsz, hm, show (catL L).size + (m + 1) = ((catL L).size + m) + 1 by omega, runP_one s _ o _ hlt (by omega), stepP_cut s _ o true h0 hr (by simp)]
      rw [runP_in s m (catL L).size (o + 1) o _ (by omega) (fun j h1 h2 h => hat j (by omega) (by omega) h)]
      rw [show o + 1 + m = o + p.size by omega]
      have ih := runP_tail s L (o + p.size) o true (acc ++ [s.extract fr o]) p (by omega) hx hd2 (by omega) hw (fun _ => hh)
      rw [ih, hq]
      simp
theorem pieces_WP (L : List ByteArray) (h : WP L) : piecesL (catL L) = L := by
  cases L with
  | nil => unfold piecesL; rw [if_pos (show catL [] = ⟨#[]⟩ from rfl)]
  | cons p L =>
    have hp1 : 1 ≤ p.size := by
      rcases h with ⟨hs, _⟩ | ⟨hp, _⟩
      · rw [solo_size hs]; omega
      · exact hp.1
    have hsz : (catL (p :: L)).size = (catL L).size + p.size := by
      show (p ++ catL L).size = _
      rw [ByteArray.size_append]; omega
    have hd' : (catL (p :: L)).data.toList.drop 0 = p.data.toList ++ (catL L).data.toList := by rw [List.drop_zero, ← app_list]; rfl
    have hd2 : (catL (p :: L)).data.toList.drop p.size = (catL L).data.toList := by
      have e : (catL (p :: L)).data.toList = p.data.toList ++ (catL L).data.toList := by rw [← app_list]; rfl
      rw [e, ← size_list, List.drop_left]
    have hx := ext_of hd'
    rw [Nat.zero_add] at hx
    generalize hs : catL (p :: L) = s at *
    unfold piecesL
    rw [if_neg (ne_empty (by omega))]
    rcases h with ⟨hsl, hw⟩ | ⟨hp, hh, hw⟩
    · obtain ⟨c, hc, hn, rfl⟩ := hsl
      have h1 : (⟨#[c]⟩ : ByteArray).size = 1 := rfl
      rw [h1] at hsz hd2 hx
      have ha := tail_at hd' 0 (by rw [h1]; omega) (by omega)
      have ha' : s[0] = c := ha
      have hr : runeN ((Utf8.decode s 0).1 : Int) = false := by
        have e : (Utf8.decode s 0).1 = s[0].toNat := by rw [decode_ascii s 0 (by omega) (by rw [ha']; exact hc)]
        rw [e, ha']
        unfold runeN
        rw [hn, Bool.and_false]
      have e0 : runP s s.size 0 ⟨0, false, []⟩ = runP s (catL L).size 1 ⟨0, false, []⟩ := by
        have e1 : runP s ((catL L).size + 1) 0 ⟨0, false, []⟩ = runP s (catL L).size (0 + 1) ⟨0, false, []⟩ := by
          rw [runP_one s _ 0 _ (by omega) (by rw [ha']; exact hc)]
          unfold stepP
          rw [hr, if_neg (fun h => Nat.lt_irrefl 0 h.1)]
        rw [← hsz] at e1
        exact e1
      rw [e0]
      exact runP_tail s L 1 0 false [] ⟨#[c]⟩ (by omega) hx hd2 (by omega) hw (fun h => by cases h)
    · obtain ⟨m, hm⟩ : ∃ m, p.size = m + 1 := ⟨p.size - 1, by omega⟩
      have hat : ∀ j, j < p.size → (h : j < s.size) → inN (s[j].toNat : Int) = true := fun j h2 h => by
        have e := tail_at hd' j h2 (by omega)
        have e2 : s[j] = p[j] := by rw [← e]; congr 1; omega
        rw [e2]
        exact hp.2 _ _
      have hn := hat 0 (by omega) (by omega)
      have hl := inN_lt hn
      have e0 : runP s s.size 0 ⟨0, false, []⟩ = runP s (catL L).size p.size ⟨0, true, []⟩ := by
        have e1 : runP s ((catL L).size + m + 1) 0 ⟨0, false, []⟩ = runP s (catL L).size (0 + 1 + m) ⟨0, true, []⟩ := by
          rw [runP_one s _ 0 _ (by omega) (by omega), stepP_in s _ 0 (by omega) hn (.inr rfl)]
          exact runP_in s m (catL L).size (0 + 1) 0 _ (by omega) (fun j h1 h2 h => hat j (by omega) h)
        rw [show (catL L).size + m + 1 = s.size by omega, show 0 + 1 + m = p.size by omega] at e1
        exact e1
      rw [e0]
      exact runP_tail s L p.size 0 true [] p (by omega) hx hd2 (by omega) hw (fun _ => hh)
end Go.Proofs.YtodjccipfonaiaaGreatDoor
namespace Go.Proofs.YtodjccipfonaiaaGreatDoor
open Go.RowKit
set_option linter.unusedVariables false

theorem numF_app (b : Int) (c : UInt8) : ∀ (A : List UInt8) (n : Int), numF b (A ++ [c]) n = match numF b A n with | some m => (if 0 ≤ hexV c.toNat ∧ hexV c.toNat < b then some (b * m + hexV c.toNat) else none) | none => none
  | [], n => rfl
  | d :: A, n => by
    show (if 0 ≤ hexV d.toNat ∧ hexV d.toNat < b then numF b (A ++ [c]) (b * n + hexV d.toNat) else none) = match (if 0 ≤ hexV d.toNat ∧ hexV d.toNat < b then numF b A (b * n + hexV d.toNat) else none) with | some m => _ | none => none
    split
    · exact numF_app b c A _
    · rfl
theorem dig_v (d : Nat) (h : d < 10) : hexV ((UInt8.ofNat (48 + d)).toNat : Int) = (d : Int) := by
  have e : (UInt8.ofNat (48 + d)).toNat = 48 + d := by rw [UInt8.toNat_ofNat']; omega
  rw [e]
  unfold hexV
  rw [if_pos (by omega)]
  omega
theorem decD_num (v : Nat) : numF 10 (Lib.decDigits v) 0 = some (v : Int) := by
  induction v using Nat.strongRecOn with
  | ind v ih =>
    by_cases hv : v < 10
    · rw [dec_small v hv]
      show (if 0 ≤ hexV ((UInt8.ofNat (48 + v)).toNat : Int) ∧ hexV ((UInt8.ofNat (48 + v)).toNat : Int) < 10 then some (10 * 0 + hexV ((UInt8.ofNat (48 + v)).toNat : Int)) else none) = _
      rw [dig_v v hv, if_pos (by omega)]
      congr 1
      omega
    · rw [dec_step v (by omega), numF_app, ih (v / 10) (by omega)]
      dsimp only
      rw [dig_v (v % 10) (by omega), if_pos (by omega)]
      congr 1
      omega
theorem decD_digs (v : Nat) : ∀ c ∈ Lib.decDigits v, 48 ≤ c.toNat ∧ c.toNat ≤ 57 := by
  induction v using Nat.strongRecOn with
  | ind v ih =>
    have hd : ∀ d, d < 10 → 48 ≤ (UInt8.ofNat (48 + d)).toNat ∧ (UInt8.ofNat (48 + d)).toNat ≤ 57 := fun d h => by
      have e : (UInt8.ofNat (48 + d)).toNat = 48 + d := by rw [UInt8.toNat_ofNat']; omega
      rw [e]; omega
    by_cases hv : v < 10
    · rw [dec_small v hv]
      intro c hc
      rw [List.mem_singleton.1 hc]
      exact hd v hv
    · rw [dec_step v (by omega)]
      intro c hc
      rcases List.mem_append.1 hc with hc | hc
      · exact ih (v / 10) (by omega) c hc
      · rw [List.mem_singleton.1 hc]
        exact hd _ (by omega)
theorem decD_len (k : Nat) : ∀ v, v < 10 ^ (k + 1) → (Lib.decDigits v).length ≤ k + 1 := by
  induction k with
  | zero =>
    intro v hv
    rw [dec_small v (by omega)]
    exact Nat.le_refl _
  | succ k ih =>
    intro v hv
    by_cases h : v < 10
    · rw [dec_small v h]
      show 1 ≤ _
      omega
    · rw [dec_step v (by omega), List.length_append]
      have h1 := ih (v / 10) (by rw [Nat.pow_succ] at hv; omega)
      show _ + 1 ≤ _
      omega
theorem decD_pos (v : Nat) : 1 ≤ (Lib.decDigits v).length := by
  by_cases h : v < 10
  · rw [dec_small v h]; exact Nat.le_refl _
  · rw [dec_step v (by omega), List.length_append]; show 1 ≤ _ + 1; omega
theorem dg_list (v : Nat) : (dg (v : Int)).data.toList = Lib.decDigits v := by
  show (Lib.itoa (v : Int)).toArray.toList = _
  rw [Lib.itoa_nonneg]
theorem dg_num (v : Nat) (h : v ≤ 99999) : numR (dg (v : Int)) = some (v : Int) := by
  have hl := dg_list v
  have h1 := decD_pos v
  have h5 := decD_len 4 v (by omega)
  have hs : (dg (v : Int)).size = (Lib.decDigits v).length := by rw [← size_list, hl]
  unfold numR
  rw [if_neg, if_pos (by omega), hl, decD_num]
  rintro ⟨_, hx⟩
  have e := hex_head hx
  rw [hl] at e
  have := decD_digs v 120 (by rw [e]; simp)
  exact absurd this (by decide)
theorem dg_wordy (v : Nat) : wordy (dg (v : Int)) := by
  have hl := dg_list v
  have h1 := decD_pos v
  refine ⟨by rw [← size_list, hl]; omega, mem_all ?_⟩
  rw [hl]
  intro c hc
  have := decD_digs v c hc
  unfold inN goodB
  apply decide_eq_true
  omega
theorem rg_list (v : Nat) : (rg (v : Int)).data.toList = 114 :: Lib.decDigits v := by
  unfold rg
  rw [app_list, dg_list]
  rfl
theorem rg_tail (v : Nat) : (rg (v : Int)).extract 1 (rg (v : Int)).size = dg (v : Int) := by
  apply ba_list
  rw [drop_list, rg_list, dg_list]
  rfl
theorem rg_wordy (v : Nat) : wordy (rg (v : Int)) := by
  have hl := rg_list v
  refine ⟨by rw [← size_list, hl]; show 1 ≤ _ + 1; omega, mem_all ?_⟩
  rw [hl]
  intro c hc
  rcases List.mem_cons.1 hc with rfl | hc
  · rfl
  · have := decD_digs v c hc
    unfold inN goodB
    apply decide_eq_true
    omega
theorem rg_regR (v : Nat) (h : v ≤ 15) : regR (rg (v : Int)) = some (v : Int) := by
  have hl := rg_list v
  have h1 := decD_pos v
  have h2 := decD_len 1 v (by omega)
  have hs : (rg (v : Int)).size = (Lib.decDigits v).length + 1 := by rw [← size_list, hl]; rfl
  have hn : numW (dg (v : Int)) = some (v : Int) := by rw [numR_ge (dg_num v (by omega)), if_pos (by omega)]
  unfold regR
  rw [if_pos ⟨by omega, by omega, by rw [hl]; rfl⟩, rg_tail, hn]
  dsimp only
  rw [if_pos ⟨by omega, rfl⟩]
theorem rg_trim (v : Nat) : trimR (rg (v : Int)) = dg (v : Int) := by
  apply ba_list
  show Lib.trimPrefix (rg (v : Int)).data.toList [114] = _
  rw [rg_list, dg_list]
  unfold Lib.trimPrefix
  rw [if_pos (by simp [Lib.hasPrefix])]
  rfl
theorem rg_regM (v : Nat) (h : v ≤ 99999) : regM (rg (v : Int)) = some (v : Int) := by
  unfold regM
  rw [rg_trim, dg_num v h]
  dsimp only
  rw [if_pos rfl]
theorem rg_numR (v : Nat) : numR (rg (v : Int)) = none := by
  have hl := rg_list v
  unfold numR
  rw [if_neg]
  · split
    · rw [hl]
      show (if 0 ≤ hexV ((114 : UInt8).toNat : Int) ∧ hexV ((114 : UInt8).toNat : Int) < 10 then _ else none) = none
      rw [if_neg (by decide)]
    · rfl
  · rintro ⟨_, hx⟩
    have e := hex_head hx
    rw [hl] at e
    exact absurd (List.cons.inj e).1 (by decide)
/- A register, as either side reads it. -/
def isReg (q : ByteArray) (r : Int) : Prop := 0 ≤ r ∧ r ≤ 15 ∧ q = rg r
theorem isReg_nat {q : ByteArray} {r : Int} (h : isReg q r) : ∃ v : Nat, r = (v : Int) ∧ v ≤ 15 ∧ q = rg (v : Int) := by
  obtain ⟨h0, h1, rfl⟩ := h
  refine ⟨r.toNat, by omega, by omega, ?_⟩
  rw [show ((r.toNat : Nat) : Int) = r by omega]
theorem isReg_R {q : ByteArray} {r : Int} (h : isReg q r) : regR q = some r := by
  obtain ⟨v, rfl, hv, rfl⟩ := isReg_nat h; exact rg_regR v hv
theorem isReg_M {q : ByteArray} {r : Int} (h : isReg q r) : regM q = some r := by
  obtain ⟨v, rfl, hv, rfl⟩ := isReg_nat h; exact rg_regM v (by omega)
theorem isReg_N {q : ByteArray} {r : Int} (h : isReg q r) : numR q = none := by
  obtain ⟨v, rfl, hv, rfl⟩ := isReg_nat h; exact rg_numR v
theorem isReg_w {q : ByteArray} {r : Int} (h : isReg q r) : wordy q := by
  obtain ⟨v, rfl, hv, rfl⟩ := isReg_nat h; exact rg_wordy v
theorem regM_is {q : ByteArray} {r : Int} (h : regM q = some r) (h1 : r ≤ 15) : isReg q r := by
  unfold regM at h
  split at h
  · rename_i n hn
    split at h
    · cases h
      exact ⟨numR_nn hn, h1, by assumption⟩
    · cases h
  · cases h
theorem regR_is {q : ByteArray} {r : Int} (h : regR q = some r) : isReg q r := by
  unfold regR at h
  split at h
  · rename_i hc
    obtain ⟨h2, h3, hh⟩ := hc
    split at h
    · rename_i n hn
      split at h
      · rename_i hd
        cases h
        have h0 := numR_nn (numW_yes hn).1
        refine ⟨h0, hd.1, ?_⟩
        apply ba_list
        have e : q.data.toList = 114 :: q.data.toList.drop 1 := by
          cases hq : q.data.toList with
          | nil => rw [hq] at hh; cases hh
          | cons c L => rw [hq] at hh; cases hh; rfl
        have e2 : (dg r).data.toList = q.data.toList.drop 1 := by
          show (digs (Lib.itoa r)).data.toList = _
          rw [hd.2, drop_list]
        unfold rg
        rw [app_list, e2]
        exact e
      · cases h
    · cases h
  · cases h
end Go.Proofs.YtodjccipfonaiaaGreatDoor
namespace Go.Proofs.YtodjccipfonaiaaGreatDoor
open Go.RowKit
set_option linter.unusedVariables false

abbrev OpdV := Int × Int × Int × Bool
def OpG (P : List ByteArray) (x : OpdV) : Prop :=
  (∃ p n, P = [⟨#[38]⟩, p] ∧ numW p = some n ∧ x = (2, 0, n, false))
  ∨ (∃ p n, P = [⟨#[35]⟩, p] ∧ numW p = some n ∧ x = (5, 0, n, false))
  ∨ (∃ p n, P = [⟨#[35]⟩, ⟨#[35]⟩, p] ∧ numW p = some n ∧ x = (5, 0, n, true))
  ∨ (∃ q r, P = [⟨#[64]⟩, q] ∧ isReg q r ∧ x = (3, r, 0, false))
  ∨ (∃ q r, P = [⟨#[64]⟩, q, ⟨#[43]⟩] ∧ isReg q r ∧ x = (4, r, 0, false))
  ∨ (∃ p n q r, P = [p, ⟨#[40]⟩, q, ⟨#[41]⟩] ∧ numW p = some n ∧ isReg q r ∧ x = (1, r, n, false))
  ∨ (∃ q r, P = [q] ∧ isReg q r ∧ x = (0, r, 0, false))
theorem ffB : ¬ (false = true) := by decide
theorem takeT_eq (m : ByteArray) (L : List ByteArray) : takeT m (m :: L) = (true, L) := by show (if m = m then _ else _) = _; rw [if_pos rfl]
theorem takeT_ne {m p : ByteArray} (L : List ByteArray) (h : ¬ p = m) : takeT m (p :: L) = (false, p :: L) := by show (if p = m then _ else _) = _; rw [if_neg h]
theorem takeT_split {m : ByteArray} {L : List ByteArray} (h : (takeT m L).1 = true) : L = m :: (takeT m L).2 := by
  cases L with
  | nil => cases h
  | cons p L =>
    by_cases hp : p = m
    · rw [hp, takeT_eq]
    · rw [takeT_ne L hp] at h; cases h
theorem wordy_ne {p : ByteArray} (h : wordy p) {c : UInt8} (hc : inN (c.toNat : Int) = false) : ¬ p = ⟨#[c]⟩ := by
  rintro rfl
  have := h.2 0 (by show 0 < 1; omega)
  have e : ((⟨#[c]⟩ : ByteArray)[0]'(by show 0 < 1; omega)) = c := rfl
  rw [e, hc] at this
  cases this
theorem numW_wordy {p : ByteArray} {n : Int} (h : numW p = some n) : wordy p := numR_in (numW_yes h).1
theorem wordT_num {L L1 : List ByteArray} {nm : ByteArray} {k : Int} (h : wordT L = some ((nm, k), L1)) (hn : nm = ⟨#[]⟩) : ∃ p, L = p :: L1 ∧ numW p = some k := by
  subst hn
  unfold wordT at h
  split at h
  · rename_i n L2 h1
    cases h
    obtain ⟨p, rfl, h2, h3⟩ := numT_some h1
    exact ⟨p, rfl, by rw [numR_ge h2, if_pos h3]⟩
  · split at h
    · cases h
    · rename_i p L2 h2
      have hne : ¬ p = ⟨#[]⟩ := by
        cases L with
        | nil => cases h2
        | cons q L =>
          have h3 : (if nameB q = true then some (q, L) else none) = some (p, L2) := h2
          split at h3
          · rename_i hq; cases h3; exact ne_empty (name_parts hq).1
          · cases h3
      split at h
      · cases h; exact absurd rfl hne
      · split at h
        · cases h; exact absurd rfl hne
        · cases h
theorem wordT_of {p : ByteArray} {n : Int} (L : List ByteArray) (h : numW p = some n) : wordT (p :: L) = some ((⟨#[]⟩, n), L) := by
  obtain ⟨h1, h2⟩ := numW_yes h
  unfold wordT
  rw [numT_of L h1 h2]
theorem withO_none (m r n : Int) (l : Bool) (k : Int) : withO m r n l (⟨#[]⟩, k) = ((m, r, k, l), ⟨#[]⟩, k) := withO_eq (by unfold withW; rw [if_pos rfl])
theorem regT_some {L L1 : List ByteArray} {r : Int} (h : regT L = some (r, L1)) : ∃ q, L = q :: L1 ∧ regM q = some r := by
  cases L with
  | nil => cases h
  | cons q L =>
    have h' : (regM q).map (fun n => (n, L)) = some (r, L1) := h
    cases hq : regM q with
    | none => rw [hq] at h'; cases h'
    | some n => rw [hq] at h'; cases h'; exact ⟨q, rfl, hq⟩
theorem regT_of {q : ByteArray} {r : Int} (L : List ByteArray) (h : isReg q r) : regT (q :: L) = some (r, L) := by
  show (regM q).map (fun n => (n, L)) = _
  rw [isReg_M h]; rfl
/- What the program takes as an operand without a Name, and with a right register. -/
theorem oper_gram {L L' : List ByteArray} {x : OpdV} {nm : ByteArray} {k : Int} (h : operT L = some ((x, nm, k), L')) (hn : nm = ⟨#[]⟩) (hr : x.2.1 ≤ 15) : ∃ P, L = P ++ L' ∧ OpG P x := by
  unfold operT at h
  split at h
  · rename_i h1
    have hL := takeT_split h1
    generalize (takeT ⟨#[38]⟩ L).2 = L1 at *
    cases hw : wordT L1 with
    | none => rw [hw] at h; cases h
    | some y =>
      obtain ⟨⟨nm2, k2⟩, L2⟩ := y
      rw [hw] at h
      have h' : some (withO 2 0 0 false (nm2, k2), L2) = some ((x, nm, k), L') := h
      have hn2 : nm2 = ⟨#[]⟩ := by cases h'; exact hn
      subst hn2
      rw [withO_none] at h'
      cases h'
      obtain ⟨p, rfl, hp⟩ := wordT_num hw rfl
      exact ⟨[⟨#[38]⟩, p], hL, .inl ⟨p, _, rfl, hp, rfl⟩⟩
  split at h
  · rename_i _ h1
    have hL := takeT_split h1
    generalize (takeT ⟨#[35]⟩ L).2 = L1 at *
    unfold immT at h
    split at h
    · rename_i h2
      have hL2 := takeT_split h2
      generalize (takeT ⟨#[35]⟩ L1).2 = L2 at *
      cases hw : numT 65535 L2 with
      | none => rw [hw] at h; cases h
      | some y =>
        obtain ⟨n, L3⟩ := y
        rw [hw] at h
        have h' : some (withO 5 0 0 true (⟨#[]⟩, n), L3) = some ((x, nm, k), L') := h
        rw [withO_none] at h'
        cases h'
        obtain ⟨p, rfl, h3, h4⟩ := numT_some hw
        exact ⟨[⟨#[35]⟩, ⟨#[35]⟩, p], by rw [hL, hL2]; rfl, .inr (.inr (.inl ⟨p, _, rfl, by rw [numR_ge h3, if_pos h4], rfl⟩))⟩
    · cases hw : wordT (takeT ⟨#[35]⟩ L1).2 with
      | none => rw [hw] at h; cases h
      | some y =>
        rename_i h2
        have h2' : (takeT ⟨#[35]⟩ L1).2 = L1 := mark_left (by simpa using h2)
        rw [h2'] at hw
        obtain ⟨⟨nm2, k2⟩, L2⟩ := y
        rw [h2', hw] at h
        have h' : some (withO 5 0 0 false (nm2, k2), L2) = some ((x, nm, k), L') := h
        have hn2 : nm2 = ⟨#[]⟩ := by cases h'; exact hn
        subst hn2
        rw [withO_none] at h'
        cases h'
        obtain ⟨p, rfl, hp⟩ := wordT_num hw rfl
        exact ⟨[⟨#[35]⟩, p], hL, .inr (.inl ⟨p, _, rfl, hp, rfl⟩)⟩
  split at h
  · rename_i _ _ h1
    have hL := takeT_split h1
    generalize (takeT ⟨#[64]⟩ L).2 = L1 at *
    unfold atT at h
    split at h
    · cases h
    · rename_i r L2 hq
      obtain ⟨q, rfl, hq2⟩ := regT_some hq
      split at h
      · rename_i h2
        have hL2 := takeT_split h2
        generalize (takeT ⟨#[43]⟩ L2).2 = L3 at *
        cases h
        exact ⟨[⟨#[64]⟩, q, ⟨#[43]⟩], by rw [hL, hL2]; rfl, .inr (.inr (.inr (.inr (.inl ⟨q, r, rfl, regM_is hq2 hr, rfl⟩))))⟩
      · cases h
        exact ⟨[⟨#[64]⟩, q], hL, .inr (.inr (.inr (.inl ⟨q, r, rfl, regM_is hq2 hr, rfl⟩)))⟩
  · unfold bareT at h
    split at h
    · rename_i y hy
      cases h
      unfold idxT at hy
      split at hy
      · cases hy
      · rename_i w L1 hw
        obtain ⟨nm2, k2⟩ := w
        split at hy
        · rename_i h2
          have hL1 := takeT_split h2
          generalize (takeT ⟨#[40]⟩ L1).2 = L2 at *
          split at hy
          · cases hy
          · rename_i r L3 hq
            obtain ⟨q, rfl, hq2⟩ := regT_some hq
            split at hy
            · rename_i h3
              have hL3 := takeT_split h3
              generalize (takeT ⟨#[41]⟩ L3).2 = L4 at *
              have hy' : some (withO 1 r 0 false (nm2, k2), L4) = some ((x, nm, k), L') := hy
              have hn2 : nm2 = ⟨#[]⟩ := by cases hy'; exact hn
              subst hn2
              rw [withO_none] at hy'
              cases hy'
              obtain ⟨p, rfl, hp⟩ := wordT_num hw rfl
              exact ⟨[p, ⟨#[40]⟩, q, ⟨#[41]⟩], by rw [hL1, hL3]; rfl, .inr (.inr (.inr (.inr (.inr (.inl ⟨p, _, q, r, rfl, hp, regM_is hq2 hr, rfl⟩)))))⟩
            · cases hy
        · cases hy
    · cases hr2 : regT L with
      | none => rw [hr2] at h; cases h
      | some y =>
        obtain ⟨r, L1⟩ := y
        rw [hr2] at h
        have h' : some (((0, r, 0, false), (⟨#[]⟩ : ByteArray), (0 : Int)), L1) = some ((x, nm, k), L') := h
        cases h'
        obtain ⟨q, rfl, hq2⟩ := regT_some hr2
        exact ⟨[q], rfl, .inr (.inr (.inr (.inr (.inr (.inr ⟨q, r, rfl, regM_is hq2 hr, rfl⟩)))))⟩
/- Behind an operand stands nothing, or a comma. -/
def commaHead : List ByteArray → Prop
  | [] => True
  | p :: _ => p = ⟨#[44]⟩
theorem comma_take {m : ByteArray} {L : List ByteArray} (h : commaHead L) (hm : ¬ (⟨#[44]⟩ : ByteArray) = m) : takeT m L = (false, L) := by
  cases L with
  | nil => rfl
  | cons p L => have hp : p = ⟨#[44]⟩ := h; subst hp; exact takeT_ne L hm
theorem comma_sign {L : List ByteArray} (h : commaHead L) : signT L = (0, L) := by
  cases L with
  | nil => rfl
  | cons p L =>
    have hp : p = ⟨#[44]⟩ := h
    subst hp
    show (if (⟨#[44]⟩ : ByteArray) = ⟨#[43]⟩ then ((1 : Int), L) else if (⟨#[44]⟩ : ByteArray) = ⟨#[45]⟩ then ((-1 : Int), L) else ((0 : Int), (⟨#[44]⟩ : ByteArray) :: L)) = _
    rw [if_neg (by decide), if_neg (by decide)]
theorem gram_oper {P L' : List ByteArray} {x : OpdV} (h : OpG P x) (hc : commaHead L') : ∃ k, operT (P ++ L') = some ((x, ⟨#[]⟩, k), L') := by
  unfold operT
  rcases h with ⟨p, n, rfl, hp, rfl⟩ | ⟨p, n, rfl, hp, rfl⟩ | ⟨p, n, rfl, hp, rfl⟩ | ⟨q, r, rfl, hq, rfl⟩ | ⟨q, r, rfl, hq, rfl⟩ | ⟨p, n, q, r, rfl, hp, hq, rfl⟩ | ⟨q, r, rfl, hq, rfl⟩
  · refine ⟨n, ?_⟩
    show (if (takeT ⟨#[38]⟩ (⟨#[38]⟩ :: p :: L')).1 = true then mapO (wordT (takeT ⟨#[38]⟩ (⟨#[38]⟩ :: p :: L')).2) _ else _) = _
    rw [takeT_eq, if_pos rfl, wordT_of L' hp]
    show some (withO 2 0 0 false (⟨#[]⟩, n), L') = _
    rw [withO_none]
  · refine ⟨n, ?_⟩
    show (if (takeT ⟨#[38]⟩ (⟨#[35]⟩ :: p :: L')).1 = true then _ else if (takeT ⟨#[35]⟩ (⟨#[35]⟩ :: p :: L')).1 = true then immT (takeT ⟨#[35]⟩ (⟨#[35]⟩ :: p :: L')).2 else _) = _
    rw [takeT_ne _ (by decide), if_neg ffB, takeT_eq, if_pos rfl]
    show immT (p :: L') = _
    unfold immT
    rw [takeT_ne _ (wordy_ne (numW_wordy hp) (by decide)), if_neg ffB]
    show mapO (wordT (p :: L')) _ = _
    rw [wordT_of L' hp]
    show some (withO 5 0 0 false (⟨#[]⟩, n), L') = _
    rw [withO_none]
  · refine ⟨n, ?_⟩
    show (if (takeT ⟨#[38]⟩ (⟨#[35]⟩ :: ⟨#[35]⟩ :: p :: L')).1 = true then _ else if (takeT ⟨#[35]⟩ (⟨#[35]⟩ :: ⟨#[35]⟩ :: p :: L')).1 = true then immT (takeT ⟨#[35]⟩ (⟨#[35]⟩ :: ⟨#[35]⟩ :: p :: L')).2 else _) = _
    rw [takeT_ne _ (by decide), if_neg ffB, takeT_eq, if_pos rfl]
    show immT (⟨#[35]⟩ :: p :: L') = _
    unfold immT
    obtain ⟨h1, h2⟩ := numW_yes hp
    rw [takeT_eq, if_pos rfl, numT_of L' h1 h2]
    show some (withO 5 0 0 true (⟨#[]⟩, n), L') = _
    rw [withO_none]
  · refine ⟨0, ?_⟩
    show (if (takeT ⟨#[38]⟩ (⟨#[64]⟩ :: q :: L')).1 = true then _ else if (takeT ⟨#[35]⟩ (⟨#[64]⟩ :: q :: L')).1 = true then _ else if (takeT ⟨#[64]⟩ (⟨#[64]⟩ :: q :: L')).1 = true then atT (takeT ⟨#[64]⟩ (⟨#[64]⟩ :: q :: L')).2 else _) = _
    rw [takeT_ne _ (by decide), if_neg ffB, takeT_ne _ (by decide), if_neg ffB, takeT_eq, if_pos rfl]
    show atT (q :: L') = _
    unfold atT
    rw [regT_of L' hq]
    dsimp only
    rw [comma_take hc (by decide), if_neg ffB]
  · refine ⟨0, ?_⟩
    show (if (takeT ⟨#[38]⟩ (⟨#[64]⟩ :: q :: ⟨#[43]⟩ :: L')).1 = true then _ else if (takeT ⟨#[35]⟩ (⟨#[64]⟩ :: q :: ⟨#[43]⟩ :: L')).1 = true then _ else if (takeT ⟨#[64]⟩ (⟨#[64]⟩ :: q :: ⟨#[43]⟩ :: L')).1 = true then atT (takeT ⟨#[64]⟩ (⟨#[64]⟩ :: q :: ⟨#[43]⟩ :: L')).2 else _) = _
    rw [takeT_ne _ (by decide), if_neg ffB, takeT_ne _ (by decide), if_neg ffB, takeT_eq, if_pos rfl]
    show atT (q :: ⟨#[43]⟩ :: L') = _
    unfold atT
    rw [regT_of _ hq]
    dsimp only
    rw [takeT_eq, if_pos rfl]
  · refine ⟨n, ?_⟩
    have hw := numW_wordy hp
    show (if (takeT ⟨#[38]⟩ (p :: ⟨#[40]⟩ :: q :: ⟨#[41]⟩ :: L')).1 = true then _ else if (takeT ⟨#[35]⟩ (p :: ⟨#[40]⟩ :: q :: ⟨#[41]⟩ :: L')).1 = true then _ else if (takeT ⟨#[64]⟩ (p :: ⟨#[40]⟩ :: q :: ⟨#[41]⟩ :: L')).1 = true then _ else bareT (p :: ⟨#[40]⟩ :: q :: ⟨#[41]⟩ :: L')) = _
    rw [takeT_ne _ (wordy_ne hw (by decide)), if_neg ffB, takeT_ne _ (wordy_ne hw (by decide)), if_neg ffB, takeT_ne _ (wordy_ne hw (by decide)), if_neg ffB]
    have hi : idxT (p :: ⟨#[40]⟩ :: q :: ⟨#[41]⟩ :: L') = some (((1, r, n, false), ⟨#[]⟩, n), L') := by
      unfold idxT
      rw [wordT_of _ hp]
      dsimp only
      rw [takeT_eq, if_pos rfl, regT_of _ hq]
      dsimp only
      rw [takeT_eq, if_pos rfl, withO_none]
    unfold bareT
    rw [hi]
  · refine ⟨0, ?_⟩
    have hw := isReg_w hq
    show (if (takeT ⟨#[38]⟩ (q :: L')).1 = true then _ else if (takeT ⟨#[35]⟩ (q :: L')).1 = true then _ else if (takeT ⟨#[64]⟩ (q :: L')).1 = true then _ else bareT (q :: L')) = _
    rw [takeT_ne _ (wordy_ne hw (by decide)), if_neg ffB, takeT_ne _ (wordy_ne hw (by decide)), if_neg ffB, takeT_ne _ (wordy_ne hw (by decide)), if_neg ffB]
    have hn : numT 65535 (q :: L') = none := by
      show (match numR q with | some n => if n ≤ 65535 then some (n, L') else none | none => none) = none
      rw [isReg_N hq]
    have hi : idxT (q :: L') = none := by
      unfold idxT wordT
      rw [hn]
      dsimp only
      have hnm : nameT (q :: L') = if nameB q = true then some (q, L') else none := rfl
      rw [hnm]
      split
      · rfl
      · rename_i w L1 hwd
        split at hwd
        · cases hwd
        · rename_i p L2 hp
          split at hp
          · cases hp
            rw [comma_sign hc] at hwd
            rw [if_pos rfl] at hwd
            cases hwd
            rw [comma_take hc (by decide), if_neg ffB]
          · cases hp
    unfold bareT
    rw [hi, regT_of L' hq]
    rfl
end Go.Proofs.YtodjccipfonaiaaGreatDoor
namespace Go.Proofs.YtodjccipfonaiaaGreatDoor
open Go.RowKit
set_option linter.unusedVariables false

theorem headB_one (c : UInt8) (q : ByteArray) : headB (⟨#[c]⟩ ++ q) = c.toNat := by unfold headB; rw [app_list]; rfl
theorem tail_one (c : UInt8) (q : ByteArray) : (⟨#[c]⟩ ++ q).extract 1 (⟨#[c]⟩ ++ q).size = q := by
  apply ba_list
  rw [drop_list, app_list]
  rfl
theorem lastB_app (q : ByteArray) (c : UInt8) : lastB (q ++ ⟨#[c]⟩) = c.toNat := by
  unfold lastB
  rw [app_list]
  show ((q.data.toList ++ [c]).getLastD 0).toNat = _
  simp
theorem size_one (c : UInt8) : (⟨#[c]⟩ : ByteArray).size = 1 := rfl
theorem ext_list (s : ByteArray) (a b : Nat) : (s.extract a b).data.toList = (s.data.toList.drop a).take (b - a) := by
  rw [ByteArray.data_extract, Array.toList_extract, List.extract_eq_take_drop]
theorem mid_list (A B C : List UInt8) (s : ByteArray) (h : s.data.toList = A ++ (B ++ C)) : s.extract A.length (A.length + B.length) = ⟨B.toArray⟩ := by
  apply ba_list
  rw [ext_list, h, List.drop_left, show A.length + B.length - A.length = B.length by omega, List.take_left]
theorem mid_ba (a b c s : ByteArray) (h : s = a ++ (b ++ c)) : s.extract a.size (a.size + b.size) = b := by
  have e := mid_list a.data.toList b.data.toList c.data.toList s (by rw [h, app_list, app_list])
  rw [size_list, size_list] at e
  exact e
theorem head_app (a b : ByteArray) (h : 1 ≤ a.size) : headB (a ++ b) = headB a := by
  unfold headB
  rw [app_list]
  cases ha : a.data.toList with
  | nil => rw [← size_list, ha] at h; exact absurd h (by decide)
  | cons c L => rfl
theorem cons_head (u : ByteArray) (h : 1 ≤ u.size) (c : UInt8) (hc : headB u = c.toNat) : u = ⟨#[c]⟩ ++ u.extract 1 u.size := by
  apply ba_list
  rw [app_list, drop_list]
  unfold headB at hc
  cases hu : u.data.toList with
  | nil => rw [← size_list, hu] at h; exact absurd h (by decide)
  | cons d L =>
    rw [hu] at hc
    have : d = c := UInt8.toNat_inj.1 hc
    rw [this]
    rfl
theorem app_last (u : ByteArray) (h : 1 ≤ u.size) (c : UInt8) (hc : lastB u = c.toNat) : u = u.extract 0 (u.size - 1) ++ ⟨#[c]⟩ := by
  apply ba_list
  rw [app_list, take_list]
  have hne : u.data.toList ≠ [] := by
    intro e
    rw [← size_list, e] at h
    exact absurd h (by decide)
  unfold lastB at hc
  rw [List.getLastD_eq_getLast?, List.getLast?_eq_some_getLast hne] at hc
  have hc' : u.data.toList.getLast hne = c := UInt8.toNat_inj.1 hc
  have e := (List.dropLast_concat_getLast hne).symm
  rw [hc', List.dropLast_eq_take, size_list] at e
  exact e
theorem wordy_head {p : ByteArray} (h : wordy p) {c : Nat} (hc : inN (c : Int) = false) : ¬ headB p = c := by
  intro e
  have h1 := h.1
  rw [headB_at p (by omega)] at e
  have := h.2 0 (by omega)
  rw [e, hc] at this
  cases this
theorem wordy_last {p : ByteArray} (h : wordy p) {c : Nat} (hc : inN (c : Int) = false) : ¬ lastB p = c := by
  intro e
  have h1 := h.1
  rw [lastB_at p (by omega)] at e
  have := h.2 (p.size - 1) (by omega)
  rw [e, hc] at this
  cases this
theorem last_app (a b : ByteArray) (h : 1 ≤ b.size) : lastB (a ++ b) = lastB b := by
  unfold lastB
  rw [app_list]
  cases hb : b.data.toList with
  | nil => rw [← size_list, hb] at h; exact absurd h (by decide)
  | cons c L => rw [List.getLastD_eq_getLast?, List.getLastD_eq_getLast?, List.getLast?_append, List.getLast?_eq_some_getLast (l := c :: L) (by simp)]; rfl
/- Where a byte stands that no name holds. -/
theorem idxL_app (c : Nat) (A : List UInt8) (d : UInt8) (B : List UInt8) (hA : ∀ x ∈ A, ¬ x.toNat = c) (hd : d.toNat = c) : idxL c (A ++ d :: B) = A.length := by
  induction A with
  | nil => show (if d.toNat = c then 0 else _) = 0; rw [if_pos hd]
  | cons x A ih =>
    show (if x.toNat = c then 0 else idxL c (A ++ d :: B) + 1) = _
    rw [if_neg (hA x (List.mem_cons_self ..)), ih (fun y hy => hA y (List.mem_cons_of_mem _ hy))]
    rfl
theorem idxL_none (c : Nat) (A : List UInt8) (hA : ∀ x ∈ A, ¬ x.toNat = c) : idxL c A = A.length := by
  induction A with
  | nil => rfl
  | cons x A ih =>
    show (if x.toNat = c then 0 else idxL c A + 1) = _
    rw [if_neg (hA x (List.mem_cons_self ..)), ih (fun y hy => hA y (List.mem_cons_of_mem _ hy))]
    rfl
theorem idxL_lt (c : Nat) : ∀ (A : List UInt8), idxL c A < A.length → ∃ (d : UInt8), d.toNat = c ∧ A = A.take (idxL c A) ++ d :: A.drop (idxL c A + 1)
  | [], h => absurd h (Nat.not_lt_zero _)
  | x :: A, h => by
    by_cases hx : x.toNat = c
    · have e : idxL c (x :: A) = 0 := by show (if x.toNat = c then 0 else _) = 0; rw [if_pos hx]
      rw [e]
      exact ⟨x, hx, rfl⟩
    · have e : idxL c (x :: A) = idxL c A + 1 := by show (if x.toNat = c then 0 else _) = _; rw [if_neg hx]
      rw [e] at h ⊢
      obtain ⟨d, hd, hA⟩ := idxL_lt c A (by simpa using h)
      refine ⟨d, hd, ?_⟩
      show x :: A = x :: (A.take (idxL c A) ++ d :: A.drop (idxL c A + 1))
      rw [← hA]
def freeOf (c : Nat) (s : ByteArray) : Prop := ∀ x ∈ s.data.toList, ¬ x.toNat = c
theorem free_wordy {c : Nat} {s : ByteArray} (h : wordy s) (hc : inN (c : Int) = false) : freeOf c s := fun x hx e => by
  have := all_mem h.2 x hx
  rw [e, hc] at this
  cases this
theorem free_one {c : Nat} {d : UInt8} (h : ¬ d.toNat = c) : freeOf c ⟨#[d]⟩ := fun x hx => by
  have e : x = d := by simpa using hx
  rw [e]; exact h
theorem free_app {c : Nat} {a b : ByteArray} (ha : freeOf c a) (hb : freeOf c b) : freeOf c (a ++ b) := fun x hx => by
  rw [app_list] at hx
  rcases List.mem_append.1 hx with h | h
  · exact ha x h
  · exact hb x h
theorem idxI_app {c : Nat} {a : ByteArray} (ha : freeOf c a) (d : UInt8) (hd : d.toNat = c) (b : ByteArray) : idxI c (a ++ (⟨#[d]⟩ ++ b)) = a.size := by
  unfold idxI
  rw [tri_list, idxL_app c _ _ _ ha hd, size_list]
theorem idxI_none {c : Nat} {a : ByteArray} (ha : freeOf c a) : idxI c a = a.size := by
  unfold idxI
  rw [idxL_none c _ ha, size_list]
theorem idxI_lt {c : Nat} {a : ByteArray} (h : idxI c a < a.size) : ∃ d : UInt8, d.toNat = c ∧ a = a.extract 0 (idxI c a) ++ (⟨#[d]⟩ ++ a.extract (idxI c a + 1) a.size) := by
  obtain ⟨d, hd, e⟩ := idxL_lt c a.data.toList (by rw [size_list]; exact h)
  refine ⟨d, hd, ?_⟩
  apply ba_list
  rw [tri_list, take_list, drop_list]
  exact e
theorem regR_head {u : ByteArray} (h : ¬ headB u = 114) : regR u = none := by
  unfold regR
  rw [if_neg]
  rintro ⟨_, _, hh⟩
  apply h
  unfold headB
  rw [List.headD_eq_head?_getD, hh]
  rfl
theorem wordR_num {u : ByteArray} {n : Int} (h : numW u = some n) : wordR u = some (⟨#[]⟩, n) := by
  unfold wordR
  rw [h]
theorem named_num {u : ByteArray} {x : ByteArray × Int} (h : wordR u = some x) (hn : namedR u = false) : numW u = some x.2 := by
  unfold namedR at hn
  rw [h] at hn
  have hx : x.1 = ⟨#[]⟩ := by simpa using hn
  unfold wordR at h
  split at h
  · rename_i n hw; cases h; exact hw
  · exfalso
    have hk : ∀ {p : ByteArray} {n : Int}, wordN p n = some x → False := fun h => by
      have h2 := (wordN_some h).2.1
      have h1 := (wordN_some h).1
      rw [h1] at hx
      exact ne_empty (name_parts h2).1 hx
    split at h
    · split at h
      · exact hk h
      · cases h
    · exact hk h
theorem wordO_some {m r : Int} {l : Bool} {u v : ByteArray} {x : OpdV} (h : wordO m r l u = some (x, v)) (hn : namedR v = false) : ∃ n, numW u = some n ∧ x = (m, r, n, l) := by
  unfold wordO at h
  split at h
  · rename_i y hy
    cases h
    exact ⟨y.2, named_num hy hn, rfl⟩
  · cases h
theorem wordO_of {m r n : Int} {l : Bool} {u : ByteArray} (h : numW u = some n) : wordO m r l u = some ((m, r, n, l), u) := by
  unfold wordO
  rw [wordR_num h]
theorem named_of {u : ByteArray} {n : Int} (h : numW u = some n) : namedR u = false := by
  unfold namedR
  rw [wordR_num h]
  rfl
theorem named_nil : namedR ⟨#[]⟩ = false := by decide +kernel
theorem catL_three (a b c : ByteArray) : catL [a, b, c] = a ++ (b ++ c) := by show a ++ (b ++ (c ++ ByteArray.empty)) = _; rw [ByteArray.append_empty]
theorem catL_four (a b c d : ByteArray) : catL [a, b, c, d] = a ++ (b ++ (c ++ d)) := by show a ++ (b ++ (c ++ (d ++ ByteArray.empty))) = _; rw [ByteArray.append_empty]
/- The specification takes what is written so. -/
theorem gram_spec {P : List ByteArray} {x : OpdV} (h : OpG P x) : ∃ v, opndR (catL P) = some (x, v) ∧ namedR v = false := by
  rcases h with ⟨p, n, rfl, hp, rfl⟩ | ⟨p, n, rfl, hp, rfl⟩ | ⟨p, n, rfl, hp, rfl⟩ | ⟨q, r, rfl, hq, rfl⟩ | ⟨q, r, rfl, hq, rfl⟩ | ⟨p, n, q, r, rfl, hp, hq, rfl⟩ | ⟨q, r, rfl, hq, rfl⟩
  · refine ⟨p, ?_, named_of hp⟩
    rw [catL_two]
    have hh : headB (⟨#[38]⟩ ++ p) = 38 := headB_one 38 p
    have ht := tail_one 38 p
    have hne : ¬ (⟨#[38]⟩ ++ p) = (⟨#[]⟩ : ByteArray) := ne_empty (by rw [ByteArray.size_append, size_one]; omega)
    generalize (⟨#[38]⟩ : ByteArray) ++ p = u at *
    unfold opndR
    rw [if_neg hne, regR_head (by rw [hh]; decide)]
    dsimp only
    rw [if_neg (by rw [hh]; decide), if_pos hh, ht, wordO_of hp]
  · refine ⟨p, ?_, named_of hp⟩
    rw [catL_two]
    have hh : headB (⟨#[35]⟩ ++ p) = 35 := headB_one 35 p
    have ht := tail_one 35 p
    have hne : ¬ (⟨#[35]⟩ ++ p) = (⟨#[]⟩ : ByteArray) := ne_empty (by rw [ByteArray.size_append, size_one]; omega)
    have h2 : ¬ (1 < ((⟨#[35]⟩ : ByteArray) ++ p).size ∧ ((⟨#[35]⟩ : ByteArray) ++ p).extract 0 2 = ⟨#[35, 35]⟩) := by
      rintro ⟨_, h2⟩
      have e := take_list (⟨#[35]⟩ ++ p) 2
      rw [h2, app_list] at e
      have hw := numW_wordy hp
      cases hl : p.data.toList with
      | nil => rw [hl] at e; exact absurd e (by decide)
      | cons d D =>
        rw [hl] at e
        have e' : ([35, 35] : List UInt8) = [35, d] := e
        have hd : headB p = d.toNat := by unfold headB; rw [hl]; rfl
        have e3 : d = 35 := by cases e'; rfl
        rw [e3] at hd
        exact wordy_head hw (c := 35) (by decide) hd
    generalize (⟨#[35]⟩ : ByteArray) ++ p = u at *
    unfold opndR
    rw [if_neg hne, regR_head (by rw [hh]; decide)]
    dsimp only
    rw [if_neg (by rw [hh]; decide), if_neg (by rw [hh]; decide), if_neg h2, if_pos hh, ht, wordO_of hp]
  · refine ⟨p, ?_, named_of hp⟩
    rw [catL_three]
    have hh : headB (⟨#[35]⟩ ++ (⟨#[35]⟩ ++ p)) = 35 := headB_one 35 (⟨#[35]⟩ ++ p)
    have ht : (⟨#[35]⟩ ++ (⟨#[35]⟩ ++ p)).extract 2 ((⟨#[35]⟩ : ByteArray) ++ (⟨#[35]⟩ ++ p)).size = p := by
      apply ba_list
      rw [drop_list, app_list, app_list]
      rfl
    have hne : ¬ (⟨#[35]⟩ ++ (⟨#[35]⟩ ++ p)) = (⟨#[]⟩ : ByteArray) := ne_empty (by rw [ByteArray.size_append, size_one]; omega)
    have h2 : 1 < ((⟨#[35]⟩ : ByteArray) ++ (⟨#[35]⟩ ++ p)).size ∧ ((⟨#[35]⟩ : ByteArray) ++ (⟨#[35]⟩ ++ p)).extract 0 2 = ⟨#[35, 35]⟩ := by
      refine ⟨by rw [ByteArray.size_append, ByteArray.size_append, size_one]; omega, ?_⟩
      apply ba_list
      rw [take_list, app_list, app_list]
      rfl
    generalize (⟨#[35]⟩ : ByteArray) ++ (⟨#[35]⟩ ++ p) = u at *
    unfold opndR
    rw [if_neg hne, regR_head (by rw [hh]; decide)]
    dsimp only
    rw [if_neg (by rw [hh]; decide), if_neg (by rw [hh]; decide), if_pos h2, ht, wordO_of hp]
  · refine ⟨⟨#[]⟩, ?_, named_nil⟩
    rw [catL_two]
    have hw := isReg_w hq
    have hh : headB (⟨#[64]⟩ ++ q) = 64 := headB_one 64 q
    have ht := tail_one 64 q
    have hl : lastB (⟨#[64]⟩ ++ q) = lastB q := last_app _ _ hw.1
    have hl2 := wordy_last hw (c := 43) (by decide)
    have hne : ¬ (⟨#[64]⟩ ++ q) = (⟨#[]⟩ : ByteArray) := ne_empty (by rw [ByteArray.size_append, size_one]; omega)
    generalize (⟨#[64]⟩ : ByteArray) ++ q = u at *
    unfold opndR
    rw [if_neg hne, regR_head (by rw [hh]; decide)]
    dsimp only
    rw [if_pos hh, if_neg (by rw [hl]; exact hl2), ht]
    unfold regO
    rw [isReg_R hq]
  · refine ⟨⟨#[]⟩, ?_, named_nil⟩
    rw [catL_three]
    have hw := isReg_w hq
    have hh : headB (⟨#[64]⟩ ++ (q ++ ⟨#[43]⟩)) = 64 := headB_one 64 (q ++ ⟨#[43]⟩)
    have hl : lastB (⟨#[64]⟩ ++ (q ++ ⟨#[43]⟩)) = 43 := by rw [last_app _ _ (by rw [ByteArray.size_append, size_one]; omega), lastB_app]; rfl
    have hsz : ((⟨#[64]⟩ : ByteArray) ++ (q ++ ⟨#[43]⟩)).size = 1 + q.size + 1 := by rw [ByteArray.size_append, ByteArray.size_append, size_one, size_one]; omega
    have ht := mid_ba ⟨#[64]⟩ q ⟨#[43]⟩ _ rfl
    rw [size_one] at ht
    have hne : ¬ (⟨#[64]⟩ ++ (q ++ ⟨#[43]⟩)) = (⟨#[]⟩ : ByteArray) := ne_empty (by omega)
    generalize (⟨#[64]⟩ : ByteArray) ++ (q ++ ⟨#[43]⟩) = u at *
    unfold opndR
    rw [if_neg hne, regR_head (by rw [hh]; decide)]
    dsimp only
    rw [if_pos hh, if_pos hl, show u.size - 1 = 1 + q.size by omega, ht]
    unfold regO
    rw [isReg_R hq]
  · refine ⟨p, ?_, named_of hp⟩
    rw [catL_four]
    have hwp := numW_wordy hp
    have hw := isReg_w hq
    have hh : headB (p ++ (⟨#[40]⟩ ++ (q ++ ⟨#[41]⟩))) = headB p := head_app _ _ hwp.1
    have hl : lastB (p ++ (⟨#[40]⟩ ++ (q ++ ⟨#[41]⟩))) = 41 := by
      rw [last_app _ _ (by rw [ByteArray.size_append, size_one]; omega), last_app _ _ (by rw [ByteArray.size_append, size_one]; omega), lastB_app]; rfl
    have hsz : (p ++ ((⟨#[40]⟩ : ByteArray) ++ (q ++ ⟨#[41]⟩))).size = p.size + 1 + q.size + 1 := by rw [ByteArray.size_append, ByteArray.size_append, ByteArray.size_append, size_one, size_one]; omega
    have hi := idxI_app (c := 40) (free_wordy hwp (by decide)) 40 rfl (q ++ ⟨#[41]⟩)
    have h0 : (p ++ (⟨#[40]⟩ ++ (q ++ ⟨#[41]⟩))).extract 0 p.size = p := tri_left _ _ _
    have ht := mid_ba (p ++ ⟨#[40]⟩) q ⟨#[41]⟩ (p ++ (⟨#[40]⟩ ++ (q ++ ⟨#[41]⟩))) (by rw [ByteArray.append_assoc])
    rw [ByteArray.size_append, size_one] at ht
    have hnr : ∀ d : UInt8, d = 114 → headB p = d.toNat → False := fun d hd e => by
      have hn := numR_in (numW_yes hp).1
      have h9 := (numW_yes hp).1
      subst hd
      have hc := cons_head p hwp.1 114 e
      unfold numR at h9
      split at h9
      · rename_i hx
        have e5 := hex_head hx.2
        rw [hc, app_list] at e5
        exact absurd (List.cons.inj e5).1 (by decide)
      · split at h9
        · rw [hc, app_list] at h9
          have h10 : (if 0 ≤ hexV ((114 : UInt8).toNat : Int) ∧ hexV ((114 : UInt8).toNat : Int) < 10 then numF 10 (p.extract 1 p.size).data.toList (10 * 0 + hexV ((114 : UInt8).toNat : Int)) else none) = some n := h9
          rw [if_neg (by decide)] at h10
          cases h10
        · cases h9
    have hne : ¬ (p ++ (⟨#[40]⟩ ++ (q ++ ⟨#[41]⟩))) = (⟨#[]⟩ : ByteArray) := ne_empty (by omega)
    have h35 := wordy_head hwp (c := 35) (by decide)
    have h38 := wordy_head hwp (c := 38) (by decide)
    have h64 := wordy_head hwp (c := 64) (by decide)
    have hll : ¬ (1 < (p ++ (⟨#[40]⟩ ++ (q ++ ⟨#[41]⟩))).size ∧ (p ++ (⟨#[40]⟩ ++ (q ++ ⟨#[41]⟩))).extract 0 2 = (⟨#[35, 35]⟩ : ByteArray)) := by
      rintro ⟨_, h2⟩
      have e := take_list (p ++ (⟨#[40]⟩ ++ (q ++ ⟨#[41]⟩))) 2
      rw [h2] at e
      apply h35
      rw [← hh]
      unfold headB
      cases hu : (p ++ (⟨#[40]⟩ ++ (q ++ ⟨#[41]⟩))).data.toList with
      | nil => rw [hu] at e; exact absurd e (by decide)
      | cons d D =>
        rw [hu] at e
        have e2 : (35 : UInt8) = d := by
          cases D with
          | nil => exact absurd (congrArg List.length e) (by show ¬ ((2 : Nat) = 1); decide)
          | cons f F => exact (List.cons.inj e).1
        rw [← e2]
        rfl
    generalize p ++ ((⟨#[40]⟩ : ByteArray) ++ (q ++ ⟨#[41]⟩)) = u at *
    unfold opndR
    rw [if_neg hne, regR_head (by rw [hh]; exact fun e => hnr 114 rfl e)]
    dsimp only
    rw [if_neg (by rw [hh]; exact h64), if_neg (by rw [hh]; exact h38), if_neg hll, if_neg (by rw [hh]; exact h35)]
    unfold opndI
    rw [hi, if_pos ⟨by omega, hl⟩, show u.size - 1 = p.size + 1 + q.size by omega, ht, isReg_R hq]
    dsimp only
    rw [h0, wordO_of hp]
  · refine ⟨⟨#[]⟩, ?_, named_nil⟩
    rw [catL_one]
    unfold opndR
    rw [if_neg (ne_empty (isReg_w hq).1), isReg_R hq]
/- What the specification takes is written so. -/
theorem spec_gram {u v : ByteArray} {x : OpdV} (h : opndR u = some (x, v)) (hn : namedR v = false) : ∃ P, u = catL P ∧ OpG P x := by
  unfold opndR at h
  split at h
  · cases h
  rename_i hne
  have h1 : 1 ≤ u.size := by
    rcases Nat.eq_zero_or_pos u.size with h0 | h0
    · exact absurd (ba_list (List.eq_nil_of_length_eq_zero (by rw [size_list]; exact h0))) hne
    · exact h0
  split at h
  · rename_i r hr
    cases h
    exact ⟨[u], (catL_one u).symm, .inr (.inr (.inr (.inr (.inr (.inr ⟨u, r, rfl, regR_is hr, rfl⟩)))))⟩
  split at h
  · rename_i h64
    have hc := cons_head u h1 64 h64
    split at h
    · rename_i h43
      unfold regO at h
      split at h
      · rename_i r hr
        cases h
        have hs2 : 2 ≤ u.size := by
          rcases Nat.lt_or_ge u.size 2 with h0 | h0
          · exfalso
            have e1 := headB_at u (by omega)
            have e2 := lastB_at u (by omega)
            have : u.size - 1 = 0 := by omega
            simp only [this] at e2
            omega
          · exact h0
        have hl := app_last u h1 43 h43
        refine ⟨[⟨#[64]⟩, u.extract 1 (u.size - 1), ⟨#[43]⟩], ?_, .inr (.inr (.inr (.inr (.inl ⟨_, r, rfl, regR_is hr, rfl⟩))))⟩
        rw [catL_three]
        apply ba_list
        rw [app_list, app_list, ext_list]
        have e := congrArg (fun z => z.data.toList) hl
        (try dsimp only at e)
        rw [app_list, take_list] at e
        have e2 := congrArg (fun z => z.data.toList) hc
        (try dsimp only at e2)
        rw [app_list, drop_list] at e2
        have e3 : u.data.toList.take (u.size - 1) = 64 :: (u.data.toList.drop 1).take (u.size - 1 - 1) := by
          conv => lhs; rw [e2]
          rw [show u.size - 1 = (u.size - 1 - 1) + 1 by omega]
          rfl
        rw [e3] at e
        exact e
      · cases h
    · unfold regO at h
      split at h
      · rename_i r hr
        cases h
        exact ⟨[⟨#[64]⟩, u.extract 1 u.size], by rw [catL_two]; exact hc, .inr (.inr (.inr (.inl ⟨_, r, rfl, regR_is hr, rfl⟩)))⟩
      · cases h
  split at h
  · rename_i h38
    have hc := cons_head u h1 38 h38
    obtain ⟨n, hw, rfl⟩ := wordO_some h hn
    exact ⟨[⟨#[38]⟩, u.extract 1 u.size], by rw [catL_two]; exact hc, .inl ⟨_, n, rfl, hw, rfl⟩⟩
  split at h
  · rename_i hll
    obtain ⟨n, hw, rfl⟩ := wordO_some h hn
    refine ⟨[⟨#[35]⟩, ⟨#[35]⟩, u.extract 2 u.size], ?_, .inr (.inr (.inl ⟨_, n, rfl, hw, rfl⟩))⟩
    rw [catL_three]
    apply ba_list
    rw [app_list, app_list, drop_list]
    have e := take_list u 2
    rw [hll.2] at e
    have e2 : ([35, 35] : List UInt8) = u.data.toList.take 2 := e
    show _ = [35, 35] ++ u.data.toList.drop 2
    rw [e2, List.take_append_drop]
  split at h
  · rename_i h35
    have hc := cons_head u h1 35 h35
    obtain ⟨n, hw, rfl⟩ := wordO_some h hn
    exact ⟨[⟨#[35]⟩, u.extract 1 u.size], by rw [catL_two]; exact hc, .inr (.inl ⟨_, n, rfl, hw, rfl⟩)⟩
  · unfold opndI at h
    split at h
    · rename_i hi
      obtain ⟨hlt, h41⟩ := hi
      split at h
      · rename_i r hr
        obtain ⟨n, hw, rfl⟩ := wordO_some h hn
        obtain ⟨d, hd, e⟩ := idxI_lt hlt
        have hd' : d = 40 := UInt8.toNat_inj.1 hd
        subst hd'
        have hs : idxI 40 u + 1 < u.size := by
          rcases Nat.lt_or_ge (idxI 40 u + 1) u.size with h0 | h0
          · exact h0
          · exfalso
            have h5 : u.extract (idxI 40 u + 1) u.size = ⟨#[]⟩ := by
              apply ba_list
              rw [drop_list, List.drop_of_length_le (by rw [size_list]; omega)]
            rw [h5] at e
            have e3 : (⟨#[40]⟩ : ByteArray) ++ (⟨#[]⟩ : ByteArray) = ⟨#[40]⟩ := by decide +kernel
            rw [e3] at e
            rw [e, lastB_app] at h41
            exact absurd h41 (by decide)
        have e5 := app_last u h1 41 h41
        refine ⟨[u.extract 0 (idxI 40 u), ⟨#[40]⟩, u.extract (idxI 40 u + 1) (u.size - 1), ⟨#[41]⟩], ?_, .inr (.inr (.inr (.inr (.inr (.inl ⟨_, n, _, r, rfl, hw, regR_is hr, rfl⟩)))))⟩
        rw [catL_four]
        apply ba_list
        have e6 := congrArg (fun z => z.data.toList) e
        have e7 := congrArg (fun z => z.data.toList) e5
        (try dsimp only at e6 e7)
        rw [tri_list, take_list, drop_list] at e6
        rw [app_list, take_list] at e7
        rw [tri_list, take_list, app_list, ext_list]
        have e8 : u.data.toList.drop (idxI 40 u + 1) = (u.data.toList.drop (idxI 40 u + 1)).take (u.size - 1 - (idxI 40 u + 1)) ++ [41] := by
          conv => lhs; rw [e7]
          rw [List.drop_append, List.drop_take, List.length_take, size_list, show idxI 40 u + 1 - min (u.size - 1) u.size = 0 by omega]
          rfl
        have e9 : (⟨#[41]⟩ : ByteArray).data.toList = [41] := rfl
        rw [e9, ← e8]
        exact e6
      · cases h
    · cases h
end Go.Proofs.YtodjccipfonaiaaGreatDoor
namespace Go.Proofs.YtodjccipfonaiaaGreatDoor
open Go.RowKit
set_option linter.unusedVariables false

theorem has_rowD (k : Nat) (p : ByteArray) (hp : ¬ p = ⟨#[]⟩) : ∀ (R : List ByteArray) (D : DataW Unit) (i : Nat), Maps.IsMap D → (Maps.has (rowD D k R i) (.string p.data.toList) = true ↔ (Maps.has D (.string p.data.toList) = true ∨ p ∈ R)) ∧ Maps.IsMap (rowD D k R i)
  | [], D, i, hD => ⟨by show Maps.has D _ = true ↔ _; simp, hD⟩
  | s :: R, D, i, hD => by
    show (Maps.has (rowD (if s = ⟨#[]⟩ then D else D.put (.string s.data.toList) (encP k i)) k R (i + 1)) _ = true ↔ _) ∧ Maps.IsMap (rowD (if s = ⟨#[]⟩ then D else D.put (.string s.data.toList) (encP k i)) k R (i + 1))
    by_cases hs : s = ⟨#[]⟩
    · rw [if_pos hs]
      obtain ⟨h1, h2⟩ := has_rowD k p hp R D (i + 1) hD
      refine ⟨?_, h2⟩
      rw [h1, List.mem_cons]
      constructor
      · rintro (h | h)
        · exact .inl h
        · exact .inr (.inr h)
      · rintro (h | h | h)
        · exact .inl h
        · exact absurd (h.trans hs) hp
        · exact .inr h
    · rw [if_neg hs]
      obtain ⟨h1, h2⟩ := has_rowD k p hp R (D.put (.string s.data.toList) (encP k i)) (i + 1) (hD.put _ _)
      refine ⟨?_, h2⟩
      rw [h1, List.mem_cons]
      by_cases e : p = s
      · subst e
        have e2 := Maps.has_put_same hD (show WideAt.IsKeyLit (.string p.data.toList) by trivial) (encP k i)
        rw [e2]
        exact ⟨fun _ => .inr (.inl rfl), fun _ => .inl rfl⟩
      · have hne : (Lit.string p.data.toList) ≠ .string s.data.toList := by
          intro h
          exact e (ba_list (Lit.string.inj h))
        rw [Maps.has_put_other hne]
        constructor
        · rintro (h | h)
          · exact .inl h
          · exact .inr (.inr h)
        · rintro (h | h | h)
          · exact .inl h
          · exact absurd h e
          · exact .inr h
theorem names_all : (∀ s ∈ namesL.getD 0 [], s = ⟨#[]⟩ ∨ 0 ≤ atI opsAll s) ∧ (∀ s ∈ namesL.getD 1 [], s = ⟨#[]⟩ ∨ 0 ≤ atI opsAll s) ∧ (∀ s ∈ namesL.getD 2 [], s = ⟨#[]⟩ ∨ 0 ≤ atI opsAll s) ∧ ∀ s ∈ opsAll, 0 ≤ atI (namesL.getD 0 []) s ∨ 0 ≤ atI (namesL.getD 1 []) s ∨ 0 ≤ atI (namesL.getD 2 []) s := by decide +kernel
theorem hasB_nil : hasB ⟨#[]⟩ = false := by kernel_rfl
theorem ops_ne : ∀ s ∈ opsAll, ¬ s = ⟨#[]⟩ := by decide +kernel
theorem hasB_iff (p : ByteArray) : hasB p = true ↔ p ∈ opsAll := by
  by_cases hp : p = ⟨#[]⟩
  · subst hp
    rw [hasB_nil]
    exact ⟨fun h => (by cases h), fun h => absurd rfl (ops_ne _ h)⟩
  · obtain ⟨h0, m0⟩ := has_rowD 0 p hp (namesL.getD 0 []) (.map []) 0 ⟨[], rfl⟩
    obtain ⟨h1, m1⟩ := has_rowD 1 p hp (namesL.getD 1 []) _ 0 m0
    obtain ⟨h2, m2⟩ := has_rowD 2 p hp (namesL.getD 2 []) _ 0 m1
    have e : hasB p = Maps.has (rowD (rowD (rowD (.map []) 0 (namesL.getD 0 []) 0) 1 (namesL.getD 1 []) 0) 2 (namesL.getD 2 []) 0) (.string p.data.toList) := rfl
    rw [e, h2, h1, h0]
    obtain ⟨a0, a1, a2, a3⟩ := names_all
    have e0 : Maps.has (DataW.map [] : DataW Unit) (.string p.data.toList) = false := rfl
    rw [e0]
    constructor
    · rintro (((h | h) | h) | h)
      · cases h
      · exact atI_mem ((a0 p h).resolve_left hp)
      · exact atI_mem ((a1 p h).resolve_left hp)
      · exact atI_mem ((a2 p h).resolve_left hp)
    · intro h
      rcases a3 p h with h | h | h
      · exact .inl (.inl (.inr (atI_mem h)))
      · exact .inl (.inr (atI_mem h))
      · exact .inr (atI_mem h)
def reti : ByteArray := ⟨#[114, 101, 116, 105]⟩
/- What the program's reader takes. -/
abbrev Wri := Ins × ByteArray × ByteArray × ByteArray
def argT (p : ByteArray) (b : Bool) (L : List ByteArray) : Option (Wri × List ByteArray) :=
  if 0 ≤ atI twosL p then mapO (twoT L) (fun y => (insOf p b y.1.1 y.2.1 0, y.1.2.1, y.2.2.1, ⟨#[]⟩))
  else if 0 ≤ atI onesL p then mapO (operT L) (fun y => (insOf p b y.1 noO 0, y.2.1, ⟨#[]⟩, ⟨#[]⟩))
  else mapO (jumpT L) (fun y => match y with | .inl j => (insOf p b noO noO j, ⟨#[]⟩, ⟨#[]⟩, ⟨#[]⟩) | .inr x => (insOf p b noO noO 0, ⟨#[]⟩, ⟨#[]⟩, x.1))
def insnT (L : List ByteArray) : Option (Wri × List ByteArray) := match opT L with
  | none => none
  | some ((p, b), L1) => if p = reti then some ((insOf p b noO noO 0, ⟨#[]⟩, ⟨#[]⟩, ⟨#[]⟩), L1) else if (takeT ⟨#[32]⟩ L1).1 = true then argT p b (takeT ⟨#[32]⟩ L1).2 else none
/- The grammar. -/
def OpNG (B : List ByteArray) (p : ByteArray) (b : Bool) : Prop := p ∈ opsAll ∧ B = if b then [p, ⟨#[46]⟩, ⟨#[98]⟩] else [p]
def ArgG (p : ByteArray) (b : Bool) (P : List ByteArray) (i : Ins) : Prop :=
  (0 ≤ atI twosL p ∧ ∃ S D K x y, OpG S x ∧ OpG D y ∧ (K = [] ∨ K = [⟨#[32]⟩]) ∧ P = ⟨#[32]⟩ :: (S ++ ⟨#[44]⟩ :: (K ++ D)) ∧ i = insOf p b x y 0)
  ∨ (¬ 0 ≤ atI twosL p ∧ 0 ≤ atI onesL p ∧ ¬ p = reti ∧ ∃ S x, OpG S x ∧ P = ⟨#[32]⟩ :: S ∧ i = insOf p b x noO 0)
  ∨ (p = reti ∧ P = [] ∧ i = insOf p b noO noO 0)
  ∨ (¬ 0 ≤ atI twosL p ∧ ¬ 0 ≤ atI onesL p ∧ ¬ p = reti ∧ ∃ c q n, (c.toNat = 43 ∨ c.toNat = 45) ∧ numW q = some n ∧ n % 2 = 0 ∧ P = [⟨#[32]⟩, ⟨#[36]⟩, ⟨#[c]⟩, q] ∧ i = insOf p b noO noO ((sgn c * n - 2).tdiv 2))
def InsG (P : List ByteArray) (i : Ins) : Prop := ∃ B p b Q, OpNG B p b ∧ ArgG p b Q i ∧ P = B ++ Q
theorem ops_at_in : ∀ s ∈ opsAll, 0 ≤ atI opsAll s := by decide +kernel
theorem opT_gram {L L1 : List ByteArray} {p : ByteArray} {b : Bool} (h : opT L = some ((p, b), L1)) : ∃ B, OpNG B p b ∧ L = B ++ L1 := by
  cases L with
  | nil => cases h
  | cons q L =>
    have h' : (if hasB q = true then (if (takeT ⟨#[46]⟩ L).1 = true then (if (takeT ⟨#[98]⟩ (takeT ⟨#[46]⟩ L).2).1 = true then some ((q, true), (takeT ⟨#[98]⟩ (takeT ⟨#[46]⟩ L).2).2) else none) else some ((q, false), L)) else none) = some ((p, b), L1) := h
    split at h'
    · rename_i hq
      have hm := (hasB_iff q).1 hq
      split at h'
      · rename_i h1
        have e1 := takeT_split h1
        generalize (takeT ⟨#[46]⟩ L).2 = L2 at *
        split at h'
        · rename_i h2
          have e2 := takeT_split h2
          generalize (takeT ⟨#[98]⟩ L2).2 = L3 at *
          cases h'
          exact ⟨[p, ⟨#[46]⟩, ⟨#[98]⟩], ⟨hm, rfl⟩, by rw [e1, e2]; rfl⟩
        · cases h'
      · cases h'
        exact ⟨[p], ⟨hm, rfl⟩, rfl⟩
    · cases h'
theorem gram_opT {B L1 : List ByteArray} {p : ByteArray} {b : Bool} (h : OpNG B p b) (hL : (takeT ⟨#[46]⟩ L1).1 = false) : opT (B ++ L1) = some ((p, b), L1) := by
  obtain ⟨hp, rfl⟩ := h
  have hq := (hasB_iff p).2 hp
  cases b
  · show (if hasB p = true then (if (takeT ⟨#[46]⟩ L1).1 = true then _ else some ((p, false), L1)) else none) = _
    rw [if_pos hq, hL, if_neg ffB]
  · show (if hasB p = true then (if (takeT ⟨#[46]⟩ (⟨#[46]⟩ :: ⟨#[98]⟩ :: L1)).1 = true then (if (takeT ⟨#[98]⟩ (takeT ⟨#[46]⟩ (⟨#[46]⟩ :: ⟨#[98]⟩ :: L1)).2).1 = true then some ((p, true), (takeT ⟨#[98]⟩ (takeT ⟨#[46]⟩ (⟨#[46]⟩ :: ⟨#[98]⟩ :: L1)).2).2) else none) else _) else none) = _
    rw [if_pos hq, takeT_eq, if_pos rfl]
    show (if (takeT ⟨#[98]⟩ (⟨#[98]⟩ :: L1)).1 = true then some ((p, true), (takeT ⟨#[98]⟩ (⟨#[98]⟩ :: L1)).2) else none) = _
    rw [takeT_eq, if_pos rfl]
theorem src_reg {m r n : Int} {l : Bool} (h : srcB m r n l = true) : r ≤ 15 := by
  have h5 := (src_rng h).1
  unfold srcB at h
  obtain rfl | rfl | rfl | rfl | rfl | rfl : m = 0 ∨ m = 1 ∨ m = 2 ∨ m = 3 ∨ m = 4 ∨ m = 5 := by omega
  all_goals simp [plainB, isB] at h; omega
theorem dst_reg {m r n : Int} {l : Bool} (h : dstB m r n l = true) : r ≤ 15 := by
  unfold dstB at h
  by_cases h0 : m = 0
  · subst h0; simp [isB] at h; omega
  rw [if_neg h0] at h
  by_cases h1 : m = 1 ∨ m = 2
  · rw [if_pos h1] at h; exact src_reg h
  · rw [if_neg h1] at h; cases h
theorem zero_reg {m r n : Int} {l : Bool} (h : zeroB m r n l = true) : r ≤ 15 := by
  unfold zeroB at h
  simp at h
  omega
theorem ok_reg {i : Ins} (h : okI i = true) : i.r ≤ 15 ∧ i.r2 ≤ 15 := by
  unfold okI at h
  rw [insn_kinds] at h
  split at h
  · simp only [Bool.and_eq_true] at h
    exact ⟨src_reg h.1.1, dst_reg h.1.2⟩
  split at h
  · unfold oneB at h
    split at h
    · simp only [Bool.and_eq_true] at h
      exact ⟨zero_reg h.1.1.2, zero_reg h.1.2⟩
    · simp only [Bool.and_eq_true] at h
      exact ⟨src_reg h.1.1.1.1, zero_reg h.1.1.1.2⟩
  split at h
  · simp only [Bool.and_eq_true] at h
    exact ⟨zero_reg h.1.1.2, zero_reg h.1.2⟩
  · cases h
theorem twoT_gram {L L' : List ByteArray} {y : OpdW × OpdW} (h : twoT L = some (y, L')) (h1 : y.1.2.1 = ⟨#[]⟩) (h2 : y.2.2.1 = ⟨#[]⟩) (r1 : y.1.1.2.1 ≤ 15) (r2 : y.2.1.2.1 ≤ 15) : ∃ S D K, OpG S y.1.1 ∧ OpG D y.2.1 ∧ (K = [] ∨ K = [⟨#[32]⟩]) ∧ L = S ++ ⟨#[44]⟩ :: (K ++ (D ++ L')) := by
  unfold twoT at h
  split at h
  · cases h
  · rename_i s L1 hs
    split at h
    · rename_i hc
      have e1 := takeT_split hc
      generalize (takeT ⟨#[44]⟩ L1).2 = L2 at *
      split at h
      · cases h
      · rename_i d L3 hd
        cases h
        obtain ⟨S, eS, gS⟩ := oper_gram hs h1 r1
        obtain ⟨D, eD, gD⟩ := oper_gram hd h2 r2
        cases hb : (takeT ⟨#[32]⟩ L2).1
        · rw [mark_left hb] at eD
          exact ⟨S, D, [], gS, gD, .inl rfl, by rw [eS, e1, eD]; rfl⟩
        · have e2 := takeT_split hb
          exact ⟨S, D, [⟨#[32]⟩], gS, gD, .inr rfl, by rw [eS, e1, e2, eD]; rfl⟩
    · cases h
/- What the program takes whole, right and without a Name. -/
theorem insnT_gram {L : List ByteArray} {i : Ins} {s d j : ByteArray} (h : insnT L = some ((i, s, d, j), [])) (hs : s = ⟨#[]⟩) (hd : d = ⟨#[]⟩) (hj : j = ⟨#[]⟩) (ok : okI i = true) : InsG L i := by
  unfold insnT at h
  split at h
  · cases h
  · rename_i p b L1 hop
    obtain ⟨B, hB, rfl⟩ := opT_gram hop
    split at h
    · rename_i hr
      cases h
      exact ⟨B, p, b, [], hB, .inr (.inr (.inl ⟨hr, rfl, rfl⟩)), rfl⟩
    · rename_i hr
      split at h
      · rename_i hb
        have e1 := takeT_split hb
        generalize (takeT ⟨#[32]⟩ L1).2 = L2 at *
        obtain ⟨k1, k2⟩ := ok_reg ok
        unfold argT at h
        split at h
        · rename_i h2
          cases ht : twoT L2 with
          | none => rw [ht] at h; cases h
          | some z =>
            obtain ⟨y, L3⟩ := z
            rw [ht] at h
            have h' : some ((insOf p b y.1.1 y.2.1 0, y.1.2.1, y.2.2.1, (⟨#[]⟩ : ByteArray)), L3) = some ((i, s, d, j), []) := h
            cases h'
            obtain ⟨S, D, K, gS, gD, hK, e⟩ := twoT_gram ht hs hd k1 k2
            exact ⟨B, p, b, L1, hB, .inl ⟨h2, S, D, K, _, _, gS, gD, hK, by rw [e1, e]; simp, rfl⟩, rfl⟩
        split at h
        · rename_i h2 h3
          cases ht : operT L2 with
          | none => rw [ht] at h; cases h
          | some z =>
            obtain ⟨⟨x, nm, k⟩, L3⟩ := z
            rw [ht] at h
            have h' : some ((insOf p b x noO 0, nm, (⟨#[]⟩ : ByteArray), (⟨#[]⟩ : ByteArray)), L3) = some ((i, s, d, j), []) := h
            cases h'
            obtain ⟨S, e, gS⟩ := oper_gram ht hs k1
            exact ⟨B, p, b, L1, hB, .inr (.inl ⟨h2, h3, hr, S, x, gS, by rw [e1, e]; simp, rfl⟩), rfl⟩
        · rename_i h2 h3
          cases ht : jumpT L2 with
          | none => rw [ht] at h; cases h
          | some z =>
            obtain ⟨y, L3⟩ := z
            rw [ht] at h
            cases y with
            | inr x =>
              exfalso
              have h' : some ((insOf p b noO noO 0, (⟨#[]⟩ : ByteArray), (⟨#[]⟩ : ByteArray), x.1), L3) = some ((i, s, d, j), []) := h
              cases h'
              unfold jumpT at ht
              split at ht
              · cases hw : wayT (takeT ⟨#[36]⟩ L2).2 with
                | none => rw [hw] at ht; cases ht
                | some v => rw [hw] at ht; cases ht
              · split at ht
                · split at ht
                  · cases ht
                  · rename_i hne; cases ht; exact hne hj
                · cases ht
            | inl n =>
              have h' : some ((insOf p b noO noO n, (⟨#[]⟩ : ByteArray), (⟨#[]⟩ : ByteArray), (⟨#[]⟩ : ByteArray)), L3) = some ((i, s, d, j), []) := h
              cases h'
              unfold jumpT at ht
              split at ht
              · rename_i hd
                have e2 := takeT_split hd
                generalize (takeT ⟨#[36]⟩ L2).2 = L4 at *
                cases hw : wayT L4 with
                | none => rw [hw] at ht; cases ht
                | some v =>
                  obtain ⟨n2, L5⟩ := v
                  rw [hw] at ht
                  cases ht
                  unfold wayT at hw
                  split at hw
                  · cases hw
                  · rename_i m L6 hm
                    split at hw
                    · cases hw
                    · rename_i hs0
                      split at hw
                      · rename_i hm2
                        cases hw
                        rcases signT_cases L4 with ⟨h0, _⟩ | ⟨c, L7, hc, e3, e4⟩
                        · exact absurd h0 hs0
                        · rw [e4] at hm
                          obtain ⟨q, e5, hq, hq2⟩ := numT_some hm
                          have e6 : L7 = q :: [] := e5
                          refine ⟨B, p, b, L1, hB, .inr (.inr (.inr ⟨h2, h3, hr, c, q, m, hc, by rw [numR_ge hq, if_pos hq2], hm2, ?_, ?_⟩)), rfl⟩
                          · rw [e1, e2, e3, e6]
                          · rw [e4]
                      · cases hw
              · split at ht
                · split at ht
                  · cases ht
                  · cases ht
                · cases ht
      · cases h
theorem oper_head {S : List ByteArray} {x : OpdV} (h : OpG S x) (L : List ByteArray) : (takeT ⟨#[32]⟩ (S ++ L)).1 = false := by
  rcases h with ⟨p, n, rfl, hp, rfl⟩ | ⟨p, n, rfl, hp, rfl⟩ | ⟨p, n, rfl, hp, rfl⟩ | ⟨q, r, rfl, hq, rfl⟩ | ⟨q, r, rfl, hq, rfl⟩ | ⟨p, n, q, r, rfl, hp, hq, rfl⟩ | ⟨q, r, rfl, hq, rfl⟩
  · exact congrArg Prod.fst (takeT_ne _ (by decide))
  · exact congrArg Prod.fst (takeT_ne _ (by decide))
  · exact congrArg Prod.fst (takeT_ne _ (by decide))
  · exact congrArg Prod.fst (takeT_ne _ (by decide))
  · exact congrArg Prod.fst (takeT_ne _ (by decide))
  · exact congrArg Prod.fst (takeT_ne _ (wordy_ne (numW_wordy hp) (by decide)))
  · exact congrArg Prod.fst (takeT_ne _ (wordy_ne (isReg_w hq) (by decide)))
theorem reti_kind : ¬ 0 ≤ atI twosL reti := by decide +kernel
/- What is written so, the program takes whole. -/
theorem gram_insnT {P : List ByteArray} {i : Ins} (h : InsG P i) : insnT P = some ((i, ⟨#[]⟩, ⟨#[]⟩, ⟨#[]⟩), []) := by
  obtain ⟨B, p, b, Q, hB, hA, rfl⟩ := h
  unfold insnT
  rcases hA with ⟨h2, S, D, K, x, y, gS, gD, hK, rfl, rfl⟩ | ⟨h2, h3, hr, S, x, gS, rfl, rfl⟩ | ⟨hr, rfl, rfl⟩ | ⟨h2, h3, hr, c, q, n, hc, hq, hm, rfl, rfl⟩
  · have hr : ¬ p = reti := by rintro rfl; exact reti_kind h2
    rw [gram_opT hB (by exact congrArg Prod.fst (takeT_ne _ (by decide)))]
    dsimp only
    rw [if_neg hr, takeT_eq, if_pos rfl]
    dsimp only
    obtain ⟨k1, e1⟩ := gram_oper gS (L' := ⟨#[44]⟩ :: (K ++ D)) rfl
    obtain ⟨k2, e2⟩ := gram_oper gD (L' := []) trivial
    rw [List.append_nil] at e2
    have e3 : (takeT ⟨#[32]⟩ (K ++ D)).2 = D := by
      rcases hK with rfl | rfl
      · have := oper_head gD []
        rw [List.append_nil] at this
        exact mark_left this
      · exact congrArg Prod.snd (takeT_eq _ _)
    have ht : twoT (S ++ ⟨#[44]⟩ :: (K ++ D)) = some (((x, ⟨#[]⟩, k1), (y, ⟨#[]⟩, k2)), []) := by
      unfold twoT
      rw [e1]
      dsimp only
      rw [takeT_eq, if_pos rfl]
      dsimp only
      rw [e3, e2]
    unfold argT
    rw [if_pos h2, ht]
    rfl
  · rw [gram_opT hB (by exact congrArg Prod.fst (takeT_ne _ (by decide)))]
    dsimp only
    rw [if_neg hr, takeT_eq, if_pos rfl]
    dsimp only
    obtain ⟨k1, e1⟩ := gram_oper gS (L' := []) trivial
    rw [List.append_nil] at e1
    unfold argT
    rw [if_neg h2, if_pos h3, e1]
    rfl
  · rw [gram_opT hB rfl]
    dsimp only
    rw [if_pos hr]
  · rw [gram_opT hB (by exact congrArg Prod.fst (takeT_ne _ (by decide)))]
    dsimp only
    rw [if_neg hr, takeT_eq, if_pos rfl]
    dsimp only
    obtain ⟨hq1, hq2⟩ := numW_yes hq
    have ht : jumpT [⟨#[36]⟩, ⟨#[c]⟩, q] = some (Sum.inl ((sgn c * n - 2).tdiv 2), []) := by
      unfold jumpT
      rw [takeT_eq, if_pos rfl]
      dsimp only
      unfold wayT
      rw [signT_of c _ hc]
      dsimp only
      rw [numT_of [] hq1 hq2]
      dsimp only
      rw [if_neg (sgn_ne c), if_pos hm]
      rfl
    unfold argT
    rw [if_neg h2, if_neg h3, ht]
    rfl
end Go.Proofs.YtodjccipfonaiaaGreatDoor
namespace Go.Proofs.YtodjccipfonaiaaGreatDoor
open Go.RowKit
set_option linter.unusedVariables false

theorem solo_of (c : UInt8) (h1 : c.toNat < 128) (h2 : inN (c.toNat : Int) = false) : solo ⟨#[c]⟩ := ⟨c, h1, h2, rfl⟩
theorem ops_name : ∀ s ∈ opsAll, nameB s = true := by decide +kernel
theorem ops_wordy {p : ByteArray} (h : p ∈ opsAll) : wordy p := by
  have h' := name_parts (ops_name p h)
  exact ⟨h'.1, h'.2.2⟩
theorem oper_WP {S L : List ByteArray} {x : OpdV} (h : OpG S x) (hs : soloHead L) (hL : WP L) : WP (S ++ L) := by
  rcases h with ⟨p, n, rfl, hp, rfl⟩ | ⟨p, n, rfl, hp, rfl⟩ | ⟨p, n, rfl, hp, rfl⟩ | ⟨q, r, rfl, hq, rfl⟩ | ⟨q, r, rfl, hq, rfl⟩ | ⟨p, n, q, r, rfl, hp, hq, rfl⟩ | ⟨q, r, rfl, hq, rfl⟩
  · exact .inl ⟨solo_of 38 (by decide) (by decide), .inr ⟨numW_wordy hp, hs, hL⟩⟩
  · exact .inl ⟨solo_of 35 (by decide) (by decide), .inr ⟨numW_wordy hp, hs, hL⟩⟩
  · exact .inl ⟨solo_of 35 (by decide) (by decide), .inl ⟨solo_of 35 (by decide) (by decide), .inr ⟨numW_wordy hp, hs, hL⟩⟩⟩
  · exact .inl ⟨solo_of 64 (by decide) (by decide), .inr ⟨isReg_w hq, hs, hL⟩⟩
  · exact .inl ⟨solo_of 64 (by decide) (by decide), .inr ⟨isReg_w hq, solo_of 43 (by decide) (by decide), .inl ⟨solo_of 43 (by decide) (by decide), hL⟩⟩⟩
  · exact .inr ⟨numW_wordy hp, solo_of 40 (by decide) (by decide), .inl ⟨solo_of 40 (by decide) (by decide), .inr ⟨isReg_w hq, solo_of 41 (by decide) (by decide), .inl ⟨solo_of 41 (by decide) (by decide), hL⟩⟩⟩⟩
  · exact .inr ⟨isReg_w hq, hs, hL⟩
theorem op_WP {B L : List ByteArray} {p : ByteArray} {b : Bool} (h : OpNG B p b) (hs : soloHead L) (hL : WP L) : WP (B ++ L) := by
  obtain ⟨hp, rfl⟩ := h
  cases b
  · exact .inr ⟨ops_wordy hp, hs, hL⟩
  · refine .inr ⟨ops_wordy hp, solo_of 46 (by decide) (by decide), .inl ⟨solo_of 46 (by decide) (by decide), .inr ⟨⟨by decide, ?_⟩, hs, hL⟩⟩⟩
    exact mem_all (by decide +kernel)
theorem gram_WP {P : List ByteArray} {i : Ins} (h : InsG P i) : WP P := by
  obtain ⟨B, p, b, Q, hB, hA, rfl⟩ := h
  rcases hA with ⟨h2, S, D, K, x, y, gS, gD, hK, rfl, rfl⟩ | ⟨h2, h3, hr, S, x, gS, rfl, rfl⟩ | ⟨hr, rfl, rfl⟩ | ⟨h2, h3, hr, c, q, n, hc, hq, hm, rfl, rfl⟩
  · have hD : WP D := by have := oper_WP gD (L := []) trivial trivial; rw [List.append_nil] at this; exact this
    have hKD : WP (K ++ D) := by
      rcases hK with rfl | rfl
      · exact hD
      · exact .inl ⟨solo_of 32 (by decide) (by decide), hD⟩
    exact op_WP hB (solo_of 32 (by decide) (by decide)) (.inl ⟨solo_of 32 (by decide) (by decide), oper_WP gS (solo_of 44 (by decide) (by decide)) (.inl ⟨solo_of 44 (by decide) (by decide), hKD⟩)⟩)
  · have hS : WP S := by have := oper_WP gS (L := []) trivial trivial; rw [List.append_nil] at this; exact this
    exact op_WP hB (solo_of 32 (by decide) (by decide)) (.inl ⟨solo_of 32 (by decide) (by decide), hS⟩)
  · exact op_WP hB trivial trivial
  · have hcs : solo ⟨#[c]⟩ := by
      refine solo_of c (by omega) ?_
      rcases hc with hc | hc <;> rw [hc] <;> decide
    exact op_WP hB (solo_of 32 (by decide) (by decide)) (.inl ⟨solo_of 32 (by decide) (by decide), .inl ⟨solo_of 36 (by decide) (by decide), .inl ⟨hcs, .inr ⟨numW_wordy hq, trivial, trivial⟩⟩⟩⟩)
theorem free_cat (c : Nat) : ∀ (L : List ByteArray), (∀ p ∈ L, freeOf c p) → freeOf c (catL L)
  | [], _ => fun x hx => by
    have e : (catL []).data.toList = [] := rfl
    rw [e] at hx
    cases hx
  | p :: L, h => free_app (h p (List.mem_cons_self ..)) (free_cat c L (fun q hq => h q (List.mem_cons_of_mem _ hq)))
theorem oper_free {S : List ByteArray} {x : OpdV} (h : OpG S x) (c : Nat) (hc : inN (c : Int) = false) (hm : ¬ 38 = c ∧ ¬ 35 = c ∧ ¬ 64 = c ∧ ¬ 43 = c ∧ ¬ 40 = c ∧ ¬ 41 = c) : freeOf c (catL S) := by
  obtain ⟨h1, h2, h3, h4, h5, h6⟩ := hm
  apply free_cat
  rcases h with ⟨p, n, rfl, hp, rfl⟩ | ⟨p, n, rfl, hp, rfl⟩ | ⟨p, n, rfl, hp, rfl⟩ | ⟨q, r, rfl, hq, rfl⟩ | ⟨q, r, rfl, hq, rfl⟩ | ⟨p, n, q, r, rfl, hp, hq, rfl⟩ | ⟨q, r, rfl, hq, rfl⟩
  all_goals
    intro z hz
    simp only [List.mem_cons, List.not_mem_nil, or_false] at hz
  · rcases hz with rfl | rfl
    · exact free_one h1
    · exact free_wordy (numW_wordy hp) hc
  · rcases hz with rfl | rfl
    · exact free_one h2
    · exact free_wordy (numW_wordy hp) hc
  · rcases hz with rfl | rfl | rfl
    · exact free_one h2
    · exact free_one h2
    · exact free_wordy (numW_wordy hp) hc
  · rcases hz with rfl | rfl
    · exact free_one h3
    · exact free_wordy (isReg_w hq) hc
  · rcases hz with rfl | rfl | rfl
    · exact free_one h3
    · exact free_wordy (isReg_w hq) hc
    · exact free_one h4
  · rcases hz with rfl | rfl | rfl | rfl
    · exact free_wordy (numW_wordy hp) hc
    · exact free_one h5
    · exact free_wordy (isReg_w hq) hc
    · exact free_one h6
  · subst hz
    exact free_wordy (isReg_w hq) hc
theorem op_free {B : List ByteArray} {p : ByteArray} {b : Bool} (h : OpNG B p b) : freeOf 32 (catL B) := by
  obtain ⟨hp, rfl⟩ := h
  apply free_cat
  cases b
  · intro z hz
    have e : z = p := by simpa using hz
    rw [e]
    exact free_wordy (ops_wordy hp) (by decide)
  · intro z hz
    have e : z = p ∨ z = ⟨#[46]⟩ ∨ z = ⟨#[98]⟩ := by simpa using hz
    rcases e with rfl | rfl | rfl
    · exact free_wordy (ops_wordy hp) (by decide)
    · exact free_one (by decide)
    · exact free_one (by decide)
/- The operation of what is written. -/
theorem opPart_of {B : List ByteArray} {p R u : ByteArray} {b : Bool} (h : OpNG B p b) (hu : u = catL B ++ R) (hi : idxI 32 u = (catL B).size) : opPart u = (p, b) := by
  obtain ⟨hp, rfl⟩ := h
  have hw := ops_wordy hp
  cases b
  · have e : catL (if false = true then [p, ⟨#[46]⟩, ⟨#[98]⟩] else [p]) = p := catL_one p
    rw [e] at hu hi
    have h0 : u.extract 0 p.size = p := by
      apply ba_list
      rw [take_list, hu, app_list, ← size_list, List.take_left]
    unfold opPart
    rw [hi, if_neg, h0]
    rintro ⟨h2, h3⟩
    have e2 := ext_list u (p.size - 2) p.size
    rw [h3, hu, app_list, List.drop_append_of_le_length (by rw [size_list]; omega), List.take_append_of_le_length (by rw [List.length_drop, size_list]; omega)] at e2
    have hm : (46 : UInt8) ∈ p.data.toList := by
      have h5 : (46 : UInt8) ∈ (p.data.toList.drop (p.size - 2)).take (p.size - (p.size - 2)) := by
        rw [← e2]
        decide
      exact List.mem_of_mem_drop (List.mem_of_mem_take h5)
    have := all_mem hw.2 _ hm
    exact absurd this (by decide)
  · have e : catL (if true = true then [p, ⟨#[46]⟩, ⟨#[98]⟩] else [p]) = p ++ ⟨#[46, 98]⟩ := by
      have e2 : catL (if true = true then [p, ⟨#[46]⟩, ⟨#[98]⟩] else [p]) = catL [p, ⟨#[46]⟩, ⟨#[98]⟩] := rfl
      rw [e2, catL_three]
      rfl
    rw [e] at hu hi
    have hs : (p ++ ⟨#[46, 98]⟩ : ByteArray).size = p.size + 2 := by rw [ByteArray.size_append]; rfl
    rw [hs] at hi
    have h0 : u.extract 0 p.size = p := by
      apply ba_list
      rw [take_list, hu, app_list, app_list, List.append_assoc, ← size_list, List.take_left]
    have h1 : u.extract p.size (p.size + 2) = ⟨#[46, 98]⟩ := mid_ba p ⟨#[46, 98]⟩ R u (by rw [hu, ByteArray.append_assoc])
    unfold opPart
    rw [hi, show p.size + 2 - 2 = p.size by omega, if_pos ⟨by have := hw.1; omega, h1⟩, h0]
theorem ops_class : ∀ s ∈ opsAll, 0 ≤ atI opsAll s ∧ (0 ≤ atI twosL s → atI opsAll s < 12) ∧ (¬ 0 ≤ atI twosL s → 0 ≤ atI onesL s → ¬ s = reti → ¬ atI opsAll s < 12 ∧ atI opsAll s < 18) ∧ (s = reti → ¬ atI opsAll s < 12 ∧ atI opsAll s = 18) ∧ (¬ 0 ≤ atI twosL s → ¬ 0 ≤ atI onesL s → ¬ atI opsAll s < 12 ∧ ¬ atI opsAll s < 18 ∧ ¬ atI opsAll s = 18) := by decide +kernel
theorem ops_back1 : ∀ s ∈ opsAll, (atI opsAll s < 12 → 0 ≤ atI twosL s) ∧ (¬ atI opsAll s < 12 → atI opsAll s < 18 → ¬ 0 ≤ atI twosL s ∧ 0 ≤ atI onesL s ∧ ¬ s = reti) := by decide +kernel
theorem ops_back2 : ∀ s ∈ opsAll, (atI opsAll s = 18 → s = reti) ∧ (¬ atI opsAll s < 18 → ¬ atI opsAll s = 18 → ¬ 0 ≤ atI twosL s ∧ ¬ 0 ≤ atI onesL s ∧ ¬ s = reti) := by decide +kernel
theorem ops_back (s : ByteArray) (h : s ∈ opsAll) : (atI opsAll s < 12 → 0 ≤ atI twosL s) ∧ (¬ atI opsAll s < 12 → atI opsAll s < 18 → ¬ 0 ≤ atI twosL s ∧ 0 ≤ atI onesL s ∧ ¬ s = reti) ∧ (¬ atI opsAll s < 12 → ¬ atI opsAll s < 18 → atI opsAll s = 18 → s = reti) ∧ (¬ atI opsAll s < 12 → ¬ atI opsAll s < 18 → ¬ atI opsAll s = 18 → ¬ 0 ≤ atI twosL s ∧ ¬ 0 ≤ atI onesL s ∧ ¬ s = reti) :=
  ⟨(ops_back1 s h).1, (ops_back1 s h).2, fun _ _ => (ops_back2 s h).1, fun _ => (ops_back2 s h).2⟩
theorem jumpR_nil : jumpR ⟨#[]⟩ = none := by decide
theorem noBlank_no {u : ByteArray} (h : freeOf 32 u) : noBlank u = u := by
  unfold noBlank
  rw [if_neg]
  intro e
  have : (32 : UInt8) ∈ u.data.toList := by
    cases hu : u.data.toList with
    | nil => rw [hu] at e; cases e
    | cons c L => rw [hu] at e; cases e; exact List.mem_cons_self ..
  exact h _ this rfl
theorem noBlank_yes (u : ByteArray) : noBlank (⟨#[32]⟩ ++ u) = u := by
  unfold noBlank
  rw [if_pos (by rw [app_list]; rfl), tail_one]
theorem noBlank_is (u : ByteArray) : noBlank u = u ∨ u = ⟨#[32]⟩ ++ noBlank u := by
  unfold noBlank
  split
  · rename_i h
    right
    have h1 : 1 ≤ u.size := by
      rcases Nat.eq_zero_or_pos u.size with h0 | h0
      · rw [List.eq_nil_of_length_eq_zero (by rw [size_list]; exact h0 : u.data.toList.length = 0)] at h; cases h
      · exact h0
    exact cons_head u h1 32 (by unfold headB; rw [List.headD_eq_head?_getD, h]; rfl)
  · exact .inl rfl
theorem jumpR_of {c : UInt8} {q : ByteArray} {n : Int} (hc : c.toNat = 43 ∨ c.toNat = 45) (hq : numW q = some n) (hm : n % 2 = 0) : jumpR (⟨#[36]⟩ ++ (⟨#[c]⟩ ++ q)) = some ((sgn c * n - 2).tdiv 2) := by
  have hl : ((⟨#[36]⟩ : ByteArray) ++ (⟨#[c]⟩ ++ q)).data.toList = 36 :: c :: q.data.toList := by rw [app_list, app_list]; rfl
  have hw := numW_wordy hq
  have hs : ((⟨#[36]⟩ : ByteArray) ++ (⟨#[c]⟩ ++ q)).size = q.size + 2 := by rw [← size_list, hl]; simp
  have hx : ((⟨#[36]⟩ : ByteArray) ++ (⟨#[c]⟩ ++ q)).extract 2 ((⟨#[36]⟩ : ByteArray) ++ (⟨#[c]⟩ ++ q)).size = q := by
    apply ba_list
    rw [drop_list, hl]
    rfl
  generalize ((⟨#[36]⟩ : ByteArray) ++ (⟨#[c]⟩ ++ q)) = u at *
  have h3 : 3 ≤ u.size := by have := hw.1; omega
  have e0 : u[0]'(by omega) = 36 := by
    have e : u.data.toList[0]'(by rw [hl]; simp) = u[0]'(by omega) := rfl
    rw [← e]; simp only [hl]; rfl
  have e1 : u[1]'(by omega) = c := by
    have e : u.data.toList[1]'(by rw [hl]; simp) = u[1]'(by omega) := rfl
    rw [← e]; simp only [hl]; rfl
  unfold jumpR
  rw [dif_pos h3, e0, e1, if_pos ⟨rfl, hc⟩, hx, hq]
  dsimp only
  rw [if_pos hm, signed_mul]
theorem jumpR_is {u : ByteArray} {j : Int} (h : jumpR u = some j) : ∃ c q n, (c.toNat = 43 ∨ c.toNat = 45) ∧ numW q = some n ∧ n % 2 = 0 ∧ u = ⟨#[36]⟩ ++ (⟨#[c]⟩ ++ q) ∧ j = (sgn c * n - 2).tdiv 2 := by
  unfold jumpR at h
  split at h
  · rename_i h3
    split at h
    · rename_i hc
      split at h
      · rename_i n hn
        split at h
        · rename_i hm
          cases h
          refine ⟨u[1], u.extract 2 u.size, n, hc.2, hn, hm, ?_, by rw [signed_mul]⟩
          apply ba_list
          have hl0 : u[0] = 36 := UInt8.toNat_inj.1 hc.1
          rw [app_list, app_list, drop_list]
          have d0 := drop_at u 0 (by omega)
          have d1 := drop_at u 1 (by omega)
          rw [List.drop_zero] at d0
          rw [d0, d1, hl0]
          rfl
        · cases h
      · cases h
    · cases h
  · cases h
/- The specification takes what is written so. -/
theorem gram_read {P : List ByteArray} {i : Ins} (h : InsG P i) : ∃ s d, readR (catL P) = some (i, s, d) ∧ namedR s = false ∧ namedR d = false := by
  obtain ⟨B, p, b, Q, hB, hA, rfl⟩ := h
  obtain ⟨k0, k1, k2, k3, k4⟩ := ops_class p hB.1
  have hfree := op_free hB
  rw [catL_append]
  have blank : ∀ R : ByteArray, opPart (catL B ++ (⟨#[32]⟩ ++ R)) = (p, b) ∧ restP (catL B ++ (⟨#[32]⟩ ++ R)) = R ∧ ¬ idxI 32 (catL B ++ (⟨#[32]⟩ ++ R)) = (catL B ++ (⟨#[32]⟩ ++ R)).size := fun R => by
    have hi := idxI_app hfree 32 rfl R
    have hsz := tri_size (catL B) R 32
    refine ⟨opPart_of hB rfl hi, ?_, by omega⟩
    unfold restP
    rw [hi, if_pos (by omega), tri_right]
  rcases hA with ⟨h2, S, D, K, x, y, gS, gD, hK, rfl, rfl⟩ | ⟨h2, h3, hr, S, x, gS, rfl, rfl⟩ | ⟨hr, rfl, rfl⟩ | ⟨h2, h3, hr, c, q, n, hc, hq, hm, rfl, rfl⟩
  · have e : catL (⟨#[32]⟩ :: (S ++ ⟨#[44]⟩ :: (K ++ D))) = ⟨#[32]⟩ ++ (catL S ++ (⟨#[44]⟩ ++ catL (K ++ D))) := by
      show ⟨#[32]⟩ ++ catL (S ++ ⟨#[44]⟩ :: (K ++ D)) = _
      rw [catL_append]
      rfl
    rw [e]
    obtain ⟨b1, b2, b3⟩ := blank (catL S ++ (⟨#[44]⟩ ++ catL (K ++ D)))
    obtain ⟨v, hv, nv⟩ := gram_spec gS
    obtain ⟨v2, hv2, nv2⟩ := gram_spec gD
    refine ⟨v, v2, ?_, nv, nv2⟩
    have hsp : splitR (catL S ++ (⟨#[44]⟩ ++ catL (K ++ D))) = (catL S, catL D, true) := by
      have hi := idxI_app (oper_free gS 44 (by decide) (by decide)) 44 rfl (catL (K ++ D))
      have hsz := tri_size (catL S) (catL (K ++ D)) 44
      have hb : noBlank (catL (K ++ D)) = catL D := by
        rcases hK with rfl | rfl
        · exact noBlank_no (oper_free gD 32 (by decide) (by decide))
        · exact noBlank_yes (catL D)
      unfold splitR
      rw [hi, if_pos (by omega), tri_left, tri_right, hb]
    unfold readR
    rw [b1, b2]
    unfold readO
    rw [if_neg (show ¬ atI opsAll p < 0 by omega), if_pos (k1 h2), hsp]
    show twoM p b (opndR (catL S)) (opndR (catL D)) true = _
    rw [hv, hv2]
    rfl
  · have e : catL (⟨#[32]⟩ :: S) = ⟨#[32]⟩ ++ catL S := rfl
    rw [e]
    obtain ⟨b1, b2, b3⟩ := blank (catL S)
    obtain ⟨v, hv, nv⟩ := gram_spec gS
    refine ⟨v, ⟨#[]⟩, ?_, nv, named_nil⟩
    obtain ⟨m1, m2⟩ := k2 h2 h3 hr
    unfold readR
    rw [b1, b2]
    unfold readO
    rw [if_neg (show ¬ atI opsAll p < 0 by omega), if_neg m1, if_pos m2, hv]
    rfl
  · refine ⟨⟨#[]⟩, ⟨#[]⟩, ?_, named_nil, named_nil⟩
    have e : catL B ++ catL [] = catL B := by show catL B ++ ByteArray.empty = _; rw [ByteArray.append_empty]
    have hi := idxI_none hfree
    have b1 := opPart_of hB (u := catL B) (R := ⟨#[]⟩) (by show _ = catL B ++ ByteArray.empty; rw [ByteArray.append_empty]) hi
    obtain ⟨m1, m2⟩ := k3 hr
    rw [e]
    unfold readR
    rw [b1]
    unfold readO
    rw [if_neg (show ¬ atI opsAll p < 0 by omega), if_neg m1, if_neg (show ¬ atI opsAll p < 18 by omega), if_pos m2, decide_eq_true hi]
    rfl
  · have e : catL [⟨#[32]⟩, ⟨#[36]⟩, ⟨#[c]⟩, q] = ⟨#[32]⟩ ++ (⟨#[36]⟩ ++ (⟨#[c]⟩ ++ q)) := catL_four ..
    rw [e]
    obtain ⟨b1, b2, b3⟩ := blank (⟨#[36]⟩ ++ (⟨#[c]⟩ ++ q))
    refine ⟨⟨#[]⟩, ⟨#[]⟩, ?_, named_nil, named_nil⟩
    obtain ⟨m1, m2, m3⟩ := k4 h2 h3
    unfold readR
    rw [b1, b2]
    unfold readO
    rw [if_neg (show ¬ atI opsAll p < 0 by omega), if_neg m1, if_neg m2, if_neg m3, jumpR_of hc hq hm]
    rfl
theorem opPart_gram (u : ByteArray) (h : (opPart u).1 ∈ opsAll) : ∃ B, OpNG B (opPart u).1 (opPart u).2 ∧ u.extract 0 (idxI 32 u) = catL B := by
  unfold opPart at h ⊢
  split
  · rename_i hc
    rw [if_pos hc] at h
    refine ⟨_, ⟨h, rfl⟩, ?_⟩
    have e := ext_app u (idxI 32 u - 2) (idxI 32 u) (by omega)
    rw [hc.2] at e
    have e2 : catL (if true = true then [u.extract 0 (idxI 32 u - 2), ⟨#[46]⟩, ⟨#[98]⟩] else [u.extract 0 (idxI 32 u - 2)]) = catL [u.extract 0 (idxI 32 u - 2), ⟨#[46]⟩, ⟨#[98]⟩] := rfl
    show _ = catL (if true = true then [u.extract 0 (idxI 32 u - 2), ⟨#[46]⟩, ⟨#[98]⟩] else [u.extract 0 (idxI 32 u - 2)])
    rw [e2, catL_three, ← e]
    rfl
  · rename_i hc
    rw [if_neg hc] at h
    exact ⟨_, ⟨h, rfl⟩, (catL_one _).symm⟩
/- What the specification takes is written so. -/
theorem read_gram {u s d : ByteArray} {i : Ins} (h : readR u = some (i, s, d)) (hs : namedR s = false) (hd : namedR d = false) : ∃ P, u = catL P ∧ InsG P i := by
  unfold readR at h
  have h0 : ¬ atI opsAll (opPart u).1 < 0 := by
    intro k
    unfold readO at h
    rw [if_pos k] at h
    cases h
  have hin : (opPart u).1 ∈ opsAll := atI_mem (by omega)
  obtain ⟨B, hB, eB⟩ := opPart_gram u hin
  obtain ⟨k1, k2, k3, k4⟩ := ops_back _ hin
  generalize (opPart u).1 = p at *
  generalize (opPart u).2 = b at *
  unfold readO at h
  rw [if_neg h0] at h
  have hne : opndR ⟨#[]⟩ = none := by unfold opndR; rw [if_pos rfl]
  have whole : ¬ idxI 32 u < u.size → restP u = ⟨#[]⟩ ∧ u = catL B := fun hn => by
    have hi : idxI 32 u = u.size := by have := idx_le 32 u; omega
    refine ⟨by unfold restP; rw [if_neg hn], ?_⟩
    rw [hi] at eB
    rw [← eB]
    apply ba_list
    rw [take_list, List.take_of_length_le (by rw [size_list]; exact Nat.le_refl _)]
  have part : idxI 32 u < u.size → u = catL B ++ (⟨#[32]⟩ ++ restP u) := fun hn => by
    obtain ⟨c, hc, e⟩ := idxI_lt hn
    have hc' : c = 32 := UInt8.toNat_inj.1 hc
    subst hc'
    unfold restP
    rw [if_pos hn, ← eB]
    exact e
  generalize restP u = R at *
  split at h
  · rename_i h12
    unfold twoM at h
    split at h
    · rename_i x y hx hy ht
      obtain ⟨x, v⟩ := x
      obtain ⟨y, v2⟩ := y
      cases h
      by_cases hn : idxI 32 u < u.size
      · unfold splitR at hx hy ht
        split at hx
        · rename_i h44
          rw [if_pos h44] at hy
          obtain ⟨c, hc, e⟩ := idxI_lt h44
          have hc' : c = 44 := UInt8.toNat_inj.1 hc
          subst hc'
          dsimp only at hx hy
          obtain ⟨S, eS, gS⟩ := spec_gram hx hs
          obtain ⟨D, eD, gD⟩ := spec_gram hy hd
          rw [eS] at e
          rcases noBlank_is (R.extract (idxI 44 R + 1) R.size) with e3 | e3
          · rw [e3] at eD
            refine ⟨B ++ ⟨#[32]⟩ :: (S ++ ⟨#[44]⟩ :: ([] ++ D)), ?_, B, p, b, _, hB, .inl ⟨k1 h12, S, D, [], x, y, gS, gD, .inl rfl, rfl, rfl⟩, rfl⟩
            rw [part hn, catL_append]
            show _ = catL B ++ (⟨#[32]⟩ ++ catL (S ++ ⟨#[44]⟩ :: D))
            rw [catL_append]
            show _ = catL B ++ (⟨#[32]⟩ ++ (catL S ++ (⟨#[44]⟩ ++ catL D)))
            rw [← eD, ← e]
          · rw [eD] at e3
            refine ⟨B ++ ⟨#[32]⟩ :: (S ++ ⟨#[44]⟩ :: ([⟨#[32]⟩] ++ D)), ?_, B, p, b, _, hB, .inl ⟨k1 h12, S, D, [⟨#[32]⟩], x, y, gS, gD, .inr rfl, rfl, rfl⟩, rfl⟩
            rw [part hn, catL_append]
            show _ = catL B ++ (⟨#[32]⟩ ++ catL (S ++ ⟨#[44]⟩ :: ⟨#[32]⟩ :: D))
            rw [catL_append]
            show _ = catL B ++ (⟨#[32]⟩ ++ (catL S ++ (⟨#[44]⟩ ++ (⟨#[32]⟩ ++ catL D))))
            rw [← e3, ← e]
        · rename_i h44
          rw [if_neg h44] at ht
          cases ht
      · obtain ⟨e1, _⟩ := whole hn
        subst e1
        exact absurd ht (by decide)
    · cases h
  split at h
  · rename_i h12 h18
    obtain ⟨m1, m2, m3⟩ := k2 h12 h18
    unfold oneM at h
    split at h
    · rename_i x hx
      obtain ⟨x, v⟩ := x
      cases h
      by_cases hn : idxI 32 u < u.size
      · obtain ⟨S, eS, gS⟩ := spec_gram hx hs
        refine ⟨B ++ ⟨#[32]⟩ :: S, ?_, B, p, b, _, hB, .inr (.inl ⟨m1, m2, m3, S, x, gS, rfl, rfl⟩), rfl⟩
        rw [part hn, catL_append, eS]
        rfl
      · obtain ⟨e1, _⟩ := whole hn
        rw [e1, hne] at hx
        cases hx
    · cases h
  split at h
  · rename_i h12 h18 h8
    split at h
    · rename_i hw
      cases h
      have hi := of_decide_eq_true hw
      obtain ⟨_, e2⟩ := whole (by omega)
      exact ⟨B ++ [], by rw [List.append_nil]; exact e2, B, p, b, [], hB, .inr (.inr (.inl ⟨k3 h12 h18 h8, rfl, rfl⟩)), rfl⟩
    · cases h
  · rename_i h12 h18 h8
    obtain ⟨m1, m2, m3⟩ := k4 h12 h18 h8
    unfold jumpM at h
    split at h
    · rename_i j hj
      cases h
      by_cases hn : idxI 32 u < u.size
      · obtain ⟨c, q, n, hc, hq, hm, e, rfl⟩ := jumpR_is hj
        refine ⟨B ++ [⟨#[32]⟩, ⟨#[36]⟩, ⟨#[c]⟩, q], ?_, B, p, b, _, hB, .inr (.inr (.inr ⟨m1, m2, m3, c, q, n, hc, hq, hm, rfl, rfl⟩)), rfl⟩
        rw [part hn, catL_append, catL_four, e]
      · obtain ⟨e1, _⟩ := whole hn
        rw [e1, jumpR_nil] at hj
        cases hj
    · cases h
end Go.Proofs.YtodjccipfonaiaaGreatDoor
namespace Go.Proofs.YtodjccipfonaiaaGreatDoor
open Go.RowKit
set_option linter.unusedVariables false

theorem cells3h {W : World} {B : Nat} {t : TypeId} {fr : Nat × Nat} {v0 v1 v2 : Value} (h : W.heap[B]? = some (.cells #[v0, v1, v2] t fr)) : W.cell? ⟨B, 0, none⟩ = some v0 ∧ W.cell? ⟨B, 1, none⟩ = some v1 ∧ W.cell? ⟨B, 2, none⟩ = some v2 := by
  refine ⟨?_, ?_, ?_⟩ <;> simp [World.cell?, h]
theorem set_three {W : World} {g : Nat} {z0 z1 z2 a b c : Value} {t : TypeId} (h : W.heap[g]? = some (.cells #[z0, z1, z2] t (0, 0))) : (((W.setCell ⟨g, 0, none⟩ a).setCell ⟨g, 1, none⟩ b).setCell ⟨g, 2, none⟩ c).heap[g]? = some (.cells #[a, b, c] t (0, 0)) :=
  heap_set (heap_set (heap_set h 0 a) 1 b) 2 c
def outW (s : ByteArray) : Array Value := if 8000 < s.size then #[.string ⟨#[]⟩, .int .i64 0, .int .i64 2] else match wordR s with | some p => #[.string p.1, .int .i64 p.2, .int .i64 0] | none => #[.string ⟨#[]⟩, .int .i64 0, .int .i64 3]
theorem ret_aggW {A B : Array Value} (h : A = B) : Ending.returned (.agg A) = .returned (.agg B) := by rw [h]
set_option maxRecDepth 100000 in
set_option maxHeartbeats 1600000 in
theorem specWordRead_any (s : ByteArray) (w : World) (hs : s.size ≤ maxLen) : Calls Tryz.prog 17 #[.string s] w fun e w' => e = .returned (.agg (outW s)) ∧ Below w.heap.size w w' := by
  have HM : Hid (s.size ≤ maxLen) := hs
  unfold maxLen at hs
  by_cases h8 : 8000 < s.size
  · have h8' : (8000 : Int) < (s.size : Int) := by omega
    have HO : Hid (outW s = #[.string ⟨#[]⟩, .int .i64 0, .int .i64 2]) := by show _ = _; unfold outW; rw [if_pos h8]
    go_enter Tryz.func17, Tryz.ntmps17
    go_wp2
    exact bodyPost_ret (results_cell_row Tryz.results17 _ _ w.heap.size 39 _ (0, 0) _ rfl (heap_alloc_new _ _) Tryz.underlying39 rfl (by kernel_rfl)) rfl ⟨ret_aggW HO.out.symm, below_new _ _⟩
  · have h8' : ¬ (8000 : Int) < (s.size : Int) := by omega
    go_enter Tryz.func17, Tryz.ntmps17
    go_wp2_with fail
    refine (l03Word_any s _ HM.out).mono ?_
    rintro e x1 ⟨nm, n, ok, rfl, hR, hb⟩
    have HR1 : Hid (_ = _) := heap_keep (heap_alloc_new w _) hb
    have HB1 : Hid (Below w.heap.size w x1) := below_call (below_new _ _) hb
    have HW : Hid (_ = _) := hR
    clear hR hb
    have hz1 := heap_lt HR1.out
    have hne : w.heap.size ≠ x1.heap.size := Nat.ne_of_lt hz1
    obtain ⟨r0, r1, r2⟩ := cells3h HR1.out
    have y0 := frozen_of_row _ _ 0 _ _ HR1.out
    have y1 := frozen_of_row _ _ 1 _ _ HR1.out
    have y2 := frozen_of_row _ _ 2 _ _ HR1.out
    cases ok
    · have HO : Hid (outW s = #[.string ⟨#[]⟩, .int .i64 0, .int .i64 3]) := by show _ = _; unfold outW; rw [if_neg h8, HW.out]; rfl
      go_wp2
      exact bodyPost_ret (results_cell_row Tryz.results17 _ _ w.heap.size 39 _ (0, 0) _ rfl (heap_more (set_three HR1.out) _) Tryz.underlying39 rfl (by kernel_rfl)) rfl ⟨ret_aggW HO.out.symm, below_more (((HB1.out.setCell (Nat.le_refl _) _).setCell (Nat.le_refl _) _).setCell (Nat.le_refl _) _) _⟩
    · have HO : Hid (outW s = #[.string nm, .int .i64 n, .int .i64 0]) := by show _ = _; unfold outW; rw [if_neg h8, HW.out]; rfl
      go_wp2
      exact bodyPost_ret (results_cell_row Tryz.results17 _ _ w.heap.size 39 _ (0, 0) _ rfl (heap_more (set_three HR1.out) _) Tryz.underlying39 rfl (by kernel_rfl)) rfl ⟨ret_aggW HO.out.symm, below_more (((HB1.out.setCell (Nat.le_refl _) _).setCell (Nat.le_refl _) _).setCell (Nat.le_refl _) _) _⟩
end Go.Proofs.YtodjccipfonaiaaGreatDoor
namespace Go.Proofs.YtodjccipfonaiaaGreatDoor
open Go.RowKit
set_option linter.unusedVariables false

theorem runP_len (s : ByteArray) : ∀ (f p : Nat) (st : PSt), (runP s f p st).acc.length ≤ st.acc.length + f
  | 0, p, st => Nat.le_refl _
  | f + 1, p, st => by
    show (if p < s.size then runP s f (p + (Utf8.decode s p).2) (stepP s st p) else st).acc.length ≤ _
    split
    · have h := runP_len s f (p + (Utf8.decode s p).2) (stepP s st p)
      have h2 : (stepP s st p).acc.length ≤ st.acc.length + 1 := by
        unfold stepP
        split
        · show (st.acc ++ [_]).length ≤ _; simp
        · show st.acc.length ≤ _; omega
      omega
    · omega
theorem pieces_len (s : ByteArray) : (piecesL s).length ≤ s.size + 1 := by
  unfold piecesL
  split
  · simp
  · have h := runP_len s s.size 0 ⟨0, false, []⟩
    have h0 : (PSt.mk 0 false []).acc.length = 0 := rfl
    rw [List.length_append]
    have h1 : [s.extract (runP s s.size 0 ⟨0, false, []⟩).fr s.size].length = 1 := rfl
    omega
theorem catL_mem : ∀ (L : List ByteArray) (p : ByteArray), p ∈ L → p.size ≤ (catL L).size
  | [], p, h => by simp at h
  | q :: L, p, h => by
    have e : catL (q :: L) = q ++ catL L := rfl
    rw [e, ByteArray.size_append]
    rcases List.mem_cons.1 h with rfl | h
    · omega
    · have := catL_mem L p h; omega
theorem pieces_size (s : ByteArray) : ∀ p ∈ piecesL s, p.size ≤ s.size := fun p hp => by
  have h := catL_mem _ p hp
  rw [pieces_cat] at h
  exact h
theorem Rd.make {x : World} {B : Nat} {v : Value} {L : List ByteArray} (h : OwnS x B v L) (hl : L.length ≤ 9000) (ht : ∀ p ∈ L, p.size ≤ 8000) (h0 : 0 < x.heap.size) : ∃ g a cap, v = .slice a L.length cap ∧ Rd (x.alloc (.cells #[v] 62)) x.heap.size g a cap L := by
  rcases h.form with ⟨rfl, rfl⟩ | ⟨g, cap, cur, rfl, hB, hg, h1, h2, h3, h4⟩
  · exact ⟨0, none, 0, rfl, heap_alloc_new x _, fun h => by simp at h, by simp, by simp, by unfold maxLen; omega, by simp, by simp⟩
  · have hgl := heap_lt hg
    refine ⟨g, some ⟨g, 0, none⟩, cap, rfl, heap_alloc_new x _, fun _ => ⟨0, rfl, by omega, fun i hi => ?_⟩, by simp; omega, h1, h2, hl, ht⟩
    rw [cell_of_row _ _ _ _ _ _ (heap_more hg _), Nat.zero_add]
    exact h4 i hi
theorem outW_yes {s : ByteArray} {nm : ByteArray} {n : Int} (h8 : ¬ 8000 < s.size) (h : wordT (piecesL s) = some ((nm, n), [])) : outW s = #[.string nm, .int .i64 n, .int .i64 0] := by
  unfold outW
  rw [if_neg h8, ← word_eq]
  unfold wordP
  rw [h]
theorem outW_no {s : ByteArray} (h8 : ¬ 8000 < s.size) (h : ∀ x, wordT (piecesL s) ≠ some (x, [])) : outW s = #[.string ⟨#[]⟩, .int .i64 0, .int .i64 3] := by
  unfold outW
  rw [if_neg h8, ← word_eq]
  have e : wordP s = none := by
    unfold wordP
    split
    · rename_i x hx; exact absurd hx (h x)
    · rfl
  rw [e]
set_option maxRecDepth 100000 in
set_option maxHeartbeats 3200000 in
theorem implWordRead_any (s : ByteArray) (w : World) (hs : s.size ≤ maxLen) : Calls Tryz.prog 13 #[.string s] w fun e w' => e = .returned (.agg (outW s)) ∧ Below w.heap.size w w' := by
  unfold maxLen at hs
  by_cases h8 : 8000 < s.size
  · have h8' : (8000 : Int) < (s.size : Int) := by omega
    have HO : Hid (outW s = #[.string ⟨#[]⟩, .int .i64 0, .int .i64 2]) := by show _ = _; unfold outW; rw [if_pos h8]
    go_enter Tryz.func13, Tryz.ntmps13
    go_wp2
    exact bodyPost_ret (results_cell_row Tryz.results13 _ _ w.heap.size 39 _ (0, 0) _ rfl (heap_alloc_new _ _) Tryz.underlying39 rfl (by kernel_rfl)) rfl ⟨ret_aggW HO.out.symm, below_new _ _⟩
  · have h8' : ¬ (8000 : Int) < (s.size : Int) := by omega
    go_enter Tryz.func13, Tryz.ntmps13
    go_wp2_with fail
    refine (piecesOf_any s _ (by omega)).mono ?_
    rintro e x1 ⟨v, rfl, hO, hb⟩
    have HV1 : Hid (x1.heap[w.heap.size]? = _) := heap_keep (heap_alloc_new w _) hb
    have HB1 : Hid (Below w.heap.size w x1) := below_call (below_new _ _) hb
    clear hb
    have hs1 := heap_lt HV1.out
    obtain ⟨g, a, cap, rfl, hR⟩ := Rd.make hO (by have := pieces_len s; omega) (fun p hp => by have := pieces_size s p hp; omega) (by omega)
    have HR : Hid (_) := hR
    clear hR hO
    go_wp2_with fail
    refine (word_any x1.heap.size g cap a (piecesL s) _ HR.out).mono ?_
    rintro e x2 ⟨nm, n, ok, a2, cap2, L2, rfl, hW, hR2, hB2⟩
    have HV2 : Hid (x2.heap[w.heap.size]? = _) := But.keep (heap_more HV1.out _) hB2 (by omega)
    have HB2 : Hid (Below w.heap.size w x2) := But.below (below_more HB1.out _) hB2 (by omega) (by simp; omega)
    have HR2 : Hid (_) := hR2
    have HW : Hid (_ = _) := hW
    clear HR hW hR2 hB2 HV1 HB1
    have hs2 := heap_lt HV2.out
    have hne : w.heap.size ≠ x2.heap.size := Nat.ne_of_lt hs2
    obtain ⟨r0, r1, r2⟩ := cells3h HV2.out
    have y0 := frozen_of_row _ _ 0 _ _ HV2.out
    have y1 := frozen_of_row _ _ 1 _ _ HV2.out
    have y2 := frozen_of_row _ _ 2 _ _ HV2.out
    cases ok
    · have HO : Hid (outW s = #[.string ⟨#[]⟩, .int .i64 0, .int .i64 3]) := outW_no h8 (fun x hx => by rw [HW.out] at hx; cases hx)
      go_wp2
      exact bodyPost_ret (results_cell_row Tryz.results13 _ _ w.heap.size 39 _ (0, 0) _ rfl (heap_more (set_three HV2.out) _) Tryz.underlying39 rfl (by kernel_rfl)) rfl ⟨ret_aggW HO.out.symm, below_more (((HB2.out.setCell (Nat.le_refl _) _).setCell (Nat.le_refl _) _).setCell (Nat.le_refl _) _) _⟩
    · cases L2 with
      | nil =>
        have HO : Hid (outW s = #[.string nm, .int .i64 n, .int .i64 0]) := outW_yes h8 HW.out
        go_wp2_with fail
        refine (atEnd_any x1.heap.size g cap2 a2 [] _ (HR2.out.alloc _)).mono ?_
        rintro e x3 ⟨rfl, hx⟩
        have hx' := hx.symm
        subst hx'
        clear hx
        go_wp2
        exact bodyPost_ret (results_cell_row Tryz.results13 _ _ w.heap.size 39 _ (0, 0) _ rfl (heap_more (set_three HV2.out) _) Tryz.underlying39 rfl (by kernel_rfl)) rfl ⟨ret_aggW HO.out.symm, below_more (((HB2.out.setCell (Nat.le_refl _) _).setCell (Nat.le_refl _) _).setCell (Nat.le_refl _) _) _⟩
      | cons q L2 =>
        have HO : Hid (outW s = #[.string ⟨#[]⟩, .int .i64 0, .int .i64 3]) := outW_no h8 (fun x hx => by rw [HW.out] at hx; cases hx)
        go_wp2_with fail
        refine (atEnd_any x1.heap.size g cap2 a2 (q :: L2) _ (HR2.out.alloc _)).mono ?_
        rintro e x3 ⟨rfl, hx⟩
        have hx' := hx.symm
        subst hx'
        clear hx
        go_wp2
        exact bodyPost_ret (results_cell_row Tryz.results13 _ _ w.heap.size 39 _ (0, 0) _ rfl (heap_more (set_three HV2.out) _) Tryz.underlying39 rfl (by kernel_rfl)) rfl ⟨ret_aggW HO.out.symm, below_more (((HB2.out.setCell (Nat.le_refl _) _).setCell (Nat.le_refl _) _).setCell (Nat.le_refl _) _) _⟩
/- The law's walk: both sides answer alike, and the comparison says so. -/
theorem outW_form (s : ByteArray) : ∃ nm n c, outW s = #[.string nm, .int .i64 n, .int .i64 c] := by
  unfold outW
  split
  · exact ⟨_, _, _, rfl⟩
  · split
    · exact ⟨_, _, _, rfl⟩
    · exact ⟨_, _, _, rfl⟩
end Go.Proofs.YtodjccipfonaiaaGreatDoor
namespace Go.Proofs.YtodjccipfonaiaaGreatDoor
open Go.RowKit
set_option linter.unusedVariables false

set_option maxRecDepth 100000 in
set_option maxHeartbeats 1600000 in
theorem named_any (v0 v1 v2 v3 v4 v5 v6 v7 v8 v9 v10 : Value) (a b c : ByteArray) (k1 k2 k3 : Int) (w : World) : Calls Tryz.prog 36 #[.agg #[v0, v1, v2, v3, v4, v5, v6, v7, v8, v9, v10, .string a, .int .i64 k1, .string b, .int .i64 k2, .string c, .int .i64 k3]] w fun e w' => e = .returned (.bool (!(a.toList.isEmpty && b.toList.isEmpty && c.toList.isEmpty))) ∧ Below w.heap.size w w' := by
  cases h1 : a.toList.isEmpty
  · go_enter Tryz.func36, Tryz.ntmps36
    go_wp2
    go_ret
    exact ⟨ret_bool (by rfl), below_new _ _⟩
  · cases h2 : b.toList.isEmpty
    · go_enter Tryz.func36, Tryz.ntmps36
      go_wp2
      go_ret
      exact ⟨ret_bool (by rfl), below_new _ _⟩
    · cases h3 : c.toList.isEmpty
      · go_enter Tryz.func36, Tryz.ntmps36
        go_wp2
        go_ret
        exact ⟨ret_bool (by rfl), below_new _ _⟩
      · go_enter Tryz.func36, Tryz.ntmps36
        go_wp2
        go_ret
        exact ⟨ret_bool (by rfl), below_new _ _⟩
end Go.Proofs.YtodjccipfonaiaaGreatDoor
namespace Go.Proofs.YtodjccipfonaiaaGreatDoor
open Go.RowKit
set_option linter.unusedVariables false

theorem arr17 {cs : Array Value} (h : cs.size = 17) : ∃ z0 z1 z2 z3 z4 z5 z6 z7 z8 z9 z10 z11 z12 z13 z14 z15 z16, cs = #[z0, z1, z2, z3, z4, z5, z6, z7, z8, z9, z10, z11, z12, z13, z14, z15, z16] := by
  obtain ⟨l⟩ := cs
  match l, h with
  | [z0, z1, z2, z3, z4, z5, z6, z7, z8, z9, z10, z11, z12, z13, z14, z15, z16], _ => exact ⟨_, _, _, _, _, _, _, _, _, _, _, _, _, _, _, _, _, rfl⟩
set_option maxHeartbeats 1600000 in
theorem set_17 {W : World} {g : Nat} {z0 z1 z2 z3 z4 z5 z6 z7 z8 z9 z10 z11 z12 z13 z14 z15 z16 a0 a1 a2 a3 a4 a5 a6 a7 a8 a9 a10 a11 a12 a13 a14 a15 a16 : Value} {t : TypeId} (h : W.heap[g]? = some (.cells #[z0, z1, z2, z3, z4, z5, z6, z7, z8, z9, z10, z11, z12, z13, z14, z15, z16] t (0, 0))) : ((((((((((((((((((W).setCell ⟨g, 0, none⟩ a0).setCell ⟨g, 1, none⟩ a1).setCell ⟨g, 2, none⟩ a2).setCell ⟨g, 3, none⟩ a3).setCell ⟨g, 4, none⟩ a4).setCell ⟨g, 5, none⟩ a5).setCell ⟨g, 6, none⟩ a6).setCell ⟨g, 7, none⟩ a7).setCell ⟨g, 8, none⟩ a8).setCell ⟨g, 9, none⟩ a9).setCell ⟨g, 10, none⟩ a10).setCell ⟨g, 11, none⟩ a11).setCell ⟨g, 12, none⟩ a12).setCell ⟨g, 13, none⟩ a13).setCell ⟨g, 14, none⟩ a14).setCell ⟨g, 15, none⟩ a15).setCell ⟨g, 16, none⟩ a16).heap[g]? = some (.cells #[a0, a1, a2, a3, a4, a5, a6, a7, a8, a9, a10, a11, a12, a13, a14, a15, a16] t (0, 0)) := by
  have k := (heap_set (heap_set (heap_set (heap_set (heap_set (heap_set (heap_set (heap_set (heap_set (heap_set (heap_set (heap_set (heap_set (heap_set (heap_set (heap_set (heap_set h 0 a0) 1 a1) 2 a2) 3 a3) 4 a4) 5 a5) 6 a6) 7 a7) 8 a8) 9 a9) 10 a10) 11 a11) 12 a12) 13 a13) 14 a14) 15 a15) 16 a16)
  simp only [List.setIfInBounds_toArray, List.set_cons_zero, List.set_cons_succ] at k
  exact k
theorem far_17 {W : World} {G g : Nat} {o : Obj} {a0 a1 a2 a3 a4 a5 a6 a7 a8 a9 a10 a11 a12 a13 a14 a15 a16 : Value} (hne : G ≠ g) (h : W.heap[G]? = some o) : ((((((((((((((((((W).setCell ⟨g, 0, none⟩ a0).setCell ⟨g, 1, none⟩ a1).setCell ⟨g, 2, none⟩ a2).setCell ⟨g, 3, none⟩ a3).setCell ⟨g, 4, none⟩ a4).setCell ⟨g, 5, none⟩ a5).setCell ⟨g, 6, none⟩ a6).setCell ⟨g, 7, none⟩ a7).setCell ⟨g, 8, none⟩ a8).setCell ⟨g, 9, none⟩ a9).setCell ⟨g, 10, none⟩ a10).setCell ⟨g, 11, none⟩ a11).setCell ⟨g, 12, none⟩ a12).setCell ⟨g, 13, none⟩ a13).setCell ⟨g, 14, none⟩ a14).setCell ⟨g, 15, none⟩ a15).setCell ⟨g, 16, none⟩ a16).heap[G]? = some o :=
  (set_far (a := ⟨g, 16, none⟩) hne (set_far (a := ⟨g, 15, none⟩) hne (set_far (a := ⟨g, 14, none⟩) hne (set_far (a := ⟨g, 13, none⟩) hne (set_far (a := ⟨g, 12, none⟩) hne (set_far (a := ⟨g, 11, none⟩) hne (set_far (a := ⟨g, 10, none⟩) hne (set_far (a := ⟨g, 9, none⟩) hne (set_far (a := ⟨g, 8, none⟩) hne (set_far (a := ⟨g, 7, none⟩) hne (set_far (a := ⟨g, 6, none⟩) hne (set_far (a := ⟨g, 5, none⟩) hne (set_far (a := ⟨g, 4, none⟩) hne (set_far (a := ⟨g, 3, none⟩) hne (set_far (a := ⟨g, 2, none⟩) hne (set_far (a := ⟨g, 1, none⟩) hne (set_far (a := ⟨g, 0, none⟩) hne h)))))))))))))))))
theorem But.st17 {b : Nat} {x W : World} (h : But b x W) {g : Nat} (hg : x.heap.size ≤ g) (a0 a1 a2 a3 a4 a5 a6 a7 a8 a9 a10 a11 a12 a13 a14 a15 a16 : Value) : But b x ((((((((((((((((((W).setCell ⟨g, 0, none⟩ a0).setCell ⟨g, 1, none⟩ a1).setCell ⟨g, 2, none⟩ a2).setCell ⟨g, 3, none⟩ a3).setCell ⟨g, 4, none⟩ a4).setCell ⟨g, 5, none⟩ a5).setCell ⟨g, 6, none⟩ a6).setCell ⟨g, 7, none⟩ a7).setCell ⟨g, 8, none⟩ a8).setCell ⟨g, 9, none⟩ a9).setCell ⟨g, 10, none⟩ a10).setCell ⟨g, 11, none⟩ a11).setCell ⟨g, 12, none⟩ a12).setCell ⟨g, 13, none⟩ a13).setCell ⟨g, 14, none⟩ a14).setCell ⟨g, 15, none⟩ a15).setCell ⟨g, 16, none⟩ a16) :=
  (But.setN (p := ⟨g, 16, none⟩) (But.setN (p := ⟨g, 15, none⟩) (But.setN (p := ⟨g, 14, none⟩) (But.setN (p := ⟨g, 13, none⟩) (But.setN (p := ⟨g, 12, none⟩) (But.setN (p := ⟨g, 11, none⟩) (But.setN (p := ⟨g, 10, none⟩) (But.setN (p := ⟨g, 9, none⟩) (But.setN (p := ⟨g, 8, none⟩) (But.setN (p := ⟨g, 7, none⟩) (But.setN (p := ⟨g, 6, none⟩) (But.setN (p := ⟨g, 5, none⟩) (But.setN (p := ⟨g, 4, none⟩) (But.setN (p := ⟨g, 3, none⟩) (But.setN (p := ⟨g, 2, none⟩) (But.setN (p := ⟨g, 1, none⟩) (But.setN (p := ⟨g, 0, none⟩) h hg a0) hg a1) hg a2) hg a3) hg a4) hg a5) hg a6) hg a7) hg a8) hg a9) hg a10) hg a11) hg a12) hg a13) hg a14) hg a15) hg a16)
theorem Rd.st17 {W : World} {b e : Nat} {a : Option Addr} {cap : Nat} {L : List ByteArray} (h : Rd W b e a cap L) {g : Nat} (ht : g ≠ b) (hg : e ≠ g) (a0 a1 a2 a3 a4 a5 a6 a7 a8 a9 a10 a11 a12 a13 a14 a15 a16 : Value) : Rd ((((((((((((((((((W).setCell ⟨g, 0, none⟩ a0).setCell ⟨g, 1, none⟩ a1).setCell ⟨g, 2, none⟩ a2).setCell ⟨g, 3, none⟩ a3).setCell ⟨g, 4, none⟩ a4).setCell ⟨g, 5, none⟩ a5).setCell ⟨g, 6, none⟩ a6).setCell ⟨g, 7, none⟩ a7).setCell ⟨g, 8, none⟩ a8).setCell ⟨g, 9, none⟩ a9).setCell ⟨g, 10, none⟩ a10).setCell ⟨g, 11, none⟩ a11).setCell ⟨g, 12, none⟩ a12).setCell ⟨g, 13, none⟩ a13).setCell ⟨g, 14, none⟩ a14).setCell ⟨g, 15, none⟩ a15).setCell ⟨g, 16, none⟩ a16) b e a cap L :=
  (Rd.setN (p := ⟨g, 16, none⟩) ht hg (Rd.setN (p := ⟨g, 15, none⟩) ht hg (Rd.setN (p := ⟨g, 14, none⟩) ht hg (Rd.setN (p := ⟨g, 13, none⟩) ht hg (Rd.setN (p := ⟨g, 12, none⟩) ht hg (Rd.setN (p := ⟨g, 11, none⟩) ht hg (Rd.setN (p := ⟨g, 10, none⟩) ht hg (Rd.setN (p := ⟨g, 9, none⟩) ht hg (Rd.setN (p := ⟨g, 8, none⟩) ht hg (Rd.setN (p := ⟨g, 7, none⟩) ht hg (Rd.setN (p := ⟨g, 6, none⟩) ht hg (Rd.setN (p := ⟨g, 5, none⟩) ht hg (Rd.setN (p := ⟨g, 4, none⟩) ht hg (Rd.setN (p := ⟨g, 3, none⟩) ht hg (Rd.setN (p := ⟨g, 2, none⟩) ht hg (Rd.setN (p := ⟨g, 1, none⟩) ht hg (Rd.setN (p := ⟨g, 0, none⟩) ht hg h)))))))))))))))))
theorem cells17 {W : World} {B : Nat} {z0 z1 z2 z3 z4 z5 z6 z7 z8 z9 z10 z11 z12 z13 z14 z15 z16 : Value} {t : TypeId} {fr : Nat × Nat} (h : W.heap[B]? = some (.cells #[z0, z1, z2, z3, z4, z5, z6, z7, z8, z9, z10, z11, z12, z13, z14, z15, z16] t fr)) : W.cell? ⟨B, 0, none⟩ = some z0 ∧ W.cell? ⟨B, 1, none⟩ = some z1 ∧ W.cell? ⟨B, 2, none⟩ = some z2 ∧ W.cell? ⟨B, 3, none⟩ = some z3 ∧ W.cell? ⟨B, 4, none⟩ = some z4 ∧ W.cell? ⟨B, 5, none⟩ = some z5 ∧ W.cell? ⟨B, 6, none⟩ = some z6 ∧ W.cell? ⟨B, 7, none⟩ = some z7 ∧ W.cell? ⟨B, 8, none⟩ = some z8 ∧ W.cell? ⟨B, 9, none⟩ = some z9 ∧ W.cell? ⟨B, 10, none⟩ = some z10 ∧ W.cell? ⟨B, 11, none⟩ = some z11 ∧ W.cell? ⟨B, 12, none⟩ = some z12 ∧ W.cell? ⟨B, 13, none⟩ = some z13 ∧ W.cell? ⟨B, 14, none⟩ = some z14 ∧ W.cell? ⟨B, 15, none⟩ = some z15 ∧ W.cell? ⟨B, 16, none⟩ = some z16 :=
  ⟨cell_of_row W B 0 _ t fr h, cell_of_row W B 1 _ t fr h, cell_of_row W B 2 _ t fr h, cell_of_row W B 3 _ t fr h, cell_of_row W B 4 _ t fr h, cell_of_row W B 5 _ t fr h, cell_of_row W B 6 _ t fr h, cell_of_row W B 7 _ t fr h, cell_of_row W B 8 _ t fr h, cell_of_row W B 9 _ t fr h, cell_of_row W B 10 _ t fr h, cell_of_row W B 11 _ t fr h, cell_of_row W B 12 _ t fr h, cell_of_row W B 13 _ t fr h, cell_of_row W B 14 _ t fr h, cell_of_row W B 15 _ t fr h, cell_of_row W B 16 _ t fr h⟩
theorem frz17 {W : World} {B : Nat} {cs : Array Value} {t : TypeId} (h : W.heap[B]? = some (.cells cs t (0, 0))) : W.frozen? ⟨B, 0, none⟩ = false ∧ W.frozen? ⟨B, 1, none⟩ = false ∧ W.frozen? ⟨B, 2, none⟩ = false ∧ W.frozen? ⟨B, 3, none⟩ = false ∧ W.frozen? ⟨B, 4, none⟩ = false ∧ W.frozen? ⟨B, 5, none⟩ = false ∧ W.frozen? ⟨B, 6, none⟩ = false ∧ W.frozen? ⟨B, 7, none⟩ = false ∧ W.frozen? ⟨B, 8, none⟩ = false ∧ W.frozen? ⟨B, 9, none⟩ = false ∧ W.frozen? ⟨B, 10, none⟩ = false ∧ W.frozen? ⟨B, 11, none⟩ = false ∧ W.frozen? ⟨B, 12, none⟩ = false ∧ W.frozen? ⟨B, 13, none⟩ = false ∧ W.frozen? ⟨B, 14, none⟩ = false ∧ W.frozen? ⟨B, 15, none⟩ = false ∧ W.frozen? ⟨B, 16, none⟩ = false :=
  ⟨frozen_of_row _ _ 0 _ _ h, frozen_of_row _ _ 1 _ _ h, frozen_of_row _ _ 2 _ _ h, frozen_of_row _ _ 3 _ _ h, frozen_of_row _ _ 4 _ _ h, frozen_of_row _ _ 5 _ _ h, frozen_of_row _ _ 6 _ _ h, frozen_of_row _ _ 7 _ _ h, frozen_of_row _ _ 8 _ _ h, frozen_of_row _ _ 9 _ _ h, frozen_of_row _ _ 10 _ _ h, frozen_of_row _ _ 11 _ _ h, frozen_of_row _ _ 12 _ _ h, frozen_of_row _ _ 13 _ _ h, frozen_of_row _ _ 14 _ _ h, frozen_of_row _ _ 15 _ _ h, frozen_of_row _ _ 16 _ _ h⟩
theorem But2.asBut {b t : Nat} {w x y : World} (h : But b w x) (h2 : But2 b t x y) (ht : w.heap.size ≤ t) : But b w y :=
  ⟨h2.os.trans h.os, h2.tape.trans h.tape, h2.output.trans h.output, Nat.le_trans h.size h2.size, fun k hk hb => (h2.block k (Nat.lt_of_lt_of_le hk h.size) hb (by omega)).trans (h.block k hk hb)⟩
abbrev w17 (i : Ins) (s : ByteArray) (k1 : Int) (d : ByteArray) (k2 : Int) (j : ByteArray) (k3 : Int) : Array Value := #[.string i.op, .bool i.b, .int .i64 i.m, .int .i64 i.r, .int .i64 i.n, .bool i.l, .int .i64 i.m2, .int .i64 i.r2, .int .i64 i.n2, .bool i.l2, .int .i64 i.j, .string s, .int .i64 k1, .string d, .int .i64 k2, .string j, .int .i64 k3]
theorem putSD_z (p : ByteArray) (bl : Bool) (m r n : Int) (l : Bool) (nm : ByteArray) (k m2 r2 n2 : Int) (l2 : Bool) (nm2 : ByteArray) (k2 : Int) : putSD (((m, r, n, l), nm, k), ((m2, r2, n2, l2), nm2, k2)) (z17 p bl) = w17 (insOf p bl (m, r, n, l) (m2, r2, n2, l2) 0) nm k nm2 k2 ⟨#[]⟩ 0 := by
  unfold putSD putD putS setW setO z17 w17 insOf
  simp only [List.setIfInBounds_toArray, List.set_cons_zero, List.set_cons_succ]
theorem putS_z (p : ByteArray) (bl : Bool) (m r n : Int) (l : Bool) (nm : ByteArray) (k : Int) : putS ((m, r, n, l), nm, k) (z17 p bl) = w17 (insOf p bl (m, r, n, l) noO 0) nm k ⟨#[]⟩ 0 ⟨#[]⟩ 0 := by
  unfold putS setW setO z17 w17 insOf noO
  simp only [List.setIfInBounds_toArray, List.set_cons_zero, List.set_cons_succ]
theorem putJ_l (p : ByteArray) (bl : Bool) (j : Int) : putJ (.inl j) (z17 p bl) = w17 (insOf p bl noO noO j) ⟨#[]⟩ 0 ⟨#[]⟩ 0 ⟨#[]⟩ 0 := by
  unfold putJ z17 w17 insOf noO
  simp only [List.setIfInBounds_toArray, List.set_cons_zero, List.set_cons_succ]
theorem putJ_r (p : ByteArray) (bl : Bool) (x : ByteArray × Int) : putJ (.inr x) (z17 p bl) = w17 (insOf p bl noO noO 0) ⟨#[]⟩ 0 ⟨#[]⟩ 0 x.1 x.2 := by
  unfold putJ setW z17 w17 insOf noO
  simp only [List.setIfInBounds_toArray, List.set_cons_zero, List.set_cons_succ]
theorem z17_size (p : ByteArray) (bl : Bool) : (z17 p bl).size = 17 := rfl
theorem z17_fit (p : ByteArray) (bl : Bool) : Fit (z17 p bl) := ⟨_, _, _, _, _, _, _, _, _, _, _, _, _, _, _, _, _, rfl⟩
def ArgOut (p : ByteArray) (bl : Bool) (b g t : Nat) (w : World) (L : List ByteArray) (e : Ending) (w' : World) : Prop :=
  ∃ cs ok a' cap' L', e = .returned (.bool ok) ∧ Fit cs ∧ Rd w' b g a' cap' L' ∧ w'.heap[t]? = some (.cells cs 64 (0, 0)) ∧ But2 b t w w' ∧ ((ok = false ∧ argT p bl L = none) ∨ (ok = true ∧ ∃ i s k1 d k2 j k3, argT p bl L = some ((i, s, d, j), L') ∧ cs = w17 i s k1 d k2 j k3))
theorem args_any (p : ByteArray) (bl : Bool) (w0 : World) (b g cap t : Nat) (a : Option Addr) (L : List ByteArray) (w : World) (hR : Rd w b g a cap L) (hP : Pow w0) (hF : Far w0 w b) (hT : w.heap[t]? = some (.cells (z17 p bl) 64 (0, 0))) (htb : t ≠ b) (hgt : g ≠ t) : Calls Tryz.prog 77 #[.pointer (some ⟨b, 0, none⟩), .int .i64 (kindI p), .pointer (some ⟨t, 0, none⟩)] w (ArgOut p bl b g t w L) := by
  unfold kindI
  by_cases h2 : 0 ≤ atI twosL p
  · rw [if_pos h2]
    refine (operands_two w0 b g cap t a L w _ hR hP hF hT (z17_size p bl) htb hgt).mono ?_
    rintro e w' ⟨cs, ok, a', cap', L', rfl, hs, hR', hT', hB, hc⟩
    refine ⟨cs, ok, a', cap', L', rfl, hs.2 (z17_fit p bl), hR', hT', hB, ?_⟩
    rcases hc with ⟨rfl, h⟩ | ⟨rfl, y, h, hcs⟩
    · exact .inl ⟨rfl, by unfold argT; rw [if_pos h2, h]; rfl⟩
    · obtain ⟨⟨⟨m, r, n, l⟩, nm, k⟩, ⟨⟨m2, r2, n2, l2⟩, nm2, k2⟩⟩ := y
      exact .inr ⟨rfl, _, nm, k, nm2, k2, ⟨#[]⟩, 0, by unfold argT; rw [if_pos h2, h]; rfl, hcs.trans (putSD_z ..)⟩
  rw [if_neg h2]
  by_cases h3 : 0 ≤ atI onesL p
  · rw [if_pos h3]
    refine (operands_one w0 b g cap t a L w _ hR hP hF hT (z17_size p bl) htb hgt).mono ?_
    rintro e w' ⟨cs, ok, a', cap', L', rfl, hs, hR', hT', hB, hc⟩
    refine ⟨cs, ok, a', cap', L', rfl, hs.2 (z17_fit p bl), hR', hT', hB, ?_⟩
    rcases hc with ⟨rfl, h⟩ | ⟨rfl, y, h, hcs⟩
    · exact .inl ⟨rfl, by unfold argT; rw [if_neg h2, if_pos h3, h]; rfl⟩
    · obtain ⟨⟨m, r, n, l⟩, nm, k⟩ := y
      exact .inr ⟨rfl, _, nm, k, ⟨#[]⟩, 0, ⟨#[]⟩, 0, by unfold argT; rw [if_neg h2, if_pos h3, h]; rfl, hcs.trans (putS_z ..)⟩
  · rw [if_neg h3]
    refine (operands_jump w0 b g cap t a L w _ hR hP hF hT (z17_size p bl) htb hgt).mono ?_
    rintro e w' ⟨cs, ok, a', cap', L', rfl, hs, hR', hT', hB, hc⟩
    refine ⟨cs, ok, a', cap', L', rfl, hs.2 (z17_fit p bl), hR', hT', hB, ?_⟩
    rcases hc with ⟨rfl, h⟩ | ⟨rfl, y, h, hcs⟩
    · exact .inl ⟨rfl, by unfold argT; rw [if_neg h2, if_neg h3, h]; rfl⟩
    · cases y with
      | inl j => exact .inr ⟨rfl, _, ⟨#[]⟩, 0, ⟨#[]⟩, 0, ⟨#[]⟩, 0, by unfold argT; rw [if_neg h2, if_neg h3, h]; rfl, hcs.trans (putJ_l ..)⟩
      | inr x => exact .inr ⟨rfl, _, ⟨#[]⟩, 0, ⟨#[]⟩, 0, x.1, x.2, by unfold argT; rw [if_neg h2, if_neg h3, h]; rfl, hcs.trans (putJ_r ..)⟩
def InsnPOut (b g : Nat) (w : World) (L : List ByteArray) (e : Ending) (w' : World) : Prop :=
  ∃ cs ok a' cap' L', e = .returned (.tuple #[.agg cs, .bool ok]) ∧ Fit cs ∧ Rd w' b g a' cap' L' ∧ But b w w' ∧ ((ok = false ∧ (insnT L = none ∨ ∃ x L2, insnT L = some (x, L2) ∧ okI x.1 = false)) ∨ (ok = true ∧ ∃ i s k1 d k2 j k3, insnT L = some ((i, s, d, j), L') ∧ okI i = true ∧ cs = w17 i s k1 d k2 j k3))
theorem insnP_mk {b g : Nat} {w w' : World} {L : List ByteArray} (i : Ins) (s d jn : ByteArray) (a' : Option Addr) (cap' : Nat) (L' : List ByteArray) (k1 k2 k3 : Int) (h : insnT L = some ((i, s, d, jn), L')) (hR : Rd w' b g a' cap' L') (hB : But b w w') : InsnPOut b g w L (.returned (.tuple #[.agg (w17 i s k1 d k2 jn k3), .bool (okI i)])) w' := by
  refine ⟨_, okI i, a', cap', L', rfl, ⟨_, _, _, _, _, _, _, _, _, _, _, _, _, _, _, _, _, rfl⟩, hR, hB, ?_⟩
  cases ho : okI i
  · exact .inl ⟨rfl, .inr ⟨_, _, h, ho⟩⟩
  · exact .inr ⟨rfl, i, s, k1, d, k2, jn, k3, h, ho, rfl⟩
end Go.Proofs.YtodjccipfonaiaaGreatDoor
