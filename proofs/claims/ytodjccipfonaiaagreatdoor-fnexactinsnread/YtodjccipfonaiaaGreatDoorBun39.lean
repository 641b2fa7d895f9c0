/- Rows of pieces that are the pieces of the text that they make. -/
import Derived.Test.YtodjccipfonaiaaGreatDoorRows
import Derived.WalkKit
import Derived.Test.YtodjccipfonaiaaGreatDoorBun0
import Derived.Test.YtodjccipfonaiaaGreatDoorPieceMX
import Derived.Lib.ItoaNum
import Derived.Lib.ItoaMem
import Derived.Test.YtodjccipfonaiaaGreatDoorBun16
import Derived.Test.YtodjccipfonaiaaGreatDoorBun26
import Derived.Test.YtodjccipfonaiaaGreatDoorBun34
import Derived.Test.YtodjccipfonaiaaGreatDoorBun19
import Derived.Test.YtodjccipfonaiaaGreatDoorInsS3X
namespace Go.Proofs.YtodjccipfonaiaaGreatDoor
open Go.RowKit
set_option linter.unusedVariables false

def solo (p : ByteArray) : Prop := ∃ c : UInt8, c.toNat < 128 ∧ inN (c.toNat : Int) = false ∧ p = ⟨#[c]⟩
def wordy (p : ByteArray) : Prop := 1 ≤ p.size ∧ allN p
def soloHead : List ByteArray → Prop
  | [] => True
  | p :: _ => solo p
def WP : List ByteArray → Prop
  | [] => True
  | p :: L => (solo p ∧ WP L) ∨ (wordy p ∧ soloHead L ∧ WP L)
theorem solo_size {p : ByteArray} (h : solo p) : p.size = 1 := by obtain ⟨c, _, _, rfl⟩ := h; rfl
theorem solo_not {p : ByteArray} (h : solo p) (hw : wordy p) : False := by
  obtain ⟨c, _, h2, rfl⟩ := h
  have := hw.2 0 (by show 0 < 1; omega)
  have e : ((⟨#[c]⟩ : ByteArray)[0]'(by show 0 < 1; omega)) = c := rfl
  rw [e, h2] at this
  cases this
theorem tail_at {s p : ByteArray} {R : List UInt8} {o : Nat} (hd : s.data.toList.drop o = p.data.toList ++ R) (j : Nat) (hj : j < p.size) (h : o + j < s.size) : s[o + j] = p[j] := by
  have hl : o + j < s.data.toList.length := by rw [size_list]; exact h
  have e1 : s.data.toList[o + j] = s[o + j] := rfl
  have e2 : (s.data.toList.drop o)[j]'(by rw [List.length_drop]; omega) = s.data.toList[o + j] := List.getElem_drop
  rw [← e1, ← e2]
  simp only [hd]
  rw [List.getElem_append_left (by rw [size_list]; exact hj)]
  rfl
theorem ext_of {s p : ByteArray} {R : List UInt8} {o : Nat} (hd : s.data.toList.drop o = p.data.toList ++ R) : s.extract o (o + p.size) = p := by
  apply ba_list
  rw [ByteArray.data_extract, Array.toList_extract, List.extract_eq_take_drop, hd, show o + p.size - o = p.size by omega, ← size_list, List.take_left]
theorem runP_tail (s : ByteArray) : ∀ (L : List ByteArray) (o fr : Nat) (tog : Bool) (acc : List ByteArray) (q : ByteArray), 0 < o → s.extract fr o = q → s.data.toList.drop o = (catL L).data.toList → o ≤ s.size → WP L → (tog = true → soloHead L) →
    (runP s (catL L).size o ⟨fr, tog, acc⟩).acc ++ [s.extract (runP s (catL L).size o ⟨fr, tog, acc⟩).fr s.size] = acc ++ q :: L
  | [], o, fr, tog, acc, q, h0, hq, hd, ho, hw, ht => by
    have e : (catL []).data.toList = [] := rfl
    rw [e] at hd
    have h2 := congrArg List.length hd
    rw [List.length_drop, size_list] at h2
    have h3 : ([] : List UInt8).length = 0 := rfl
    have hz : (catL []).size = 0 := rfl
    rw [hz]
    show acc ++ [s.extract fr s.size] = _
    rw [show s.size = o by omega, hq]
  | p :: L, o, fr, tog, acc, q, h0, hq, hd, ho, hw, ht => by
    have hd' : s.data.toList.drop o = p.data.toList ++ (catL L).data.toList := by rw [hd, ← app_list]; rfl
    have hsz : (catL (p :: L)).size = (catL L).size + p.size := by
      show (p ++ catL L).size = _
      rw [ByteArray.size_append]; omega
    have hlen := congrArg List.length hd'
    rw [List.length_drop, List.length_append, size_list, size_list, size_list] at hlen
    have hd2 : s.data.toList.drop (o + p.size) = (catL L).data.toList := by
      rw [← List.drop_drop, hd', ← size_list, List.drop_left]
    have hx := ext_of hd'
    rcases hw with ⟨hs, hw⟩ | ⟨hp, hh, hw⟩
    · obtain ⟨c, hc, hn, rfl⟩ := hs
      have h1 : (⟨#[c]⟩ : ByteArray).size = 1 := rfl
      rw [h1] at hlen hsz hd2 hx
      have hlt : o < s.size := by omega
      have ha := tail_at hd' 0 (by rw [h1]; omega) (by omega)
      have ha' : s[o] = c := ha
      have hr : runeN ((Utf8.decode s o).1 : Int) = false := by
        have e : (Utf8.decode s o).1 = s[o].toNat := by rw [decode_ascii s o hlt (by rw [ha']; exact hc)]
        rw [e, ha']
        unfold runeN
        rw [hn, Bool.and_false]
      rw [hsz, runP_one s _ o _ hlt (by rw [ha']; exact hc), stepP_cut s _ o false h0 hr (by simp)]
      have ih := runP_tail s L (o + 1) o false (acc ++ [s.extract fr o]) ⟨#[c]⟩ (by omega) hx hd2 (by omega) hw (fun h => by cases h)
      rw [ih, hq]
      simp
    · obtain ⟨m, hm⟩ : ∃ m, p.size = m + 1 := ⟨p.size - 1, by have := hp.1; omega⟩
      have htog : tog = false := by
        cases tog with
        | false => rfl
        | true => exact absurd hp (fun hp => solo_not (ht rfl) hp)
      subst htog
      have hlt : o < s.size := by omega
      have hat : ∀ j, o ≤ j → j < o + p.size → (h : j < s.size) → inN (s[j].toNat : Int) = true := fun j h1 h2 h => by
        have e := tail_at hd' (j - o) (by omega) (by omega)
        have e2 : s[j] = p[j - o]'(by omega) := by rw [← e]; congr 1; omega
        rw [e2]
        exact hp.2 _ _
      have hn := hat o (by omega) (by omega) hlt
      have hl := inN_lt hn
      have hr := rune_in s o hlt hn
      rw [hsz, hm, show (catL L).size + (m + 1) = ((catL L).size + m) + 1 by omega, runP_one s _ o _ hlt (by omega), stepP_cut s _ o true h0 hr (by simp)]
      rw [runP_in s m (catL L).size (o + 1) o _ (by omega) (fun j h1 h2 h => hat j (by omega) (by omega) h)]
      rw [show o + 1 + m = o + p.size by omega]
      have ih := runP_tail s L (o + p.size) o true (acc ++ [s.extract fr o]) p (by omega) hx hd2 (by omega) hw (fun _ => hh)
      rw [ih, hq]
      simp
theorem pieces_WP (L : List ByteArray) (h : WP L) : piecesL (catL L) = L := by
  cases L with
  | nil => unfold piecesL; rw [if_pos (show catL [] = ⟨#[]⟩ from rfl)]
  | cons p L =>
    have hp1 : 1 ≤ p.size := by
      rcases h with ⟨hs, _⟩ | ⟨hp, _⟩
      · rw [solo_size hs]; omega
      · exact hp.1
    have hsz : (catL (p :: L)).size = (catL L).size + p.size := by
      show (p ++ catL L).size = _
      rw [ByteArray.size_append]; omega
    have hd' : (catL (p :: L)).data.toList.drop 0 = p.data.toList ++ (catL L).data.toList := by rw [List.drop_zero, ← app_list]; rfl
    have hd2 : (catL (p :: L)).data.toList.drop p.size = (catL L).data.toList := by
      have e : (catL (p :: L)).data.toList = p.data.toList ++ (catL L).data.toList := by rw [← app_list]; rfl
      rw [e, ← size_list, List.drop_left]
    have hx := ext_of hd'
    rw [Nat.zero_add] at hx
    generalize hs : catL (p :: L) = s at *
    unfold piecesL
    rw [if_neg (ne_empty (by omega))]
    rcases h with ⟨hsl, hw⟩ | ⟨hp, hh, hw⟩
    · obtain ⟨c, hc, hn, rfl⟩ := hsl
      have h1 : (⟨#[c]⟩ : ByteArray).size = 1 := rfl
      rw [h1] at hsz hd2 hx
      have ha := tail_at hd' 0 (by rw [h1]; omega) (by omega)
      have ha' : s[0] = c := ha
      have hr : runeN ((Utf8.decode s 0).1 : Int) = false := by
        have e : (Utf8.decode s 0).1 = s[0].toNat := by rw [decode_ascii s 0 (by omega) (by rw [ha']; exact hc)]
        rw [e, ha']
        unfold runeN
        rw [hn, Bool.and_false]
      have e0 : runP s s.size 0 ⟨0, false, []⟩ = runP s (catL L).size 1 ⟨0, false, []⟩ := by
        have e1 : runP s ((catL L).size + 1) 0 ⟨0, false, []⟩ = runP s (catL L).size (0 + 1) ⟨0, false, []⟩ := by
          rw [runP_one s _ 0 _ (by omega) (by rw [ha']; exact hc)]
          unfold stepP
          rw [hr, if_neg (fun h => Nat.lt_irrefl 0 h.1)]
        rw [← hsz] at e1
        exact e1
      rw [e0]
      exact runP_tail s L 1 0 false [] ⟨#[c]⟩ (by omega) hx hd2 (by omega) hw (fun h => by cases h)
    · obtain ⟨m, hm⟩ : ∃ m, p.size = m + 1 := ⟨p.size - 1, by omega⟩
      have hat : ∀ j, j < p.size → (h : j < s.size) → inN (s[j].toNat : Int) = true := fun j h2 h => by
        have e := tail_at hd' j h2 (by omega)
        have e2 : s[j] = p[j] := by rw [← e]; congr 1; omega
        rw [e2]
        exact hp.2 _ _
      have hn := hat 0 (by omega) (by omega)
      have hl := inN_lt hn
      have e0 : runP s s.size 0 ⟨0, false, []⟩ = runP s (catL L).size p.size ⟨0, true, []⟩ := by
        have e1 : runP s ((catL L).size + m + 1) 0 ⟨0, false, []⟩ = runP s (catL L).size (0 + 1 + m) ⟨0, true, []⟩ := by
          rw [runP_one s _ 0 _ (by omega) (by omega), stepP_in s _ 0 (by omega) hn (.inr rfl)]
          exact runP_in s m (catL L).size (0 + 1) 0 _ (by omega) (fun j h1 h2 h => hat j (by omega) h)
        rw [show (catL L).size + m + 1 = s.size by omega, show 0 + 1 + m = p.size by omega] at e1
        exact e1
      rw [e0]
      exact runP_tail s L p.size 0 true [] p (by omega) hx hd2 (by omega) hw (fun _ => hh)
end Go.Proofs.YtodjccipfonaiaaGreatDoor
namespace Go.Proofs.YtodjccipfonaiaaGreatDoor
open Go.RowKit
set_option linter.unusedVariables false

theorem numF_app (b : Int) (c : UInt8) : ∀ (A : List UInt8) (n : Int), numF b (A ++ [c]) n = match numF b A n with | some m => (if 0 ≤ hexV c.toNat ∧ hexV c.toNat < b then some (b * m + hexV c.toNat) else none) | none => none
  | [], n => rfl
  | d :: A, n => by
    show (if 0 ≤ hexV d.toNat ∧ hexV d.toNat < b then numF b (A ++ [c]) (b * n + hexV d.toNat) else none) = match (if 0 ≤ hexV d.toNat ∧ hexV d.toNat < b then numF b A (b * n + hexV d.toNat) else none) with | some m => _ | none => none
    split
    · exact numF_app b c A _
    · rfl
theorem dig_v (d : Nat) (h : d < 10) : hexV ((UInt8.ofNat (48 + d)).toNat : Int) = (d : Int) := by
  have e : (UInt8.ofNat (48 + d)).toNat = 48 + d := by rw [UInt8.toNat_ofNat']; omega
  rw [e]
  unfold hexV
  rw [if_pos (by omega)]
  omega
theorem decD_num (v : Nat) : numF 10 (Lib.decDigits v) 0 = some (v : Int) := by
  induction v using Nat.strongRecOn with
  | ind v ih =>
    by_cases hv : v < 10
    · rw [dec_small v hv]
      show (if 0 ≤ hexV ((UInt8.ofNat (48 + v)).toNat : Int) ∧ hexV ((UInt8.ofNat (48 + v)).toNat : Int) < 10 then some (10 * 0 + hexV ((UInt8.ofNat (48 + v)).toNat : Int)) else none) = _
      rw [dig_v v hv, if_pos (by omega)]
      congr 1
      omega
    · rw [dec_step v (by omega), numF_app, ih (v / 10) (by omega)]
      dsimp only
      rw [dig_v (v % 10) (by omega), if_pos (by omega)]
      congr 1
      omega
theorem decD_digs (v : Nat) : ∀ c ∈ Lib.decDigits v, 48 ≤ c.toNat ∧ c.toNat ≤ 57 := by
  induction v using Nat.strongRecOn with
  | ind v ih =>
    have hd : ∀ d, d < 10 → 48 ≤ (UInt8.ofNat (48 + d)).toNat ∧ (UInt8.ofNat (48 + d)).toNat ≤ 57 := fun d h => by
      have e : (UInt8.ofNat (48 + d)).toNat = 48 + d := by rw [UInt8.toNat_ofNat']; omega
      rw [e]; omega
    by_cases hv : v < 10
    · rw [dec_small v hv]
      intro c hc
      rw [List.mem_singleton.1 hc]
      exact hd v hv
    · rw [dec_step v (by omega)]
      intro c hc
      rcases List.mem_append.1 hc with hc | hc
      · exact ih (v / 10) (by omega) c hc
      · rw [List.mem_singleton.1 hc]
        exact hd _ (by omega)
theorem decD_len (k : Nat) : ∀ v, v < 10 ^ (k + 1) → (Lib.decDigits v).length ≤ k + 1 := by
  induction k with
  | zero =>
    intro v hv
    rw [dec_small v (by omega)]
    exact Nat.le_refl _
  | succ k ih =>
    intro v hv
    by_cases h : v < 10
    · rw [dec_small v h]
      show 1 ≤ _
      omega
    · rw [dec_step v (by omega), List.length_append]
      have h1 := ih (v / 10) (by rw [Nat.pow_succ] at hv; omega)
      show _ + 1 ≤ _
      omega
theorem decD_pos (v : Nat) : 1 ≤ (Lib.decDigits v).length := by
  by_cases h : v < 10
  · rw [dec_small v h]; exact Nat.le_refl _
  · rw [dec_step v (by omega), List.length_append]; show 1 ≤ _ + 1; omega
theorem dg_list (v : Nat) : (dg (v : Int)).data.toList = Lib.decDigits v := by
  show (Lib.itoa (v : Int)).toArray.toList = _
  rw [Lib.itoa_nonneg]
theorem dg_num (v : Nat) (h : v ≤ 99999) : numR (dg (v : Int)) = some (v : Int) := by
  have hl := dg_list v
  have h1 := decD_pos v
  have h5 := decD_len 4 v (by omega)
  have hs : (dg (v : Int)).size = (Lib.decDigits v).length := by rw [← size_list, hl]
  unfold numR
  rw [if_neg, if_pos (by omega), hl, decD_num]
  rintro ⟨_, hx⟩
  have e := hex_head hx
  rw [hl] at e
  have := decD_digs v 120 (by rw [e]; simp)
  exact absurd this (by decide)
theorem dg_wordy (v : Nat) : wordy (dg (v : Int)) := by
  have hl := dg_list v
  have h1 := decD_pos v
  refine ⟨by rw [← size_list, hl]; omega, mem_all ?_⟩
  rw [hl]
  intro c hc
  have := decD_digs v c hc
  unfold inN goodB
  apply decide_eq_true
  omega
theorem rg_list (v : Nat) : (rg (v : Int)).data.toList = 114 :: Lib.decDigits v := by
  unfold rg
  rw [app_list, dg_list]
  rfl
theorem rg_tail (v : Nat) : (rg (v : Int)).extract 1 (rg (v : Int)).size = dg (v : Int) := by
  apply ba_list
  rw [drop_list, rg_list, dg_list]
  rfl
theorem rg_wordy (v : Nat) : wordy (rg (v : Int)) := by
  have hl := rg_list v
  refine ⟨by rw [← size_list, hl]; show 1 ≤ _ + 1; omega, mem_all ?_⟩
  rw [hl]
  intro c hc
  rcases List.mem_cons.1 hc with rfl | hc
  · rfl
  · have := decD_digs v c hc
    unfold inN goodB
    apply decide_eq_true
    omega
theorem rg_regR (v : Nat) (h : v ≤ 15) : regR (rg (v : Int)) = some (v : Int) := by
  have hl := rg_list v
  have h1 := decD_pos v
  have h2 := decD_len 1 v (by omega)
  have hs : (rg (v : Int)).size = (Lib.decDigits v).length + 1 := by rw [← size_list, hl]; rfl
  have hn : numW (dg (v : Int)) = some (v : Int) := by rw [numR_ge (dg_num v (by omega)), if_pos (by omega)]
  unfold regR
  rw [if_pos ⟨by omega, by omega, by rw [hl]; rfl⟩, rg_tail, hn]
  dsimp only
  rw [if_pos ⟨by omega, rfl⟩]
theorem rg_trim (v : Nat) : trimR (rg (v : Int)) = dg (v : Int) := by
  apply ba_list
  show Lib.trimPrefix (rg (v : Int)).data.toList [114] = _
  rw [rg_list, dg_list]
  unfold Lib.trimPrefix
  rw [if_pos (by simp [Lib.hasPrefix])]
  rfl
theorem rg_regM (v : Nat) (h : v ≤ 99999) : regM (rg (v : Int)) = some (v : Int) := by
  unfold regM
  rw [rg_trim, dg_num v h]
  dsimp only
  rw [if_pos rfl]
theorem rg_numR (v : Nat) : numR (rg (v : Int)) = none := by
  have hl := rg_list v
  unfold numR
  rw [if_neg]
  · split
    · rw [hl]
      show (if 0 ≤ hexV ((114 : UInt8).toNat : Int) ∧ hexV ((114 : UInt8).toNat : Int) < 10 then _ else none) = none
      rw [if_neg (by decide)]
    · rfl
  · rintro ⟨_, hx⟩
    have e := hex_head hx
    rw [hl] at e
    exact absurd (List.cons.inj e).1 (by decide)
/- A register, as either side reads it. -/
def isReg (q : ByteArray) (r : Int) : Prop := 0 ≤ r ∧ r ≤ 15 ∧ q = rg r
theorem isReg_nat {q : ByteArray} {r : Int} (h : isReg q r) : ∃ v : Nat, r = (v : Int) ∧ v ≤ 15 ∧ q = rg (v : Int) := by
  obtain ⟨h0, h1, rfl⟩ := h
  refine ⟨r.toNat, by omega, by omega, ?_⟩
  rw [show ((r.toNat : Nat) : Int) = r by omega]
theorem isReg_R {q : ByteArray} {r : Int} (h : isReg q r) : regR q = some r := by
  obtain ⟨v, rfl, hv, rfl⟩ := isReg_nat h; exact rg_regR v hv
theorem isReg_M {q : ByteArray} {r : Int} (h : isReg q r) : regM q = some r := by
  obtain ⟨v, rfl, hv, rfl⟩ := isReg_nat h; exact rg_regM v (by omega)
theorem isReg_N {q : ByteArray} {r : Int} (h : isReg q r) : numR q = none := by
  obtain ⟨v, rfl, hv, rfl⟩ := isReg_nat h; exact rg_numR v
theorem isReg_w {q : ByteArray} {r : Int} (h : isReg q r) : wordy q := by
  obtain ⟨v, rfl, hv, rfl⟩ := isReg_nat h; exact rg_wordy v
theorem regM_is {q : ByteArray} {r : Int} (h : regM q = some r) (h1 : r ≤ 15) : isReg q r := by
  unfold regM at h
  split at h
  · rename_i n hn
    split at h
    · cases h
      exact ⟨numR_nn hn, h1, by assumption⟩
    · cases h
  · cases h
theorem regR_is {q : ByteArray} {r : Int} (h : regR q = some r) : isReg q r := by
  unfold regR at h
  split at h
  · rename_i hc
    obtain ⟨h2, h3, hh⟩ := hc
    split at h
    · rename_i n hn
      split at h
      · rename_i hd
        cases h
        have h0 := numR_nn (numW_yes hn).1
        refine ⟨h0, hd.1, ?_⟩
        apply ba_list
        have e : q.data.toList = 114 :: q.data.toList.drop 1 := by
          cases hq : q.data.toList with
          | nil => rw [hq] at hh; cases hh
          | cons c L => rw [hq] at hh; cases hh; rfl
        have e2 : (dg r).data.toList = q.data.toList.drop 1 := by
          show (digs (Lib.itoa r)).data.toList = _
          rw [hd.2, drop_list]
        unfold rg
        rw [app_list, e2]
        exact e
      · cases h
    · cases h
  · cases h
end Go.Proofs.YtodjccipfonaiaaGreatDoor
