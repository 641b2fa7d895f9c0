/- Hex texts: what is read of them, both ways, is what they were made of; both readers answer the same. -/
import Derived.Test.YtnhehdobpibgkaaGreatDoorRows
import Derived.WalkKit
import Derived.Test.YtnhehdobpibgkaaGreatDoorBun12
import Derived.Test.YtnhehdobpibgkaaGreatDoorBun13
import Derived.Test.YtnhehdobpibgkaaGreatDoorHexTZq
import Derived.Test.YtnhehdobpibgkaaGreatDoorNumHZq
import Derived.Test.YtnhehdobpibgkaaGreatDoorBun17
import Derived.Test.YtnhehdobpibgkaaGreatDoorBun19
import Derived.Test.YtnhehdobpibgkaaGreatDoorHexRPZq
import Derived.Test.YtnhehdobpibgkaaGreatDoorHexRSZq
namespace Go.Proofs.YtnhehdobpibgkaaGreatDoor
open Go.RowKit
set_option linter.unusedVariables false

theorem hexd_all : ∀ n : Fin 16, hv (hexd n.1) = n.1 ∧ sdig (hexd n.1) = (n.1 : Int) ∧ hexd n.1 ≠ 10 ∧ hexd n.1 ≠ 58 := by decide +kernel
theorem hexd_hv (n : Nat) (h : n < 16) : hv (hexd n) = n := (hexd_all ⟨n, h⟩).1
theorem hexd_sdig (n : Nat) (h : n < 16) : sdig (hexd n) = (n : Int) := (hexd_all ⟨n, h⟩).2.1
theorem hexd_ne (n : Nat) (h : n < 16) : hexd n ≠ 10 := (hexd_all ⟨n, h⟩).2.2.1
theorem hex2_ne (v : Int) (h0 : 0 ≤ v) (h1 : v ≤ 255) : (10 : UInt8) ∉ hex2 v := by
  intro h
  simp only [hex2, List.mem_cons, List.not_mem_nil, or_false] at h
  rcases h with h | h
  · exact hexd_ne _ (by omega) h.symm
  · exact hexd_ne _ (by omega) h.symm
theorem hexs_ne : ∀ (L : List Int), bytesB L → (10 : UInt8) ∉ hexs L
  | [], _ => by simp [hexs]
  | b :: r, h => by
    have h1 := h b (by simp)
    have h2 := hexs_ne r (fun x hx => h x (by simp [hx]))
    intro hm
    simp only [hexs, List.flatMap_cons, List.mem_append] at hm
    rcases hm with hm | hm
    · exact hex2_ne b h1.1 h1.2 hm
    · exact h2 hm
theorem ck_bd (bs : List Int) : 0 ≤ ckB bs ∧ ckB bs ≤ 255 := by unfold ckB; omega
def lineL (cs : List Int) : List UInt8 := 58 :: hexs cs
theorem recL_line (bs : List Int) : recL bs = lineL (bs ++ [ckB bs]) ++ [10] := by
  unfold recL lineL
  rw [hexs_append]
  simp [hexs]
theorem lineL_ne (cs : List Int) (h : bytesB cs) : (10 : UInt8) ∉ lineL cs := by
  intro hm
  rcases List.mem_cons.1 hm with hm | hm
  · revert hm; decide
  · exact hexs_ne cs h hm
theorem numH_two (v : Int) (h0 : 0 ≤ v) (h1 : v ≤ 255) : numH (textL (hex2 v)) = v := by
  unfold numH
  rw [data_textL]
  have e1 := hexd_hv (v / 16).toNat (by omega)
  have e2 := hexd_hv (v % 16).toNat (by omega)
  have : parseH 0 (hex2 v) = some (16 * (16 * 0 + (v / 16).toNat) + (v % 16).toNat) := by
    unfold hex2
    rw [parseH, if_pos (by rw [e1]; omega), parseH, if_pos (by rw [e2]; omega), parseH, e1, e2]
  rw [this]
  simp
  omega
theorem numH_four (u v : Int) (g0 : 0 ≤ u) (g1 : u ≤ 255) (h0 : 0 ≤ v) (h1 : v ≤ 255) : numH (textL (hex2 u ++ hex2 v)) = 256 * u + v := by
  unfold numH
  rw [data_textL]
  have e1 := hexd_hv (u / 16).toNat (by omega)
  have e2 := hexd_hv (u % 16).toNat (by omega)
  have e3 := hexd_hv (v / 16).toNat (by omega)
  have e4 := hexd_hv (v % 16).toNat (by omega)
  have : parseH 0 (hex2 u ++ hex2 v) = some (16 * (16 * (16 * (16 * 0 + (u / 16).toNat) + (u % 16).toNat) + (v / 16).toNat) + (v % 16).toNat) := by
    unfold hex2
    show parseH 0 [_, _, _, _] = _
    rw [parseH, if_pos (by rw [e1]; omega), parseH, if_pos (by rw [e2]; omega), parseH, if_pos (by rw [e3]; omega), parseH, if_pos (by rw [e4]; omega), parseH, e1, e2, e3, e4]
  rw [this]
  simp
  omega
theorem hexs_at : ∀ (cs : List Int) (j : Nat) (h : j < cs.length), ((hexs cs).drop (2 * j)).take 2 = hex2 cs[j]
  | c :: r, 0, _ => by simp [hexs, hex2]
  | c :: r, j + 1, h => by
    have ih := hexs_at r j (by simpa using h)
    have e : hexs (c :: r) = hexd (c / 16).toNat :: hexd (c % 16).toNat :: hexs r := by simp [hexs, hex2]
    rw [e, show 2 * (j + 1) = 2 * j + 1 + 1 by omega, List.drop_succ_cons, List.drop_succ_cons, ih]
    simp
theorem line_at (cs : List Int) (j : Nat) (h : j < cs.length) : (textL (lineL cs)).extract (1 + 2 * j) (1 + 2 * j + 2) = textL (hex2 cs[j]) := by
  apply ByteArray.ext
  apply Array.toList_inj.1
  have e := hexs_at cs j h
  simp [textL, ByteArray.data_extract, List.extract_eq_take_drop, lineL]
  rw [show 1 + 2 * j = 2 * j + 1 by omega, List.drop_succ_cons, e]
theorem textL_size (l : List UInt8) : (textL l).size = l.length := rfl
theorem pairs_at : ∀ (ws : List Int) (q : Nat) (h : q < ws.length), (pairsB ws).getD (2 * q) 0 = ws[q] % 256 ∧ (pairsB ws).getD (2 * q + 1) 0 = ws[q] / 256
  | w :: r, 0, _ => by simp [pairsB, pairB]
  | w :: r, q + 1, h => by
    have ih := pairs_at r q (by simpa using h)
    have e : pairsB (w :: r) = w % 256 :: w / 256 :: pairsB r := by simp [pairsB, pairB]
    rw [e, show 2 * (q + 1) = 2 * q + 1 + 1 by omega, show 2 * q + 1 + 1 + 1 = (2 * q + 1) + 1 + 1 by omega]
    simpa using ih
theorem row_at (a : Int) (ws : List Int) (c : Int) (q : Nat) (h : q < ws.length) : (rowB a ws ++ [c]).getD (4 + 2 * q) 0 = ws[q] % 256 ∧ (rowB a ws ++ [c]).getD (4 + 2 * q + 1) 0 = ws[q] / 256 := by
  obtain ⟨h1, h2⟩ := pairs_at ws q h
  have hl := pairs_len ws
  have e : rowB a ws ++ [c] = 2 * (ws.length : Int) :: a / 256 :: a % 256 :: 0 :: (pairsB ws ++ [c]) := by simp [rowB]
  rw [e, show 4 + 2 * q = 2 * q + 1 + 1 + 1 + 1 by omega, show 2 * q + 1 + 1 + 1 + 1 + 1 = (2 * q + 1) + 1 + 1 + 1 + 1 by omega]
  simp only [List.getD_cons_succ]
  constructor
  · rw [← h1, List.getD_eq_getElem?_getD, List.getD_eq_getElem?_getD, List.getElem?_append_left (by omega)]
  · rw [← h2, List.getD_eq_getElem?_getD, List.getD_eq_getElem?_getD, List.getElem?_append_left (by omega)]
theorem bytes_snoc {bs : List Int} (h : bytesB bs) : bytesB (bs ++ [ckB bs]) := by
  intro x hx
  rcases List.mem_append.1 hx with hx | hx
  · exact h x hx
  · obtain rfl := List.mem_singleton.1 hx; exact ck_bd bs
/- The program's words of a row. -/
theorem words_row (a : Int) (ws : List Int) (h0 : 0 ≤ a) (h1 : a ≤ 65535) (hl : ws.length ≤ 8) (hw : ∀ n ∈ ws, 0 ≤ n ∧ n ≤ 65535) (c : Int) (hc0 : 0 ≤ c) (hc1 : c ≤ 255) : wordsOf (textL (lineL (rowB a ws ++ [c]))) = ws := by
  have hlen : (rowB a ws ++ [c]).length = 5 + 2 * ws.length := by simp [rowB_len]; omega
  have hsz : (textL (lineL (rowB a ws ++ [c]))).size = 11 + 4 * ws.length := by
    rw [textL_size]
    unfold lineL
    rw [List.length_cons, hexs_len, hlen]
    omega
  unfold wordsOf
  rw [hsz, show (11 + 4 * ws.length - 9) / 4 = ws.length by omega]
  apply List.ext_getElem
  · simp
  · intro q h2 h3
    obtain ⟨e1, e2⟩ := row_at a ws c q h3
    rw [getD_at _ _ (by rw [hlen]; omega)] at e1 e2
    have hq := hw _ (List.getElem_mem h3)
    simp only [List.getElem_map, List.getElem_range]
    unfold wordAt
    have x1 := line_at (rowB a ws ++ [c]) (4 + 2 * q) (by rw [hlen]; omega)
    have x2 := line_at (rowB a ws ++ [c]) (4 + 2 * q + 1) (by rw [hlen]; omega)
    rw [show 9 + 4 * q = 1 + 2 * (4 + 2 * q) by omega, x1, show 1 + 2 * (4 + 2 * q) + 2 = 1 + 2 * (4 + 2 * q + 1) by omega, show 1 + 2 * (4 + 2 * q) + 4 = 1 + 2 * (4 + 2 * q + 1) + 2 by omega, x2, e1, e2, numH_two _ (by omega) (by omega), numH_two _ (by omega) (by omega)]
    omega
theorem pairsD_hexs : ∀ (cs : List Int), bytesB cs → pairsD (hexs cs) = some cs
  | [], _ => rfl
  | c :: r, h => by
    have hc := h c (by simp)
    have ih := pairsD_hexs r (fun x hx => h x (by simp [hx]))
    have e : hexs (c :: r) = hexd (c / 16).toNat :: hexd (c % 16).toNat :: hexs r := by simp [hexs, hex2]
    have e1 := hexd_sdig (c / 16).toNat (by omega)
    have e2 := hexd_sdig (c % 16).toNat (by omega)
    rw [e, pairsD, if_neg (by rw [e1, e2]; omega), ih, e1, e2]
    simp
    omega
theorem lineB_line (cs : List Int) (h : bytesB cs) (hl : 5 ≤ cs.length) : lineB (textL (lineL cs)) = some cs := by
  have hsz : (textL (lineL cs)).size = 1 + 2 * cs.length := by
    rw [textL_size]; unfold lineL; rw [List.length_cons, hexs_len]; omega
  unfold lineB
  rw [if_neg, data_textL]
  · show pairsD (hexs cs) = _
    exact pairsD_hexs cs h
  · rw [data_textL, hsz]
    simp [lineL]
    omega
theorem wB_row (a : Int) (ws : List Int) (c : Int) (hw : ∀ n ∈ ws, 0 ≤ n ∧ n ≤ 65535) : wB (rowB a ws ++ [c]) = ws := by
  have hlen : (rowB a ws ++ [c]).length = 5 + 2 * ws.length := by simp [rowB_len]; omega
  unfold wB
  rw [hlen, show (5 + 2 * ws.length - 5) / 2 = ws.length by omega]
  apply List.ext_getElem
  · simp
  · intro q h2 h3
    obtain ⟨e1, e2⟩ := row_at a ws c q h3
    have hq := hw _ (List.getElem_mem h3)
    simp only [List.getElem_map, List.getElem_range, e1, e2]
    omega
end Go.Proofs.YtnhehdobpibgkaaGreatDoor
