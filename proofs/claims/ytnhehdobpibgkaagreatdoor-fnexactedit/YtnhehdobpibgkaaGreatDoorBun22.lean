/- Both readers of hex texts answer the same. -/
import Derived.Test.YtnhehdobpibgkaaGreatDoorRows
import Derived.WalkKit
import Derived.Test.YtnhehdobpibgkaaGreatDoorHexQZq
import Derived.WalkSpells
import Derived.WalkLawsBesides
import Derived.Test.YtnhehdobpibgkaaGreatDoorBun0
namespace Go.Proofs.YtnhehdobpibgkaaGreatDoor
open Go.RowKit
set_option linter.unusedVariables false

def chunk (L : List Int) (k : Nat) : List Int := (L.drop (8 * k)).take 8
def rowC (b : Int) (L : List Int) (k : Nat) : List Int := rowB (b + 16 * (k : Int)) (chunk L k)
def csR (b : Int) (L : List Int) (k : Nat) : List Int := rowC b L k ++ [ckB (rowC b L k)]
def bodies (b : Int) (L : List Int) (k : Nat) : List (List UInt8) := (List.range k).map fun i => lineL (csR b L i)
def endB : List UInt8 := [58, 48, 48, 48, 48, 48, 48, 48, 49, 70, 70]
theorem bodies_succ (b : Int) (L : List Int) (k : Nat) : bodies b L (k + 1) = bodies b L k ++ [lineL (csR b L k)] := by simp [bodies, List.range_succ]
theorem bodies_len (b : Int) (L : List Int) (k : Nat) : (bodies b L k).length = k := by simp [bodies]
theorem rows_bodies (b : Int) (L : List Int) : ∀ k, rowsL b L k = (bodies b L k).flatMap (fun x => x ++ [10])
  | 0 => rfl
  | k + 1 => by
    rw [rowsL_succ, bodies_succ, List.flatMap_append, rows_bodies b L k]
    congr 1
    simp only [List.flatMap_cons, List.flatMap_nil, List.append_nil]
    unfold rowL csR rowC chunk
    rw [recL_line]
theorem split_bodies : ∀ (Bs : List (List UInt8)) (r : List UInt8), (∀ x ∈ Bs, (10 : UInt8) ∉ x) → splitL (Bs.flatMap (fun x => x ++ [10]) ++ r) = Bs ++ splitL r
  | [], r, _ => by simp
  | x :: Bs, r, h => by
    rw [List.flatMap_cons, List.append_assoc, List.append_assoc, List.singleton_append, splitL_some _ _ (h x (by simp)), split_bodies Bs r (fun y hy => h y (by simp [hy]))]
    simp
theorem chunk_take (L : List Int) : ∀ k, (List.range k).flatMap (chunk L) = L.take (8 * k)
  | 0 => by simp
  | k + 1 => by
    rw [List.range_succ, List.flatMap_append, chunk_take L k]
    simp only [List.flatMap_cons, List.flatMap_nil, List.append_nil]
    unfold chunk
    rw [show 8 * (k + 1) = 8 * k + 8 by omega, List.take_add]
theorem chunk_all (L : List Int) : (List.range (hexN L)).flatMap (chunk L) = L := by
  rw [chunk_take, List.take_of_length_le (by unfold hexN; omega)]
theorem cs_len (b : Int) (L : List Int) (k : Nat) : 5 ≤ (csR b L k).length := by unfold csR rowC; simp [rowB_len]
section
variable {b : Int} {L : List Int} (h : hexB b L = true)
include h
theorem ok_row (k : Nat) (hk : k < hexN L) : bytesB (rowC b L k) ∧ 0 ≤ b + 16 * (k : Int) ∧ b + 16 * (k : Int) ≤ 65535 ∧ (chunk L k).length ≤ 8 ∧ ∀ n ∈ chunk L k, 0 ≤ n ∧ n ≤ 65535 := by
  obtain ⟨h1, ⟨h2, h3, _⟩, h4, h5⟩ := hexB_ok h
  unfold hexN at hk
  have hl : (chunk L k).length ≤ 8 := by unfold chunk; simp; omega
  have hw : ∀ n ∈ chunk L k, 0 ≤ n ∧ n ≤ 65535 := fun n hn => h5 n (List.mem_of_mem_drop (List.mem_of_mem_take hn))
  have ha : b + 16 * (k : Int) ≤ 65535 := by omega
  exact ⟨rowB_bytes (by omega) ha hl hw, by omega, ha, hl, hw⟩
theorem ok_cs (k : Nat) (hk : k < hexN L) : bytesB (csR b L k) := bytes_snoc (ok_row h k hk).1
theorem ok_bodies : ∀ x ∈ bodies b L (hexN L), (10 : UInt8) ∉ x := by
  intro x hx
  unfold bodies at hx
  obtain ⟨k, hk, rfl⟩ := List.mem_map.1 hx
  exact lineL_ne _ (ok_cs h k (List.mem_range.1 hk))
theorem text_data : (hexT b L).data.toList = (bodies b L (hexN L)).flatMap (fun x => x ++ [10]) ++ endL := by
  rw [hexT_yes h]
  unfold hexL
  rw [rows_bodies]
theorem split_text : splitL (hexT b L).data.toList = bodies b L (hexN L) ++ [endB, []] := by
  rw [text_data h, split_bodies _ _ (ok_bodies h)]
  congr 1
theorem lines_text : linesL (hexT b L).data.toList = bodies b L (hexN L) ++ [endB] := by
  have e : (hexT b L).data.toList = ((bodies b L (hexN L)).flatMap (fun x => x ++ [10]) ++ endB) ++ [10] := by
    rw [text_data h, List.append_assoc]; rfl
  unfold linesL
  rw [if_neg (by rw [e]; simp), e, trimL_end, split_bodies _ _ (ok_bodies h)]
  congr 1
theorem rdW_text : rdW (hexT b L).data.toList = L := by
  unfold rdW
  rw [lines_text h, List.flatMap_append]
  have e : [endB].flatMap (fun x => wordsOf (textL x)) = [] := by
    show wordsOf (textL endB) ++ [] = []
    rfl
  rw [e, List.append_nil]
  unfold bodies
  rw [List.flatMap_map]
  have e2 : (List.range (hexN L)).flatMap (fun k => wordsOf (textL (lineL (csR b L k)))) = (List.range (hexN L)).flatMap (chunk L) := by
    unfold List.flatMap
    congr 1
    apply List.map_congr_left
    intro k hk
    obtain ⟨h1, h2, h3, h4, h5⟩ := ok_row h k (List.mem_range.1 hk)
    exact words_row _ _ h2 h3 h4 h5 _ (ck_bd _).1 (ck_bd _).2
  rw [e2, chunk_all]
theorem body_text : bodyL (hexT b L) = bodies b L (hexN L) := by
  unfold bodyL
  rw [split_text h]
  simp
theorem spW_text : spW (bodyL (hexT b L)) = some L := by
  rw [body_text h]
  have : ∀ k, k ≤ hexN L → spW (bodies b L k) = some (L.take (8 * k)) := by
    intro k
    induction k with
    | zero => intro _; simp [bodies, spW]
    | succ k ih =>
      intro hk
      obtain ⟨h1, h2, h3, h4, h5⟩ := ok_row h k (by omega)
      rw [bodies_succ, spW_snoc _ _ _ _ (ih (by omega)) (lineB_line _ (ok_cs h k (by omega)) (cs_len b L k))]
      congr 1
      have e : wB (csR b L k) = chunk L k := wB_row _ _ _ h5
      rw [e]
      unfold chunk
      rw [show 8 * (k + 1) = 8 * k + 8 by omega, List.take_add]
  rw [this _ (Nat.le_refl _), List.take_of_length_le (by unfold hexN; omega)]
theorem spB_text : spB (bodyL (hexT b L)) = if L = [] then 0 else b := by
  rw [body_text h]
  by_cases hL : L = []
  · rw [if_pos hL, hL]; rfl
  · rw [if_neg hL]
    have hp : 0 < hexN L := by unfold hexN; have := List.length_pos_iff.2 hL; omega
    obtain ⟨n, hn⟩ : ∃ n, hexN L = n + 1 := ⟨hexN L - 1, by omega⟩
    have e : bodies b L (hexN L) = lineL (csR b L 0) :: (List.range n).map (fun i => lineL (csR b L (i + 1))) := by
      unfold bodies
      rw [hn, List.range_succ_eq_map]
      simp
    rw [e, spB_cons _ _ _ (lineB_line _ (ok_cs h 0 hp) (cs_len b L 0))]
    obtain ⟨_, h2, h3, _, _⟩ := ok_row h 0 hp
    have e2 : csR b L 0 = 2 * ((chunk L 0).length : Int) :: (b + 16 * ((0 : Nat) : Int)) / 256 :: (b + 16 * ((0 : Nat) : Int)) % 256 :: 0 :: (pairsB (chunk L 0) ++ [ckB (rowC b L 0)]) := by
      unfold csR rowC rowB; simp
    rw [e2]
    simp only [List.getD_cons_succ, List.getD_cons_zero]
    omega
theorem base_text : baseT (hexT b L) = if L = [] then 0 else b := by
  by_cases hL : L = []
  · subst hL
    have e : hexL b [] = endL := by simp [hexL, rowsL, hexN]
    rw [if_pos rfl, hexT_yes h, e]
    rfl
  · rw [if_neg hL]
    have hp : 0 < hexN L := by unfold hexN; have := List.length_pos_iff.2 hL; omega
    obtain ⟨n, hn⟩ : ∃ n, hexN L = n + 1 := ⟨hexN L - 1, by omega⟩
    obtain ⟨_, h2, h3, _, _⟩ := ok_row h 0 hp
    have e : bodies b L (hexN L) = lineL (csR b L 0) :: (List.range n).map (fun i => lineL (csR b L (i + 1))) := by
      unfold bodies
      rw [hn, List.range_succ_eq_map]
      simp
    have e2 : csR b L 0 = 2 * ((chunk L 0).length : Int) :: (b + 16 * ((0 : Nat) : Int)) / 256 :: (b + 16 * ((0 : Nat) : Int)) % 256 :: 0 :: (pairsB (chunk L 0) ++ [ckB (rowC b L 0)]) := by
      unfold csR rowC rowB; simp
    obtain ⟨R, hR⟩ : ∃ R, (hexT b L).data.toList = 58 :: (hex2 (2 * ((chunk L 0).length : Int)) ++ (hex2 ((b + 16 * ((0 : Nat) : Int)) / 256) ++ (hex2 ((b + 16 * ((0 : Nat) : Int)) % 256) ++ R))) := by
      rw [text_data h, e]
      simp only [List.flatMap_cons, lineL]
      rw [e2]
      simp only [hexs, List.flatMap_cons, List.cons_append, List.append_assoc]
      exact ⟨_, rfl⟩
    have hl : ¬ (hexT b L).size < 9 := by
      have : (hexT b L).size = (hexT b L).data.toList.length := Lib.size_eq _
      rw [hR] at this
      have hx : (hexT b L).data.toList.length = (hexT b L).data.toList.length := rfl
      have h12 : 12 ≤ (hexT b L).data.toList.length := by
        rw [text_data h, List.length_append]
        have : endL.length = 12 := rfl
        omega
      rw [hR] at h12
      omega
    unfold baseT
    rw [if_neg hl]
    have ex : (hexT b L).extract 3 7 = textL (hex2 ((b + 16 * ((0 : Nat) : Int)) / 256) ++ hex2 ((b + 16 * ((0 : Nat) : Int)) % 256)) := by
      apply ByteArray.ext
      apply Array.toList_inj.1
      have : ((hexT b L).extract 3 7).data.toList = ((hexT b L).data.toList.drop 3).take 4 := by
        simp [ByteArray.data_extract, List.extract_eq_take_drop]
      rw [this, hR]
      simp [hex2, textL]
    rw [ex, numH_four _ _ (by omega) (by omega) (by omega) (by omega)]
    omega
end
theorem hexT_nil {b : Int} (h : hexB b [] = true) : hexT b [] = ⟨endL.toArray⟩ := by
  rw [hexT_yes h]; simp [hexL, rowsL, hexN]
theorem hexT_ne {b : Int} {L : List Int} {s : ByteArray} (h : hexT b L = s) (hs : s ≠ ⟨#[]⟩) : hexB b L = true := by
  cases hb : hexB b L
  · rw [hexT_no hb] at h; exact absurd h.symm hs
  · rfl
theorem empty_lines : rdW (⟨#[]⟩ : ByteArray).data.toList = [] := rfl
theorem hex_zero : hexB 0 [] = true := rfl
theorem ends_ne : (⟨endL.toArray⟩ : ByteArray) ≠ ⟨#[]⟩ := by intro h; have := congrArg ByteArray.size h; revert this; decide
/- Whatever the text: one answer. -/
theorem readers (s : ByteArray) : spRes s = (rdB s, rdL s, rdC s) := by
  unfold spRes rdB rdL rdC
  by_cases h8 : 8000 < s.size
  · rw [if_pos h8, if_pos h8, if_pos h8, if_pos h8]
  rw [if_neg h8, if_neg h8, if_neg h8, if_neg h8]
  by_cases hok : rdOk s = true
  · rw [if_pos hok, if_pos hok, if_pos hok]
    have he := of_decide_eq_true hok
    have hs : s ≠ ⟨#[]⟩ := by
      rintro rfl
      have e1 : baseT ⟨#[]⟩ = 0 := rfl
      rw [e1, empty_lines, hexT_nil hex_zero] at he
      exact ends_ne he
    have hB := hexT_ne he hs
    have h1 := spW_text hB
    have h2 := spB_text hB
    have h3 := base_text hB
    rw [he] at h1 h2 h3
    rw [h1]
    simp only
    rw [h2, ← h3, if_pos he]
  · have hok' : rdOk s = false := by simpa using hok
    rw [hok']
    simp only [Bool.false_eq_true, if_false]
    cases hW : spW (bodyL s) with
    | none => rfl
    | some W =>
      simp only
      rw [if_neg]
      intro he
      have hs : s ≠ ⟨#[]⟩ := by
        rintro rfl
        have e1 : bodyL ⟨#[]⟩ = [] := rfl
        rw [e1] at hW he
        cases hW
        have e2 : spB [] = 0 := rfl
        rw [e2, hexT_nil hex_zero] at he
        exact ends_ne he
      have hB := hexT_ne he hs
      have h1 := rdW_text hB
      have h2 := spB_text hB
      have h3 := base_text hB
      rw [he] at h1 h2 h3
      apply hok
      unfold rdOk
      rw [h1, h3, ← h2]
      exact decide_eq_true he
end Go.Proofs.YtnhehdobpibgkaaGreatDoor
namespace Go.Proofs.YtnhehdobpibgkaaGreatDoor
open Go.RowKit

def goodB (j : Nat) (c : Int) : Bool := decide ((97 ≤ c ∧ c ≤ 122) ∨ (j ≠ 0 ∧ ((48 ≤ c ∧ c ≤ 57) ∨ c = 95)))
def nameB (s : ByteArray) : Bool := decide (1 ≤ s.size ∧ s.size ≤ 20 ∧ ∀ j, (h : j < s.size) → goodB j (s[j].toNat : Int) = true)
theorem nameB_t {s : ByteArray} (h1 : 1 ≤ s.size) (h2 : s.size ≤ 20) (h : ∀ j, (h : j < s.size) → goodB j (s[j].toNat : Int) = true) : nameB s = true := by
  unfold nameB; exact decide_eq_true ⟨h1, h2, h⟩
theorem nameB_f {s : ByteArray} (h : s.size < 1 ∨ 20 < s.size) : nameB s = false := by
  unfold nameB; exact decide_eq_false (fun x => by omega)
theorem nameB_n {s : ByteArray} (k : Nat) (h : k < s.size) (hg : goodB k (s[k].toNat : Int) = false) : nameB s = false := by
  unfold nameB; refine decide_eq_false (fun x => ?_); have := x.2.2 k h; rw [hg] at this; cases this
theorem good_t {j : Nat} {c : Int} (h : goodB j c = true) : (97 ≤ c ∧ c ≤ 122) ∨ (j ≠ 0 ∧ ((48 ≤ c ∧ c ≤ 57) ∨ c = 95)) := of_decide_eq_true h
theorem good_f {j : Nat} {c : Int} (h : goodB j c = false) : ((¬ 97 ≤ c) ∨ (97 ≤ c ∧ ¬ c ≤ 122)) ∧ (j = 0 ∨ (((j : Int) == 0) = false ∧ ((¬ 48 ≤ c) ∨ (48 ≤ c ∧ ¬ c ≤ 57)) ∧ (c == 95) = false)) := by
  have := of_decide_eq_false h
  rw [beq_eq_false_iff_ne, beq_eq_false_iff_ne]
  omega
theorem all_step {s : ByteArray} {k : Nat} (ha : ∀ j, (h : j < s.size) → j < k → goodB j (s[j].toNat : Int) = true) (h : k < s.size) (hg : goodB k (s[k].toNat : Int) = true) :
    ∀ j, (h : j < s.size) → j < k + 1 → goodB j (s[j].toNat : Int) = true := by
  intro j hj hjk
  by_cases e : j = k
  · subst e; exact hg
  · exact ha j hj (by omega)

set_option maxHeartbeats 400000 in
theorem specName_any (s : ByteArray) (w : World) (hs : s.size ≤ maxLen) :
    Calls Tryz.prog 33 #[.string s] w fun e w' => e = .returned (.bool (nameB s)) ∧ w' = w := by
  unfold maxLen at hs
  by_cases h1 : s.size < 1
  · go_enter Tryz.func33, Tryz.ntmps33
    go_wp2
    go_ret
    exact ⟨ret_bool (nameB_f (by omega)).symm, rfl⟩
  by_cases h2 : 20 < s.size
  · go_enter Tryz.func33, Tryz.ntmps33
    go_wp2
    go_ret
    exact ⟨ret_bool (nameB_f (by omega)).symm, rfl⟩
  go_enter Tryz.func33, Tryz.ntmps33
  go_wp2
  go_loop [3] (fun i => ∃ k : Nat, k ≤ s.size ∧ i = .int .i64 k ∧ ∀ j, (h : j < s.size) → j < k → goodB j (s[j].toNat : Int) = true) (fun i => s.size - (intOf i).toNat)
  case atStart => exact ⟨0, Nat.zero_le _, rfl, fun j _ h => absurd h (by omega)⟩
  case round =>
    obtain ⟨k, hk, rfl, hall⟩ := hrel
    have HA : Hid (∀ j, (h : j < s.size) → j < k → goodB j (s[j].toNat : Int) = true) := hall
    clear hall
    by_cases hlt : k < s.size
    · cases hg : goodB k (s[k].toNat : Int)
      · have HG : Hid (goodB k (s[k].toNat : Int) = false) := hg
        have hp := good_f hg
        clear hg
        obtain ⟨hp1, hp2⟩ := hp
        have HF : Hid (nameB s = false) := nameB_n k hlt HG.out
        clear HG
        rcases hp1 with hp1 | ⟨hp0, hp1⟩ <;> rcases hp2 with rfl | ⟨hk0, hp2 | ⟨hp4, hp2⟩, hp3⟩
        all_goals
          go_wp2
          all_goals
            go_ret
            exact ⟨ret_bool HF.out.symm, rfl⟩
      · have HG : Hid (∀ j, (h : j < s.size) → j < k + 1 → goodB j (s[j].toNat : Int) = true) := all_step HA.out hlt hg
        have hp := good_t hg
        clear hg
        rcases hp with ⟨hp1, hp2⟩ | ⟨hk0, ⟨hp1, hp2⟩ | hp1⟩
        all_goals
          go_wp2
          all_goals
            exact ⟨⟨k + 1, by omega, by go_num, HG.out⟩, by simp [intOf]; omega⟩
    · go_wp2
      go_ret
      exact ⟨ret_bool (nameB_t (by omega) (by omega) (fun j h => HA.out j h (by omega))).symm, rfl⟩

set_option maxHeartbeats 400000 in
theorem implName_any (s : ByteArray) (w : World) (hs : s.size ≤ maxLen) :
    Calls Tryz.prog 37 #[.string s] w fun e w' => e = .returned (.bool (nameB s)) ∧ w' = w := by
  unfold maxLen at hs
  by_cases h1 : s.size < 1
  · go_enter Tryz.func37, Tryz.ntmps37
    go_wp2
    go_ret
    exact ⟨ret_bool (nameB_f (by omega)).symm, rfl⟩
  by_cases h2 : 20 < s.size
  · go_enter Tryz.func37, Tryz.ntmps37
    go_wp2
    go_ret
    exact ⟨ret_bool (nameB_f (by omega)).symm, rfl⟩
  have h0 : 0 < s.size := by omega
  cases hg : goodB 0 (s[0].toNat : Int)
  · have HF : Hid (nameB s = false) := nameB_n 0 h0 hg
    have hp := good_f hg
    clear hg
    obtain ⟨hp1, hp2⟩ := hp
    clear hp2
    rcases hp1 with hp1 | ⟨hp0, hp1⟩
    all_goals
      go_enter Tryz.func37, Tryz.ntmps37
      go_wp2
      go_ret
      exact ⟨ret_bool HF.out.symm, rfl⟩
  have H0 : Hid (goodB 0 (s[0].toNat : Int) = true) := hg
  have hp := good_t hg
  clear hg
  rcases hp with ⟨hp1, hp2⟩ | ⟨hk0, _⟩
  rotate_left
  · exact absurd rfl hk0
  go_enter Tryz.func37, Tryz.ntmps37
  go_wp2
  go_loop [3] (fun i => ∃ k : Nat, k ≤ s.size ∧ 0 < k ∧ i = .int .i64 k ∧ ∀ j, (h : j < s.size) → j < k → goodB j (s[j].toNat : Int) = true) (fun i => s.size - (intOf i).toNat)
  case atStart => exact ⟨1, by omega, by omega, rfl, fun j _ h => by obtain rfl : j = 0 := by omega
                                                                     exact H0.out⟩
  case round =>
    obtain ⟨k, hk, hkp, rfl, hall⟩ := hrel
    have HA : Hid (∀ j, (h : j < s.size) → j < k → goodB j (s[j].toNat : Int) = true) := hall
    clear hall hp1 hp2 H0
    by_cases hlt : k < s.size
    · cases hg : goodB k (s[k].toNat : Int)
      · have HG : Hid (goodB k (s[k].toNat : Int) = false) := hg
        have hp := good_f hg
        clear hg
        obtain ⟨hp1, hp2⟩ := hp
        have HF : Hid (nameB s = false) := nameB_n k hlt HG.out
        clear HG
        rcases hp1 with hp1 | ⟨hp0, hp1⟩ <;> rcases hp2 with hz | ⟨hk0, hp2 | ⟨hp4, hp2⟩, hp3⟩
        all_goals first | (exfalso; omega) | skip
        all_goals
          go_wp2
          all_goals
            go_ret
            exact ⟨ret_bool HF.out.symm, rfl⟩
      · have HG : Hid (∀ j, (h : j < s.size) → j < k + 1 → goodB j (s[j].toNat : Int) = true) := all_step HA.out hlt hg
        have hp := good_t hg
        clear hg
        rcases hp with ⟨hp1, hp2⟩ | ⟨hk0, ⟨hp1, hp2⟩ | hp1⟩
        all_goals
          go_wp2
          all_goals
            exact ⟨⟨k + 1, by omega, by omega, by go_num, HG.out⟩, by simp [intOf]; omega⟩
    · go_wp2
      go_ret
      exact ⟨ret_bool (nameB_t (by omega) (by omega) (fun j h => HA.out j h (by omega))).symm, rfl⟩

end Go.Proofs.YtnhehdobpibgkaaGreatDoor
