/- Numbers that are read, by the specification. -/
import Derived.Test.YtodjccipfonaiaaGreatDoorRows
import Derived.WalkKit
import Derived.WalkSpells
import Derived.WalkLawsBesides
import Derived.Test.YtodjccipfonaiaaGreatDoorBun0
namespace Go.Proofs.YtodjccipfonaiaaGreatDoor
open Go.RowKit
set_option linter.unusedVariables false

def hexV (c : Int) : Int := if 48 ≤ c ∧ c ≤ 57 then c - 48 else if 97 ≤ c ∧ c ≤ 102 then c - 87 else -1
/- The digits of a base, each below it, behind what is told so far. -/
def numF (base : Int) : List UInt8 → Int → Option Int
  | [], n => some n
  | c :: L, n => if 0 ≤ hexV c.toNat ∧ hexV c.toNat < base then numF base L (base * n + hexV c.toNat) else none
def numR (s : ByteArray) : Option Int :=
  if 2 < s.size ∧ s.extract 0 2 = ⟨#[48, 120]⟩ then (if s.size ≤ 6 then numF 16 (s.data.toList.drop 2) 0 else none)
  else if 1 ≤ s.size ∧ s.size ≤ 5 then numF 10 s.data.toList 0 else none
def numW (s : ByteArray) : Option Int := match numR s with | some n => if n ≤ 65535 then some n else none | none => none
theorem drop_at (s : ByteArray) (k : Nat) (h : k < s.size) : s.data.toList.drop k = s[k] :: s.data.toList.drop (k + 1) := by
  have hl : k < s.data.toList.length := by simpa using h
  rw [List.drop_eq_getElem_cons hl]
  rfl
theorem numF_yes (base : Int) (s : ByteArray) (k : Nat) (n d : Int) (h : k < s.size) (hd : hexV (s[k].toNat : Int) = d) (h0 : 0 ≤ d) (h1 : d < base) : numF base (s.data.toList.drop k) n = numF base (s.data.toList.drop (k + 1)) (base * n + d) := by
  rw [drop_at s k h]
  show (if 0 ≤ hexV (s[k].toNat : Int) ∧ hexV (s[k].toNat : Int) < base then numF base (s.data.toList.drop (k + 1)) (base * n + hexV (s[k].toNat : Int)) else none) = _
  rw [hd, if_pos ⟨h0, h1⟩]
theorem numF_no (base : Int) (s : ByteArray) (k : Nat) (n : Int) (h : k < s.size) (hd : ¬ (0 ≤ hexV (s[k].toNat : Int) ∧ hexV (s[k].toNat : Int) < base)) : numF base (s.data.toList.drop k) n = none := by
  rw [drop_at s k h]
  show (if 0 ≤ hexV (s[k].toNat : Int) ∧ hexV (s[k].toNat : Int) < base then numF base (s.data.toList.drop (k + 1)) (base * n + hexV (s[k].toNat : Int)) else none) = _
  rw [if_neg hd]
theorem numF_end (base : Int) (s : ByteArray) (k : Nat) (n : Int) (h : s.size ≤ k) : numF base (s.data.toList.drop k) n = some n := by
  rw [List.drop_of_length_le (by simpa using h)]; rfl
theorem l03Digit_any (c : Int) (w : World) : Calls Tryz.prog 106 #[.int .u8 c] w fun e w' => e = .returned (.bool (isB c 48 57)) ∧ w' = w := by
  by_cases h1 : 48 ≤ c
  · go_enter Tryz.func106, Tryz.ntmps106
    go_wp2
    go_ret
    exact ⟨ret_bool (by simp [isB, h1]), rfl⟩
  · go_enter Tryz.func106, Tryz.ntmps106
    go_wp2
    go_ret
    exact ⟨ret_bool (by simp [isB]; omega), rfl⟩
def NumOut (s : ByteArray) (w : World) (e : Ending) (w' : World) : Prop := ∃ (n : Int) (ok : Bool), e = .returned (.tuple #[.int .i64 n, .bool ok]) ∧ numW s = (if ok then some n else none) ∧ 0 ≤ n ∧ n ≤ 99999 ∧ w' = w
theorem numOut_mk {s : ByteArray} {w : World} (n : Int) (ok : Bool) (h : numW s = (if ok then some n else none)) (h0 : 0 ≤ n) (h1 : n ≤ 99999) : NumOut s w (.returned (.tuple #[.int .i64 n, .bool ok])) w := ⟨n, ok, rfl, h, h0, h1, rfl⟩
theorem pow16 (k : Nat) (h2 : 2 ≤ k) (h6 : k ≤ 6) : ((16 ^ (k + 1 - 2) : Nat) : Int) = 16 * ((16 ^ (k - 2) : Nat) : Int) ∧ ((16 ^ (k - 2) : Nat) : Int) ≤ 65536 := by
  obtain rfl | rfl | rfl | rfl | rfl : k = 2 ∨ k = 3 ∨ k = 4 ∨ k = 5 ∨ k = 6 := by omega
  all_goals decide
theorem pow10s (k : Nat) (h5 : k ≤ 5) : ((10 ^ (k + 1) : Nat) : Int) = 10 * ((10 ^ k : Nat) : Int) ∧ ((10 ^ k : Nat) : Int) ≤ 100000 := by
  obtain rfl | rfl | rfl | rfl | rfl | rfl : k = 0 ∨ k = 1 ∨ k = 2 ∨ k = 3 ∨ k = 4 ∨ k = 5 := by omega
  all_goals decide
set_option maxRecDepth 100000 in
set_option maxHeartbeats 1600000 in
theorem numHex_any (s : ByteArray) (w : World) (hs : s.size ≤ maxLen) (h2 : 2 < s.size) (hx : s.extract 0 2 = ⟨#[48, 120]⟩) : Calls Tryz.prog 88 #[.string s] w (NumOut s w) := by
  unfold maxLen at hs
  have HR : Hid (numR s = if s.size ≤ 6 then numF 16 (s.data.toList.drop 2) 0 else none) := by show _ = _; unfold numR; rw [if_pos ⟨h2, hx⟩]
  have hxe : ((s.extract 0 2).toList == [48, 120]) = true := by rw [hx, ByteArray.toList_eq]; rfl
  have h2' : (2 : Int) < (s.size : Int) := by omega
  clear hx
  go_enter Tryz.func88, Tryz.ntmps88
  go_wp2
  go_loopw [4, 5] (fun v i wr => ∃ (k : Nat) (n : Int), 2 ≤ k ∧ k ≤ s.size ∧ k ≤ 6 ∧ i = .int .i64 k ∧ v = .int .i64 n ∧ 0 ≤ n ∧ Hid (n < ((16 ^ (k - 2) : Nat) : Int)) ∧ wr = w ∧ Hid (numF 16 (s.data.toList.drop 2) 0 = numF 16 (s.data.toList.drop k) n)) (fun _ i _ => s.size - (intOf i).toNat)
  case atStart => exact ⟨2, 0, by omega, by omega, by omega, rfl, rfl, by omega, by show (0 : Int) < _; decide, rfl, rfl⟩
  case round =>
    obtain ⟨k, n, hk2, hk, hk6, rfl, rfl, hn0, HN1, rfl, HF⟩ := hrel
    clear hxe
    obtain ⟨hp1, hp2⟩ := pow16 k hk2 hk6
    have hn6 : n < 65536 := by have := HN1.out; omega
    have HP : Hid (_ = _) := hp1
    clear hp1 hp2
    by_cases hlt : k < s.size
    · have hi0 : (0 : Int) ≤ (k : Int) := by omega
      have hi1 : (k : Int) < (s.size : Int) := by omega
      have hc0 : (0 : Int) ≤ (s[k].toNat : Int) := by omega
      have hc1 : (s[k].toNat : Int) < 256 := by have := s[k].toNat_lt; omega
      have HY : Hid (∀ d : Int, hexV (s[k].toNat : Int) = d → 0 ≤ d → d < 16 → numF 16 (s.data.toList.drop k) n = numF 16 (s.data.toList.drop (k + 1)) (16 * n + d)) := fun d hd h0 h1 => numF_yes 16 s k n d hlt hd h0 h1
      have HZ : Hid (¬ (0 ≤ hexV (s[k].toNat : Int) ∧ hexV (s[k].toNat : Int) < 16) → numF 16 (s.data.toList.drop k) n = none) := fun h => numF_no 16 s k n hlt h
      have HL : Hid (5 < k → numW s = none) := fun h => by unfold numW; rw [HR.out, if_neg (by omega)]
      have HQ : Hid (numF 16 (s.data.toList.drop k) n = none → numW s = none) := fun h => by
        unfold numW; rw [HR.out]
        split
        · rename_i m hm; split at hm
          · rw [HF.out, h] at hm; cases hm
          · cases hm
        · rfl
      by_cases d1 : 48 ≤ (s[k].toNat : Int) ∧ (s[k].toNat : Int) ≤ 57
      · obtain ⟨d0, d1⟩ := d1
        have HV : Hid (hexV (s[k].toNat : Int) = (s[k].toNat : Int) - 48) := by show _ = _; unfold hexV; rw [if_pos ⟨d0, d1⟩]
        have HI : Hid (isB (s[k].toNat : Int) 48 57 = true) := by show _ = _; simp [isB, d0, d1]
        go_wp2_with fail
        refine (l03Digit_any _ _).mono ?_
        rintro e w1 ⟨rfl, rfl⟩
        rw [HI.out]
        by_cases h5 : 5 < k
        · have h5' : (5 : Int) < (k : Int) := by omega
          go_wp2
          go_ret2
          exact numOut_mk 0 false (HL.out h5) (by omega) (by omega)
        · have h5' : ¬ (5 : Int) < (k : Int) := by omega
          go_wp2
          go_roundw
          case rel =>
            have hb := HN1.out
            have hp := HP.out
            exact ⟨k + 1, 16 * n + ((s[k].toNat : Int) - 48), by omega, by omega, by omega, by go_num, rfl, by omega, by show _ < _; rw [hp]; omega, trivial, HF.out.trans (HY.out _ HV.out (by omega) (by omega))⟩
          case measure => simp [intOf]; omega
      by_cases d2 : 97 ≤ (s[k].toNat : Int) ∧ (s[k].toNat : Int) ≤ 102
      · obtain ⟨d0, d2⟩ := d2
        have HV : Hid (hexV (s[k].toNat : Int) = (s[k].toNat : Int) - 87) := by show _ = _; unfold hexV; rw [if_neg d1, if_pos ⟨d0, d2⟩]
        have HI : Hid (isB (s[k].toNat : Int) 48 57 = false) := by show _ = _; simp [isB]; omega
        clear d1
        go_wp2_with fail
        refine (l03Digit_any _ _).mono ?_
        rintro e w1 ⟨rfl, rfl⟩
        rw [HI.out]
        by_cases h5 : 5 < k
        · have h5' : (5 : Int) < (k : Int) := by omega
          go_wp2
          go_ret2
          exact numOut_mk 0 false (HL.out h5) (by omega) (by omega)
        · have h5' : ¬ (5 : Int) < (k : Int) := by omega
          go_wp2
          go_roundw
          case rel =>
            have hb := HN1.out
            have hp := HP.out
            exact ⟨k + 1, 16 * n + ((s[k].toNat : Int) - 87), by omega, by omega, by omega, by go_num, by go_num, by omega, by show _ < _; rw [hp]; omega, trivial, HF.out.trans (HY.out _ HV.out (by omega) (by omega))⟩
          case measure => simp [intOf]; omega
      · have HI : Hid (isB (s[k].toNat : Int) 48 57 = false) := by show _ = _; simp [isB]; omega
        have HW : Hid (numW s = none) := HQ.out (HZ.out (by unfold hexV; rw [if_neg d1, if_neg d2]; omega))
        have d3 : ¬ 97 ≤ (s[k].toNat : Int) ∨ (97 ≤ (s[k].toNat : Int) ∧ ¬ (s[k].toNat : Int) ≤ 102) := by omega
        clear d1 d2
        rcases d3 with d3 | ⟨d3, d4⟩
        all_goals
          go_wp2_with fail
          refine (l03Digit_any _ _).mono ?_
          rintro e w1 ⟨rfl, rfl⟩
          rw [HI.out]
          go_wp2
          go_ret2
          exact numOut_mk 0 false (HW.out) (by omega) (by omega)
    · have HW : Hid (numW s = some n) := by
        show _ = _
        unfold numW
        rw [HR.out, if_pos (by omega), HF.out, numF_end 16 s k n (by omega)]
        show (if n ≤ 65535 then some n else none) = _
        rw [if_pos (by omega)]
      go_wp2
      go_ret2
      exact numOut_mk n true (HW.out) (by omega) (by omega)
set_option maxRecDepth 100000 in
set_option maxHeartbeats 1600000 in
theorem numDec_any (s : ByteArray) (w : World) (hs : s.size ≤ maxLen) (hx : ¬ (2 < s.size ∧ s.extract 0 2 = ⟨#[48, 120]⟩)) : Calls Tryz.prog 88 #[.string s] w (NumOut s w) := by
  unfold maxLen at hs
  have HR : Hid (numR s = if 1 ≤ s.size ∧ s.size ≤ 5 then numF 10 s.data.toList 0 else none) := by show _ = _; unfold numR; rw [if_neg hx]
  have hx2 : (¬ (2 : Int) < (s.size : Int)) ∨ ((2 : Int) < (s.size : Int) ∧ ((s.extract 0 2).toList == [48, 120]) = false) := by
    by_cases h2 : 2 < s.size
    · refine .inr ⟨by omega, ?_⟩
      rw [beq_eq_false_iff_ne]
      intro e
      apply hx ⟨h2, ?_⟩
      rw [ByteArray.toList_eq] at e
      generalize s.extract 0 2 = t at e
      cases t
      congr 1
      exact Array.toList_inj.1 e
    · exact .inl (by omega)
  clear hx
  by_cases hz : s.size < 1 ∨ 5 < s.size
  · have HW : Hid (numW s = none) := by show _ = _; unfold numW; rw [HR.out, if_neg (by omega)]
    have hz2 : ((s.size : Int) < 1) ∨ (¬ (s.size : Int) < 1 ∧ (5 : Int) < (s.size : Int)) := by omega
    clear hz
    rcases hx2 with hx2 | ⟨hx2, hx3⟩ <;> rcases hz2 with hz2 | ⟨hz2, hz3⟩
    all_goals
      go_enter Tryz.func88, Tryz.ntmps88
      go_wp2
      go_ret2
      exact numOut_mk 0 false (HW.out) (by omega) (by omega)
  have hz1 : ¬ (s.size : Int) < 1 := by omega
  have hz5 : ¬ (5 : Int) < (s.size : Int) := by omega
  rcases hx2 with hx2 | ⟨hx2, hx3⟩
  all_goals
    go_enter Tryz.func88, Tryz.ntmps88
    go_wp2
    go_loopw [4, 6] (fun v i wr => ∃ (k : Nat) (n : Int), k ≤ s.size ∧ i = .int .i64 k ∧ v = .int .i64 n ∧ 0 ≤ n ∧ Hid (n < ((10 ^ k : Nat) : Int)) ∧ wr = w ∧ Hid (numF 10 s.data.toList 0 = numF 10 (s.data.toList.drop k) n)) (fun _ i _ => s.size - (intOf i).toNat)
    case atStart => exact ⟨0, 0, by omega, rfl, rfl, by omega, by show (0 : Int) < _; decide, rfl, rfl⟩
    case round =>
      obtain ⟨k, n, hk, rfl, rfl, hn0, HN1, rfl, HF⟩ := hrel
      obtain ⟨hp1, hp2⟩ := pow10s k (by omega)
      have hn6 : n < 100000 := by have := HN1.out; omega
      have HP : Hid (_ = _) := hp1
      clear hp1 hp2
      by_cases hlt : k < s.size
      · have hi0 : (0 : Int) ≤ (k : Int) := by omega
        have hi1 : (k : Int) < (s.size : Int) := by omega
        have hc0 : (0 : Int) ≤ (s[k].toNat : Int) := by omega
        have hc1 : (s[k].toNat : Int) < 256 := by have := s[k].toNat_lt; omega
        by_cases d1 : 48 ≤ (s[k].toNat : Int) ∧ (s[k].toNat : Int) ≤ 57
        · obtain ⟨d0, d1⟩ := d1
          have HV : Hid (hexV (s[k].toNat : Int) = (s[k].toNat : Int) - 48) := by show _ = _; unfold hexV; rw [if_pos ⟨d0, d1⟩]
          have HI : Hid (isB (s[k].toNat : Int) 48 57 = true) := by show _ = _; simp [isB, d0, d1]
          have HY : Hid (numF 10 (s.data.toList.drop k) n = numF 10 (s.data.toList.drop (k + 1)) (10 * n + ((s[k].toNat : Int) - 48))) := numF_yes 10 s k n _ hlt HV.out (by omega) (by omega)
          go_wp2_with fail
          refine (l03Digit_any _ _).mono ?_
          rintro e w1 ⟨rfl, rfl⟩
          rw [HI.out]
          go_wp2
          go_roundw
          case rel =>
            have hb := HN1.out
            have hp := HP.out
            exact ⟨k + 1, 10 * n + ((s[k].toNat : Int) - 48), by omega, by go_num, rfl, by omega, by show _ < _; rw [hp]; omega, trivial, HF.out.trans HY.out⟩
          case measure => simp [intOf]; omega
        · have HI : Hid (isB (s[k].toNat : Int) 48 57 = false) := by show _ = _; simp [isB]; omega
          have HW : Hid (numW s = none) := by
            show _ = _
            unfold numW
            rw [HR.out, if_pos (by omega), HF.out, numF_no 10 s k n hlt (by unfold hexV; rw [if_neg d1]; split <;> omega)]
          clear d1
          go_wp2_with fail
          refine (l03Digit_any _ _).mono ?_
          rintro e w1 ⟨rfl, rfl⟩
          rw [HI.out]
          go_wp2
          go_ret2
          exact numOut_mk 0 false (HW.out) (by omega) (by omega)
      · have HW : Hid (numW s = if isB n 0 65535 then some n else none) := by
          show _ = _
          unfold numW
          rw [HR.out, if_pos (by omega), HF.out, numF_end 10 s k n (by omega)]
          show (if n ≤ 65535 then some n else none) = _
          by_cases h : n ≤ 65535
          · rw [if_pos h, if_pos (by simp [isB, hn0, h])]
          · rw [if_neg h, if_neg (by simp [isB]; omega)]
        go_wp2_with fail
        refine (l02Word_any n _).mono ?_
        rintro e w1 ⟨rfl, rfl⟩
        go_wp2
        go_ret2
        exact numOut_mk n (isB n 0 65535) (HW.out) (by omega) (by omega)
theorem l03Num_any (s : ByteArray) (w : World) (hs : s.size ≤ maxLen) : Calls Tryz.prog 88 #[.string s] w (NumOut s w) := by
  by_cases h : 2 < s.size ∧ s.extract 0 2 = ⟨#[48, 120]⟩
  · exact numHex_any s w hs h.1 h.2
  · exact numDec_any s w hs h
end Go.Proofs.YtodjccipfonaiaaGreatDoor
