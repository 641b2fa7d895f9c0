/- How instructions are read, by the specification: registers, cuts at a comma, ways of jumps. -/
import Derived.Test.YtodjccipfonaiaaGreatDoorRows
import Derived.WalkKit
import Derived.WalkSpells
import Derived.WalkLawsBesides
import Derived.Outline
import Derived.RegionTactic
import Derived.BigRegion
import Derived.Deep.QuietTactic
import Derived.BigQuiet
import Derived.Deep.RegionHeld3
import Derived.Test.YtodjccipfonaiaaGreatDoorBun0
import Derived.Test.YtodjccipfonaiaaGreatDoorBun1
import Derived.Test.YtodjccipfonaiaaGreatDoorBun16
import Derived.Test.YtodjccipfonaiaaGreatDoorBun14
import Derived.Test.YtodjccipfonaiaaGreatDoorWordRSX
namespace Go.Proofs.YtodjccipfonaiaaGreatDoor
open Go.RowKit
set_option linter.unusedVariables false

def regR (t : ByteArray) : Option Int := if 2 ≤ t.size ∧ t.size ≤ 3 ∧ t.data.toList.head? = some 114 then (match numW (t.extract 1 t.size) with | some n => if n ≤ 15 ∧ digs (Lib.itoa n) = t.extract 1 t.size then some n else none | none => none) else none
theorem text_eqI {s t : ByteArray} (h : s = t) : (s.toList == t.toList) = true := by rw [h]; simp
def RegOut (t : ByteArray) (w : World) (e : Ending) (w' : World) : Prop := ∃ (n : Int) (ok : Bool), e = .returned (.tuple #[.int .i64 n, .bool ok]) ∧ regR t = (if ok then some n else none) ∧ 0 ≤ n ∧ n ≤ 99999 ∧ Below w.heap.size w w'
theorem regOut_mk {t : ByteArray} {w w' : World} (n : Int) (ok : Bool) (h : regR t = (if ok then some n else none)) (h0 : 0 ≤ n) (h1 : n ≤ 99999) (hb : Below w.heap.size w w') : RegOut t w (.returned (.tuple #[.int .i64 n, .bool ok])) w' := ⟨n, ok, rfl, h, h0, h1, hb⟩
theorem head_at (t : ByteArray) (h : 0 < t.size) : t.data.toList.head? = some t[0] := by
  have hd := drop_at t 0 h
  rw [List.drop_zero] at hd
  rw [hd]; rfl
theorem head_is (t : ByteArray) (h : 0 < t.size) (c : UInt8) : t.data.toList.head? = some c ↔ t[0].toNat = c.toNat := by
  rw [head_at t h, Option.some.injEq]
  exact ⟨fun e => by rw [e], fun e => UInt8.toNat_inj.1 e⟩
set_option maxRecDepth 100000 in
set_option maxHeartbeats 1600000 in
theorem l03Reg_any (t : ByteArray) (w : World) (ht : t.size ≤ maxLen) : Calls Tryz.prog 105 #[.string t] w (RegOut t w) := by
  have HM : Hid ((t.extract 1 t.size).size ≤ maxLen) := by show _ ≤ _; rw [ByteArray.size_extract]; omega
  unfold maxLen at ht
  by_cases h2 : t.size < 2
  · have h2' : (t.size : Int) < 2 := by omega
    go_enter Tryz.func105, Tryz.ntmps105
    go_wp2
    go_ret2
    exact regOut_mk 0 false (by unfold regR; rw [if_neg (by omega)]; rfl) (by omega) (by omega) (Below.refl _ _)
  have h2' : ¬ (t.size : Int) < 2 := by omega
  by_cases h3 : 3 < t.size
  · have h3' : (3 : Int) < (t.size : Int) := by omega
    go_enter Tryz.func105, Tryz.ntmps105
    go_wp2
    go_ret2
    exact regOut_mk 0 false (by unfold regR; rw [if_neg (by omega)]; rfl) (by omega) (by omega) (Below.refl _ _)
  have h3' : ¬ (3 : Int) < (t.size : Int) := by omega
  have h0 : 0 < t.size := by omega
  have hh := head_is t h0 114
  by_cases hc : t[0].toNat = 114
  · have e1 : ((t[0].toNat : Int) != 114) = false := by rw [bne_eq_false_iff_eq]; omega
    have HR : Hid (regR t = (match numW (t.extract 1 t.size) with | some n => if n ≤ 15 ∧ digs (Lib.itoa n) = t.extract 1 t.size then some n else none | none => none)) := by show _ = _; unfold regR; rw [if_pos ⟨by omega, by omega, hh.2 hc⟩]
    clear hc hh
    have hi1 : (1 : Int) ≤ (t.size : Int) := by omega
    go_enter Tryz.func105, Tryz.ntmps105
    go_wp2_with fail
    refine (l03Num_any (t.extract 1 t.size) _ HM.out).mono ?_
    rintro e x1 ⟨n, ok, rfl, hN, hn0, hn1, hx⟩
    have hx' := hx.symm
    subst hx'
    clear hx
    have HN : Hid (_ = _) := hN
    clear hN
    cases ok
    · have HQ : Hid (regR t = none) := by show _ = _; rw [HR.out, HN.out]; rfl
      go_wp2_with fail
      go_quiet (fail)
      go_wp2
      go_ret2
      exact regOut_mk n false HQ.out hn0 hn1 (below_drewS (Below.refl _ _) _)
    · by_cases h15 : n ≤ 15
      · have g15 : decide (n ≤ 15) = true := decide_eq_true h15
        cases hd : decide (digs (Lib.itoa n) = t.extract 1 t.size)
        · have hd2 := of_decide_eq_false hd
          have hq := text_ne hd2
          have HQ : Hid (regR t = none) := by show _ = _; rw [HR.out, HN.out]; exact if_neg (fun k => hd2 k.2)
          clear hd hd2
          go_wp2_with fail
          go_region_held3 (fun w' => True) (exact trivial) (first
            | (go_at_call 32; refine (l01Dec_any n _ (by omega) (by omega)).mono ?_; rintro e x2 ⟨rfl, hb⟩; have HB2 : Hid (Below w.heap.size w x2) := below_call (by repeat (first | with_reducible exact Below.refl _ _ | with_reducible refine Below.drew ?_)) hb; clear hb))
          all_goals
            go_wp2
            go_ret2
            exact regOut_mk n false HQ.out hn0 hn1 (by repeat (first | with_reducible exact HB2.out | with_reducible refine Below.drew ?_))
        · have hd2 := of_decide_eq_true hd
          have hq := text_eqI hd2
          have HQ : Hid (regR t = some n) := by show _ = _; rw [HR.out, HN.out]; exact if_pos ⟨h15, hd2⟩
          clear hd hd2
          go_wp2_with fail
          go_region_held3 (fun w' => True) (exact trivial) (first
            | (go_at_call 32; refine (l01Dec_any n _ (by omega) (by omega)).mono ?_; rintro e x2 ⟨rfl, hb⟩; have HB2 : Hid (Below w.heap.size w x2) := below_call (by repeat (first | with_reducible exact Below.refl _ _ | with_reducible refine Below.drew ?_)) hb; clear hb))
          all_goals
            go_wp2
            go_ret2
            exact regOut_mk n true HQ.out hn0 hn1 (by repeat (first | with_reducible exact HB2.out | with_reducible refine Below.drew ?_))
      · have g15 : decide (n ≤ 15) = false := decide_eq_false h15
        have HQ : Hid (regR t = none) := by show _ = _; rw [HR.out, HN.out]; exact if_neg (fun k => h15 k.1)
        go_wp2_with fail
        go_quiet (fail)
        go_wp2
        go_ret2
        exact regOut_mk n false HQ.out hn0 hn1 (below_drewS (Below.refl _ _) _)
  · have e1 : ((t[0].toNat : Int) != 114) = true := by rw [bne_iff_ne]; omega
    have HR : Hid (regR t = none) := by show _ = _; unfold regR; rw [if_neg (fun k => hc (hh.1 k.2.2))]
    clear hc hh
    go_enter Tryz.func105, Tryz.ntmps105
    go_wp2
    go_ret2
    exact regOut_mk 0 false HR.out (by omega) (by omega) (Below.refl _ _)
end Go.Proofs.YtodjccipfonaiaaGreatDoor
namespace Go.Proofs.YtodjccipfonaiaaGreatDoor
open Go.RowKit
set_option linter.unusedVariables false

/- Where a byte stands first; behind all, if nowhere. -/
def idxL (c : Nat) : List UInt8 → Nat
  | [] => 0
  | x :: L => if x.toNat = c then 0 else idxL c L + 1
def idxI (c : Nat) (s : ByteArray) : Nat := idxL c s.data.toList
theorem idx_step (c : Nat) (s : ByteArray) (k : Nat) (h : k < s.size) (hc : ¬ s[k].toNat = c) : idxL c (s.data.toList.drop k) = idxL c (s.data.toList.drop (k + 1)) + 1 := by
  rw [drop_at s k h]
  show (if s[k].toNat = c then 0 else idxL c _ + 1) = _
  rw [if_neg hc]
theorem idx_here (c : Nat) (s : ByteArray) (k : Nat) (h : k < s.size) (hc : s[k].toNat = c) : idxL c (s.data.toList.drop k) = 0 := by
  rw [drop_at s k h]
  show (if s[k].toNat = c then 0 else idxL c _ + 1) = _
  rw [if_pos hc]
theorem idx_end (c : Nat) (s : ByteArray) (k : Nat) (h : s.size ≤ k) : idxL c (s.data.toList.drop k) = 0 := by
  rw [List.drop_of_length_le (by simpa using h)]; rfl
def noBlank (r : ByteArray) : ByteArray := if r.data.toList.head? = some 32 then r.extract 1 r.size else r
def splitR (t : ByteArray) : ByteArray × ByteArray × Bool := if idxI 44 t < t.size then (t.extract 0 (idxI 44 t), noBlank (t.extract (idxI 44 t + 1) t.size), true) else (t, ⟨#[]⟩, false)
def SplitOut (t : ByteArray) (w : World) (e : Ending) (w' : World) : Prop := ∃ a b two, e = .returned (.tuple #[.string a, .string b, .bool two]) ∧ splitR t = (a, b, two) ∧ w' = w
set_option maxRecDepth 100000 in
set_option maxHeartbeats 1600000 in
theorem l03Split_any (t : ByteArray) (w : World) (ht : t.size ≤ maxLen) : Calls Tryz.prog 84 #[.string t] w (SplitOut t w) := by
  unfold maxLen at ht
  go_enter Tryz.func84, Tryz.ntmps84
  go_wp2
  go_loopw [5] (fun i wr => ∃ k : Nat, k ≤ t.size ∧ i = .int .i64 k ∧ Hid (wr = w) ∧ Hid (idxI 44 t = k + idxL 44 (t.data.toList.drop k))) (fun i _ => t.size - (intOf i).toNat)
  case atStart => exact ⟨0, by omega, rfl, rfl, by show _ = _; simp [idxI]⟩
  case round =>
    obtain ⟨k, hk, rfl, HW, HI⟩ := hrel
    have hw := HW.out
    subst hw
    by_cases hlt : k < t.size
    · have hi0 : (0 : Int) ≤ (k : Int) := by omega
      have hi1 : (k : Int) < (t.size : Int) := by omega
      by_cases hc : t[k].toNat = 44
      · have e1 : ((t[k].toNat : Int) == 44) = true := by rw [beq_iff_eq]; omega
        have HK : Hid (idxI 44 t = k) := by show _ = _; rw [HI.out, idx_here 44 t k hlt hc]; rfl
        clear hc
        have hi2 : (k : Int) + 1 ≤ (t.size : Int) := by omega
        by_cases hr : t.extract (k + 1) t.size = ⟨#[]⟩
        · have h1 : ((t.extract (k + 1) t.size).toList == []) = true := by rw [hr, ByteArray.toList_eq]; rfl
          have HS : Hid (splitR t = (t.extract 0 k, t.extract (k + 1) t.size, true)) := by
            show _ = _; unfold splitR; have hk2 := HK.out; rw [if_pos (by omega), hk2]; unfold noBlank; rw [hr, if_neg (by simp)]
          clear hr
          go_wp2
          exact bodyPost_ret (results3 Tryz.results84 _ _ _) rfl ⟨_, _, _, rfl, HS.out, rfl⟩
        · have hs0 : 0 < (t.extract (k + 1) t.size).size := by
            rcases Nat.eq_zero_or_pos (t.extract (k + 1) t.size).size with h | h
            · exact absurd (ByteArray.ext (Array.eq_empty_of_size_eq_zero h)) hr
            · exact h
          have h1 : (t.extract (k + 1) t.size).toList.isEmpty = false := by
            have h := text_no [] hr
            rw [← h]; cases (t.extract (k + 1) t.size).toList <;> rfl
          have hh := head_is (t.extract (k + 1) t.size) hs0 32
          have HS0 : Hid (splitR t = (t.extract 0 k, noBlank (t.extract (k + 1) t.size), true)) := by
            show _ = _; unfold splitR; have hk2 := HK.out; rw [if_pos (by omega), hk2]
          have hsz : (t.extract (k + 1) t.size).size = t.size - (k + 1) := by rw [ByteArray.size_extract]; omega
          have hj0 : (0 : Int) < ((t.size - (k + 1) : Nat) : Int) := by omega
          have hj1 : (1 : Int) ≤ ((t.size - (k + 1) : Nat) : Int) := by omega
          clear hr
          by_cases hb : (t.extract (k + 1) t.size)[0].toNat = 32
          · have e2 : (((t.extract (k + 1) t.size)[0].toNat : Int) == 32) = true := by rw [beq_iff_eq]; omega
            have HS : Hid (splitR t = (t.extract 0 k, (t.extract (k + 1) t.size).extract 1 (t.size - (k + 1)), true)) := by show _ = _; rw [HS0.out]; unfold noBlank; rw [if_pos (hh.2 hb), hsz]
            clear hb hh hsz
            go_wp2
            exact bodyPost_ret (results3 Tryz.results84 _ _ _) rfl ⟨_, _, _, rfl, HS.out, rfl⟩
          · have e2 : (((t.extract (k + 1) t.size)[0].toNat : Int) == 32) = false := by rw [beq_eq_false_iff_ne]; omega
            have HS : Hid (splitR t = (t.extract 0 k, t.extract (k + 1) t.size, true)) := by show _ = _; rw [HS0.out]; unfold noBlank; rw [if_neg (fun h => hb (hh.1 h))]
            clear hb hh hsz
            go_wp2
            exact bodyPost_ret (results3 Tryz.results84 _ _ _) rfl ⟨_, _, _, rfl, HS.out, rfl⟩
      · have e1 : ((t[k].toNat : Int) == 44) = false := by rw [beq_eq_false_iff_ne]; omega
        have HJ : Hid (_ = _) := idx_step 44 t k hlt hc
        clear hc
        go_wp2
        go_roundw
        case rel => exact ⟨k + 1, by omega, by go_num, trivial, by show _ = _; have h1 := HI.out; have h2 := HJ.out; omega⟩
        case measure => simp [intOf]; omega
    · have HS : Hid (splitR t = (t, ⟨#[]⟩, false)) := by
        show _ = _; unfold splitR; have h1 := HI.out; rw [idx_end 44 t k (by omega)] at h1; rw [if_neg (by omega)]
      go_wp2
      exact bodyPost_ret (results3 Tryz.results84 _ _ _) rfl ⟨_, _, _, rfl, HS.out, rfl⟩
theorem tdiv2 (x : Int) (h0 : -200000 ≤ x) (h1 : x ≤ 200000) : -100000 ≤ x.tdiv 2 ∧ x.tdiv 2 ≤ 100000 := by
  by_cases h : 0 ≤ x
  · rw [Int.tdiv_eq_ediv_of_nonneg h]; omega
  · have e : x = -(-x) := by omega
    rw [e, Int.neg_tdiv, Int.tdiv_eq_ediv_of_nonneg (by omega)]; omega
/- Where a jump goes. -/
def jumpR (t : ByteArray) : Option Int := if h : 3 ≤ t.size then (if t[0].toNat = 36 ∧ (t[1].toNat = 43 ∨ t[1].toNat = 45) then (match numW (t.extract 2 t.size) with | some n => if n % 2 = 0 then some ((signed t[1].toNat n - 2).tdiv 2) else none | none => none) else none) else none
def JumpOut (t : ByteArray) (w : World) (e : Ending) (w' : World) : Prop := ∃ (n : Int) (ok : Bool), e = .returned (.tuple #[.int .i64 n, .bool ok]) ∧ jumpR t = (if ok then some n else none) ∧ -100000 ≤ n ∧ n ≤ 100000 ∧ w' = w
set_option maxRecDepth 100000 in
set_option maxHeartbeats 1600000 in
theorem l03Jump_any (t : ByteArray) (w : World) (ht : t.size ≤ maxLen) : Calls Tryz.prog 86 #[.string t] w (JumpOut t w) := by
  have HM : Hid ((t.extract 2 t.size).size ≤ maxLen) := by show _ ≤ _; rw [ByteArray.size_extract]; omega
  unfold maxLen at ht
  by_cases h3 : 3 ≤ t.size
  · have h3' : ¬ (t.size : Int) < 3 := by omega
    have hi0 : (0 : Int) < (t.size : Int) := by omega
    have hi1 : (1 : Int) < (t.size : Int) := by omega
    have hi2 : (2 : Int) ≤ (t.size : Int) := by omega
    by_cases hc : t[0].toNat = 36
    · have e0 : ((t[0].toNat : Int) != 36) = false := by rw [bne_eq_false_iff_eq]; omega
      by_cases hs : t[1].toNat = 43 ∨ t[1].toNat = 45
      · have HR : Hid (jumpR t = (match numW (t.extract 2 t.size) with | some n => if n % 2 = 0 then some ((signed t[1].toNat n - 2).tdiv 2) else none | none => none)) := by
          show _ = _; unfold jumpR; rw [dif_pos h3, if_pos ⟨hc, hs⟩]
        clear hc
        rcases hs with hs | hs
        · have e1 : ((t[1].toNat : Int) != 43) = false := by rw [bne_eq_false_iff_eq]; omega
          have e3 : ((t[1].toNat : Int) == 45) = false := by rw [beq_eq_false_iff_ne]; omega
          have HG : Hid (∀ n, signed t[1].toNat n = n) := fun n => by unfold signed; rw [if_neg (by omega)]
          clear hs
          go_enter Tryz.func86, Tryz.ntmps86
          go_wp2_with fail
          refine (l03Num_any (t.extract 2 t.size) _ HM.out).mono ?_
          rintro e x1 ⟨n, ok, rfl, hN, hn0, hn1, hx⟩
          have hx' := hx.symm
          subst hx'
          clear hx
          have HN : Hid (_ = _) := hN
          clear hN
          cases ok
          · have HQ : Hid (jumpR t = none) := by show _ = _; rw [HR.out, HN.out]; rfl
            go_wp2
            go_ret2
            exact ⟨_, _, rfl, HQ.out, (tdiv2 _ (by omega) (by omega)).1, (tdiv2 _ (by omega) (by omega)).2, rfl⟩
          · have HQ : Hid (jumpR t = if n % 2 = 0 then some ((n - 2).tdiv 2) else none) := by show _ = _; rw [HR.out, HN.out]; show (if n % 2 = 0 then some ((signed t[1].toNat n - 2).tdiv 2) else none) = _; rw [HG.out]
            by_cases hm : n % 2 = 0
            · have e5 : (n % 2 == 0) = true := by rw [beq_iff_eq]; exact hm
              go_wp2
              go_ret2
              exact ⟨_, _, rfl, by rw [HQ.out, if_pos hm]; rfl, (tdiv2 _ (by omega) (by omega)).1, (tdiv2 _ (by omega) (by omega)).2, rfl⟩
            · have e5 : (n % 2 == 0) = false := by rw [beq_eq_false_iff_ne]; exact hm
              go_wp2
              go_ret2
              exact ⟨_, _, rfl, by rw [HQ.out, if_neg hm]; rfl, (tdiv2 _ (by omega) (by omega)).1, (tdiv2 _ (by omega) (by omega)).2, rfl⟩
        · have e1 : ((t[1].toNat : Int) != 43) = true := by rw [bne_iff_ne]; omega
          have e2 : ((t[1].toNat : Int) != 45) = false := by rw [bne_eq_false_iff_eq]; omega
          have e3 : ((t[1].toNat : Int) == 45) = true := by rw [beq_iff_eq]; omega
          have HG : Hid (∀ n, signed t[1].toNat n = -n) := fun n => by unfold signed; rw [if_pos (by omega)]
          clear hs
          go_enter Tryz.func86, Tryz.ntmps86
          go_wp2_with fail
          refine (l03Num_any (t.extract 2 t.size) _ HM.out).mono ?_
          rintro e x1 ⟨n, ok, rfl, hN, hn0, hn1, hx⟩
          have hx' := hx.symm
          subst hx'
          clear hx
          have HN : Hid (_ = _) := hN
          clear hN
          cases ok
          · have HQ : Hid (jumpR t = none) := by show _ = _; rw [HR.out, HN.out]; rfl
            go_wp2
            go_ret2
            exact ⟨_, _, rfl, HQ.out, (tdiv2 _ (by omega) (by omega)).1, (tdiv2 _ (by omega) (by omega)).2, rfl⟩
          · have HQ : Hid (jumpR t = if n % 2 = 0 then some ((-n - 2).tdiv 2) else none) := by show _ = _; rw [HR.out, HN.out]; show (if n % 2 = 0 then some ((signed t[1].toNat n - 2).tdiv 2) else none) = _; rw [HG.out]
            by_cases hm : n % 2 = 0
            · have e5 : (-(n % 2) == 0) = true := by rw [beq_iff_eq]; omega
              go_wp2
              go_ret2
              exact ⟨_, _, rfl, by rw [HQ.out, if_pos hm]; rfl, (tdiv2 _ (by omega) (by omega)).1, (tdiv2 _ (by omega) (by omega)).2, rfl⟩
            · have e5 : (-(n % 2) == 0) = false := by rw [beq_eq_false_iff_ne]; omega
              go_wp2
              go_ret2
              exact ⟨_, _, rfl, by rw [HQ.out, if_neg hm]; rfl, (tdiv2 _ (by omega) (by omega)).1, (tdiv2 _ (by omega) (by omega)).2, rfl⟩
      · have e1 : ((t[1].toNat : Int) != 43) = true := by rw [bne_iff_ne]; omega
        have e2 : ((t[1].toNat : Int) != 45) = true := by rw [bne_iff_ne]; omega
        have HR : Hid (jumpR t = none) := by show _ = _; unfold jumpR; rw [dif_pos h3, if_neg (fun k => hs k.2)]
        clear hc hs
        go_enter Tryz.func86, Tryz.ntmps86
        go_wp2
        go_ret2
        exact ⟨_, _, rfl, HR.out, by omega, by omega, rfl⟩
    · have e0 : ((t[0].toNat : Int) != 36) = true := by rw [bne_iff_ne]; omega
      have HR : Hid (jumpR t = none) := by show _ = _; unfold jumpR; rw [dif_pos h3, if_neg (fun k => hc k.1)]
      clear hc
      go_enter Tryz.func86, Tryz.ntmps86
      go_wp2
      go_ret2
      exact ⟨_, _, rfl, HR.out, by omega, by omega, rfl⟩
  · have h3' : (t.size : Int) < 3 := by omega
    go_enter Tryz.func86, Tryz.ntmps86
    go_wp2
    go_ret2
    exact ⟨_, _, rfl, by unfold jumpR; rw [dif_neg h3]; rfl, by omega, by omega, rfl⟩
end Go.Proofs.YtodjccipfonaiaaGreatDoor
