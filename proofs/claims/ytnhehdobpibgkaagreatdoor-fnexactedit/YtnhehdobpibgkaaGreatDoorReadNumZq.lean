/- The walk of readNum: a loop of goto. -/
import Derived.Test.YtnhehdobpibgkaaGreatDoorRows
import Derived.WalkKit
import Derived.WalkSpells
import Derived.WalkLawsBesides
import Derived.Test.YtnhehdobpibgkaaGreatDoorBun0
import Derived.Test.YtnhehdobpibgkaaGreatDoorBun8
import Derived.Test.YtnhehdobpibgkaaGreatDoorBun9
namespace Go.Proofs.YtnhehdobpibgkaaGreatDoor
open Go.RowKit

def AtMore (s : ByteArray) (p : Nat) (a : Act) : Prop := ∃ (k U : Nat) (A M : Int) (u8 u10 u11 u12 u13 u14 u15 u16 u17 u18 u19 u20 u21 u22 u23 u24 u25 u26 u27 u28 u29 u30 u31 u32 u33 u34 u35 u36 u37 u38 u39 u40 u41 u42 u43 u44 u45 u46 u47 u48 u49 u50 u51 u52 u53 u54 : Value), a = { tmps := #[.string s, .int .i64 A, undef, undef, .int .i64 0, .int .i64 0, .nilIface, .int .u64 (U : Int), u8, .int .i64 M, u10, u11, u12, u13, u14, u15, u16, u17, u18, u19, u20, u21, u22, u23, u24, u25, u26, u27, u28, u29, u30, u31, u32, u33, u34, u35, u36, u37, u38, u39, u40, u41, u42, u43, u44, u45, u46, u47, u48, u49, u50, u51, u52, u53, u54], defers := [] } ∧ A = (p : Int) + k ∧ M = (k : Int) ∧ k ≤ 9 ∧ Hid (U < 2 ^ (7 * k)) ∧ Hid (rdF s p (10 - k) k U = rdF s p 10 0 0)
def AtWrong (s : ByteArray) (p : Nat) (a : Act) : Prop := ∃ (u0 u1 u2 u3 u4 u5 u6 u7 u8 u9 u10 u11 u12 u13 u14 u15 u16 u17 u18 u19 u20 u21 u22 u23 u24 u25 u26 u27 u28 u29 u30 u31 u32 u33 u34 u35 u36 u37 u38 u39 u40 u41 u42 u43 u44 u45 u46 u47 u48 u49 u50 u51 u52 u53 u54 : Value), a = { tmps := #[u0, u1, u2, u3, u4, u5, u6, u7, u8, u9, u10, u11, u12, u13, u14, u15, u16, u17, u18, u19, u20, u21, u22, u23, u24, u25, u26, u27, u28, u29, u30, u31, u32, u33, u34, u35, u36, u37, u38, u39, u40, u41, u42, u43, u44, u45, u46, u47, u48, u49, u50, u51, u52, u53, u54], defers := [] } ∧ Hid (rdF s p 10 0 0 = (0, 0, 3))
def AtLast (s : ByteArray) (p : Nat) (a : Act) : Prop := ∃ (k V c : Nat) (A M : Int) (u0 u2 u3 u4 u5 u6 u10 u11 u12 u13 u14 u15 u16 u17 u18 u19 u20 u21 u22 u23 u24 u25 u26 u27 u28 u29 u30 u31 u32 u33 u34 u35 u36 u37 u38 u39 u40 u41 u42 u43 u44 u45 u46 u47 u48 u49 u50 u51 u52 u53 u54 : Value), a = { tmps := #[u0, .int .i64 A, u2, u3, u4, u5, u6, .int .u64 (V : Int), .int .u8 (c : Int), .int .i64 M, u10, u11, u12, u13, u14, u15, u16, u17, u18, u19, u20, u21, u22, u23, u24, u25, u26, u27, u28, u29, u30, u31, u32, u33, u34, u35, u36, u37, u38, u39, u40, u41, u42, u43, u44, u45, u46, u47, u48, u49, u50, u51, u52, u53, u54], defers := [] } ∧ A = (p : Int) + k + 1 ∧ M = (k : Int) + 1 ∧ k ≤ 9 ∧ c < 128 ∧ Hid (V < 18446744073709551616) ∧ p + k < 8000 ∧
    Hid (c = 0 ∧ 0 < k → rdF s p 10 0 0 = (0, 0, 3)) ∧ Hid (¬ (c = 0 ∧ 0 < k) → rdF s p 10 0 0 = (unf V, (p : Int) + k + 1, 0))
def AtJump (s : ByteArray) (p : Nat) (w : World) (l : Nat) (a : Act) (w' : World) : Prop := w' = w ∧ ((l = 0 ∧ AtMore s p a) ∨ (l = 1 ∧ AtWrong s p a) ∨ (l = 2 ∧ AtLast s p a))
def meas (l : Nat) (a : Act) : Nat := if l = 0 then 20 - (intOf (a.tmps.getD 9 undef)).toNat else if l = 2 then 1 else 0

theorem and127u8 (c : Nat) (h : c < 256) : bits BinOp.and IntKind.u8 (c : Int) 127 = ((c % 128 : Nat) : Int) := by
  have := u8_and_nat c 127 h (by omega)
  rw [nat_mask7] at this; exact this
theorem or_k {U c k : Nat} (hu : U < 2 ^ (7 * k)) (hc : c < 256) (hk : k ≤ 9) (h9 : k = 9 → c ≤ 1) :
    bits BinOp.or IntKind.u64 (U : Int) (IntKind.u64.wrap (IntKind.u64.wrap (bits BinOp.and IntKind.u8 (c : Int) 127) * 2 ^ (7 * k))) = ((U + c % 128 * 2 ^ (7 * k) : Nat) : Int) := by
  have h := small_step (c := c) hu hk h9
  have hp := pow63 hk
  rw [and127u8 c hc]
  have e1 : IntKind.u64.wrap ((c % 128 : Nat) : Int) = ((c % 128 : Nat) : Int) := by rw [IntKind.wrap_u64]; omega
  rw [e1]
  have e2 : ((c % 128 : Nat) : Int) * 2 ^ (7 * k) = ((c % 128 * 2 ^ (7 * k) : Nat) : Int) := by simp
  rw [e2, IntKind.wrap_u64]
  have e3 : ((c % 128 * 2 ^ (7 * k) : Nat) : Int) % 18446744073709551616 = ((c % 128 * 2 ^ (7 * k) : Nat) : Int) := by omega
  rw [e3, u64_or_nat U _ (by omega) h.2, join_or hu]
theorem or_9 {U c : Nat} (hu : U < 2 ^ (7 * 9)) (hc : c ≤ 1) :
    bits BinOp.or IntKind.u64 (U : Int) (IntKind.u64.wrap (IntKind.u64.wrap (bits BinOp.and IntKind.u8 (c : Int) 127) * 9223372036854775808)) = ((U + c % 128 * 2 ^ (7 * 9) : Nat) : Int) :=
  or_k (k := 9) hu (by omega) (by omega) (fun _ => hc)
theorem ret3 {x : Int × Int × Int} {a b : Int} {c : Int} (h : x = (a, b, c)) : Ending.returned (.tuple #[.int .i64 a, .int .i64 b, errV c]) = .returned (.tuple #[.int .i64 x.1, .int .i64 x.2.1, errV x.2.2]) := by rw [h]

theorem or_0 {c : Nat} (hc : c < 256) : bits BinOp.or IntKind.u64 0 (IntKind.u64.wrap (IntKind.u64.wrap (bits BinOp.and IntKind.u8 (c : Int) 127))) = ((0 + c % 128 * 2 ^ (7 * 0) : Nat) : Int) := by
  have h := or_k (U := 0) (c := c) (k := 0) (by decide) hc (by omega) (by omega)
  simpa using h
/- what unfoldSign answers -/
set_option maxHeartbeats 400000 in
theorem unfoldSign_any (V : Nat) (w : World) (hV : V < 18446744073709551616) :
    Calls Tryz.prog 78 #[.int .u64 (V : Int)] w fun e w' => e = .returned (.int .i64 (unf V)) ∧ w' = w := by
  have ha : bits BinOp.and IntKind.u64 (V : Int) 1 = ((V % 2 : Nat) : Int) := by
    have := u64_and_nat V 1 hV (by omega)
    rw [nat_mask1] at this; exact this
  have HA : Hid (_ = _) := ha
  by_cases ho : V % 2 = 1
  · have HO : Hid (_ = _) := unf_odd ho
    have ht : (bits BinOp.and IntKind.u64 (V : Int) 1 == 1) = true := by rw [ha, beq_iff_eq]; omega
    have HN : Hid (bits BinOp.xor IntKind.i64 (-1) ((V : Int) / 2) = -((V : Int) / 2) - 1) := by
      show _ = _
      have := not_i64 (V / 2) (by omega)
      rw [show ((V : Int) / 2) = ((V / 2 : Nat) : Int) by omega, this]; omega
    clear ha ho
    go_enter Tryz.func78, Tryz.ntmps78
    go_wp2
    go_ret
    exact ⟨by rw [HO.out, ← HN.out]; rfl, rfl⟩
  · have HO : Hid (_ = _) := unf_even ho
    have ht : (bits BinOp.and IntKind.u64 (V : Int) 1 == 1) = false := by rw [ha, beq_eq_false_iff_ne]; omega
    clear ha ho
    go_enter Tryz.func78, Tryz.ntmps78
    go_wp2
    go_ret
    exact ⟨by rw [HO.out]; rfl, rfl⟩

set_option maxRecDepth 100000 in
set_option maxHeartbeats 2000000 in
theorem readNum_in (s : ByteArray) (p : Nat) (w : World) (hs : s.size ≤ 8000) (hp : p < s.size) :
    Calls Tryz.prog 65 #[.string s, .int .i64 (p : Int)] w fun e w' => e = .returned (.tuple #[.int .i64 (rdF s p 10 0 0).1, .int .i64 (rdF s p 10 0 0).2.1, errV (rdF s p 10 0 0).2.2]) ∧ w' = w := by
  go_enter Tryz.func65, Tryz.ntmps65
  go_wp2
  refine wp_scope_gotos (AtJump s p w) (fun l a _ => meas l a) ?_ ?_
  · have hc : s[p].toNat < 256 := s[p].toNat_lt
    have hin : p + 0 < s.size := by omega
    have hsum := or_0 hc
    have HV : Hid (_) := step_lt (u := 0) (c := s[p].toNat) (i := 0) (by decide)
    have HM : Hid (128 ≤ s[p].toNat → _ = _) := fun h => (rdF_more (s := s) (p := p) (f := 9) (i := 0) (u := 0) hin h (by omega)).symm
    have HL : Hid (s[p].toNat < 128 → _ = _) := fun h => rdF_last (s := s) (p := p) (f := 9) (i := 0) (u := 0) hin h (by omega) (by omega)
    simp only [Nat.add_zero] at HM HL
    generalize 0 + s[p].toNat % 128 * 2 ^ (7 * 0) = V at hsum HV HM HL
    go_wp2
    go_step3
    by_cases h128 : 128 ≤ s[p].toNat
    · go_wp2
      go_step3
      exact ⟨rfl, Or.inl ⟨rfl, 1, V, _, _, _, _, _, _, _, _, _, _, _, _, _, _, _, _, _, _, _, _, _, _, _, _, _, _, _, _, _, _, _, _, _, _, _, _, _, _, _, _, _, _, _, _, _, _, _, _, rfl, by omega, by omega, by omega, HV.out, HM.out h128⟩⟩
    · go_wp2
      go_step3
      exact ⟨rfl, Or.inr (Or.inr ⟨rfl, 0, V, s[p].toNat, _, _, _, _, _, _, _, _, _, _, _, _, _, _, _, _, _, _, _, _, _, _, _, _, _, _, _, _, _, _, _, _, _, _, _, _, _, _, _, _, _, _, _, _, _, _, _, _, _, _, _, _, _, rfl, by omega, by omega, by omega, by omega, by have := HV.out; simp at this; show _ < _; omega, by omega, fun h => absurd h.2 (by omega), fun _ => (HL.out (by omega)).trans (by simp)⟩)⟩
  · rintro l a w' ⟨rfl, hJ⟩
    rcases hJ with ⟨rfl, hJ⟩ | ⟨rfl, hJ⟩ | ⟨rfl, hJ⟩
    · obtain ⟨k, U, A, M, u8, u10, u11, u12, u13, u14, u15, u16, u17, u18, u19, u20, u21, u22, u23, u24, u25, u26, u27, u28, u29, u30, u31, u32, u33, u34, u35, u36, u37, u38, u39, u40, u41, u42, u43, u44, u45, u46, u47, u48, u49, u50, u51, u52, u53, u54, rfl, rfl, rfl, hk, HU, HE⟩ := hJ
      refine ⟨_, rfl, ?_⟩
      have HS : Hid (10 - k = (9 - k) + 1) := by show _ = _; omega
      by_cases hin : p + k < s.size
      · have hc : s[p + k].toNat < 256 := s[p + k].toNat_lt
        by_cases hk9 : k = 9
        · subst hk9
          by_cases h1 : 1 < s[p + 9].toNat
          · have HF : Hid (_ = _) := HE.out.symm.trans (rdF_wrong hin rfl h1)
            go_wp2
            go_step3
            exact ⟨⟨rfl, Or.inr (Or.inl ⟨rfl, _, _, _, _, _, _, _, _, _, _, _, _, _, _, _, _, _, _, _, _, _, _, _, _, _, _, _, _, _, _, _, _, _, _, _, _, _, _, _, _, _, _, _, _, _, _, _, _, _, _, _, _, _, _, _, rfl, HF.out⟩)⟩, by simp [meas, intOf]⟩
          · have hsum := or_9 (c := s[p + 9].toNat) HU.out (by omega)
            have HV : Hid (_) := (small_step (c := s[p + 9].toNat) HU.out (by omega) (by omega)).1
            have HZ : Hid (s[p + 9].toNat = 0 ∧ 0 < 9 → _) := fun h => HE.out.symm.trans (rdF_zero hin h.1 h.2)
            have HL : Hid (¬ (s[p + 9].toNat = 0 ∧ 0 < 9) → _) := fun h => HE.out.symm.trans (rdF_last (f := 0) hin (by omega) (by omega) h)
            generalize U + s[p + 9].toNat % 128 * 2 ^ (7 * 9) = V at hsum HV HL
            go_wp2
            go_step3
            exact ⟨⟨rfl, Or.inr (Or.inr ⟨rfl, 9, V, s[p + 9].toNat, _, _, _, _, _, _, _, _, _, _, _, _, _, _, _, _, _, _, _, _, _, _, _, _, _, _, _, _, _, _, _, _, _, _, _, _, _, _, _, _, _, _, _, _, _, _, _, _, _, _, _, _, _, rfl, by omega, by omega, by omega, by omega, HV.out, by omega, HZ.out, HL.out⟩)⟩, by simp [meas, intOf]⟩
        · have hk8 : k < 9 := by omega
          have hkb : ((k : Int) + 1 == 10) = false := by rw [beq_eq_false_iff_ne]; omega
          have hsum := or_k (c := s[p + k].toNat) HU.out hc hk (by omega)
          have HV : Hid (_) := step_lt (c := s[p + k].toNat) HU.out
          have HV2 : Hid (_) := (small_step (c := s[p + k].toNat) HU.out hk (by omega)).1
          have HZ : Hid (s[p + k].toNat = 0 ∧ 0 < k → _) := fun h => HE.out.symm.trans ((congrArg (fun f => rdF s p f k U) HS.out).trans (rdF_zero hin h.1 h.2))
          have HL : Hid (s[p + k].toNat < 128 → ¬ (s[p + k].toNat = 0 ∧ 0 < k) → _) := fun h1 h => HE.out.symm.trans ((congrArg (fun f => rdF s p f k U) HS.out).trans (rdF_last hin h1 (by omega) h))
          have HM : Hid (128 ≤ s[p + k].toNat → _) := fun h => HE.out.symm.trans ((congrArg (fun f => rdF s p f k U) HS.out).trans (rdF_more hin h hk9))
          have HT : Hid (9 - k = 10 - (k + 1)) := by show _ = _; omega
          generalize U + s[p + k].toNat % 128 * 2 ^ (7 * k) = V at hsum HV HV2 HL HM
          clear hk9
          by_cases h128 : 128 ≤ s[p + k].toNat
          · go_wp2
            go_step3
            exact ⟨⟨rfl, Or.inl ⟨rfl, k + 1, V, _, _, _, _, _, _, _, _, _, _, _, _, _, _, _, _, _, _, _, _, _, _, _, _, _, _, _, _, _, _, _, _, _, _, _, _, _, _, _, _, _, _, _, _, _, _, _, _, rfl, by omega, by omega, by omega, HV.out, (by rw [← HT.out]; exact (HM.out h128).symm)⟩⟩, by simp [meas, intOf]; omega⟩
          · go_wp2
            go_step3
            exact ⟨⟨rfl, Or.inr (Or.inr ⟨rfl, k, V, s[p + k].toNat, _, _, _, _, _, _, _, _, _, _, _, _, _, _, _, _, _, _, _, _, _, _, _, _, _, _, _, _, _, _, _, _, _, _, _, _, _, _, _, _, _, _, _, _, _, _, _, _, _, _, _, _, _, rfl, by omega, by omega, by omega, by omega, HV2.out, by omega, HZ.out, HL.out (by omega)⟩)⟩, by simp [meas, intOf]; omega⟩
      · have h := HE.out
        rw [HS.out, rdF_short hin] at h
        have HF : Hid (_ = _) := h.symm
        clear h
        go_wp2
        simp only [jumps]
        go_ret3
        exact ⟨ret3 HF.out, rfl⟩
    · obtain ⟨u0, u1, u2, u3, u4, u5, u6, u7, u8, u9, u10, u11, u12, u13, u14, u15, u16, u17, u18, u19, u20, u21, u22, u23, u24, u25, u26, u27, u28, u29, u30, u31, u32, u33, u34, u35, u36, u37, u38, u39, u40, u41, u42, u43, u44, u45, u46, u47, u48, u49, u50, u51, u52, u53, u54, rfl, HF⟩ := hJ
      refine ⟨_, rfl, ?_⟩
      go_wp2
      simp only [jumps]
      go_ret3
      exact ⟨ret3 HF.out, rfl⟩
    · obtain ⟨k, V, c, A, M, u0, u2, u3, u4, u5, u6, u10, u11, u12, u13, u14, u15, u16, u17, u18, u19, u20, u21, u22, u23, u24, u25, u26, u27, u28, u29, u30, u31, u32, u33, u34, u35, u36, u37, u38, u39, u40, u41, u42, u43, u44, u45, u46, u47, u48, u49, u50, u51, u52, u53, u54, rfl, rfl, rfl, hk, hc, HV, hpk, HZ, HL⟩ := hJ
      refine ⟨_, rfl, ?_⟩
      by_cases hz : c = 0 ∧ 0 < k
      · have HF : Hid (_ = _) := HZ.out hz
        obtain ⟨rfl, hk0⟩ := hz
        go_wp2
        go_step3
        exact ⟨⟨rfl, Or.inr (Or.inl ⟨rfl, _, _, _, _, _, _, _, _, _, _, _, _, _, _, _, _, _, _, _, _, _, _, _, _, _, _, _, _, _, _, _, _, _, _, _, _, _, _, _, _, _, _, _, _, _, _, _, _, _, _, _, _, _, _, _, rfl, HF.out⟩)⟩, by simp [meas]⟩
      · have HF : Hid (_ = _) := HL.out hz
        have hV := HV.out
        by_cases hc0 : c = 0
        · obtain rfl : k = 0 := by omega
          subst hc0
          go_wp2_with fail
          refine (unfoldSign_any V _ hV).mono ?_
          rintro e w2 ⟨rfl, rfl⟩
          go_wp2
          simp only [jumps]
          go_ret3
          exact ⟨ret3 (a := unf V) (b := (p : Int) + 1) (c := 0) (by rw [HF.out]; simp), rfl⟩
        · go_wp2_with fail
          refine (unfoldSign_any V _ hV).mono ?_
          rintro e w2 ⟨rfl, rfl⟩
          go_wp2
          simp only [jumps]
          go_ret3
          exact ⟨ret3 (a := unf V) (b := (p : Int) + k + 1) (c := 0) HF.out, rfl⟩
set_option maxRecDepth 100000 in
set_option maxHeartbeats 1000000 in
theorem readNum_any (s : ByteArray) (at_ : Int) (w : World) (hs : s.size ≤ 8000) (hb1 : at_ ≤ 9223372036854775807) :
    Calls Tryz.prog 65 #[.string s, .int .i64 at_] w fun e w' => e = .returned (.tuple #[.int .i64 (getN s at_).1, .int .i64 (getN s at_).2.1, errV (getN s at_).2.2]) ∧ w' = w := by
  by_cases h2 : at_ < 0
  · have HF : Hid (getN s at_ = _) := if_pos h2
    go_enter Tryz.func65, Tryz.ntmps65
    go_wp2
    go_step3
    go_wp2
    rw [Exit.noGoto_ret]
    go_ret3
    exact ⟨ret3 (a := 0) (b := 0) (c := 1) HF.out, rfl⟩
  by_cases h3 : (s.size : Int) ≤ at_
  · have HF : Hid (getN s at_ = _) := (if_neg h2).trans (if_pos h3)
    go_enter Tryz.func65, Tryz.ntmps65
    go_wp2
    go_step3
    go_wp2
    go_step3
    go_wp2
    try rw [Exit.noGoto_ret]
    go_ret3
    exact ⟨ret3 (a := 0) (b := 0) (c := 4) HF.out, rfl⟩
  · obtain ⟨p, rfl⟩ := Int.eq_ofNat_of_zero_le (show 0 ≤ at_ by omega)
    have e2 : getN s (p : Int) = rdF s p 10 0 0 := (if_neg h2).trans (if_neg h3)
    rw [e2]
    exact readNum_in s p w hs (by omega)

end Go.Proofs.YtnhehdobpibgkaaGreatDoor
