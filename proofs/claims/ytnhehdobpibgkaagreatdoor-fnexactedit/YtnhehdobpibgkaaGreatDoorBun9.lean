/- The walk of the specification's GetNum. -/
import Derived.Test.YtnhehdobpibgkaaGreatDoorRows
import Derived.WalkKit
import Derived.WalkSpells
import Derived.WalkLawsBesides
import Derived.Test.YtnhehdobpibgkaaGreatDoorBun0
import Derived.Test.YtnhehdobpibgkaaGreatDoorBun8
import Derived.Scope
import Derived.ScopeJumps
import Derived.WalkMore
namespace Go.Proofs.YtnhehdobpibgkaaGreatDoor
open Go.RowKit

theorem sum_lt9 {U c k : Nat} (hu : U < 2 ^ (7 * k)) (hk : k < 9) : IntKind.u64.wrap ((U : Int) + IntKind.u64.wrap ((c : Int) % 128 * 2 ^ (7 * k))) = ((U + c % 128 * 2 ^ (7 * k) : Nat) : Int) := by
  have h := small_step (c := c) hu (by omega) (by omega)
  have e : (c : Int) % 128 * 2 ^ (7 * k) = ((c % 128 * 2 ^ (7 * k) : Nat) : Int) := by simp
  rw [e, IntKind.wrap_u64, IntKind.wrap_u64]
  omega
theorem sum_9 {U c : Nat} (hu : U < 2 ^ (7 * 9)) (hc : c ≤ 1) : IntKind.u64.wrap ((U : Int) + (c : Int) % 128 * 9223372036854775808) = ((U + c % 128 * 2 ^ (7 * 9) : Nat) : Int) := by
  rw [IntKind.wrap_u64]; omega
set_option maxRecDepth 100000 in
set_option maxHeartbeats 1000000 in
theorem specGetNum_in (s : ByteArray) (p : Nat) (w : World) (hs : s.size ≤ 8000) (hp : p < s.size) :
    Calls Tryz.prog 59 #[.string s, .int .i64 (p : Int)] w fun e w' => e = .returned (.agg #[.int .i64 (rdF s p 10 0 0).1, .int .i64 (rdF s p 10 0 0).2.1, .int .i64 (rdF s p 10 0 0).2.2]) ∧ Below w.heap.size w w' := by
  go_enter Tryz.func59, Tryz.ntmps59
  go_wp2
  go_loop [5, 6] (fun x i => ∃ k U : Nat, k ≤ 9 ∧ i = .int .i64 k ∧ x = .int .u64 (U : Int) ∧ Hid (U < 2 ^ (7 * k)) ∧ Hid (rdF s p (10 - k) k U = rdF s p 10 0 0)) (fun _ i => 10 - (intOf i).toNat)
  case atStart => exact ⟨0, 0, by omega, rfl, rfl, by simp [Hid], rfl⟩
  case round =>
    obtain ⟨k, U, hk, rfl, rfl, HU, HE⟩ := hrel
    have HS : Hid (10 - k = (9 - k) + 1) := by show _ = _; omega
    by_cases hin : p + k < s.size
    · have hc : s[p + k].toNat < 256 := s[p + k].toNat_lt
      by_cases hk9 : k = 9
      · subst hk9
        by_cases h1 : 1 < s[p + 9].toNat
        · have HF : Hid (_ = _) := HE.out.symm.trans (rdF_wrong hin rfl h1)
          go_wp2
          exact bodyPost_ret (v := .agg #[.int .i64 0, .int .i64 0, .int .i64 3]) (by simp [results, Tryz.results59, go_sem]) rfl ⟨numOut HF.out, (Below.refl _ _).alloc (Nat.le_refl _) _⟩
        by_cases h0 : s[p + 9].toNat = 0
        · have HF : Hid (_ = _) := HE.out.symm.trans (rdF_zero hin h0 (by omega))
          go_wp2
          exact bodyPost_ret (v := .agg #[.int .i64 0, .int .i64 0, .int .i64 3]) (by simp [results, Tryz.results59, go_sem]) rfl ⟨numOut HF.out, (Below.refl _ _).alloc (Nat.le_refl _) _⟩
        · have HF : Hid (_ = _) := HE.out.symm.trans (rdF_last (f := 0) hin (by omega) (by omega) (by omega))
          have hsum := sum_9 (c := s[p + 9].toNat) HU.out (by omega)
          have hV := (small_step (c := s[p + 9].toNat) HU.out (by omega) (by omega)).1
          generalize U + s[p + 9].toNat % 128 * 2 ^ (7 * 9) = V at hsum hV HF
          by_cases ho : V % 2 = 1
          · have HO : Hid (_ = _) := unf_odd ho
            have ho2 : ((V : Int) % 2 == 1) = true := by rw [beq_iff_eq]; omega
            clear ho
            go_wp2
            exact bodyPost_ret (v := .agg #[.int .i64 (-((V : Int) / 2) - 1), .int .i64 ((p : Int) + 9 + 1), .int .i64 0]) (by simp [results, Tryz.results59, go_sem]) rfl ⟨numOut (by rw [HF.out, HO.out]; rfl), (Below.refl _ _).alloc (Nat.le_refl _) _⟩
          · have HO : Hid (_ = _) := unf_even ho
            have ho2 : ((V : Int) % 2 == 1) = false := by rw [beq_eq_false_iff_ne]; omega
            clear ho
            go_wp2
            exact bodyPost_ret (v := .agg #[.int .i64 ((V : Int) / 2), .int .i64 ((p : Int) + 9 + 1), .int .i64 0]) (by simp [results, Tryz.results59, go_sem]) rfl ⟨numOut (by rw [HF.out, HO.out]; rfl), (Below.refl _ _).alloc (Nat.le_refl _) _⟩
      · have hkb : ((k : Int) == 9) = false := by rw [beq_eq_false_iff_ne]; omega
        have hk8 : k < 9 := by omega
        by_cases h128 : 128 ≤ s[p + k].toNat
        · have h := HE.out
          rw [HS.out, rdF_more hin h128 hk9, show 9 - k = 10 - (k + 1) by omega] at h
          have HF : Hid (_ = _) := h
          clear h
          have hsum := sum_lt9 (c := s[p + k].toNat) HU.out hk8
          have HV : Hid (_) := step_lt (c := s[p + k].toNat) HU.out
          clear hk9
          generalize U + s[p + k].toNat % 128 * 2 ^ (7 * k) = V at hsum HV HF
          go_wp2
          exact ⟨⟨k + 1, V, by omega, by go_num, rfl, HV.out, HF.out⟩, by simp [intOf]; omega⟩
        by_cases h0 : s[p + k].toNat = 0
        · by_cases hk0 : 0 < k
          · have h := HE.out
            rw [HS.out, rdF_zero hin h0 hk0] at h
            have HF : Hid (_ = _) := h.symm
            clear h
            clear hk9
            go_wp2
            exact bodyPost_ret (v := .agg #[.int .i64 0, .int .i64 0, .int .i64 3]) (by simp [results, Tryz.results59, go_sem]) rfl ⟨numOut HF.out, (Below.refl _ _).alloc (Nat.le_refl _) _⟩
          · obtain rfl : k = 0 := by omega
            obtain rfl : U = 0 := by have := HU.out; simp at this; exact this
            have HF : Hid (_ = _) := HE.out.symm.trans (rdF_last (f := 9) hin (by omega) (by omega) (by omega))
            have HZ : Hid (unf (0 + s[p + 0].toNat % 128 * 2 ^ (7 * 0)) = 0) := by
              show _ = _
              rw [h0]; rfl
            have h0p : (s[p]'hp).toNat = 0 := h0
            clear hk9 h0
            go_wp2
            exact bodyPost_ret (v := .agg #[.int .i64 0, .int .i64 ((p : Int) + 1), .int .i64 0]) (by simp [results, Tryz.results59, go_sem]) rfl ⟨numOut (by rw [HF.out, HZ.out]; simp), (Below.refl _ _).alloc (Nat.le_refl _) _⟩
        · have h := HE.out
          rw [HS.out, rdF_last hin (by omega) (by omega) (by omega)] at h
          have HF : Hid (_ = _) := h.symm
          clear h
          have hsum := sum_lt9 (c := s[p + k].toNat) HU.out hk8
          have hV := (small_step (c := s[p + k].toNat) HU.out (by omega) (by omega)).1
          clear hk9
          generalize U + s[p + k].toNat % 128 * 2 ^ (7 * k) = V at hsum hV HF
          by_cases ho : V % 2 = 1
          · have HO : Hid (_ = _) := unf_odd ho
            have ho2 : ((V : Int) % 2 == 1) = true := by rw [beq_iff_eq]; omega
            clear ho
            go_wp2
            exact bodyPost_ret (v := .agg #[.int .i64 (-((V : Int) / 2) - 1), .int .i64 ((p : Int) + (k : Int) + 1), .int .i64 0]) (by simp [results, Tryz.results59, go_sem]) rfl ⟨numOut (by rw [HF.out, HO.out]), (Below.refl _ _).alloc (Nat.le_refl _) _⟩
          · have HO : Hid (_ = _) := unf_even ho
            have ho2 : ((V : Int) % 2 == 1) = false := by rw [beq_eq_false_iff_ne]; omega
            clear ho
            go_wp2
            exact bodyPost_ret (v := .agg #[.int .i64 ((V : Int) / 2), .int .i64 ((p : Int) + (k : Int) + 1), .int .i64 0]) (by simp [results, Tryz.results59, go_sem]) rfl ⟨numOut (by rw [HF.out, HO.out]), (Below.refl _ _).alloc (Nat.le_refl _) _⟩
    · have h := HE.out
      rw [HS.out, rdF_short hin] at h
      have HF : Hid (_ = _) := h.symm
      clear h
      go_wp2
      exact bodyPost_ret (v := .agg #[.int .i64 0, .int .i64 0, .int .i64 4]) (by simp [results, Tryz.results59, go_sem]) rfl ⟨numOut HF.out, (Below.refl _ _).alloc (Nat.le_refl _) _⟩

set_option maxRecDepth 100000 in
set_option maxHeartbeats 400000 in
theorem specGetNum_any (s : ByteArray) (at_ : Int) (w : World) (hs0 : s.size ≤ maxLen) (hb0 : -9223372036854775808 ≤ at_) (hb1 : at_ ≤ 9223372036854775807) :
    Calls Tryz.prog 59 #[.string s, .int .i64 at_] w fun e w' => e = .returned (.agg #[.int .i64 (numV s at_).1, .int .i64 (numV s at_).2.1, .int .i64 (numV s at_).2.2]) ∧ Below w.heap.size w w' := by
  unfold maxLen at hs0
  by_cases h1 : 8000 < s.size
  · have HF : Hid (numV s at_ = _) := if_pos h1
    go_enter Tryz.func59, Tryz.ntmps59
    go_wp2
    exact bodyPost_ret (v := .agg #[.int .i64 0, .int .i64 0, .int .i64 2]) (by simp [results, Tryz.results59, go_sem]) rfl ⟨numOut HF.out, (Below.refl _ _).alloc (Nat.le_refl _) _⟩
  have e1 : numV s at_ = getN s at_ := if_neg h1
  by_cases h2 : at_ < 0
  · have HF : Hid (numV s at_ = _) := e1.trans (if_pos h2)
    clear e1
    go_enter Tryz.func59, Tryz.ntmps59
    go_wp2
    exact bodyPost_ret (v := .agg #[.int .i64 0, .int .i64 0, .int .i64 1]) (by simp [results, Tryz.results59, go_sem]) rfl ⟨numOut HF.out, (Below.refl _ _).alloc (Nat.le_refl _) _⟩
  by_cases h3 : (s.size : Int) ≤ at_
  · have HF : Hid (numV s at_ = _) := e1.trans ((if_neg h2).trans (if_pos h3))
    clear e1
    go_enter Tryz.func59, Tryz.ntmps59
    go_wp2
    refine wp_loop_rounds 1 ?_
    rw [rounds_succ]
    go_wp2
    exact bodyPost_ret (v := .agg #[.int .i64 0, .int .i64 0, .int .i64 4]) (by simp [results, Tryz.results59, go_sem]) rfl ⟨numOut HF.out, (Below.refl _ _).alloc (Nat.le_refl _) _⟩
  · obtain ⟨p, rfl⟩ := Int.eq_ofNat_of_zero_le (show 0 ≤ at_ by omega)
    have e2 : numV s (p : Int) = rdF s p 10 0 0 := e1.trans ((if_neg h2).trans (if_neg h3))
    rw [e2]
    exact specGetNum_in s p w (by omega) (by omega)
end Go.Proofs.YtnhehdobpibgkaaGreatDoor
namespace Go.Proofs.YtnhehdobpibgkaaGreatDoor
open Go

def jumps (J : Nat → Act → World → Prop) (Q : Exit → Act → World → Prop) : Exit → Act → World → Prop
  | .goto l, a, w => J l a w
  | e, a, w => Q e a w

theorem wp_scope_gotos {P : Program} {a : Act} {w : World} {Q : Exit → Act → World → Prop} {c : Code} (J : Nat → Act → World → Prop) (μ : Nat → Act → World → Nat)
    (first : c.wp P (jumps J Q) a w)
    (pass : ∀ l a w, J l a w → ∃ rest, findLabel c l = some rest ∧ rest.wp P (jumps (fun l' a' w' => J l' a' w' ∧ μ l' a' w' < μ l a w) Q) a w) : (Code.scope c).wp P Q a w := by
  intro b k cs
  have key : ∀ n l a w, μ l a w = n → J l a w → ∃ rest, findLabel c l = some rest ∧ ∃ e a' w', Q e a' w' ∧ Arrives P (lone (b.at a (.code rest :: .inScope c :: k)) cs w) b k cs e a' w' := by
    intro n
    induction n using Nat.strongRecOn with
    | _ n ih =>
      intro l a w hn hJ
      obtain ⟨rest, hf, hp⟩ := pass l a w hJ
      refine ⟨rest, hf, ?_⟩
      obtain ⟨e, a₁, w₁, hq, harr⟩ := hp b (.inScope c :: k) cs
      cases e with
      | normal => exact ⟨.normal, a₁, w₁, hq, Steps.trans harr (.one step_inScope)⟩
      | exit id => exact ⟨.exit id, a₁, w₁, hq, fun k' hk => harr k' (by simp [exitTo, hk])⟩
      | goto l' =>
        obtain ⟨hJ', hlt⟩ := hq
        obtain ⟨rest', hf', e₂, a₂, w₂, hq₂, harr₂⟩ := ih _ (by omega) l' a₁ w₁ rfl hJ'
        have hg : gotoIn l' (.inScope c :: k) = some (.code rest' :: .inScope c :: k) := by simp [gotoIn, hf']
        exact ⟨e₂, a₂, w₂, hq₂, .of_steps (harr _ hg) harr₂⟩
      | ret => exact ⟨_, a₁, w₁, hq, harr⟩
      | panic ch => exact ⟨_, a₁, w₁, hq, harr⟩
      | outgrown => exact ⟨_, a₁, w₁, hq, harr⟩
  obtain ⟨e, a₁, w₁, hq, harr⟩ := first b (.inScope c :: k) cs
  cases e with
  | normal => exact ⟨.normal, a₁, w₁, hq, .head step_scope (Steps.trans harr (.one step_inScope))⟩
  | exit id => exact ⟨.exit id, a₁, w₁, hq, fun k' hk => .head step_scope (harr k' (by simp [exitTo, hk]))⟩
  | goto l' =>
    obtain ⟨rest', hf', e₂, a₂, w₂, hq₂, harr₂⟩ := key _ l' a₁ w₁ rfl hq
    have hg : gotoIn l' (.inScope c :: k) = some (.code rest' :: .inScope c :: k) := by simp [gotoIn, hf']
    exact ⟨e₂, a₂, w₂, hq₂, .of_steps (.head step_scope (harr _ hg)) harr₂⟩
  | ret => exact ⟨_, a₁, w₁, hq, .of_steps (.one step_scope) harr⟩
  | panic ch => exact ⟨_, a₁, w₁, hq, .of_steps (.one step_scope) harr⟩
  | outgrown => exact ⟨_, a₁, w₁, hq, .of_steps (.one step_scope) harr⟩
end Go.Proofs.YtnhehdobpibgkaaGreatDoor
namespace Go.Proofs.YtnhehdobpibgkaaGreatDoor
open Go.RowKit

def errV (c : Int) : Value := if c = 0 then .nilIface else .iface 95 (.agg #[.int .i64 c])
end Go.Proofs.YtnhehdobpibgkaaGreatDoor
