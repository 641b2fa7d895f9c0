/- Lists and numbers alone: a number is got back from its bytes; of bytes that end too early nothing is got. -/
import Derived.WalkKit
import Derived.Test.YtcnjeeckkpiilaaNumMath
import Derived.Test.YtcnjeeckkpiilaaBun15
import Derived.Scope
import Derived.ScopeJumps
import Derived.WalkMore
import Derived.Test.YtcnjeeckkpiilaaRows
import Derived.WalkSpells
import Derived.WalkLawsBesides
import Derived.Test.YtcnjeeckkpiilaaBun0
namespace Go.Proofs.Ytcnjeeckkpiilaa
open Go.RowKit

theorem byte_at {s : ByteArray} {q : Nat} {b : UInt8} {l : List UInt8} (h : s.data.toList.drop q = b :: l) : ∃ hq : q < s.size, s[q] = b ∧ s.data.toList.drop (q + 1) = l := by
  have hq : q < s.data.toList.length := by
    rcases Nat.lt_or_ge q s.data.toList.length with h1 | h1
    · exact h1
    · rw [List.drop_of_length_le h1] at h; cases h
  have h2 := List.drop_eq_getElem_cons hq
  rw [h] at h2
  obtain ⟨h3, h4⟩ := List.cons.inj h2
  refine ⟨by simpa using hq, ?_, h4.symm⟩
  rw [h3]; simp; rfl
theorem of_small (c : Nat) (h : c < 256) : (UInt8.ofNat c).toNat = c := by rw [UInt8.toNat_ofNat_of_lt' (by simpa using h)]
theorem pow_128 (i : Nat) : 128 ^ i = 2 ^ (7 * i) := by rw [Nat.pow_mul]

theorem rdF_put (s : ByteArray) (p : Nat) : ∀ (f i c U : Nat) (post : List UInt8), i + f = 9 → c * 2 ^ (7 * i) < 18446744073709551616 → (c = 0 → i = 0) →
    s.data.toList.drop (p + i) = vbF f c ++ post → rdF s p (f + 1) i U = (unf (U + c * 2 ^ (7 * i)), (p : Int) + i + (vbF f c).length, 0) := by
  intro f
  induction f with
  | zero =>
    intro i c U post hi hc h0 hd
    obtain rfl : i = 9 := by omega
    have hc2 : c < 2 := by simp at hc; omega
    rw [vbF_last 0 c (by omega)] at hd ⊢
    obtain ⟨hq, hb, _⟩ := byte_at hd
    have hv : s[p + 9].toNat = c := by rw [hb]; exact of_small c (by omega)
    rw [rdF_last hq (by omega) (by omega) (by omega), hv, Nat.mod_eq_of_lt (by omega)]
    simp
  | succ f ih =>
    intro i c U post hi hc h0 hd
    by_cases h128 : c < 128
    · rw [vbF_last _ c h128] at hd ⊢
      obtain ⟨hq, hb, _⟩ := byte_at hd
      have hv : s[p + i].toNat = c := by rw [hb]; exact of_small c (by omega)
      rw [rdF_last hq (by omega) (by omega) (by omega), hv, Nat.mod_eq_of_lt h128]
      simp
    · rw [vbF_more _ _ (by omega)] at hd ⊢
      obtain ⟨hq, hb, hd2⟩ := byte_at hd
      have hv : s[p + i].toNat = c % 128 + 128 := by rw [hb]; exact of_small _ (by omega)
      have he : 2 ^ (7 * (i + 1)) = 128 * 2 ^ (7 * i) := by rw [show 7 * (i + 1) = 7 + 7 * i by omega, Nat.pow_add]
      have hle : c / 128 * 2 ^ (7 * (i + 1)) ≤ c * 2 ^ (7 * i) := by
        rw [he, ← Nat.mul_assoc]; exact Nat.mul_le_mul_right _ (Nat.div_mul_le_self c 128)
      rw [rdF_more hq (by omega) (by omega)]
      have hr := ih (i + 1) (c / 128) (U + s[p + i].toNat % 128 * 2 ^ (7 * i)) post (by omega) (by omega) (by omega) hd2
      rw [hr, hv]
      have e1 : (c % 128 + 128) % 128 = c % 128 := by omega
      have e2 : U + c % 128 * 2 ^ (7 * i) + c / 128 * 2 ^ (7 * (i + 1)) = U + c * 2 ^ (7 * i) := by
        rw [he, ← Nat.mul_assoc, Nat.add_assoc, ← Nat.add_mul]; congr 2; omega
      rw [e1, e2]
      simp; omega
theorem rdF_cut (s : ByteArray) (p : Nat) : ∀ (f i c U : Nat), i + f = 9 → c * 2 ^ (7 * i) < 18446744073709551616 → s.data.toList.drop (p + i) = (vbF f c).dropLast → s.size = p + i + (vbF f c).dropLast.length → rdF s p (f + 1) i U = (0, 0, 4) := by
  intro f
  induction f with
  | zero =>
    intro i c U hi hc hd hs
    obtain rfl : i = 9 := by omega
    rw [vbF_last 0 c (by simp at hc; omega)] at hs
    exact rdF_short (by simp at hs; omega)
  | succ f ih =>
    intro i c U hi hc hd hs
    by_cases h128 : c < 128
    · rw [vbF_last _ c h128] at hs
      exact rdF_short (by simp at hs; omega)
    · have hne : vbF f (c / 128) ≠ [] := by
        intro h; have := (vbF_len f (c / 128)).1; rw [h] at this; simp at this
      rw [vbF_more _ _ (by omega), List.dropLast_cons_of_ne_nil hne] at hd hs
      obtain ⟨hq, hb, hd2⟩ := byte_at hd
      have hv : s[p + i].toNat = c % 128 + 128 := by rw [hb]; exact of_small _ (by omega)
      have he : 2 ^ (7 * (i + 1)) = 128 * 2 ^ (7 * i) := by rw [show 7 * (i + 1) = 7 + 7 * i by omega, Nat.pow_add]
      have hle : c / 128 * 2 ^ (7 * (i + 1)) ≤ c * 2 ^ (7 * i) := by
        rw [he, ← Nat.mul_assoc]; exact Nat.mul_le_mul_right _ (Nat.div_mul_le_self c 128)
      rw [rdF_more hq (by omega) (by omega)]
      exact ih (i + 1) (c / 128) _ (by omega) (by omega) hd2 (by simp at hs ⊢; omega)
theorem getN_put (s : ByteArray) (pre post : List UInt8) (u : Nat) (hu : u < 18446744073709551616) (h : s.data.toList = pre ++ (putL u ++ post)) :
    getN s (pre.length : Int) = (unf u, (pre.length : Int) + (putL u).length, 0) := by
  have hl := (vbF_len 9 u).1
  have hs : s.size = pre.length + ((putL u).length + post.length) := by
    have := congrArg List.length h; simpa using this
  unfold getN
  rw [if_neg (by omega), if_neg (by unfold putL at hs; omega), Int.toNat_natCast]
  have := rdF_put s pre.length 9 0 u 0 post rfl (by simpa using hu) (fun _ => rfl) (by rw [h]; simp [putL])
  simpa [putL] using this
theorem getN_cut (s : ByteArray) (u : Nat) (hu : u < 18446744073709551616) (h : s.data.toList = (putL u).dropLast) : getN s 0 = (0, 0, 4) := by
  have hs : s.size = (putL u).dropLast.length := by
    have := congrArg List.length h; simpa using this
  unfold getN
  rw [if_neg (by omega)]
  by_cases h0 : (s.size : Int) ≤ 0
  · rw [if_pos h0]
  · rw [if_neg h0]
    exact rdF_cut s 0 9 0 u 0 rfl (by simpa using hu) (by simpa [putL] using h) (by simpa [putL] using hs)
theorem unf_fold (n : Int) : unf (foldN n) = n := by
  unfold unf foldN
  split <;> split <;> omega
end Go.Proofs.Ytcnjeeckkpiilaa
namespace Go.Proofs.Ytcnjeeckkpiilaa
open Go

def jumps (J : Nat → Act → World → Prop) (Q : Exit → Act → World → Prop) : Exit → Act → World → Prop
  | .goto l, a, w => J l a w
  | e, a, w => Q e a w

theorem wp_scope_gotos {P : Program} {a : Act} {w : World} {Q : Exit → Act → World → Prop} {c : Code} (J : Nat → Act → World → Prop) (μ : Nat → Act → World → Nat)
    (first : c.wp P (jumps J Q) a w)
    (pass : ∀ l a w, J l a w → ∃ rest, findLabel c l = some rest ∧ rest.wp P (jumps (fun l' a' w' => J l' a' w' ∧ μ l' a' w' < μ l a w) Q) a w) : (Code.scope c).wp P Q a w := by
  intro b k cs
  have key : ∀ n l a w, μ l a w = n → J l a w → ∃ rest, findLabel c l = some rest ∧ ∃ e a' w', Q e a' w' ∧ Arrives P (lone (b.at a (.code rest :: .inScope c :: k)) cs w) b k cs e a' w' := by
    intro n
    induction n using Nat.strongRecOn with
    | _ n ih =>
      intro l a w hn hJ
      obtain ⟨rest, hf, hp⟩ := pass l a w hJ
      refine ⟨rest, hf, ?_⟩
      obtain ⟨e, a₁, w₁, hq, harr⟩ := hp b (.inScope c :: k) cs
      cases e with
      | normal => exact ⟨.normal, a₁, w₁, hq, Steps.trans harr (.one step_inScope)⟩
      | exit id => exact ⟨.exit id, a₁, w₁, hq, fun k' hk => harr k' (by simp [exitTo, hk])⟩
      | goto l' =>
        obtain ⟨hJ', hlt⟩ := hq
        obtain ⟨rest', hf', e₂, a₂, w₂, hq₂, harr₂⟩ := ih _ (by omega) l' a₁ w₁ rfl hJ'
        have hg : gotoIn l' (.inScope c :: k) = some (.code rest' :: .inScope c :: k) := by simp [gotoIn, hf']
        exact ⟨e₂, a₂, w₂, hq₂, .of_steps (harr _ hg) harr₂⟩
      | ret => exact ⟨_, a₁, w₁, hq, harr⟩
      | panic ch => exact ⟨_, a₁, w₁, hq, harr⟩
      | outgrown => exact ⟨_, a₁, w₁, hq, harr⟩
  obtain ⟨e, a₁, w₁, hq, harr⟩ := first b (.inScope c :: k) cs
  cases e with
  | normal => exact ⟨.normal, a₁, w₁, hq, .head step_scope (Steps.trans harr (.one step_inScope))⟩
  | exit id => exact ⟨.exit id, a₁, w₁, hq, fun k' hk => .head step_scope (harr k' (by simp [exitTo, hk]))⟩
  | goto l' =>
    obtain ⟨rest', hf', e₂, a₂, w₂, hq₂, harr₂⟩ := key _ l' a₁ w₁ rfl hq
    have hg : gotoIn l' (.inScope c :: k) = some (.code rest' :: .inScope c :: k) := by simp [gotoIn, hf']
    exact ⟨e₂, a₂, w₂, hq₂, .of_steps (.head step_scope (harr _ hg)) harr₂⟩
  | ret => exact ⟨_, a₁, w₁, hq, .of_steps (.one step_scope) harr⟩
  | panic ch => exact ⟨_, a₁, w₁, hq, .of_steps (.one step_scope) harr⟩
  | outgrown => exact ⟨_, a₁, w₁, hq, .of_steps (.one step_scope) harr⟩
end Go.Proofs.Ytcnjeeckkpiilaa
namespace Go.Proofs.Ytcnjeeckkpiilaa
open Go.RowKit

def errV (c : Int) : Value := if c = 0 then .nilIface else .iface 140 (.agg #[.int .i64 c])
end Go.Proofs.Ytcnjeeckkpiilaa
