/- The walks of both NameRight functions: each answers 'nameB' of its text, and the world stays. No condition but that the text is one (its size fits). -/
import Derived.Test.YtcnjeeckkpiilaaRows
import Derived.WalkKit
import Derived.WalkSpells
import Derived.WalkLawsBesides
import Derived.Test.YtcnjeeckkpiilaaBun0
namespace Go.Proofs.Ytcnjeeckkpiilaa
open Go.RowKit

def goodB (j : Nat) (c : Int) : Bool := decide ((97 ≤ c ∧ c ≤ 122) ∨ (j ≠ 0 ∧ ((48 ≤ c ∧ c ≤ 57) ∨ c = 95)))
def nameB (s : ByteArray) : Bool := decide (1 ≤ s.size ∧ s.size ≤ 20 ∧ ∀ j, (h : j < s.size) → goodB j (s[j].toNat : Int) = true)
theorem nameB_t {s : ByteArray} (h1 : 1 ≤ s.size) (h2 : s.size ≤ 20) (h : ∀ j, (h : j < s.size) → goodB j (s[j].toNat : Int) = true) : nameB s = true := by
  unfold nameB; exact decide_eq_true ⟨h1, h2, h⟩
theorem nameB_f {s : ByteArray} (h : s.size < 1 ∨ 20 < s.size) : nameB s = false := by
  unfold nameB; exact decide_eq_false (fun x => by omega)
theorem nameB_n {s : ByteArray} (k : Nat) (h : k < s.size) (hg : goodB k (s[k].toNat : Int) = false) : nameB s = false := by
  unfold nameB; refine decide_eq_false (fun x => ?_); have := x.2.2 k h; rw [hg] at this; cases this
theorem good_t {j : Nat} {c : Int} (h : goodB j c = true) : (97 ≤ c ∧ c ≤ 122) ∨ (j ≠ 0 ∧ ((48 ≤ c ∧ c ≤ 57) ∨ c = 95)) := of_decide_eq_true h
theorem good_f {j : Nat} {c : Int} (h : goodB j c = false) : ((¬ 97 ≤ c) ∨ (97 ≤ c ∧ ¬ c ≤ 122)) ∧ (j = 0 ∨ (((j : Int) == 0) = false ∧ ((¬ 48 ≤ c) ∨ (48 ≤ c ∧ ¬ c ≤ 57)) ∧ (c == 95) = false)) := by
  have := of_decide_eq_false h
  rw [beq_eq_false_iff_ne, beq_eq_false_iff_ne]
  omega
theorem all_step {s : ByteArray} {k : Nat} (ha : ∀ j, (h : j < s.size) → j < k → goodB j (s[j].toNat : Int) = true) (h : k < s.size) (hg : goodB k (s[k].toNat : Int) = true) :
    ∀ j, (h : j < s.size) → j < k + 1 → goodB j (s[j].toNat : Int) = true := by
  intro j hj hjk
  by_cases e : j = k
  · subst e; exact hg
  · exact ha j hj (by omega)

set_option maxHeartbeats 400000 in
theorem specName_any (s : ByteArray) (w : World) (hs : s.size ≤ maxLen) :
    Calls Try.prog 65 #[.string s] w fun e w' => e = .returned (.bool (nameB s)) ∧ w' = w := by
  unfold maxLen at hs
  by_cases h1 : s.size < 1
  · go_enter Try.func65, Try.ntmps65
    go_wp2
    go_ret
    exact ⟨ret_bool (nameB_f (by omega)).symm, rfl⟩
  by_cases h2 : 20 < s.size
  · go_enter Try.func65, Try.ntmps65
    go_wp2
    go_ret
    exact ⟨ret_bool (nameB_f (by omega)).symm, rfl⟩
  go_enter Try.func65, Try.ntmps65
  go_wp2
  go_loop [3] (fun i => ∃ k : Nat, k ≤ s.size ∧ i = .int .i64 k ∧ ∀ j, (h : j < s.size) → j < k → goodB j (s[j].toNat : Int) = true) (fun i => s.size - (intOf i).toNat)
  case atStart => exact ⟨0, Nat.zero_le _, rfl, fun j _ h => absurd h (by omega)⟩
  case round =>
    obtain ⟨k, hk, rfl, hall⟩ := hrel
    have HA : Hid (∀ j, (h : j < s.size) → j < k → goodB j (s[j].toNat : Int) = true) := hall
    clear hall
    by_cases hlt : k < s.size
    · cases hg : goodB k (s[k].toNat : Int)
      · have HG : Hid (goodB k (s[k].toNat : Int) = false) := hg
        have hp := good_f hg
        clear hg
        obtain ⟨hp1, hp2⟩ := hp
        have HF : Hid (nameB s = false) := nameB_n k hlt HG.out
        clear HG
        rcases hp1 with hp1 | ⟨hp0, hp1⟩ <;> rcases hp2 with rfl | ⟨hk0, hp2 | ⟨hp4, hp2⟩, hp3⟩
        all_goals
          go_wp2
          all_goals
            go_ret
            exact ⟨ret_bool HF.out.symm, rfl⟩
      · have HG : Hid (∀ j, (h : j < s.size) → j < k + 1 → goodB j (s[j].toNat : Int) = true) := all_step HA.out hlt hg
        have hp := good_t hg
        clear hg
        rcases hp with ⟨hp1, hp2⟩ | ⟨hk0, ⟨hp1, hp2⟩ | hp1⟩
        all_goals
          go_wp2
          all_goals
            exact ⟨⟨k + 1, by omega, by go_num, HG.out⟩, by simp [intOf]; omega⟩
    · go_wp2
      go_ret
      exact ⟨ret_bool (nameB_t (by omega) (by omega) (fun j h => HA.out j h (by omega))).symm, rfl⟩

set_option maxHeartbeats 400000 in
theorem implName_any (s : ByteArray) (w : World) (hs : s.size ≤ maxLen) :
    Calls Try.prog 98 #[.string s] w fun e w' => e = .returned (.bool (nameB s)) ∧ w' = w := by
  unfold maxLen at hs
  by_cases h1 : s.size < 1
  · go_enter Try.func98, Try.ntmps98
    go_wp2
    go_ret
    exact ⟨ret_bool (nameB_f (by omega)).symm, rfl⟩
  by_cases h2 : 20 < s.size
  · go_enter Try.func98, Try.ntmps98
    go_wp2
    go_ret
    exact ⟨ret_bool (nameB_f (by omega)).symm, rfl⟩
  have h0 : 0 < s.size := by omega
  cases hg : goodB 0 (s[0].toNat : Int)
  · have HF : Hid (nameB s = false) := nameB_n 0 h0 hg
    have hp := good_f hg
    clear hg
    obtain ⟨hp1, hp2⟩ := hp
    clear hp2
    rcases hp1 with hp1 | ⟨hp0, hp1⟩
    all_goals
      go_enter Try.func98, Try.ntmps98
      go_wp2
      go_ret
      exact ⟨ret_bool HF.out.symm, rfl⟩
  have H0 : Hid (goodB 0 (s[0].toNat : Int) = true) := hg
  have hp := good_t hg
  clear hg
  rcases hp with ⟨hp1, hp2⟩ | ⟨hk0, _⟩
  rotate_left
  · exact absurd rfl hk0
  go_enter Try.func98, Try.ntmps98
  go_wp2
  go_loop [3] (fun i => ∃ k : Nat, k ≤ s.size ∧ 0 < k ∧ i = .int .i64 k ∧ ∀ j, (h : j < s.size) → j < k → goodB j (s[j].toNat : Int) = true) (fun i => s.size - (intOf i).toNat)
  case atStart => exact ⟨1, by omega, by omega, rfl, fun j _ h => by obtain rfl : j = 0 := by omega
                                                                     exact H0.out⟩
  case round =>
    obtain ⟨k, hk, hkp, rfl, hall⟩ := hrel
    have HA : Hid (∀ j, (h : j < s.size) → j < k → goodB j (s[j].toNat : Int) = true) := hall
    clear hall hp1 hp2 H0
    by_cases hlt : k < s.size
    · cases hg : goodB k (s[k].toNat : Int)
      · have HG : Hid (goodB k (s[k].toNat : Int) = false) := hg
        have hp := good_f hg
        clear hg
        obtain ⟨hp1, hp2⟩ := hp
        have HF : Hid (nameB s = false) := nameB_n k hlt HG.out
        clear HG
        rcases hp1 with hp1 | ⟨hp0, hp1⟩ <;> rcases hp2 with hz | ⟨hk0, hp2 | ⟨hp4, hp2⟩, hp3⟩
        all_goals first | (exfalso; omega) | skip
        all_goals
          go_wp2
          all_goals
            go_ret
            exact ⟨ret_bool HF.out.symm, rfl⟩
      · have HG : Hid (∀ j, (h : j < s.size) → j < k + 1 → goodB j (s[j].toNat : Int) = true) := all_step HA.out hlt hg
        have hp := good_t hg
        clear hg
        rcases hp with ⟨hp1, hp2⟩ | ⟨hk0, ⟨hp1, hp2⟩ | hp1⟩
        all_goals
          go_wp2
          all_goals
            exact ⟨⟨k + 1, by omega, by omega, by go_num, HG.out⟩, by simp [intOf]; omega⟩
    · go_wp2
      go_ret
      exact ⟨ret_bool (nameB_t (by omega) (by omega) (fun j h => HA.out j h (by omega))).symm, rfl⟩

end Go.Proofs.Ytcnjeeckkpiilaa
