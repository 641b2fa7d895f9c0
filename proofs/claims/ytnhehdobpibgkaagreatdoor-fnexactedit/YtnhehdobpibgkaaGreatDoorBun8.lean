/- The walks of the specification's Unseal. -/
import Derived.Test.YtnhehdobpibgkaaGreatDoorRows
import Derived.WalkKit
import Derived.WalkSpells
import Derived.WalkLawsBesides
import Derived.Deep.RegionWith
import Derived.Test.YtnhehdobpibgkaaGreatDoorBun0
import Derived.Test.YtnhehdobpibgkaaGreatDoorBun7
import Derived.Laws.BitsAllLaws
namespace Go.Proofs.YtnhehdobpibgkaaGreatDoor
open Go.RowKit

theorem cut_end (s : ByteArray) (h : 4 ≤ s.size) (W : World) : (Instr.slice 9 (.string s) (some (.int .i64 ((s.size : Int) - 4))) none none).run Tryz.prog W = .ok (.string (s.extract (s.size - 4) s.size)) W := by
  have h0 : (0 : Int) ≤ (s.size : Int) - 4 := by omega
  have h1 : (s.size : Int) - 4 ≤ (s.size : Int) := by omega
  have e : ((s.size : Int) - 4).toNat = s.size - 4 := by omega
  have hr := run_slice_string_l (P := Tryz.prog) W 9 s Tryz.underlying9 .i64 ((s.size : Int) - 4) h0 h1
  rw [hr, e]
set_option maxHeartbeats 400000 in
theorem specUnseal_bad (s : ByteArray) (w : World) (hs0 : s.size ≤ 8000) (h : 4 ≤ s.size) (hq : ((four (crcOf 0 (s.extract 0 (s.size - 4)))).toList == (s.extract (s.size - 4) s.size).toList) = false) :
    Calls Tryz.prog 43 #[.string s] w fun e w' => e = .returned (.agg #[.string ⟨#[]⟩, .int .i64 0, .int .i64 5]) ∧ Below w.heap.size w w' := by
  have hl : (s.extract 0 (s.size - 4)).size ≤ 8000 := by simp; omega
  have hc := crcOf_lt 0 (s.extract 0 (s.size - 4)) (by omega)
  have hsl := cut_end s h
  have hw1 : wrap64 ((s.size : Int) - 4) = (s.size : Int) - 4 := by unfold wrap64; omega
  have hw2 : IntKind.i64.wrap ((s.size : Int) - 4) = (s.size : Int) - 4 := by rw [IntKind.wrap_i64]; omega
  go_enter Tryz.func43, Tryz.ntmps43
  go_wp2_with fail
  go_region_with (first
    | (go_at_call 61; refine (l01Crc_any 0 (s.extract 0 (s.size - 4)) _ (by omega) hl).mono ?_; rintro e w1 ⟨rfl, rfl⟩)
    | (go_at_call 60; refine (l01Four_any (crcOf 0 (s.extract 0 (s.size - 4))) _ hc).mono ?_; rintro e w1 ⟨rfl, hb1⟩))
  have hb2 := (Below.refl _ _).drew.trans (hb1.mono (Nat.le_refl _))
  obtain ⟨⟨c0, c1, c2⟩, ⟨f0, f1, f2⟩, hz⟩ := keep3 hb2
  have HB : Hid (_) := ((Below.refl w.heap.size w).alloc (Nat.le_refl _) _).trans (hb2.mono (by simp))
  clear hb1 hb2 hsl hw1 hw2 hl
  go_wp2
  refine bodyPost_ret (v := .agg #[.string ⟨#[]⟩, .int .i64 0, .int .i64 5]) (by simp [results, Tryz.results43, go_sem, c0, c1, c2]) rfl ⟨rfl, ?_⟩
  exact ((HB.out.setCell (by simp) _).setCell (by simp) _).setCell (by simp) _
set_option maxHeartbeats 400000 in
theorem specUnseal_good (s : ByteArray) (w : World) (hs0 : s.size ≤ 8000) (h : 4 ≤ s.size) (hq : ((four (crcOf 0 (s.extract 0 (s.size - 4)))).toList == (s.extract (s.size - 4) s.size).toList) = true) :
    Calls Tryz.prog 43 #[.string s] w fun e w' => e = .returned (.agg #[.string (s.extract 0 (s.size - 4)), .int .i64 0, .int .i64 0]) ∧ Below w.heap.size w w' := by
  have hl : (s.extract 0 (s.size - 4)).size ≤ 8000 := by simp; omega
  have hc := crcOf_lt 0 (s.extract 0 (s.size - 4)) (by omega)
  have hsl := cut_end s h
  have hw1 : wrap64 ((s.size : Int) - 4) = (s.size : Int) - 4 := by unfold wrap64; omega
  have hw2 : IntKind.i64.wrap ((s.size : Int) - 4) = (s.size : Int) - 4 := by rw [IntKind.wrap_i64]; omega
  go_enter Tryz.func43, Tryz.ntmps43
  go_wp2_with fail
  go_region_with (first
    | (go_at_call 61; refine (l01Crc_any 0 (s.extract 0 (s.size - 4)) _ (by omega) hl).mono ?_; rintro e w1 ⟨rfl, rfl⟩)
    | (go_at_call 60; refine (l01Four_any (crcOf 0 (s.extract 0 (s.size - 4))) _ hc).mono ?_; rintro e w1 ⟨rfl, hb1⟩))
  have hb2 := (Below.refl _ _).drew.trans (hb1.mono (Nat.le_refl _))
  obtain ⟨⟨c0, c1, c2⟩, ⟨f0, f1, f2⟩, hz⟩ := keep3 hb2
  have HB : Hid (_) := ((Below.refl w.heap.size w).alloc (Nat.le_refl _) _).trans (hb2.mono (by simp))
  clear hb1 hb2 hsl hw1 hw2 hl
  go_wp2
  refine bodyPost_ret (v := .agg #[.string (s.extract 0 (s.size - 4)), .int .i64 0, .int .i64 0]) (by simp [results, Tryz.results43, go_sem, c0, c1, c2]) rfl ⟨rfl, ?_⟩
  exact ((HB.out.setCell (by simp) _).setCell (by simp) _).setCell (by simp) _
set_option maxHeartbeats 400000 in
theorem specUnseal_big (s : ByteArray) (w : World) (hs0 : s.size ≤ maxLen) (h : 8000 < s.size) :
    Calls Tryz.prog 43 #[.string s] w fun e w' => e = .returned (.agg #[.string ⟨#[]⟩, .int .i64 0, .int .i64 2]) ∧ Below w.heap.size w w' := by
  unfold maxLen at hs0
  go_enter Tryz.func43, Tryz.ntmps43
  go_wp2
  exact bodyPost_ret (v := .agg #[.string ⟨#[]⟩, .int .i64 0, .int .i64 2]) (by simp [results, Tryz.results43, go_sem]) rfl ⟨rfl, (Below.refl _ _).alloc (Nat.le_refl _) _⟩
set_option maxHeartbeats 400000 in
theorem specUnseal_low (s : ByteArray) (w : World) (h : s.size < 4) :
    Calls Tryz.prog 43 #[.string s] w fun e w' => e = .returned (.agg #[.string ⟨#[]⟩, .int .i64 0, .int .i64 4]) ∧ Below w.heap.size w w' := by
  go_enter Tryz.func43, Tryz.ntmps43
  go_wp2
  exact bodyPost_ret (v := .agg #[.string ⟨#[]⟩, .int .i64 0, .int .i64 4]) (by simp [results, Tryz.results43, go_sem]) rfl ⟨rfl, (Below.refl _ _).alloc (Nat.le_refl _) _⟩
theorem specUnseal_any (s : ByteArray) (w : World) (hs0 : s.size ≤ maxLen) :
    Calls Tryz.prog 43 #[.string s] w fun e w' => e = .returned (.agg #[.string (unsealT s), .int .i64 0, .int .i64 (unsealC s)]) ∧ Below w.heap.size w w' := by
  unfold unsealT unsealC
  by_cases h1 : 8000 < s.size
  · rw [if_pos h1, if_pos h1]; exact specUnseal_big s w hs0 h1
  by_cases h2 : s.size < 4
  · rw [if_neg h1, if_neg h1, if_pos h2, if_pos h2]; exact specUnseal_low s w h2
  rw [if_neg h1, if_neg h1, if_neg h2, if_neg h2]
  have e := seal_test s (by omega) (by omega)
  cases hq : ((sealB (s.extract 0 (s.size - 4))).toList == s.toList)
  · rw [if_neg (by simp), if_neg (by simp)]; rw [hq] at e; exact specUnseal_bad s w (by omega) (by omega) e.symm
  · rw [if_pos rfl, if_pos rfl]; rw [hq] at e; exact specUnseal_good s w (by omega) (by omega) e.symm
end Go.Proofs.YtnhehdobpibgkaaGreatDoor
namespace Go.Proofs.YtnhehdobpibgkaaGreatDoor
open Go.RowKit

def unf (u : Nat) : Int := if u % 2 = 1 then -((u / 2 : Nat) : Int) - 1 else ((u / 2 : Nat) : Int)
/- The answer (number, place, code) of the bytes from place p on, i of them gone through, u gathered, f left. -/
def rdF (s : ByteArray) (p : Nat) : Nat → Nat → Nat → Int × Int × Int
  | 0, _, _ => (0, 0, 3)
  | f + 1, i, u =>
    if h : p + i < s.size then
      if i = 9 ∧ 1 < s[p + i].toNat then (0, 0, 3)
      else if s[p + i].toNat < 128 then
        if s[p + i].toNat = 0 ∧ 0 < i then (0, 0, 3) else (unf (u + s[p + i].toNat % 128 * 2 ^ (7 * i)), (p : Int) + i + 1, 0)
      else rdF s p f (i + 1) (u + s[p + i].toNat % 128 * 2 ^ (7 * i))
    else (0, 0, 4)
def getN (s : ByteArray) (at_ : Int) : Int × Int × Int :=
  if at_ < 0 then (0, 0, 1) else if (s.size : Int) ≤ at_ then (0, 0, 4) else rdF s at_.toNat 10 0 0

theorem rdF_short {s : ByteArray} {p f i u : Nat} (h : ¬ p + i < s.size) : rdF s p (f + 1) i u = (0, 0, 4) := by simp [rdF, h]
theorem rdF_wrong {s : ByteArray} {p f i u : Nat} (h : p + i < s.size) (hi : i = 9) (hc : 1 < s[p + i].toNat) : rdF s p (f + 1) i u = (0, 0, 3) := by
  rw [rdF, dif_pos h, if_pos ⟨hi, hc⟩]
theorem rdF_zero {s : ByteArray} {p f i u : Nat} (h : p + i < s.size) (hc : s[p + i].toNat = 0) (hi : 0 < i) : rdF s p (f + 1) i u = (0, 0, 3) := by
  rw [rdF, dif_pos h, if_neg (by omega), if_pos (by omega), if_pos ⟨hc, hi⟩]
theorem rdF_last {s : ByteArray} {p f i u : Nat} (h : p + i < s.size) (hc : s[p + i].toNat < 128) (h9 : ¬ (i = 9 ∧ 1 < s[p + i].toNat)) (hz : ¬ (s[p + i].toNat = 0 ∧ 0 < i)) :
    rdF s p (f + 1) i u = (unf (u + s[p + i].toNat % 128 * 2 ^ (7 * i)), (p : Int) + i + 1, 0) := by
  rw [rdF, dif_pos h, if_neg h9, if_pos hc, if_neg hz]
theorem rdF_more {s : ByteArray} {p f i u : Nat} (h : p + i < s.size) (hc : 128 ≤ s[p + i].toNat) (h9 : ¬ i = 9) :
    rdF s p (f + 1) i u = rdF s p f (i + 1) (u + s[p + i].toNat % 128 * 2 ^ (7 * i)) := by
  rw [rdF, dif_pos h, if_neg (by omega), if_neg (by omega)]
/- u is less than two to the power of seven i -/
theorem step_lt {u c i : Nat} (h : u < 2 ^ (7 * i)) : u + c % 128 * 2 ^ (7 * i) < 2 ^ (7 * (i + 1)) := by
  have e : 2 ^ (7 * (i + 1)) = 128 * 2 ^ (7 * i) := by rw [show 7 * (i + 1) = 7 + 7 * i by omega, Nat.pow_add]
  have h2 : c % 128 * 2 ^ (7 * i) ≤ 127 * 2 ^ (7 * i) := Nat.mul_le_mul_right _ (by omega)
  rw [e]; omega
theorem pow63 {i : Nat} (h : i ≤ 9) : 2 ^ (7 * i) ≤ 9223372036854775808 := by
  have : 2 ^ (7 * i) ≤ 2 ^ 63 := Nat.pow_le_pow_right (by omega) (by omega)
  omega
theorem small_step {u c i : Nat} (hu : u < 2 ^ (7 * i)) (hi : i ≤ 9) (hc : i = 9 → c ≤ 1) : u + c % 128 * 2 ^ (7 * i) < 18446744073709551616 ∧ c % 128 * 2 ^ (7 * i) < 18446744073709551616 := by
  have hp := pow63 hi
  by_cases h9 : i = 9
  · have hc1 := hc h9
    have : c % 128 * 2 ^ (7 * i) ≤ 1 * 2 ^ (7 * i) := Nat.mul_le_mul_right _ (by omega)
    omega
  · have h1 := step_lt (c := c) hu
    have h2 := pow63 (i := i + 1) (by omega)
    omega
theorem join_or {u c i : Nat} (hu : u < 2 ^ (7 * i)) : u ||| (c % 128 * 2 ^ (7 * i)) = u + c % 128 * 2 ^ (7 * i) := by
  rw [Nat.or_comm, nat_join (7 * i) _ u (by simp) hu]; omega
theorem unf_bd (u : Nat) (h : u < 18446744073709551616) : -9223372036854775808 ≤ unf u ∧ unf u ≤ 9223372036854775807 := by
  unfold unf; split <;> omega
theorem not_i64 (a : Nat) (ha : a < 9223372036854775808) : bits .xor .i64 (-1) (a : Int) = -1 - (a : Int) := by
  show IntKind.i64.wrap ((BitVec.ofInt 64 (-1) ^^^ BitVec.ofInt 64 (a : Int)).toNat : Int) = _
  have h1 : BitVec.ofInt 64 (-1) = BitVec.allOnes 64 := by decide
  rw [h1, BitVec.allOnes_xor, BitVec.toNat_not, ofInt_u64 a (by omega)]
  simp [IntKind.wrap, IntKind.bits, IntKind.signed]
  omega
theorem numOut {x : Int × Int × Int} {a b c : Int} (h : x = (a, b, c)) : Ending.returned (.agg #[.int .i64 a, .int .i64 b, .int .i64 c]) = .returned (.agg #[.int .i64 x.1, .int .i64 x.2.1, .int .i64 x.2.2]) := by rw [h]
theorem unf_odd {V : Nat} (h : V % 2 = 1) : unf V = -((V : Int) / 2) - 1 := by unfold unf; rw [if_pos h]; omega
theorem unf_even {V : Nat} (h : ¬ V % 2 = 1) : unf V = (V : Int) / 2 := by unfold unf; rw [if_neg h]; omega
def numV (s : ByteArray) (at_ : Int) : Int × Int × Int := if 8000 < s.size then (0, 0, 2) else getN s at_
end Go.Proofs.YtnhehdobpibgkaaGreatDoor
