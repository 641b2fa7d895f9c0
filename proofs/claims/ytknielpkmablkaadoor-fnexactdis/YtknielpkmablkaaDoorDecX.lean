/- Numbers in digits, by the specification. -/
import Derived.Test.YtknielpkmablkaaDoorRows
import Derived.WalkKit
import Derived.WalkSpells
import Derived.WalkLawsBesides
import Derived.Outline
import Derived.Lib.ItoaNum
import Derived.Test.YtknielpkmablkaaDoorBun0
import Derived.Test.YtknielpkmablkaaDoorBun27
namespace Go.Proofs.YtknielpkmablkaaDoor
open Go.RowKit
set_option linter.unusedVariables false

theorem wrD (x : Int) (h0 : -2000000 ≤ x) (h1 : x ≤ 2000000) : IntKind.i64.wrap x = x := by
  rw [IntKind.wrap_i64]; omega
def digs (L : List UInt8) : ByteArray := ⟨L.toArray⟩
theorem digs_cons (c : UInt8) (L : List UInt8) : (⟨#[c]⟩ : ByteArray) ++ digs L = digs (c :: L) := by
  apply ByteArray.ext; simp [digs]
theorem dec_step (v : Nat) (h : 10 ≤ v) : Lib.decDigits v = Lib.decDigits (v / 10) ++ [UInt8.ofNat (48 + v % 10)] := by
  rw [Lib.decDigits, dif_neg (by omega)]
theorem dec_small (v : Nat) (h : v < 10) : Lib.decDigits v = [UInt8.ofNat (48 + v)] := by
  rw [Lib.decDigits, dif_pos h]
/- What is left of the digits of u, where those of L are written: L's are the last ones. -/
def Left (u v : Nat) (L : List UInt8) : Prop := (0 < v ∧ Lib.decDigits u = Lib.decDigits v ++ L) ∨ (v = 0 ∧ Lib.decDigits u = L)
theorem Left.next {u v : Nat} {L : List UInt8} (h : Left u v L) (hv : 0 < v) : Left u (v / 10) (UInt8.ofNat (48 + v % 10) :: L) := by
  rcases h with ⟨_, h⟩ | ⟨h, _⟩
  · by_cases hb : 10 ≤ v
    · exact .inl ⟨by omega, by rw [h, dec_step v hb]; simp⟩
    · exact .inr ⟨by omega, by rw [h, dec_small v (by omega), show v % 10 = v by omega]; rfl⟩
  · omega
theorem Left.done {u : Nat} {L : List UInt8} (h : Left u 0 L) : Lib.decDigits u = L := by
  rcases h with ⟨h, _⟩ | ⟨_, h⟩
  · omega
  · exact h
theorem conv_digit (d : Nat) (hd : d < 10) (W : World) : (convert 40 9 (.slice (some ⟨W.heap.size, 0, none⟩) 1 1)).run Tryd.prog (W.alloc (.cells #[.int .u8 (48 + (d : Int))] 5)) = .ok (.string ⟨#[UInt8.ofNat (48 + d)]⟩) (W.alloc (.cells #[.int .u8 (48 + (d : Int))] 5)) := by
  have e : Value.int .u8 (48 + (d : Int)) = .int .u8 ((UInt8.ofNat (48 + d)).toNat : Int) := by
    congr 1; simp [UInt8.toNat_ofNat']; omega
  rw [e]
  exact conv_row _ W.heap.size 1 1 5 [.int .u8 ((UInt8.ofNat (48 + d)).toNat : Int)] [UInt8.ofNat (48 + d)] (heap_alloc_new _ _) rfl rfl
set_option maxRecDepth 100000 in
set_option maxHeartbeats 1600000 in
theorem l01Dec_pos (u : Nat) (w : World) (h0 : 0 < u) (h1 : u ≤ 1000000) :
    Calls Tryd.prog 25 #[.int .i64 ((u : Int))] w fun e w' => e = .returned (.string (digs (Lib.decDigits u))) ∧ Below w.heap.size w w' := by
  have e0 : (((u : Int) : Int) == 0) = false := by rw [beq_eq_false_iff_ne]; omega
  have e1 : ¬ ((u : Int) : Int) < 0 := by omega
  go_enter Tryd.func25, Tryd.ntmps25
  go_wp2
  go_loopw [0, 4] (fun i o wr => ∃ (v : Nat) (L : List UInt8), v ≤ 1000000 ∧ L.length ≤ 7 ∧ (10 ^ L.length * v ≤ 1000000) ∧ i = .int .i64 ((v : Int)) ∧ o = .string (digs L) ∧ Hid (Left u v L) ∧ Hid (Below w.heap.size w wr)) (fun i _ _ => (intOf i).natAbs)
  case atStart => exact ⟨u, [], h1, by simp, by simpa using h1, rfl, rfl, .inl ⟨h0, by simp⟩, Below.refl _ _⟩
  case round =>
    obtain ⟨v, L, hv, hL, hp, rfl, rfl, HL, HB⟩ := hrel
    clear e0 e1
    by_cases hz : v = 0
    · subst hz
      have HD : Hid (_ = _) := HL.out.done
      have hsz : (digs L).size ≤ 7 := hL
      go_wp2
      go_ret
      exact ⟨ret_str (by rw [HD.out]), HB.out⟩
    · have hv0 : 0 < v := by omega
      have hlen : L.length ≤ 6 := by
        rcases Nat.lt_or_ge L.length 7 with h | h
        · omega
        · have h7 := Nat.pow_le_pow_right (show 0 < 10 by omega) h
          have h8 : 10 ^ L.length * 1 ≤ 10 ^ L.length * v := Nat.mul_le_mul_left _ hv0
          omega
      have HN : Hid (Left u (v / 10) (UInt8.ofNat (48 + v % 10) :: L)) := HL.out.next hv0
      have hp2 : 10 ^ (L.length + 1) * (v / 10) ≤ 1000000 := by
        have h9 : 10 ^ L.length * (10 * (v / 10)) ≤ 10 ^ L.length * v := Nat.mul_le_mul_left _ (by omega)
        rw [Nat.pow_succ, Nat.mul_assoc]; omega
      have t0 : ((v : Int) == 0) = false := by rw [beq_eq_false_iff_ne]; omega
      have t1 : (v : Int).tmod 10 = ((v % 10 : Nat) : Int) := by rw [Int.tmod_eq_emod_of_nonneg (by omega)]; omega
      have t1' : IntKind.i64.wrap ((v : Int).tmod 10) = ((v % 10 : Nat) : Int) := by rw [t1]; exact wrD _ (by omega) (by omega)
      have t2 : (v : Int).tdiv 10 = ((v / 10 : Nat) : Int) := by rw [Int.tdiv_eq_ediv_of_nonneg (by omega)]; omega
      have t2' : IntKind.i64.wrap ((v : Int).tdiv 10) = ((v / 10 : Nat) : Int) := by rw [t2]; exact wrD _ (by omega) (by omega)
      have hd : v % 10 < 10 := by omega
      have hq : v / 10 < v := by omega
      have hqv : v / 10 ≤ 1000000 := by omega
      have HP : Hid (_ ≤ _) := hp2
      clear hp hp2 HL hL
      generalize v % 10 = d at *
      generalize v / 10 = q at *
      have hc := fun W => conv_digit d hd W
      have hsz : (digs L).size ≤ 6 := hlen
      have w1 := wrD (48 + (d : Int)) (by omega) (by omega)
      have w2 : IntKind.u8.wrap (48 + (d : Int)) = 48 + (d : Int) := by exact IntWalk.u8_in _ (by omega)
      have hd1 : ¬ (d : Int) < 0 := by omega
      go_wp2
      exact ⟨⟨q, UInt8.ofNat (48 + d) :: L, hqv, by simp; omega, by simpa using HP.out, rfl, by rw [← digs_cons, UInt8.ofNat_add]; rfl, HN.out, below_more HB.out _⟩, by simp [intOf]; omega⟩
set_option maxRecDepth 100000 in
set_option maxHeartbeats 1600000 in
theorem l01Dec_neg (u : Nat) (w : World) (h0 : 0 < u) (h1 : u ≤ 1000000) :
    Calls Tryd.prog 25 #[.int .i64 (-(u : Int))] w fun e w' => e = .returned (.string (digs (45 :: Lib.decDigits u))) ∧ Below w.heap.size w w' := by
  have e0 : ((-(u : Int) : Int) == 0) = false := by rw [beq_eq_false_iff_ne]; omega
  have e1 : (-(u : Int) : Int) < 0 := by omega
  go_enter Tryd.func25, Tryd.ntmps25
  go_wp2
  go_loopw [0, 4] (fun i o wr => ∃ (v : Nat) (L : List UInt8), v ≤ 1000000 ∧ L.length ≤ 7 ∧ (10 ^ L.length * v ≤ 1000000) ∧ i = .int .i64 (-(v : Int)) ∧ o = .string (digs L) ∧ Hid (Left u v L) ∧ Hid (Below w.heap.size w wr)) (fun i _ _ => (intOf i).natAbs)
  case atStart => exact ⟨u, [], h1, by simp, by simpa using h1, rfl, rfl, .inl ⟨h0, by simp⟩, Below.refl _ _⟩
  case round =>
    obtain ⟨v, L, hv, hL, hp, rfl, rfl, HL, HB⟩ := hrel
    clear e0 e1
    by_cases hz : v = 0
    · subst hz
      have HD : Hid (_ = _) := HL.out.done
      have hsz : (digs L).size ≤ 7 := hL
      go_wp2
      go_ret
      exact ⟨ret_str (by rw [HD.out]; apply ByteArray.ext; simp [digs]), HB.out⟩
    · have hv0 : 0 < v := by omega
      have hlen : L.length ≤ 6 := by
        rcases Nat.lt_or_ge L.length 7 with h | h
        · omega
        · have h7 := Nat.pow_le_pow_right (show 0 < 10 by omega) h
          have h8 : 10 ^ L.length * 1 ≤ 10 ^ L.length * v := Nat.mul_le_mul_left _ hv0
          omega
      have HN : Hid (Left u (v / 10) (UInt8.ofNat (48 + v % 10) :: L)) := HL.out.next hv0
      have hp2 : 10 ^ (L.length + 1) * (v / 10) ≤ 1000000 := by
        have h9 : 10 ^ L.length * (10 * (v / 10)) ≤ 10 ^ L.length * v := Nat.mul_le_mul_left _ (by omega)
        rw [Nat.pow_succ, Nat.mul_assoc]; omega
      have t0 : (-(v : Int) == 0) = false := by rw [beq_eq_false_iff_ne]; omega
      have t1 : (-(v : Int)).tmod 10 = -((v % 10 : Nat) : Int) := by rw [Int.neg_tmod, Int.tmod_eq_emod_of_nonneg (by omega)]; omega
      have t1' : IntKind.i64.wrap ((-(v : Int)).tmod 10) = -((v % 10 : Nat) : Int) := by rw [t1]; exact wrD _ (by omega) (by omega)
      have t2 : (-(v : Int)).tdiv 10 = -((v / 10 : Nat) : Int) := by rw [Int.neg_tdiv, Int.tdiv_eq_ediv_of_nonneg (by omega)]; omega
      have t2' : IntKind.i64.wrap ((-(v : Int)).tdiv 10) = -((v / 10 : Nat) : Int) := by rw [t2]; exact wrD _ (by omega) (by omega)
      have hd : v % 10 < 10 := by omega
      have hq : v / 10 < v := by omega
      have hqv : v / 10 ≤ 1000000 := by omega
      have HP : Hid (_ ≤ _) := hp2
      clear hp hp2 HL hL
      generalize v % 10 = d at *
      generalize v / 10 = q at *
      have hc := fun W => conv_digit d hd W
      have hsz : (digs L).size ≤ 6 := hlen
      have w1 := wrD (48 + (d : Int)) (by omega) (by omega)
      have w2 : IntKind.u8.wrap (48 + (d : Int)) = 48 + (d : Int) := by exact IntWalk.u8_in _ (by omega)
      have w3 := wrD (-(-(d : Int))) (by omega) (by omega)
      have w4 := wrD (d : Int) (by omega) (by omega)
      by_cases hd0 : d = 0
      · subst hd0
        have hc0 : ∀ W : World, (convert 40 9 (.slice (some ⟨W.heap.size, 0, none⟩) 1 1)).run Tryd.prog (W.alloc (.cells #[.int .u8 48] 5)) = .ok (.string ⟨#[48]⟩) (W.alloc (.cells #[.int .u8 48] 5)) := fun W => conv_digit 0 (by omega) W
        go_wp2
        exact ⟨⟨q, UInt8.ofNat (48 + 0) :: L, hqv, by simp; omega, by simpa using HP.out, rfl, by rw [← digs_cons]; rfl, HN.out, below_more HB.out _⟩, by simp [intOf]; omega⟩
      · have hd1 : -(d : Int) < 0 := by omega
        go_wp2
        exact ⟨⟨q, UInt8.ofNat (48 + d) :: L, hqv, by simp; omega, by simpa using HP.out, rfl, by rw [← digs_cons, UInt8.ofNat_add]; rfl, HN.out, below_more HB.out _⟩, by simp [intOf]; omega⟩
set_option maxRecDepth 100000 in
set_option maxHeartbeats 1600000 in
theorem l01Dec_zero (w : World) : Calls Tryd.prog 25 #[.int .i64 0] w fun e w' => e = .returned (.string ⟨#[48]⟩) ∧ Below w.heap.size w w' := by
  go_enter Tryd.func25, Tryd.ntmps25
  go_wp2
  go_ret
  exact ⟨rfl, Below.refl _ _⟩
theorem l01Dec_any (n : Int) (w : World) (h0 : -1000000 ≤ n) (h1 : n ≤ 1000000) : Calls Tryd.prog 25 #[.int .i64 n] w fun e w' => e = .returned (.string (digs (Lib.itoa n))) ∧ Below w.heap.size w w' := by
  rcases Int.lt_trichotomy n 0 with h | h | h
  · have e : n = -((n.natAbs : Nat) : Int) := by omega
    have k := l01Dec_neg n.natAbs w (by omega) (by omega)
    rw [← e] at k
    unfold Lib.itoa
    rw [if_pos h]
    exact k
  · subst h
    have e : Lib.itoa 0 = [48] := by unfold Lib.itoa; rw [if_neg (by omega)]; exact dec_small 0 (by omega)
    rw [e]
    exact l01Dec_zero w
  · have e : n = ((n.toNat : Nat) : Int) := by omega
    have k := l01Dec_pos n.toNat w (by omega) (by omega)
    rw [← e] at k
    unfold Lib.itoa
    rw [if_neg (by omega)]
    exact k
theorem dec_len (k : Nat) : ∀ v : Nat, v < 10 ^ (k + 1) → (Lib.decDigits v).length ≤ k + 1 := by
  induction k with
  | zero => intro v hv; rw [dec_small v (by simpa using hv)]; simp
  | succ k ih =>
    intro v hv
    by_cases h : v < 10
    · rw [dec_small v h]; simp
    · rw [dec_step v (by omega)]
      have := ih (v / 10) (by rw [Nat.pow_succ] at hv; omega)
      simp; omega
theorem itoa_len (n : Int) (h0 : -1000000 < n) (h1 : n < 1000000) : (Lib.itoa n).length ≤ 7 := by
  unfold Lib.itoa
  split
  · have := dec_len 5 n.natAbs (by omega); simp; omega
  · have := dec_len 5 n.toNat (by omega); omega
end Go.Proofs.YtknielpkmablkaaDoor
