/- Numbers in hexadecimal digits, as strconv.ParseUint reads them at base 16 (of at most four bytes). -/
import Derived.Test.YtnhehdobpibgkaaGreatDoorRows
import Derived.WalkKit
import Derived.WalkSpells
import Derived.WalkLawsBesides
import Derived.Lib.Strings
import Derived.Lib.Walk
import Derived.Lib.ConvBytes
import Derived.Lib.AtoiErrMem
import Derived.Lib.Hide
import Derived.Laws.Strings3
import Derived.Laws.Closers25
import Derived.Laws.Closers25b
import Derived.BigCall
import Derived.BigGuard
import Derived.Test.YtnhehdobpibgkaaGreatDoorBun0
import Derived.Test.YtnhehdobpibgkaaGreatDoorShf
namespace Go.Proofs.YtnhehdobpibgkaaGreatDoor
open Go.RowKit
set_option linter.unusedVariables false

def lowC (c : Nat) : Nat := (bits .or .u8 (c : Int) 32).toNat
def hv (c : UInt8) : Nat := if 48 ≤ c.toNat ∧ c.toNat ≤ 57 then c.toNat - 48 else if 97 ≤ lowC c.toNat ∧ lowC c.toNat ≤ 102 then lowC c.toNat - 87 else 16
def parseH : Nat → List UInt8 → Option Nat
  | acc, [] => some acc
  | acc, c :: r => if hv c < 16 then parseH (16 * acc + hv c) r else none
def puT : Option Nat → Value
  | some n => .tuple #[.int .u64 (n : Int), .nilIface]
  | none => .tuple #[.int .u64 0, .iface 140 (.int .i64 2)]
theorem lowC_eq (c : Nat) : bits .or .u8 (c : Int) 32 = ((lowC c : Nat) : Int) := by
  have := bits_lo_u8 .or (c : Int) 32
  unfold lowC; omega
theorem lowC_le (c : Nat) : lowC c ≤ 255 := by
  have := bits_hi_u8 .or (c : Int) 32
  unfold lowC; omega
theorem parseH_lt : ∀ (l : List UInt8) (acc n : Nat), parseH acc l = some n → n < (acc + 1) * 16 ^ l.length
  | [], acc, n, h => by cases h; simp
  | c :: r, acc, n, h => by
    unfold parseH at h
    by_cases hc : hv c < 16
    · rw [if_pos hc] at h
      have := parseH_lt r _ n h
      have h2 : (16 * acc + hv c + 1) * 16 ^ r.length ≤ ((acc + 1) * 16) * 16 ^ r.length := Nat.mul_le_mul_right _ (by omega)
      have h3 : ((acc + 1) * 16) * 16 ^ r.length = (acc + 1) * 16 ^ (c :: r).length := by rw [List.length_cons, Nat.pow_succ, Nat.mul_assoc, Nat.mul_comm 16]
      omega
    · rw [if_neg hc] at h; cases h
theorem lower_any (c : Int) (w : World) : Calls Tryz.prog 120 #[.int .u8 c] w fun e w' => e = .returned (.int .u8 (bits .or .u8 c 32)) ∧ w' = w := shf_internal_strconv_lower c w
set_option maxHeartbeats 8000000 in
set_option maxRecDepth 100000 in
theorem parse16_any (t : ByteArray) (hne : t.size ≠ 0) (hmax : t.size ≤ 4) (w : World) :
    Calls Tryz.prog 114 #[.string t, .int .i64 16, .int .i64 16] w fun e w' => e = .returned (puT (parseH 0 t.data.toList)) ∧ Below w.heap.size w w' := by
  have hemp : t.toList.isEmpty = false := by
    rw [← decide_eq_emptyBytes]
    exact decide_eq_false (fun h => hne (by rw [h]; rfl))
  have hcv := Lib.run_convert_string_bytes (P := Tryz.prog) w 9 80 5 t (u := .string) Tryz.underlying9 Tryz.underlying80 Tryz.underlying5
  have hB : ∀ j, j < t.size → (Lib.bytesWorld w 5 t).cell? ⟨w.heap.size, j, none⟩ = some (.int .u8 (t.data.toList.getD j 0).toNat) := fun j hj => Lib.bytesWorld_cell w 5 t j hj
  have HBW : Hid (Below w.heap.size w (Lib.bytesWorld w 5 t)) := Lib.bytesWorld_below _ _ _
  obtain ⟨W1, hW1⟩ : ∃ W1, W1 = Lib.bytesWorld w 5 t := ⟨_, rfl⟩
  rw [← hW1] at hcv hB HBW
  clear hW1
  obtain ⟨bs, hL⟩ : ∃ bs, bs = t.data.toList := ⟨_, rfl⟩
  have hLn : bs.length = t.size := by rw [hL, Lib.size_eq]
  rw [← hL] at hB ⊢
  clear hL
  have hmv : IntKind.u64.wrap (IntKind.u64.wrap 65536 - 1) = 65535 := by
    rw [IntKind.wrap_u64, IntKind.wrap_u64]
    decide
  go_enter Tryz.func114, Tryz.ntmps114
  go_wp2
  go_loop [12, 13, 101] (fun vu vn vi => ∃ (k acc : Nat) (a : Int), vu = .bool false ∧ vn = .int .u64 a ∧ vi = .int .i64 k ∧ k ≤ t.size ∧ Hid (a = (acc : Int) ∧ acc < 16 ^ k ∧ parseH 0 bs = parseH acc (bs.drop k)))
    (fun _ _ vi => t.size - (intOf vi).toNat)
  case atStart => exact ⟨0, 0, 0, rfl, rfl, rfl, by omega, rfl, by simp, rfl⟩
  case round =>
    obtain ⟨k, acc, a, rfl, rfl, rfl, hk, hh⟩ := hrel
    obtain ⟨ha, hacc, hdec⟩ := hh.out
    clear hh
    by_cases hkn : k < t.size
    · have hc := hB k hkn
      have hdrop : bs.drop k = bs[k]'(by omega) :: bs.drop (k + 1) := List.drop_eq_getElem_cons (by omega)
      have hget : bs.getD k 0 = bs[k]'(by omega) := by simp [List.getD, List.getElem?_eq_getElem (show k < bs.length by omega)]
      rw [hdrop] at hdec
      rw [hget] at hc
      generalize bs[k]'(by omega) = c at hc hdec
      have hc256 : c.toNat < 256 := c.toNat_lt
      have hk3 : 16 ^ k ≤ 16 ^ 3 := Nat.pow_le_pow_right (by omega) (by omega)
      have a0 : 0 ≤ a := by omega
      have a1 : a ≤ 4095 := by omega
      clear hB hdrop hget hk3
      have HP : Hid (hv c < 16 → parseH acc (c :: bs.drop (k + 1)) = parseH (16 * acc + hv c) (bs.drop (k + 1))) := fun h => by rw [parseH, if_pos h]
      have HN : Hid (¬ hv c < 16 → parseH acc (c :: bs.drop (k + 1)) = none) := fun h => by rw [parseH, if_neg h]
      have HPOW : Hid (16 ^ (k + 1) = 16 * 16 ^ k) := by show _ = _; rw [Nat.pow_succ, Nat.mul_comm]
      have HD : Hid (_ = _) := hdec
      have HA : Hid (a = (acc : Int) ∧ acc < 16 ^ k) := ⟨ha, hacc⟩
      clear hdec ha hacc
      by_cases hdig : 48 ≤ c.toNat ∧ c.toNat ≤ 57
      · obtain ⟨hd0, hd1⟩ := hdig
        have HV : Hid (hv c = c.toNat - 48) := by show _ = _; unfold hv; rw [if_pos ⟨hd0, hd1⟩]
        have icut : a < 1152921504606846976 := by omega
        go_wp2
        refine ⟨⟨k + 1, 16 * acc + hv c, a * 16 + ((c.toNat : Int) - 48), rfl, (by first | rfl | (congr 1; omega)), (by first | rfl | (congr 1; omega)), by omega, ?_⟩, by simp [intOf]; omega⟩
        have h1 := HV.out; have h2 := HA.out; have h3 := HPOW.out
        exact ⟨by omega, by omega, HD.out.trans (HP.out (by omega))⟩
      · have hL := lowC_eq c.toNat
        have hl := lowC_le c.toNat
        have hV : hv c = if 97 ≤ lowC c.toNat ∧ lowC c.toNat ≤ 102 then lowC c.toNat - 87 else 16 := by unfold hv; rw [if_neg hdig]
        have h127 : c.toNat = 95 → lowC c.toNat = 127 := fun h => by rw [h]; rfl
        generalize hvv : lowC c.toNat = v at *
        clear hvv
        have e0 : ¬ (48 ≤ (c.toNat : Int) ∧ (c.toNat : Int) ≤ 57) := by omega
        by_cases hlow : 97 ≤ v ∧ v ≤ 102
        · rw [if_pos hlow] at hV
          obtain ⟨l0, l1⟩ := hlow
          have h95 : ((c.toNat : Int) == 95) = false := by rw [beq_eq_false_iff_ne]; intro h; have := h127 (by omega); omega
          have icut : a < 1152921504606846976 := by omega
          have HV : Hid (hv c = v - 87) := hV
          clear hV h127
          by_cases hd : 48 ≤ c.toNat
          all_goals
            go_wp2_with (go_at_call 120; refine (lower_any _ _).mono ?_; rintro e w' ⟨rfl, rfl⟩)
            refine ⟨⟨k + 1, 16 * acc + hv c, a * 16 + ((v : Int) - 87), rfl, (by first | rfl | (congr 1; omega)), (by first | rfl | (congr 1; omega)), by omega, ?_⟩, by simp [intOf]; omega⟩
            have h1 := HV.out; have h2 := HA.out; have h3 := HPOW.out
            exact ⟨by omega, by omega, HD.out.trans (HP.out (by omega))⟩
        · rw [if_neg hlow] at hV
          have HR : Hid (parseH 0 bs = none) := by show _ = _; rw [HD.out]; exact HN.out (by omega)
          clear hV HN HD HP HPOW HA
          have q0 : ¬ (97 ≤ (v : Int) ∧ (v : Int) ≤ 102) := by omega
          by_cases h95 : c.toNat = 95
          · have hv127 := h127 h95
            have h95' : (c.toNat : Int) = 95 := by omega
            subst hv127
            rw [h95'] at hL hc
            clear h127
            go_wp2_with (go_at_call 120; refine (lower_any _ _).mono ?_; rintro e w' ⟨rfl, rfl⟩)
            go_ret2
            exact ⟨by rw [HR.out]; rfl, HBW.out⟩
          · have h95' : ((c.toNat : Int) == 95) = false := by rw [beq_eq_false_iff_ne]; intro h; exact h95 (by omega)
            clear h127
            by_cases hd : 48 ≤ c.toNat
            all_goals
              by_cases hm : 97 ≤ v
              all_goals
                go_wp2_with (go_at_call 120; refine (lower_any _ _).mono ?_; rintro e w' ⟨rfl, rfl⟩)
                all_goals
                  go_ret2
                  exact ⟨by rw [HR.out]; rfl, HBW.out⟩
    · obtain rfl : k = t.size := by omega
      rw [List.drop_eq_nil_of_le (by omega)] at hdec
      have HR : Hid (parseH 0 bs = some acc) := hdec
      subst ha
      clear hacc hdec
      go_wp2
      go_ret2
      exact ⟨by rw [HR.out]; rfl, HBW.out⟩
/- Of strconv's own table of errors that one is read. -/
def ErrV (w : World) : Prop := ∃ te pe, w.cell? ⟨1, 0, none⟩ = some (.iface te pe)
theorem ErrV.below {w w' : World} (h : ErrV w) (hb : Below w.heap.size w w') : ErrV w' := by
  obtain ⟨te, pe, h⟩ := h
  exact ⟨te, pe, (hb.cell (p := ⟨1, 0, none⟩) (World.block_lt_of_cell? _ _ h)).trans h⟩
theorem ErrV.alloc {w : World} (h : ErrV w) (o : Obj) : ErrV (w.alloc o) := h.below (below_new w o)
def puE (o : Option Nat) (e : Ending) : Prop := (∃ n : Nat, o = some n ∧ e = .returned (.tuple #[.int .u64 (n : Int), .nilIface])) ∨ (o = none ∧ ∃ N, e = .returned (.tuple #[.int .u64 0, .iface 142 (.pointer (some ⟨N, 0, none⟩))]))
def numH (s : ByteArray) : Int := match parseH 0 s.data.toList with
  | some n => (n : Int)
  | none => 0
theorem numH_bd (s : ByteArray) (h : s.size ≤ 4) : 0 ≤ numH s ∧ numH s ≤ 65535 := by
  unfold numH
  cases hp : parseH 0 s.data.toList with
  | none => simp
  | some n =>
    have h1 := parseH_lt _ _ _ hp
    have h2 : s.data.toList.length ≤ 4 := by rw [← Lib.size_eq]; exact h
    have h3 : 16 ^ s.data.toList.length ≤ 16 ^ 4 := Nat.pow_le_pow_right (by omega) h2
    simp
    omega
set_option maxRecDepth 100000 in
set_option maxHeartbeats 1600000 in
theorem parseUint_any (t : ByteArray) (hne : t.size ≠ 0) (hmax : t.size ≤ 4) (w : World) (hE : ErrV w) :
    Calls Tryz.prog 110 #[.string t, .int .i64 16, .int .i64 16] w fun e w' => puE (parseH 0 t.data.toList) e ∧ Below w.heap.size w w' := by
  have HE : Hid (ErrV w) := hE
  clear hE
  cases hp : parseH 0 t.data.toList with
  | some n =>
    have HP : Hid (_ = _) := hp
    clear hp
    go_enter Tryz.func110, Tryz.ntmps110
    go_wp2_with fail
    refine (parse16_any t hne hmax _).mono ?_
    rintro e w' ⟨rfl, hb⟩
    rw [HP.out]
    have HB : Hid (Below w.heap.size w w') := hb
    clear hb
    unfold puT
    go_wp2
    go_ret2
    exact ⟨.inl ⟨n, rfl, rfl⟩, HB.out⟩
  | none =>
    have HP : Hid (_ = _) := hp
    clear hp
    go_enter Tryz.func110, Tryz.ntmps110
    go_wp2_with fail
    refine (parse16_any t hne hmax _).mono ?_
    rintro e w' ⟨rfl, hb⟩
    rw [HP.out]
    have HB : Hid (Below w.heap.size w w') := hb
    obtain ⟨te, pe, hc⟩ := HE.out.below hb
    have HC : Hid (_ = _) := hc
    clear hb hc
    unfold puT
    go_wp2_with fail
    refine (shf_strconv_toError_syntax _ t 16 16 _ _ (by omega) HC.out (.inr ⟨_, _, rfl⟩)).mono ?_
    rintro e w2 ⟨N, rfl, _, _, hb⟩
    have HB2 : Hid (Below w.heap.size w w2) := below_call HB.out hb
    clear hb
    go_wp2
    go_ret2
    exact ⟨.inr ⟨rfl, N, rfl⟩, HB2.out⟩
set_option maxRecDepth 100000 in
set_option maxHeartbeats 1600000 in
theorem numberOfHex_any (t : ByteArray) (hne : t.size ≠ 0) (hmax : t.size ≤ 4) (w : World) (hE : ErrV w) :
    Calls Tryz.prog 103 #[.string t] w fun e w' => e = .returned (.int .i64 (numH t)) ∧ Below w.heap.size w w' := by
  have HE : Hid (ErrV w) := hE
  have hbd := numH_bd t hmax
  have HN : Hid (numH t = match parseH 0 t.data.toList with | some n => (n : Int) | none => 0) := rfl
  clear hE
  go_enter Tryz.func103, Tryz.ntmps103
  go_wp2_with fail
  refine (parseUint_any t hne hmax _ HE.out).mono ?_
  rintro e w' ⟨⟨n, hp, rfl⟩ | ⟨hp, N, rfl⟩, hb⟩
  · have HB : Hid (Below w.heap.size w w') := hb
    have hn : numH t = (n : Int) := by rw [HN.out, hp]
    have hn2 : n ≤ 65535 := by omega
    have HE2 : Hid (_ = _) := hn
    clear hb hp hn hbd
    go_wp2
    go_ret
    exact ⟨ret_int (by rw [HE2.out]), HB.out⟩
  · have HB : Hid (Below w.heap.size w w') := hb
    have hn : numH t = 0 := by rw [HN.out, hp]
    have HE2 : Hid (_ = _) := hn
    clear hb hp hn hbd
    go_wp2
    go_ret
    exact ⟨ret_int (by rw [HE2.out]), HB.out⟩
end Go.Proofs.YtnhehdobpibgkaaGreatDoor
