/- Numbers as the program reads them. -/
import Derived.Test.YtodjccipfonaiaaGreatDoorRows
import Derived.WalkKit
import Derived.WalkSpells
import Derived.WalkLawsBesides
import Derived.Outline
import Derived.Laws.RangeAny
import Derived.Lib.OthersKept
import Derived.Lib.TrimU
import Derived.Test.YtodjccipfonaiaaGreatDoorBun0
import Derived.Test.YtodjccipfonaiaaGreatDoorBun1
import Derived.Test.YtodjccipfonaiaaGreatDoorNumSX
import Derived.Test.YtodjccipfonaiaaGreatDoorBun30
import Derived.Test.YtodjccipfonaiaaGreatDoorBun14
namespace Go.Proofs.YtodjccipfonaiaaGreatDoor
open Go.RowKit
set_option linter.unusedVariables false

theorem decode_ok (s : ByteArray) (p : Nat) : (Utf8.decode s p).1 < 55296 ∨ (¬ (Utf8.decode s p).1 < 55296 ∧ 57343 < (Utf8.decode s p).1) := by
  have h0 : (s.get! p).toNat < 256 := UInt8.toNat_lt _
  have h1 : (s.get! (p + 1)).toNat < 256 := UInt8.toNat_lt _
  rw [Lib.decode_at]
  unfold Lib.decodeN
  repeat' split
  all_goals (simp only; omega)
def hexP (s : ByteArray) : Bool := decide (2 ≤ s.size ∧ s.extract 0 2 = ⟨#[48, 120]⟩)
def numL (b : Int) (m : Nat) (D : ByteArray) : Option Int := if 1 ≤ D.size ∧ D.size ≤ m then numF b D.data.toList 0 else none
theorem drop_list (s : ByteArray) (k : Nat) : (s.extract k s.size).data.toList = s.data.toList.drop k := by
  rw [ByteArray.data_extract, Array.toList_extract]
  rw [List.extract_eq_take_drop, List.take_of_length_le]
  rw [List.length_drop]
  exact Nat.le_refl _
theorem numR_hex {s : ByteArray} (h : hexP s = true) : numR s = numL 16 4 (s.extract 2 s.size) := by
  obtain ⟨h2, hx⟩ := of_decide_eq_true h
  have hsz : (s.extract 2 s.size).size = s.size - 2 := by rw [ByteArray.size_extract]; omega
  unfold numR numL
  rw [drop_list, hsz]
  by_cases h3 : 2 < s.size
  · rw [if_pos ⟨h3, hx⟩]
    by_cases h6 : s.size ≤ 6
    · rw [if_pos h6, if_pos (by omega)]
    · rw [if_neg h6, if_neg (by omega)]
  · have he : s.size = 2 := by omega
    have hs2 : s = ⟨#[48, 120]⟩ := by
      rw [← hx]
      have : s.extract 0 s.size = s := by simp
      rw [he] at this
      exact this.symm
    rw [if_neg (fun k => h3 k.1), if_pos (by omega), if_neg (by omega), hs2]
    decide +kernel
theorem numR_dec {s : ByteArray} (h : hexP s = false) : numR s = numL 10 5 s := by
  have h2 := of_decide_eq_false h
  unfold numR numL
  rw [if_neg (fun k => h2 ⟨by omega, k.2⟩)]
theorem hex_rune (D : ByteArray) (p : Nat) (h : p < D.size) : hexV ((Utf8.decode D p).1 : Int) = hexV (D[p].toNat : Int) ∧ (0 ≤ hexV (D[p].toNat : Int) → (Utf8.decode D p).2 = 1) := by
  by_cases ha : D[p].toNat < 128
  · rw [decode_ascii D p h ha]
    exact ⟨rfl, fun _ => rfl⟩
  · have hh := (decode_high D p h (by omega)).1
    have e1 := hexV_high ((Utf8.decode D p).1 : Int) (by omega)
    have e2 := hexV_high (D[p].toNat : Int) (by omega)
    exact ⟨e1.trans e2.symm, fun k => by rw [e2] at k; omega⟩
theorem hexV_le (c : Int) : hexV c ≤ 15 ∧ -1 ≤ hexV c := by unfold hexV; repeat' split; all_goals omega
theorem pow16le (p : Nat) (h : p ≤ 5) : ((16 : Int) ^ p) ≤ 1048576 ∧ 1 ≤ ((16 : Int) ^ p) := by
  obtain rfl | rfl | rfl | rfl | rfl | rfl : p = 0 ∨ p = 1 ∨ p = 2 ∨ p = 3 ∨ p = 4 ∨ p = 5 := by omega
  all_goals decide
set_option maxRecDepth 100000 in
set_option maxHeartbeats 1600000 in
theorem cutPrefix_yes (s : ByteArray) (w : World) (hs : s.size ≤ 8000) (hp : hexP s = true) : Calls Tryz.prog 116 #[.string s, .string ⟨#[48, 120]⟩] w fun e w' => e = .returned (.tuple #[.string (s.extract 2 s.size), .bool true]) ∧ w' = w := by
  obtain ⟨h2, hx⟩ := of_decide_eq_true hp
  have h2i : (2 : Int) ≤ (s.size : Int) := by omega
  have hxe : ((s.extract 0 2).toList == [48, 120]) = true := by rw [hx, ByteArray.toList_eq]; rfl
  clear hx hp
  go_enter Tryz.func116, Tryz.ntmps116
  go_wp2
  go_ret2
  exact ⟨rfl, rfl⟩
set_option maxRecDepth 100000 in
set_option maxHeartbeats 1600000 in
theorem cutPrefix_no (s : ByteArray) (w : World) (hs : s.size ≤ 8000) (hp : hexP s = false) : Calls Tryz.prog 116 #[.string s, .string ⟨#[48, 120]⟩] w fun e w' => e = .returned (.tuple #[.string s, .bool false]) ∧ w' = w := by
  have hq := of_decide_eq_false hp
  clear hp
  by_cases h2 : 2 ≤ s.size
  · have h2i : (2 : Int) ≤ (s.size : Int) := by omega
    have hxe := text_no [48, 120] (fun h => hq ⟨h2, h⟩)
    clear hq
    go_enter Tryz.func116, Tryz.ntmps116
    go_wp2
    go_ret2
    exact ⟨rfl, rfl⟩
  · have h2i : ¬ (2 : Int) ≤ (s.size : Int) := by omega
    clear hq
    go_enter Tryz.func116, Tryz.ntmps116
    go_wp2
    go_ret2
    exact ⟨rfl, rfl⟩
def NumPOut (s : ByteArray) (w : World) (e : Ending) (w' : World) : Prop := ∃ (n : Int) (ok : Bool), e = .returned (.tuple #[.int .i64 n, .bool ok]) ∧ numR s = (if ok then some n else none) ∧ 0 ≤ n ∧ n ≤ 1048576 ∧ Below w.heap.size w w'
theorem numPOut_mk {s : ByteArray} {w w' : World} (n : Int) (ok : Bool) (h : numR s = (if ok then some n else none)) (h0 : 0 ≤ n) (h1 : n ≤ 1048576) (hb : Below w.heap.size w w') : NumPOut s w (.returned (.tuple #[.int .i64 n, .bool ok])) w' := ⟨n, ok, rfl, h, h0, h1, hb⟩
set_option maxRecDepth 100000 in
set_option maxHeartbeats 3200000 in
theorem numberOf_any (s : ByteArray) (w : World) (hs : s.size ≤ 8000) : Calls Tryz.prog 104 #[.string s] w (NumPOut s w) := by
  have hcase : ∃ (D : ByteArray) (b : Int) (m : Nat), D.size ≤ 8000 ∧ m ≤ 5 ∧ 10 ≤ b ∧ b ≤ 16 ∧ numR s = numL b m D ∧ ((hexP s = true ∧ b = 16 ∧ m = 4 ∧ D = s.extract 2 s.size) ∨ (hexP s = false ∧ b = 10 ∧ m = 5 ∧ D = s)) := by
    cases hp : hexP s
    · exact ⟨s, 10, 5, hs, by omega, by omega, by omega, numR_dec hp, .inr ⟨rfl, rfl, rfl, rfl⟩⟩
    · exact ⟨s.extract 2 s.size, 16, 4, by rw [ByteArray.size_extract]; omega, by omega, by omega, by omega, numR_hex hp, .inl ⟨rfl, rfl, rfl, rfl⟩⟩
  obtain ⟨D, b, m, hD, hm, hb0, hb1, hR, hk⟩ := hcase
  have HN : Hid (numR s = numL b m D) := hR
  clear hR
  rcases hk with ⟨hp, rfl, rfl, hDe⟩ | ⟨hp, rfl, rfl, hDe⟩
  · have HC : Hid (∀ W, Calls Tryz.prog 116 #[.string s, .string ⟨#[48, 120]⟩] W fun e w' => e = .returned (.tuple #[.string D, .bool true]) ∧ w' = W) := fun W => by
      rw [hDe]
      exact cutPrefix_yes s W hs hp
    clear hp hDe
    go_enter Tryz.func104, Tryz.ntmps104
    go_wp2_with fail
    refine (HC.out _).mono ?_
    rintro e x1 ⟨rfl, hx⟩
    have hxe := hx.symm
    subst hxe
    clear hx
    by_cases hl1 : (D.size : Int) < 1
    · go_wp2
      go_ret2
      exact numPOut_mk 0 false (by rw [HN.out]; unfold numL; rw [if_neg (by omega)]; rfl) (by omega) (by omega) (Below.refl _ _)
    by_cases hl2 : (D.size : Int) > 4
    · go_wp2
      go_ret2
      exact numPOut_mk 0 false (by rw [HN.out]; unfold numL; rw [if_neg (by omega)]; rfl) (by omega) (by omega) (Below.refl _ _)
    have HN2 : Hid (numR s = numF 16 D.data.toList 0) := by show _ = _; rw [HN.out]; unfold numL; rw [if_pos (by omega)]
    go_wp2
    go_loopw [9] (fun n wr => ∃ (p : Nat) (v : Int), p ≤ D.size ∧ n = .int .i64 v ∧ 0 ≤ v ∧ v < 16 ^ p ∧ Hid (wr.heap[w.heap.size]? = some (.stringIter D p)) ∧ Hid (Below w.heap.size w wr) ∧ Hid (numR s = numF 16 (D.data.toList.drop p) v)) (fun _ wr => match wr.heap[w.heap.size]? with | some (.stringIter _ p) => D.size - p | _ => 0)
    case atStart => exact ⟨0, 0, by omega, rfl, by omega, by omega, World.iter_heap w D 0, below_new _ _, HN2.out⟩
    case round =>
      obtain ⟨p, v, hp, rfl, hv0, hv1, HIT, HB, HR⟩ := hrel
      by_cases hlt : p < D.size
      · have hn := fun ty => Lib.run_next_any_at (P := Tryz.prog) wr w.heap.size D p ty HIT.out hlt
        obtain ⟨hq1, hq2⟩ := hex_rune D p hlt
        have hrl := Lib.rune_le D p
        have hok := decode_ok D p
        have hd := hexV_le (D[p].toNat : Int)
        have hpw := pow16le p (by omega)
        have HI2 : Hid (_ = _) := Lib.iterAt_heap wr w.heap.size D p (p + (Utf8.decode D p).2) HIT.out
        have HB2 : Hid (Below w.heap.size w _) := iter_below (s := D) (pos := p + (Utf8.decode D p).2) HB.out
        have HX : Hid (∀ W, Calls Tryz.prog 117 #[.string ⟨#[48, 49, 50, 51, 52, 53, 54, 55, 56, 57, 97, 98, 99, 100, 101, 102]⟩, .int .i32 ((Utf8.decode D p).1 : Int)] W fun e w' => e = .returned (.int .i64 (hexV (D[p].toNat : Int))) ∧ Below W.heap.size W w') := fun W => by
          rw [← hq1]
          exact idxRune_any _ W (by omega) (by omega) (by omega)
        clear hok hrl hq1
        have HNO : Hid (¬ (0 ≤ hexV (D[p].toNat : Int) ∧ hexV (D[p].toNat : Int) < 16) → numR s = none) := fun k => HR.out.trans (numF_no 16 D p v hlt k)
        have HYES : Hid (0 ≤ hexV (D[p].toNat : Int) → hexV (D[p].toNat : Int) < 16 → numR s = numF 16 (D.data.toList.drop (p + 1)) (16 * v + hexV (D[p].toNat : Int))) := fun k1 k2 => HR.out.trans (numF_yes 16 D p v _ hlt rfl k1 k2)
        have HW1 : Hid (0 ≤ hexV (D[p].toNat : Int) → (Utf8.decode D p).2 = 1) := hq2
        clear hq2
        generalize hexV (D[p].toNat : Int) = d at *
        go_wp2_with fail
        refine (HX.out _).mono ?_
        rintro e x2 ⟨rfl, hb⟩
        have HI3 : Hid (_ = _) := heap_keep HI2.out hb
        have HB3 : Hid (Below w.heap.size w x2) := below_call HB2.out hb
        clear hb hn
        by_cases hd0 : d < 0
        · go_wp2
          go_ret2
          exact numPOut_mk 0 false (HNO.out (by omega)) (by omega) (by omega) HB3.out
        by_cases hd1 : 16 ≤ d
        · go_wp2
          go_ret2
          exact numPOut_mk 0 false (HNO.out (by omega)) (by omega) (by omega) HB3.out
        have hb9 : v * 16 + d < 16 * 16 ^ p := by omega
        have e1 : v * 16 + d ≤ 9223372036854775807 := by omega
        have HWW := HW1.out (by omega)
        rw [HWW] at HI3
        go_wp2
        go_roundw
        case rel => exact ⟨p + 1, v * 16 + d, by omega, by go_num, by omega, by rw [Int.pow_succ]; omega, HI3.out, HB3.out, by have h := HYES.out (by omega) (by omega); rw [Int.mul_comm] at h; exact h⟩
        case measure => have h1 := HI3.out; have h2 := HIT.out; simp only [h1, h2]; omega
      · have hn := fun ty => Lib.run_next_end_at (P := Tryz.prog) wr w.heap.size D p ty HIT.out hlt
        have hpw := pow16le p (by omega)
        have HE : Hid (numR s = some v) := HR.out.trans (numF_end 16 D p v (by omega))
        go_wp2
        go_ret2
        exact numPOut_mk v true HE.out hv0 (by omega) HB.out
  · have hDe' := hDe.symm
    subst hDe'
    clear hDe
    have HC : Hid (∀ W, Calls Tryz.prog 116 #[.string s, .string ⟨#[48, 120]⟩] W fun e w' => e = .returned (.tuple #[.string s, .bool false]) ∧ w' = W) := fun W => cutPrefix_no s W hs hp
    clear hp
    go_enter Tryz.func104, Tryz.ntmps104
    go_wp2_with fail
    refine (HC.out _).mono ?_
    rintro e x1 ⟨rfl, hx⟩
    have hxe := hx.symm
    subst hxe
    clear hx
    by_cases hl1 : (s.size : Int) < 1
    · go_wp2
      go_ret2
      exact numPOut_mk 0 false (by rw [HN.out]; unfold numL; rw [if_neg (by omega)]; rfl) (by omega) (by omega) (Below.refl _ _)
    by_cases hl2 : (s.size : Int) > 5
    · go_wp2
      go_ret2
      exact numPOut_mk 0 false (by rw [HN.out]; unfold numL; rw [if_neg (by omega)]; rfl) (by omega) (by omega) (Below.refl _ _)
    have HN2 : Hid (numR s = numF 10 s.data.toList 0) := by show _ = _; rw [HN.out]; unfold numL; rw [if_pos (by omega)]
    go_wp2
    go_loopw [9] (fun n wr => ∃ (p : Nat) (v : Int), p ≤ s.size ∧ n = .int .i64 v ∧ 0 ≤ v ∧ v < 16 ^ p ∧ Hid (wr.heap[w.heap.size]? = some (.stringIter s p)) ∧ Hid (Below w.heap.size w wr) ∧ Hid (numR s = numF 10 (s.data.toList.drop p) v)) (fun _ wr => match wr.heap[w.heap.size]? with | some (.stringIter _ p) => s.size - p | _ => 0)
    case atStart => exact ⟨0, 0, by omega, rfl, by omega, by omega, World.iter_heap w s 0, below_new _ _, HN2.out⟩
    case round =>
      obtain ⟨p, v, hp, rfl, hv0, hv1, HIT, HB, HR⟩ := hrel
      by_cases hlt : p < s.size
      · have hn := fun ty => Lib.run_next_any_at (P := Tryz.prog) wr w.heap.size s p ty HIT.out hlt
        obtain ⟨hq1, hq2⟩ := hex_rune s p hlt
        have hrl := Lib.rune_le s p
        have hok := decode_ok s p
        have hd := hexV_le (s[p].toNat : Int)
        have hpw := pow16le p (by omega)
        have HI2 : Hid (_ = _) := Lib.iterAt_heap wr w.heap.size s p (p + (Utf8.decode s p).2) HIT.out
        have HB2 : Hid (Below w.heap.size w _) := iter_below (s := s) (pos := p + (Utf8.decode s p).2) HB.out
        have HX : Hid (∀ W, Calls Tryz.prog 117 #[.string ⟨#[48, 49, 50, 51, 52, 53, 54, 55, 56, 57, 97, 98, 99, 100, 101, 102]⟩, .int .i32 ((Utf8.decode s p).1 : Int)] W fun e w' => e = .returned (.int .i64 (hexV (s[p].toNat : Int))) ∧ Below W.heap.size W w') := fun W => by
          rw [← hq1]
          exact idxRune_any _ W (by omega) (by omega) (by omega)
        clear hok hrl hq1
        have HNO : Hid (¬ (0 ≤ hexV (s[p].toNat : Int) ∧ hexV (s[p].toNat : Int) < 10) → numR s = none) := fun k => HR.out.trans (numF_no 10 s p v hlt k)
        have HYES : Hid (0 ≤ hexV (s[p].toNat : Int) → hexV (s[p].toNat : Int) < 10 → numR s = numF 10 (s.data.toList.drop (p + 1)) (10 * v + hexV (s[p].toNat : Int))) := fun k1 k2 => HR.out.trans (numF_yes 10 s p v _ hlt rfl k1 k2)
        have HW1 : Hid (0 ≤ hexV (s[p].toNat : Int) → (Utf8.decode s p).2 = 1) := hq2
        clear hq2
        generalize hexV (s[p].toNat : Int) = d at *
        go_wp2_with fail
        refine (HX.out _).mono ?_
        rintro e x2 ⟨rfl, hb⟩
        have HI3 : Hid (_ = _) := heap_keep HI2.out hb
        have HB3 : Hid (Below w.heap.size w x2) := below_call HB2.out hb
        clear hb hn
        by_cases hd0 : d < 0
        · go_wp2
          go_ret2
          exact numPOut_mk 0 false (HNO.out (by omega)) (by omega) (by omega) HB3.out
        by_cases hd1 : 10 ≤ d
        · go_wp2
          go_ret2
          exact numPOut_mk 0 false (HNO.out (by omega)) (by omega) (by omega) HB3.out
        have hb9 : v * 10 + d < 16 * 16 ^ p := by omega
        have e1 : v * 10 + d ≤ 9223372036854775807 := by omega
        have HWW := HW1.out (by omega)
        rw [HWW] at HI3
        go_wp2
        go_roundw
        case rel => exact ⟨p + 1, v * 10 + d, by omega, by go_num, by omega, by rw [Int.pow_succ]; omega, HI3.out, HB3.out, by have h := HYES.out (by omega) (by omega); rw [Int.mul_comm] at h; exact h⟩
        case measure => have h1 := HI3.out; have h2 := HIT.out; simp only [h1, h2]; omega
      · have hn := fun ty => Lib.run_next_end_at (P := Tryz.prog) wr w.heap.size s p ty HIT.out hlt
        have hpw := pow16le p (by omega)
        have HE : Hid (numR s = some v) := HR.out.trans (numF_end 10 s p v (by omega))
        go_wp2
        go_ret2
        exact numPOut_mk v true HE.out hv0 (by omega) HB.out
end Go.Proofs.YtodjccipfonaiaaGreatDoor
namespace Go.Proofs.YtodjccipfonaiaaGreatDoor
open Go.RowKit
set_option linter.unusedVariables false

structure But (b : Nat) (w w' : World) : Prop where
  os : w'.os = w.os
  tape : w'.tape = w.tape
  output : w'.output = w.output
  size : w.heap.size ≤ w'.heap.size
  block : ∀ k, k < w.heap.size → k ≠ b → w'.heap[k]? = w.heap[k]?
theorem But.refl (b : Nat) (w : World) : But b w w := ⟨rfl, rfl, rfl, Nat.le_refl _, fun _ _ _ => rfl⟩
theorem But.trans {b : Nat} {x y z : World} (h : But b x y) (k : But b y z) : But b x z :=
  ⟨k.os.trans h.os, k.tape.trans h.tape, k.output.trans h.output, Nat.le_trans h.size k.size, fun i hi hb => (k.block i (Nat.lt_of_lt_of_le hi h.size) hb).trans (h.block i hi hb)⟩
theorem But.of {b : Nat} {w w' : World} (h : Below w.heap.size w w') : But b w w' := ⟨h.os, h.tape, h.output, h.size, fun k hk _ => h.block k hk⟩
theorem But.call {b : Nat} {x y z : World} (h : But b x y) (hb : Below y.heap.size y z) : But b x z := h.trans (But.of hb)
theorem But.alloc {b : Nat} {x y : World} (h : But b x y) (o : Obj) : But b x (y.alloc o) := h.call (below_new y o)
theorem But.drew {b : Nat} {x y : World} (h : But b x y) : But b x y.drew := ⟨h.os, h.tape, h.output, h.size, h.block⟩
theorem But.setB {b : Nat} {x y : World} (h : But b x y) {p : Addr} (hp : p.block = b) (v : Value) : But b x (y.setCell p v) :=
  h.trans ⟨rfl, rfl, rfl, by simp [World.setCell], fun k _ hk => Below.heap_setCell _ _ _ _ (by rw [hp]; exact hk)⟩
theorem But.setN {b : Nat} {x y : World} (h : But b x y) {p : Addr} (hp : x.heap.size ≤ p.block) (v : Value) : But b x (y.setCell p v) :=
  ⟨h.os, h.tape, h.output, by simpa [World.setCell] using h.size, fun k hk hb => (Below.heap_setCell _ _ _ _ (by omega)).trans (h.block k hk hb)⟩
theorem But.keep {b B : Nat} {w w' : World} {o : Obj} (h : w.heap[B]? = some o) (hb : But b w w') (hne : B ≠ b) : w'.heap[B]? = some o := (hb.block B (heap_lt h) hne).trans h
theorem But.below {b B : Nat} {W w w' : World} (h : Below B W w) (hb : But b w w') (hB : B ≤ b) (hs : B ≤ w.heap.size) : Below B W w' :=
  h.trans ⟨hb.os, hb.tape, hb.output, hb.size, fun k hk => hb.block k (by omega) (by omega)⟩
theorem But.cell {b : Nat} {w w' : World} (h : But b w w') {p : Addr} (hp : p.block < w.heap.size) (hne : p.block ≠ b) : w'.cell? p = w.cell? p := World.cell?_of_block (w := w) (h.block p.block hp hne)
theorem But.frozen {b : Nat} {w w' : World} (h : But b w w') {p : Addr} (hp : p.block < w.heap.size) (hne : p.block ≠ b) : w'.frozen? p = w.frozen? p := World.frozen?_of_block (w := w) (h.block p.block hp hne)
/- The pieces that a slice of texts reads as; their cells lie in block g, which is not b. -/
def ReadP (w : World) (b g : Nat) (a : Option Addr) (L : List ByteArray) : Prop := 0 < L.length → ∃ o : Nat, a = some ⟨g, o, none⟩ ∧ g ≠ b ∧ ∀ i (h : i < L.length), w.cell? ⟨g, o + i, none⟩ = some (.string L[i])
theorem ReadP.but {w w' : World} {b c g : Nat} {a : Option Addr} {L : List ByteArray} (h : ReadP w b g a L) (hb : But c w w') (hg : g < w.heap.size) (hc : b ≠ c → g ≠ c) : ReadP w' b g a L := fun hl => by
  obtain ⟨o, rfl, hne, hcell⟩ := h hl
  refine ⟨o, rfl, hne, fun i hi => (hb.cell (p := ⟨g, o + i, none⟩) hg ?_).trans (hcell i hi)⟩
  by_cases e : b = c
  · exact e ▸ hne
  · exact hc e
theorem ReadP.tail {w : World} {b g o : Nat} {p : ByteArray} {L : List ByteArray} (h : ReadP w b g (some ⟨g, o, none⟩) (p :: L)) : ReadP w b g (some ⟨g, o + 1, none⟩) L := fun hl => by
  obtain ⟨o', e, hne, hc⟩ := h (by simp)
  cases e
  refine ⟨o + 1, rfl, hne, fun i hi => ?_⟩
  have := hc (i + 1) (by simpa using hi)
  rw [show o + (i + 1) = o + 1 + i by omega] at this
  simpa using this
structure Rd (w : World) (b g : Nat) (a : Option Addr) (cap : Nat) (L : List ByteArray) : Prop where
  row : w.heap[b]? = some (.cells #[.slice a L.length cap] 62 (0, 0))
  read : ReadP w b g a L
  at' : g < w.heap.size
  len : L.length ≤ cap
  cap : cap ≤ maxLen
  less : L.length ≤ 9000
  text : ∀ p ∈ L, p.size ≤ 8000
theorem Rd.but {w w' : World} {b c g : Nat} {a : Option Addr} {cap : Nat} {L : List ByteArray} (h : Rd w b g a cap L) (hb : But c w w') (hc : c ≠ b) (hg : g ≠ c) : Rd w' b g a cap L :=
  ⟨But.keep h.row hb (fun e => hc e.symm), h.read.but hb h.at' (fun _ => hg), Nat.lt_of_lt_of_le h.at' hb.size, h.len, h.cap, h.less, h.text⟩
theorem Rd.call {w w' : World} {b g : Nat} {a : Option Addr} {cap : Nat} {L : List ByteArray} (h : Rd w b g a cap L) (hb : Below w.heap.size w w') : Rd w' b g a cap L :=
  ⟨heap_keep h.row hb, h.read.but (But.of (b := b) hb) h.at' (fun e => absurd rfl e), Nat.lt_of_lt_of_le h.at' hb.size, h.len, h.cap, h.less, h.text⟩
theorem Rd.alloc {w : World} {b g : Nat} {a : Option Addr} {cap : Nat} {L : List ByteArray} (h : Rd w b g a cap L) (o : Obj) : Rd (w.alloc o) b g a cap L := h.call (below_new w o)
theorem Rd.setN {w : World} {b g : Nat} {a : Option Addr} {cap : Nat} {L : List ByteArray} {p : Addr} {v : Value} (hp : p.block ≠ b) (hg : g ≠ p.block) (h : Rd w b g a cap L) : Rd (w.setCell p v) b g a cap L :=
  h.but (But.setB (But.refl p.block w) rfl v) hp hg
end Go.Proofs.YtodjccipfonaiaaGreatDoor
