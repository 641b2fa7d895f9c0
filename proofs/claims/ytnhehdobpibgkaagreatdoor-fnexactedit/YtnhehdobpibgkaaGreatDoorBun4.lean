/- Sources, a call's own: marked, and asked for their marks. -/
import Derived.Test.YtnhehdobpibgkaaGreatDoorRows
import Derived.WalkKit
import Derived.WalkSpells
import Derived.WalkLawsBesides
import Derived.Outline
import Derived.RegionTactic
import Derived.BigRegion
import Derived.Deep.RegionHeld3
import Derived.Test.YtnhehdobpibgkaaGreatDoorBun0
import Derived.Test.YtnhehdobpibgkaaGreatDoorBun1
import Derived.Test.YtnhehdobpibgkaaGreatDoorBun2
import Derived.Test.YtnhehdobpibgkaaGreatDoorBun3
import Derived.Laws.BitsAllLaws
namespace Go.Proofs.YtnhehdobpibgkaaGreatDoor
open Go.RowKit
set_option linter.unusedVariables false

structure KS (v : Value) (w w' : World) : Prop where
  os : w'.os = w.os
  tape : w'.tape = w.tape
  output : w'.output = w.output
  size : w.heap.size ≤ w'.heap.size
  block : ∀ q, q < w.heap.size → v.ownBlock ≠ some q → w'.heap[q]? = w.heap[q]?
theorem KS.refl (v : Value) (w : World) : KS v w w := ⟨rfl, rfl, rfl, Nat.le_refl _, fun _ _ _ => rfl⟩
theorem KS.of {v : Value} {g : Nat} {w w' : World} (hv : v.ownBlock = some g) (h : But g w w') : KS v w w' := ⟨h.os, h.tape, h.output, h.size, fun q hq hne => h.block q hq (fun e => hne (by rw [hv, e]))⟩
def PS {α : Type} (n : Nat) (c : α → List Value) (cur : Array Value) (L : List α) (k : Nat) : Prop := ∀ i (h : i < L.length), i < k → ∀ j, j < n → cur[i * n + j]? = (c L[i])[j]?
theorem PS.set2 {α : Type} {c : α → List Value} {cur : Array Value} {L : List α} {k cap : Nat} (h : PS 2 c cur L k) (hs : cur.size = cap * 2) (hc : L.length ≤ cap) (hk : k < L.length) {u v : Value} (hu : c L[k] = [u, v]) : PS 2 c ((cur.setIfInBounds (k * 2) u).setIfInBounds (k * 2 + 1) v) L (k + 1) := fun i hi hik j hj => by
  have hsz : k * 2 + 1 < cur.size := by omega
  rw [Array.getElem?_setIfInBounds, Array.getElem?_setIfInBounds]
  by_cases e : i = k
  · subst e
    rw [hu]
    obtain rfl | rfl : j = 0 ∨ j = 1 := by omega
    · rw [if_neg (by omega), if_pos (by omega), if_pos (by omega)]; rfl
    · rw [if_pos (by omega), if_pos (by simp; omega)]; rfl
  · rw [if_neg (by omega), if_neg (by omega)]
    exact h i hi (by omega) j hj
theorem markText_so {n : Int} {k : Nat} (h : n = (k : Int)) (w : World) (hk0 : 0 < k) (hk1 : k ≤ 1000000000) :
    Calls Tryz.prog 50 #[.int .i64 n] w fun e w' => e = .returned (.string (markT k)) ∧ Below w.heap.size w w' := by
  subst h; exact markText_any k w hk0 hk1
def srcMark (k : Nat) : Src := (markT k, markT (k + 1))
def srcMarks (k n : Nat) : List Src := (List.range n).map fun (i : Nat) => srcMark (k + 2 * i)
theorem srcMarks_len (k n : Nat) : (srcMarks k n).length = n := by simp [srcMarks]
theorem srcMarks_at (k n i : Nat) (h : i < (srcMarks k n).length) : (srcMarks k n)[i] = srcMark (k + 2 * i) := by simp [srcMarks]
set_option maxRecDepth 100000 in
set_option maxHeartbeats 3200000 in
theorem markSourceS_any (v : Value) (B : Nat) (L : List Src) (k : Nat) (w : World) (h1 : OwnX 74 2 srcC w B v L) (hs : L.length ≤ 100000) (hk0 : 0 < k) (hk1 : k ≤ 1000000) :
    Calls Tryz.prog 29 #[v, .int .i64 (k : Int)] w fun e w' => e = .returned (.int .i64 ((k + 2 * L.length : Nat) : Int)) ∧ OwnX 74 2 srcC w' B v (srcMarks k L.length) ∧ KS v w w' := by
  rcases h1.form with ⟨rfl, rfl⟩ | ⟨g, cap, cur, rfl, hB, hg, h4, h5, h6, h7⟩
  · clear h1
    go_enter Tryz.func29, Tryz.ntmps29
    go_wp2
    refine wp_loop_rounds 1 ?_
    rw [rounds_succ]
    go_wp2
    go_ret
    exact ⟨ret_int (by simp), OwnX.nil _ _, KS.refl _ _⟩
  · have HG : Hid (_ = _) := hg
    have HC : Hid (cur.size = cap * 2) := h6
    clear h1 h7 hg h6
    have hcap := h5
    unfold maxLen at h5
    go_enter Tryz.func29, Tryz.ntmps29
    go_wp2
    go_loopw [1, 5] (fun q i wr => ∃ (j : Nat), j ≤ L.length ∧ i = .int .i64 j ∧ q = .int .i64 ((k + 2 * j : Nat) : Int) ∧ Hid (∃ c : Array Value, wr.heap[g]? = some (.cells c 74 (0, 0)) ∧ c.size = cap * 2 ∧ PS 2 srcC c (srcMarks k L.length) j) ∧ Hid (But g w wr)) (fun _ i _ => L.length - (intOf i).toNat)
    case atStart => exact ⟨0, by omega, rfl, by simp, ⟨cur, HG.out, HC.out, fun i _ h => by omega⟩, But.refl _ _⟩
    case round =>
      obtain ⟨j, hj, rfl, rfl, HX, HB⟩ := hrel
      by_cases hlt : j < L.length
      · have hkj : k + 2 * j ≤ 3000000 := by omega
        have hi0 : (0 : Int) ≤ (j : Int) := by omega
        have hi1 : (j : Int) < (L.length : Int) := by omega
        obtain ⟨c, hc0, hcs, hpx⟩ := HX.out
        have HC2 : Hid (c.size = cap * 2) := hcs
        have HC3 : Hid (PS 2 srcC c (srcMarks k L.length) j) := hpx
        have HC4 : Hid (_ = _) := hc0
        clear hc0 hpx HX
        go_wp2_with fail
        refine (markText_so (k := k + 2 * j) (by omega) _ (by omega) (by omega)).mono ?_
        rintro e x ⟨rfl, hb⟩
        have hcx := heap_keep HC4.out hb
        have HBx : Hid (But g w x) := HB.out.call hb
        obtain ⟨p0, q0⟩ : ∃ v, x.cell? ⟨g, j * 2, none⟩ = some v := ⟨c[j * 2]'(by omega), by rw [cell_of_row _ _ _ _ _ _ hcx]; exact Array.getElem?_eq_getElem _⟩
        have z0 : x.frozen? ⟨g, j * 2, none⟩ = false := frozen_of_row _ _ _ _ _ hcx
        have HC0 : Hid (_ = _) := heap_set hcx (j * 2) (.string (markT (k + 2 * j)))
        have HB1 : Hid (But g w _) := HBx.out.setB (p := ⟨g, j * 2, none⟩) rfl (.string (markT (k + 2 * j)))
        clear hcx hb HC4 HB HBx
        go_wp2_with fail
        refine (markText_so (k := k + 2 * j + 1) (by omega) _ (by omega) (by omega)).mono ?_
        rintro e y ⟨rfl, hb⟩
        have hc := heap_keep HC0.out hb
        have HB2 : Hid (But g w y) := HB1.out.call hb
        have HC1 : Hid (_ = _) := hc
        have hcs2 : (c.setIfInBounds (j * 2) (.string (markT (k + 2 * j)))).size = cap * 2 := by simp [hcs]
        obtain ⟨p1, q1⟩ : ∃ v, y.cell? ⟨g, j * 2 + 1, none⟩ = some v := ⟨(c.setIfInBounds (j * 2) (.string (markT (k + 2 * j))))[j * 2 + 1]'(by omega), by rw [cell_of_row _ _ _ _ _ _ hc]; exact Array.getElem?_eq_getElem _⟩
        have z1 : y.frozen? ⟨g, j * 2 + 1, none⟩ = false := frozen_of_row _ _ _ _ _ hc
        clear hcs hcs2 hc hb q0 z0 HC0 HB1
        go_wp2
        go_roundw
        case rel => exact ⟨j + 1, by omega, by go_num, by go_num, ⟨_, heap_set HC1.out (j * 2 + 1) _, by simp [HC2.out], HC3.out.set2 HC2.out (by rw [srcMarks_len]; omega) (by rw [srcMarks_len]; exact hlt) (by rw [srcMarks_at]; rfl)⟩, But.setB HB2.out (p := ⟨g, j * 2 + 1, none⟩) rfl _⟩
        case measure => simp [intOf]; omega
      · obtain rfl : j = L.length := by omega
        go_wp2
        go_ret
        obtain ⟨c, hc, hcs, hpx⟩ := HX.out
        refine ⟨rfl, ?_, KS.of rfl HB.out⟩
        have := OwnX.mk (L := srcMarks k L.length) srcC_len hB hc (by rw [srcMarks_len]; exact h4) hcap hcs (fun i hi m hm => hpx i hi (by rwa [srcMarks_len] at hi) m hm)
        rwa [srcMarks_len] at this
set_option maxRecDepth 100000 in
set_option maxHeartbeats 3200000 in
theorem heldSourceS_any (v : Value) (B : Nat) (n k : Nat) (w : World) (h1 : OwnX 74 2 srcC w B v (srcMarks k n)) (hs : n ≤ 100000) (hk0 : 0 < k) (hk1 : k ≤ 1000000) :
    Calls Tryz.prog 30 #[v, .int .i64 (k : Int)] w fun e w' => e = .returned (.int .i64 ((k + 2 * n : Nat) : Int)) ∧ Below w.heap.size w w' := by
  rcases h1.form with ⟨rfl, e⟩ | ⟨g, cap, cur, rfl, hB, hg, h4, h5, h6, h7⟩
  · clear h1
    obtain rfl : n = 0 := by have := congrArg List.length e; simpa [srcMarks] using this
    go_enter Tryz.func30, Tryz.ntmps30
    go_wp2
    refine wp_loop_rounds 1 ?_
    rw [rounds_succ]
    go_wp2
    go_ret
    exact ⟨ret_int (by simp), Below.refl _ _⟩
  · have HLt : Hid (g < w.heap.size) := heap_lt hg
    have HC : Hid (∀ j, j < n → ∀ W, Below w.heap.size w W → W.cell? ⟨g, j * 2, none⟩ = some (.string (markT (k + 2 * j))) ∧ W.cell? ⟨g, j * 2 + 1, none⟩ = some (.string (markT (k + 2 * j + 1)))) := fun j hj W hW => by
      have hgW : W.heap[g]? = some (.cells cur 74 (0, 0)) := heap_keep hg hW
      have hjl : j < (srcMarks k n).length := by rwa [srcMarks_len]
      have hx : ∀ m, m < 2 → cur[j * 2 + m]? = (srcC (srcMark (k + 2 * j)))[m]? := fun m hm => by
        have hlt : j * 2 + m < (srcMarks k n).length * 2 := by rw [srcMarks_len]; omega
        have e := congrArg (fun l => l[j * 2 + m]?) h7
        simp only [List.getElem?_take, if_pos hlt] at e
        rw [flat_get 2 srcC srcC_len _ j m hjl hm, srcMarks_at] at e
        simpa using e
      refine ⟨?_, ?_⟩
      · rw [cell_of_row _ _ _ _ _ _ hgW]; exact hx 0 (by omega)
      · rw [cell_of_row _ _ _ _ _ _ hgW]; exact hx 1 (by omega)
    rw [srcMarks_len]
    rw [srcMarks_len] at h4
    clear h1 h7 hg h6
    unfold maxLen at h5
    go_enter Tryz.func30, Tryz.ntmps30
    go_wp2
    go_loopw [1, 5] (fun q i wr => ∃ (j : Nat), j ≤ n ∧ i = .int .i64 j ∧ q = .int .i64 ((k + 2 * j : Nat) : Int) ∧ Hid (Below w.heap.size w wr)) (fun _ i _ => n - (intOf i).toNat)
    case atStart => exact ⟨0, by omega, rfl, by simp, Below.refl _ _⟩
    case round =>
      obtain ⟨j, hj, rfl, rfl, HB⟩ := hrel
      by_cases hlt : j < n
      · obtain ⟨q0, q1⟩ := HC.out j hlt wr HB.out
        obtain ⟨N, hN⟩ : ∃ N, k + 2 * j = N := ⟨_, rfl⟩
        rw [hN]
        rw [hN] at q0; rw [hN] at q1; skip
        have hi0 : (0 : Int) ≤ (j : Int) := by omega
        have hi1 : (j : Int) < (n : Int) := by omega
        have hkj : N ≤ 3000000 := by omega
        have HN : Hid (k + 2 * j = N) := hN
        have hN0 : 0 < N := by omega
        clear hN
        have hne : ((markT (N + 1)).toList == (markT (N + 1)).toList) = true := by simp
        have hne0 : ((markT N).toList == (markT N).toList) = true := by simp
        go_wp2_with fail
        go_region_held3 (fun w' => w'.cell? ⟨g, j * 2, none⟩ = some (.string (markT N))) (go_keep) (first
          | (go_at_call 50; refine (markText_so (k := N) (by first | rfl | omega) _ (by omega) (by omega)).mono ?_; rintro e y ⟨rfl, hb⟩; have HB2 : Hid (Below w.heap.size w y) := below_call (by exact HB.out.drew) hb; obtain ⟨r0, r1⟩ := HC.out j hlt y HB2.out; rw [HN.out] at r0; rw [HN.out] at r1; clear hb))
        go_wp2_with fail
        go_region_held3 (fun w' => w'.cell? ⟨g, j * 2 + 1, none⟩ = some (.string (markT (N + 1)))) (go_keep) (first
          | (go_at_call 50; refine (markText_so (k := N + 1) (by first | rfl | omega) _ (by omega) (by omega)).mono ?_; rintro e y2 ⟨rfl, hb⟩; have HB3 : Hid (Below w.heap.size w y2) := below_call (by exact HB2.out.drew) hb; obtain ⟨s0, s1⟩ := HC.out j hlt y2 HB3.out; rw [HN.out] at s0; rw [HN.out] at s1; clear hb))
        go_wp2
        go_roundw
        case rel => exact ⟨j + 1, by omega, by go_num, by have := HN.out; congr 1; omega, HB3.out⟩
        case measure => simp [intOf]; omega
      · obtain rfl : j = n := by omega
        go_wp2
        go_ret
        exact ⟨rfl, HB.out⟩
end Go.Proofs.YtnhehdobpibgkaaGreatDoor
namespace Go.Proofs.YtnhehdobpibgkaaGreatDoor
open Go.RowKit

def polyN : Nat := 3988292384
def stepN (r : Nat) : Nat := if r % 2 = 1 then (r / 2) ^^^ 3988292384 else r / 2
def specK (r : Nat) : Nat → Nat
  | 0 => r
  | k + 1 => stepN (specK r k)
theorem specK_succ (r k : Nat) : specK r (k + 1) = if specK r k % 2 = 1 then (specK r k / 2) ^^^ 3988292384 else specK r k / 2 := rfl
def implK (r b : Nat) : Nat → Nat
  | 0 => r
  | k + 1 => if (b / 2 ^ k ^^^ implK r b k) % 2 = 1 then (implK r b k / 2) ^^^ 3988292384 else implK r b k / 2
def crcB (r b : Nat) : Nat := specK (r ^^^ b) 8
def crcL (r : Nat) : List UInt8 → Nat
  | [] => r
  | c :: l => crcL (crcB r c.toNat) l

theorem xor_half (a b : Nat) : (a ^^^ b) / 2 = a / 2 ^^^ b / 2 := by
  have := Nat.shiftRight_xor_distrib (a := a) (b := b) (i := 1)
  simpa [Nat.shiftRight_eq_div_pow] using this
theorem xor_odd (a b : Nat) : (a ^^^ b) % 2 = (a % 2 + b % 2) % 2 := by
  have h := Nat.xor_mod_two_pow (a := a) (b := b) (n := 1)
  simp only [Nat.pow_one] at h
  rw [h]
  rcases Nat.mod_two_eq_zero_or_one a with ha | ha <;> rcases Nat.mod_two_eq_zero_or_one b with hb | hb <;> rw [ha, hb] <;> rfl
theorem spec_impl (r b k : Nat) : specK (r ^^^ b) k = implK r b k ^^^ (b / 2 ^ k) := by
  induction k with
  | zero => simp [specK, implK]
  | succ k ih =>
    have hp : b / 2 ^ (k + 1) = b / 2 ^ k / 2 := by rw [Nat.pow_succ, Nat.div_div_eq_div_mul]
    simp only [specK, implK, stepN]
    rw [ih, hp, xor_half, Nat.xor_comm (implK r b k) (b / 2 ^ k)]
    split
    · rw [Nat.xor_assoc, Nat.xor_comm (b / 2 ^ k / 2), ← Nat.xor_assoc]
    · rfl
theorem implK_8 (r b : Nat) (hb : b < 256) : implK r b 8 = crcB r b := by
  unfold crcB
  rw [spec_impl]
  have : b / 2 ^ 8 = 0 := Nat.div_eq_of_lt (by omega)
  rw [this, Nat.xor_zero]
theorem xor_lt32 {a b : Nat} (ha : a < 4294967296) (hb : b < 4294967296) : a ^^^ b < 4294967296 := Nat.xor_lt_two_pow (n := 32) ha hb
theorem stepN_lt {r : Nat} (h : r < 4294967296) : stepN r < 4294967296 := by
  unfold stepN; split
  · exact xor_lt32 (by omega) (by omega)
  · omega
theorem specK_lt {r : Nat} (h : r < 4294967296) (k : Nat) : specK r k < 4294967296 := by
  induction k with
  | zero => exact h
  | succ k ih => exact stepN_lt ih
theorem implK_lt {r b : Nat} (h : r < 4294967296) (k : Nat) : implK r b k < 4294967296 := by
  induction k with
  | zero => exact h
  | succ k ih =>
    simp only [implK]; split
    · exact xor_lt32 (by omega) (by omega)
    · omega
theorem crcB_lt {r b : Nat} (h : r < 4294967296) (hb : b < 256) : crcB r b < 4294967296 := specK_lt (xor_lt32 h (by omega)) 8
theorem crcL_lt (l : List UInt8) : ∀ {r : Nat}, r < 4294967296 → crcL r l < 4294967296 := by
  induction l with
  | nil => intro r h; exact h
  | cons c l ih => intro r h; exact ih (crcB_lt h c.toNat_lt)
theorem crcL_append (l m : List UInt8) : ∀ r : Nat, crcL r (l ++ m) = crcL (crcL r l) m := by
  induction l with
  | nil => intro r; rfl
  | cons c l ih => intro r; exact ih _
theorem take_snoc (s : ByteArray) (k : Nat) (h : k < s.size) : s.data.toList.take (k + 1) = s.data.toList.take k ++ [s[k]] := by
  rw [List.take_succ_eq_append_getElem (by simpa using h)]; rfl
theorem crcL_take (r : Nat) (s : ByteArray) (k : Nat) (h : k < s.size) : crcL r (s.data.toList.take (k + 1)) = crcB (crcL r (s.data.toList.take k)) s[k].toNat := by
  rw [take_snoc s k h, crcL_append]; rfl
theorem take_all (s : ByteArray) : s.data.toList.take s.size = s.data.toList := List.take_of_length_le (by simp)

-- how the walk spells one bit
theorem bit_test (r b k : Nat) (hr : r < 4294967296) (hb : b < 256) :
    bits BinOp.and IntKind.u32 (bits BinOp.xor IntKind.u32 (bits BinOp.and IntKind.u32 ((b : Int) / 2 ^ k % 4294967296) 1) (r : Int)) 1 = (((b / 2 ^ k ^^^ r) % 2 : Nat) : Int) := by
  have h0 : b / 2 ^ k < 4294967296 := Nat.lt_of_le_of_lt (Nat.div_le_self _ _) (by omega)
  have e1 : ((b : Int) / 2 ^ k % 4294967296) = ((b / 2 ^ k : Nat) : Int) := by
    have : ((b : Int) / 2 ^ k) = ((b / 2 ^ k : Nat) : Int) := by simp
    rw [this]; generalize b / 2 ^ k = q at h0 ⊢; omega
  have e2 : bits BinOp.and IntKind.u32 ((b / 2 ^ k : Nat) : Int) 1 = ((b / 2 ^ k % 2 : Nat) : Int) := by
    have := u32_and_nat (b / 2 ^ k) 1 h0 (by omega)
    rw [nat_mask1] at this; exact this
  rw [e1, e2]
  have e3 := u32_xor_nat (b / 2 ^ k % 2) r (by omega) hr
  rw [e3]
  have hx : b / 2 ^ k % 2 ^^^ r < 4294967296 := xor_lt32 (by omega) hr
  have e4 := u32_and_nat (b / 2 ^ k % 2 ^^^ r) 1 hx (by omega)
  rw [nat_mask1] at e4
  have e5 : (b / 2 ^ k % 2 ^^^ r) % 2 = (b / 2 ^ k ^^^ r) % 2 := by rw [xor_odd, xor_odd]; omega
  rw [e5] at e4; exact e4
theorem xor_poly (r : Nat) (hr : r < 4294967296) : bits BinOp.xor IntKind.u32 ((r : Int) / 2) 3988292384 = ((r / 2 ^^^ 3988292384 : Nat) : Int) := by
  have := u32_xor_nat (r / 2) 3988292384 (by omega) (by omega)
  have e : ((r : Int) / 2) = ((r / 2 : Nat) : Int) := by omega
  rw [e]; exact this
theorem max_u32 : IntKind.u32.max = 4294967295 := by decide
theorem not32 (x : Nat) (h : x < 4294967296) : bits BinOp.xor IntKind.u32 IntKind.u32.max (x : Int) = ((x ^^^ 4294967295 : Nat) : Int) := by
  rw [max_u32, Nat.xor_comm]; exact u32_xor_nat 4294967295 x (by omega) h
theorem xor_max (x : Nat) (h : x < 4294967296) : bits BinOp.xor IntKind.u32 (x : Int) 4294967295 = ((x ^^^ 4294967295 : Nat) : Int) := u32_xor_nat x 4294967295 h (by omega)
theorem small64 (x : Nat) (h : x < 4294967296) : wrap64 (x : Int) = (x : Int) := by unfold wrap64; omega
def crcOf (c : Nat) (s : ByteArray) : Nat := crcL (c ^^^ 4294967295) s.data.toList ^^^ 4294967295
theorem crcOf_lt (c : Nat) (s : ByteArray) (hc : c < 4294967296) : crcOf c s < 4294967296 := xor_lt32 (crcL_lt _ (xor_lt32 hc (by omega))) (by omega)
theorem crc_end1 (c : Nat) (s : ByteArray) (hc : c < 4294967296) : wrap64 (bits BinOp.xor IntKind.u32 (crcL (c ^^^ 4294967295) (s.data.toList.take s.size) : Nat) 4294967295) = (crcOf c s : Nat) := by
  rw [take_all, xor_max _ (crcL_lt _ (xor_lt32 hc (by omega)))]; exact small64 _ (crcOf_lt c s hc)
theorem crc_end2 (c : Nat) (s : ByteArray) (hc : c < 4294967296) : wrap64 (bits BinOp.xor IntKind.u32 IntKind.u32.max (crcL (c ^^^ 4294967295) (s.data.toList.take s.size) : Nat)) = (crcOf c s : Nat) := by
  rw [take_all, not32 _ (crcL_lt _ (xor_lt32 hc (by omega)))]; exact small64 _ (crcOf_lt c s hc)
end Go.Proofs.YtnhehdobpibgkaaGreatDoor
