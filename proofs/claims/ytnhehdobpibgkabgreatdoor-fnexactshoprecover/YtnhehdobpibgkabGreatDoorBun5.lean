/- Rows of structs that a call itself makes. -/
import Derived.Test.YtnhehdobpibgkabGreatDoorRows
import Derived.WalkKit
import Derived.WalkSpells
import Derived.WalkLawsBesides
import Derived.Outline
import Derived.Test.YtnhehdobpibgkabGreatDoorBun0
import Derived.Test.YtnhehdobpibgkabGreatDoorBun1
import Derived.Test.YtnhehdobpibgkabGreatDoorBun4
import Derived.RegionTactic
import Derived.BigRegion
import Derived.Deep.RegionHeld3
import Derived.Test.YtnhehdobpibgkabGreatDoorBun3
import Derived.Test.YtnhehdobpibgkabGreatDoorBun2
import Derived.Laws.BitsAllLaws
namespace Go.Proofs.YtnhehdobpibgkabGreatDoor
open Go.RowKit
set_option linter.unusedVariables false

def OwnX {α : Type} (T : TypeId) (n : Nat) (c : α → List Value) (w : World) (B : Nat) (v : Value) (L : List α) : Prop := w.ownsRow B T n v L.length (L.flatMap c)
variable {α : Type} {T : TypeId} {n : Nat} {c : α → List Value}
theorem OwnX.stays {w w' : World} {B : Nat} {v : Value} {L : List α} (h : OwnX T n c w B v L) (hb : ∀ q, q < w.heap.size → v.ownBlock = some q → w'.heap[q]? = w.heap[q]?) : OwnX T n c w' B v L := by
  obtain ⟨h1, h2⟩ := h
  refine ⟨h1, ?_⟩
  rcases h2 with h2 | ⟨g, cap, cur, rfl, hB, hg, rest⟩
  · exact .inl h2
  · exact .inr ⟨g, cap, cur, rfl, hB, (hb g (heap_lt hg) rfl).trans hg, rest⟩
theorem OwnX.call {w w' : World} {B : Nat} {v : Value} {L : List α} (h : OwnX T n c w B v L) (hb : Below w.heap.size w w') : OwnX T n c w' B v L := h.stays fun q hq _ => hb.block q hq
theorem OwnX.alloc {w : World} {B : Nat} {v : Value} {L : List α} (h : OwnX T n c w B v L) (o : Obj) : OwnX T n c (w.alloc o) B v L := h.call (below_new w o)
theorem OwnX.low {w : World} {B B' : Nat} {v : Value} {L : List α} (h : OwnX T n c w B v L) (hB : B' ≤ B) : OwnX T n c w B' v L := by
  obtain ⟨h1, h2⟩ := h
  refine ⟨h1, ?_⟩
  rcases h2 with h2 | ⟨g, cap, cur, hv, hg, rest⟩
  · exact .inl h2
  · exact .inr ⟨g, cap, cur, hv, by omega, rest⟩
theorem OwnX.nil (w : World) (B : Nat) : OwnX T n c w B (.slice none 0 0) ([] : List α) := ⟨by simp, .inl ⟨rfl, rfl⟩⟩
theorem OwnX.form {w : World} {B : Nat} {v : Value} {L : List α} (h : OwnX T n c w B v L) :
    (v = .slice none 0 0 ∧ L = []) ∨ ∃ g cap cur, v = .slice (some ⟨g, 0, none⟩) L.length cap ∧ B ≤ g ∧ w.heap[g]? = some (.cells cur T (0, 0)) ∧ L.length ≤ cap ∧ cap ≤ maxLen ∧ cur.size = cap * n ∧ cur.toList.take (L.length * n) = L.flatMap c := by
  obtain ⟨h1, h2⟩ := h
  rcases h2 with ⟨h2, h3⟩ | ⟨g, cap, cur, hv, hB, hg, h4, h5, h6, h7⟩
  · exact .inl ⟨h2, List.eq_nil_of_length_eq_zero h3⟩
  · exact .inr ⟨g, cap, cur, hv, hB, hg, h4, h5, h6, h7⟩
theorem OwnX.more {w : World} {B : Nat} {v : Value} {L : List α} {a : α} (h : w.ownsRow B T n v (L.length + 1) (L.flatMap c ++ c a)) : OwnX T n c w B v (L ++ [a]) := by
  unfold OwnX
  rw [List.length_append, List.flatMap_append]
  simpa using h
def lenV : Value → Nat
  | .slice _ k _ => k
  | _ => 0
theorem OwnX.len {w : World} {B : Nat} {v : Value} {L : List α} (h : OwnX T n c w B v L) : lenV v = L.length := by
  rcases h.form with ⟨rfl, rfl⟩ | ⟨g, cap, cur, rfl, _⟩ <;> rfl
theorem OwnX.is {w : World} {B : Nat} {v : Value} {L : List α} (hc : ∀ a, (c a).length = n) (h : OwnX T n c w B v L) : ∃ a cap, v = .slice a L.length cap ∧ RowIs n c w a L := by
  rcases h.form with ⟨rfl, rfl⟩ | ⟨g, cap, cur, rfl, hB, hg, h4, h5, h6, h7⟩
  · exact ⟨none, 0, rfl, fun h => absurd h (by simp)⟩
  · refine ⟨_, cap, rfl, fun hl => ⟨_, rfl, heap_lt hg, fun i hi j v hv => ?_⟩⟩
    have hj : j < n := by
      have := (List.getElem?_eq_some_iff.1 hv).1
      rwa [hc] at this
    have hlt : i * n + j < L.length * n := by
      have : (i + 1) * n ≤ L.length * n := Nat.mul_le_mul_right n hi
      rw [Nat.succ_mul] at this; omega
    have e := congrArg (fun l => l[i * n + j]?) h7
    simp only [List.getElem?_take, if_pos hlt] at e
    rw [flat_get n c hc L i j hi hj, hv] at e
    rw [add_zero_block, cell_of_row w g _ _ _ _ hg]
    simpa using e
theorem OwnX.mk {w : World} {B g cap : Nat} {cur : Array Value} {L : List α} (hc : ∀ a, (c a).length = n) (hB : B ≤ g) (hg : w.heap[g]? = some (.cells cur T (0, 0))) (h4 : L.length ≤ cap) (h5 : cap ≤ maxLen) (h6 : cur.size = cap * n) (h7 : ∀ i (hi : i < L.length) j, j < n → cur[i * n + j]? = (c L[i])[j]?) : OwnX T n c w B (.slice (some ⟨g, 0, none⟩) L.length cap) L := by
  refine ⟨flat_len n c hc L, .inr ⟨g, cap, cur, rfl, hB, hg, h4, h5, h6, ?_⟩⟩
  apply List.ext_getElem?
  intro q
  rw [List.getElem?_take]
  by_cases hq : q < L.length * n
  · rw [if_pos hq]
    have hn : 0 < n := by
      rcases Nat.eq_zero_or_pos n with h0 | h0
      · subst h0; omega
      · exact h0
    have e : q = q / n * n + q % n := by rw [Nat.mul_comm]; exact (Nat.div_add_mod q n).symm
    have hi : q / n < L.length := (Nat.div_lt_iff_lt_mul hn).2 hq
    have hj : q % n < n := Nat.mod_lt _ hn
    have := h7 (q / n) hi (q % n) hj
    rw [← flat_get n c hc L (q / n) (q % n) hi hj, ← e] at this
    simpa using this
  · rw [if_neg hq, List.getElem?_eq_none (by rw [flat_len n c hc]; omega)]
theorem newsX (w : World) (l : List Value) (t : TypeId) : ∀ j u, l[j]? = some u → (w.alloc (.cells l.toArray t)).cell? ((⟨w.heap.size, 0, none⟩ : Addr).add j) = some u := by
  intro j u hj
  rw [add_zero_block, cell_of_row _ _ _ _ _ _ (heap_alloc_new w _)]
  simpa using hj
theorem newsY {w : World} {N : Nat} (h : w.heap.size = N) (l : List Value) (t : TypeId) : ∀ j u, l[j]? = some u → (w.alloc (.cells l.toArray t)).cell? ((⟨N, 0, none⟩ : Addr).add j) = some u := by
  subst h; exact newsX w l t
theorem set_size (w : World) (p : Addr) (v : Value) : (w.setCell p v).heap.size = w.heap.size := by simp [World.setCell]
def intC (x : Int) : List Value := [.int .i64 x]
theorem intC_flat (L : List Int) : L.flatMap intC = cellsI L := by
  induction L with
  | nil => rfl
  | cons x L ih => rw [List.flatMap_cons, ih]; rfl
theorem OwnX.ints {w : World} {B : Nat} {v : Value} {L : List Int} (h : OwnX 2 1 intC w B v L) : OwnI w B v L := by
  unfold OwnX at h
  rwa [intC_flat] at h
theorem OwnI.x {w : World} {B : Nat} {v : Value} {L : List Int} (h : OwnI w B v L) : OwnX 2 1 intC w B v L := by
  unfold OwnX
  rwa [intC_flat]
theorem OwnX.blk {w : World} {B : Nat} {v : Value} {L : List α} (h : OwnX T n c w B v L) : ∀ q, v.ownBlock = some q → B ≤ q ∧ q < w.heap.size := fun q hq => by
  rcases h.form with ⟨rfl, _⟩ | ⟨g, cap, cur, rfl, hB, hg, _⟩
  · cases hq
  · have : g = q := by simpa [Value.ownBlock] using hq
    subst this
    exact ⟨hB, heap_lt hg⟩
end Go.Proofs.YtnhehdobpibgkabGreatDoor
namespace Go.Proofs.YtnhehdobpibgkabGreatDoor
open Go.RowKit
set_option linter.unusedVariables false

end Go.Proofs.YtnhehdobpibgkabGreatDoor
namespace Go.Proofs.YtnhehdobpibgkabGreatDoor
open Go.RowKit
set_option linter.unusedVariables false

structure KS (v : Value) (w w' : World) : Prop where
  os : w'.os = w.os
  tape : w'.tape = w.tape
  output : w'.output = w.output
  size : w.heap.size ≤ w'.heap.size
  block : ∀ q, q < w.heap.size → v.ownBlock ≠ some q → w'.heap[q]? = w.heap[q]?
theorem KS.refl (v : Value) (w : World) : KS v w w := ⟨rfl, rfl, rfl, Nat.le_refl _, fun _ _ _ => rfl⟩
theorem KS.of {v : Value} {g : Nat} {w w' : World} (hv : v.ownBlock = some g) (h : But g w w') : KS v w w' := ⟨h.os, h.tape, h.output, h.size, fun q hq hne => h.block q hq (fun e => hne (by rw [hv, e]))⟩
def PS {α : Type} (n : Nat) (c : α → List Value) (cur : Array Value) (L : List α) (k : Nat) : Prop := ∀ i (h : i < L.length), i < k → ∀ j, j < n → cur[i * n + j]? = (c L[i])[j]?
theorem PS.set2 {α : Type} {c : α → List Value} {cur : Array Value} {L : List α} {k cap : Nat} (h : PS 2 c cur L k) (hs : cur.size = cap * 2) (hc : L.length ≤ cap) (hk : k < L.length) {u v : Value} (hu : c L[k] = [u, v]) : PS 2 c ((cur.setIfInBounds (k * 2) u).setIfInBounds (k * 2 + 1) v) L (k + 1) := fun i hi hik j hj => by
  have hsz : k * 2 + 1 < cur.size := by omega
  rw [Array.getElem?_setIfInBounds, Array.getElem?_setIfInBounds]
  by_cases e : i = k
  · subst e
    rw [hu]
    obtain rfl | rfl : j = 0 ∨ j = 1 := by omega
    · rw [if_neg (by omega), if_pos (by omega), if_pos (by omega)]; rfl
    · rw [if_pos (by omega), if_pos (by simp; omega)]; rfl
  · rw [if_neg (by omega), if_neg (by omega)]
    exact h i hi (by omega) j hj
def srcMark (k : Nat) : Src := (markT k, markT (k + 1))
def srcMarks (k n : Nat) : List Src := (List.range n).map fun (i : Nat) => srcMark (k + 2 * i)
theorem srcMarks_len (k n : Nat) : (srcMarks k n).length = n := by simp [srcMarks]
theorem srcMarks_at (k n i : Nat) (h : i < (srcMarks k n).length) : (srcMarks k n)[i] = srcMark (k + 2 * i) := by simp [srcMarks]
end Go.Proofs.YtnhehdobpibgkabGreatDoor
namespace Go.Proofs.YtnhehdobpibgkabGreatDoor
open Go.RowKit

def polyN : Nat := 3988292384
def stepN (r : Nat) : Nat := if r % 2 = 1 then (r / 2) ^^^ 3988292384 else r / 2
def specK (r : Nat) : Nat → Nat
  | 0 => r
  | k + 1 => stepN (specK r k)
theorem specK_succ (r k : Nat) : specK r (k + 1) = if specK r k % 2 = 1 then (specK r k / 2) ^^^ 3988292384 else specK r k / 2 := rfl
def implK (r b : Nat) : Nat → Nat
  | 0 => r
  | k + 1 => if (b / 2 ^ k ^^^ implK r b k) % 2 = 1 then (implK r b k / 2) ^^^ 3988292384 else implK r b k / 2
def crcB (r b : Nat) : Nat := specK (r ^^^ b) 8
def crcL (r : Nat) : List UInt8 → Nat
  | [] => r
  | c :: l => crcL (crcB r c.toNat) l

theorem xor_half (a b : Nat) : (a ^^^ b) / 2 = a / 2 ^^^ b / 2 := by
  have := Nat.shiftRight_xor_distrib (a := a) (b := b) (i := 1)
  simpa [Nat.shiftRight_eq_div_pow] using this
theorem xor_odd (a b : Nat) : (a ^^^ b) % 2 = (a % 2 + b % 2) % 2 := by
  have h := Nat.xor_mod_two_pow (a := a) (b := b) (n := 1)
  simp only [Nat.pow_one] at h
  rw [h]
  rcases Nat.mod_two_eq_zero_or_one a with ha | ha <;> rcases Nat.mod_two_eq_zero_or_one b with hb | hb <;> rw [ha, hb] <;> rfl
theorem spec_impl (r b k : Nat) : specK (r ^^^ b) k = implK r b k ^^^ (b / 2 ^ k) := by
  induction k with
  | zero => simp [specK, implK]
  | succ k ih =>
    have hp : b / 2 ^ (k + 1) = b / 2 ^ k / 2 := by rw [Nat.pow_succ, Nat.div_div_eq_div_mul]
    simp only [specK, implK, stepN]
    rw [ih, hp, xor_half, Nat.xor_comm (implK r b k) (b / 2 ^ k)]
    split
    · rw [Nat.xor_assoc, Nat.xor_comm (b / 2 ^ k / 2), ← Nat.xor_assoc]
    · rfl
theorem implK_8 (r b : Nat) (hb : b < 256) : implK r b 8 = crcB r b := by
  unfold crcB
  rw [spec_impl]
  have : b / 2 ^ 8 = 0 := Nat.div_eq_of_lt (by omega)
  rw [this, Nat.xor_zero]
theorem xor_lt32 {a b : Nat} (ha : a < 4294967296) (hb : b < 4294967296) : a ^^^ b < 4294967296 := Nat.xor_lt_two_pow (n := 32) ha hb
theorem stepN_lt {r : Nat} (h : r < 4294967296) : stepN r < 4294967296 := by
  unfold stepN; split
  · exact xor_lt32 (by omega) (by omega)
  · omega
theorem specK_lt {r : Nat} (h : r < 4294967296) (k : Nat) : specK r k < 4294967296 := by
  induction k with
  | zero => exact h
  | succ k ih => exact stepN_lt ih
theorem implK_lt {r b : Nat} (h : r < 4294967296) (k : Nat) : implK r b k < 4294967296 := by
  induction k with
  | zero => exact h
  | succ k ih =>
    simp only [implK]; split
    · exact xor_lt32 (by omega) (by omega)
    · omega
theorem crcB_lt {r b : Nat} (h : r < 4294967296) (hb : b < 256) : crcB r b < 4294967296 := specK_lt (xor_lt32 h (by omega)) 8
theorem crcL_lt (l : List UInt8) : ∀ {r : Nat}, r < 4294967296 → crcL r l < 4294967296 := by
  induction l with
  | nil => intro r h; exact h
  | cons c l ih => intro r h; exact ih (crcB_lt h c.toNat_lt)
theorem crcL_append (l m : List UInt8) : ∀ r : Nat, crcL r (l ++ m) = crcL (crcL r l) m := by
  induction l with
  | nil => intro r; rfl
  | cons c l ih => intro r; exact ih _
theorem take_snoc (s : ByteArray) (k : Nat) (h : k < s.size) : s.data.toList.take (k + 1) = s.data.toList.take k ++ [s[k]] := by
  rw [List.take_succ_eq_append_getElem (by simpa using h)]; rfl
theorem crcL_take (r : Nat) (s : ByteArray) (k : Nat) (h : k < s.size) : crcL r (s.data.toList.take (k + 1)) = crcB (crcL r (s.data.toList.take k)) s[k].toNat := by
  rw [take_snoc s k h, crcL_append]; rfl
theorem take_all (s : ByteArray) : s.data.toList.take s.size = s.data.toList := List.take_of_length_le (by simp)

-- how the walk spells one bit
theorem bit_test (r b k : Nat) (hr : r < 4294967296) (hb : b < 256) :
    bits BinOp.and IntKind.u32 (bits BinOp.xor IntKind.u32 (bits BinOp.and IntKind.u32 ((b : Int) / 2 ^ k % 4294967296) 1) (r : Int)) 1 = (((b / 2 ^ k ^^^ r) % 2 : Nat) : Int) := by
  have h0 : b / 2 ^ k < 4294967296 := Nat.lt_of_le_of_lt (Nat.div_le_self _ _) (by omega)
  have e1 : ((b : Int) / 2 ^ k % 4294967296) = ((b / 2 ^ k : Nat) : Int) := by
    have : ((b : Int) / 2 ^ k) = ((b / 2 ^ k : Nat) : Int) := by simp
    rw [this]; generalize b / 2 ^ k = q at h0 ⊢; omega
  have e2 : bits BinOp.and IntKind.u32 ((b / 2 ^ k : Nat) : Int) 1 = ((b / 2 ^ k % 2 : Nat) : Int) := by
    have := u32_and_nat (b / 2 ^ k) 1 h0 (by omega)
    rw [nat_mask1] at this; exact this
  rw [e1, e2]
  have e3 := u32_xor_nat (b / 2 ^ k % 2) r (by omega) hr
  rw [e3]
  have hx : b / 2 ^ k % 2 ^^^ r < 4294967296 := xor_lt32 (by omega) hr
  have e4 := u32_and_nat (b / 2 ^ k % 2 ^^^ r) 1 hx (by omega)
  rw [nat_mask1] at e4
  have e5 : (b / 2 ^ k % 2 ^^^ r) % 2 = (b / 2 ^ k ^^^ r) % 2 := by rw [xor_odd, xor_odd]; omega
  rw [e5] at e4; exact e4
theorem xor_poly (r : Nat) (hr : r < 4294967296) : bits BinOp.xor IntKind.u32 ((r : Int) / 2) 3988292384 = ((r / 2 ^^^ 3988292384 : Nat) : Int) := by
  have := u32_xor_nat (r / 2) 3988292384 (by omega) (by omega)
  have e : ((r : Int) / 2) = ((r / 2 : Nat) : Int) := by omega
  rw [e]; exact this
theorem max_u32 : IntKind.u32.max = 4294967295 := by decide
theorem not32 (x : Nat) (h : x < 4294967296) : bits BinOp.xor IntKind.u32 IntKind.u32.max (x : Int) = ((x ^^^ 4294967295 : Nat) : Int) := by
  rw [max_u32, Nat.xor_comm]; exact u32_xor_nat 4294967295 x (by omega) h
theorem xor_max (x : Nat) (h : x < 4294967296) : bits BinOp.xor IntKind.u32 (x : Int) 4294967295 = ((x ^^^ 4294967295 : Nat) : Int) := u32_xor_nat x 4294967295 h (by omega)
theorem small64 (x : Nat) (h : x < 4294967296) : wrap64 (x : Int) = (x : Int) := by unfold wrap64; omega
def crcOf (c : Nat) (s : ByteArray) : Nat := crcL (c ^^^ 4294967295) s.data.toList ^^^ 4294967295
theorem crcOf_lt (c : Nat) (s : ByteArray) (hc : c < 4294967296) : crcOf c s < 4294967296 := xor_lt32 (crcL_lt _ (xor_lt32 hc (by omega))) (by omega)
theorem crc_end1 (c : Nat) (s : ByteArray) (hc : c < 4294967296) : wrap64 (bits BinOp.xor IntKind.u32 (crcL (c ^^^ 4294967295) (s.data.toList.take s.size) : Nat) 4294967295) = (crcOf c s : Nat) := by
  rw [take_all, xor_max _ (crcL_lt _ (xor_lt32 hc (by omega)))]; exact small64 _ (crcOf_lt c s hc)
theorem crc_end2 (c : Nat) (s : ByteArray) (hc : c < 4294967296) : wrap64 (bits BinOp.xor IntKind.u32 IntKind.u32.max (crcL (c ^^^ 4294967295) (s.data.toList.take s.size) : Nat)) = (crcOf c s : Nat) := by
  rw [take_all, not32 _ (crcL_lt _ (xor_lt32 hc (by omega)))]; exact small64 _ (crcOf_lt c s hc)
end Go.Proofs.YtnhehdobpibgkabGreatDoor
