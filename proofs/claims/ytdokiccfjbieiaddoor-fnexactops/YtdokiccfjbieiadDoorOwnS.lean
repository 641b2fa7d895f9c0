/- Rows of texts that a call itself makes; the laws' own helpers over them. -/
import Derived.Test.YtdokiccfjbieiadDoorRows
import Derived.WalkKit
import Derived.WalkSpells
import Derived.WalkLawsBesides
import Derived.Outline
import Derived.RegionTactic
import Derived.BigRegion
import Derived.Deep.QuietTactic
import Derived.BigQuiet
import Derived.Deep.RegionHeld3
import Derived.Lib.ItoaNum
import Derived.Test.YtdokiccfjbieiadDoorBase
import Derived.Test.YtdokiccfjbieiadDoorRes
import Derived.Test.YtdokiccfjbieiadDoorRow
namespace Go.Proofs.YtdokiccfjbieiadDoor
open Go.RowKit

theorem textS_ne {s t : ByteArray} (h : ¬ s = t) : (s.toList == t.toList) = false := by
  rw [beq_eq_false_iff_ne]
  intro e
  rw [ByteArray.toList_eq, ByteArray.toList_eq] at e
  apply h
  cases s; cases t
  congr 1
  exact Array.toList_inj.1 e
theorem below_drewS {B : Nat} {a w : World} (h : Below B a w) (n : Nat) : Below B a (w.drewN n) := ⟨h.os, h.tape, h.output, h.size, h.block⟩
def cellsS (L : List ByteArray) : List Value := L.map Value.string
def OwnS (w : World) (B : Nat) (v : Value) (L : List ByteArray) : Prop := w.ownsRow B 9 1 v L.length (cellsS L)
theorem infoS : (Tryd.prog.info? 9).map (fun i => (i.zero, i.size, i.bytes)) = some (some (.string ⟨#[]⟩), 1, 16) := by kernel_rfl
theorem one_cellS (x : ByteArray) : ∀ u ∈ [Value.string x], u.oneCell' = true := by intro u hu; simp at hu; subst hu; rfl
theorem OwnS.stays {w w' : World} {B : Nat} {v : Value} {L : List ByteArray} (h : OwnS w B v L) (hb : Below w.heap.size w w') : OwnS w' B v L := by
  obtain ⟨h1, h2⟩ := h
  refine ⟨h1, ?_⟩
  rcases h2 with h2 | ⟨g, cap, cur, hv, hB, hg, rest⟩
  · exact .inl h2
  · exact .inr ⟨g, cap, cur, hv, hB, heap_keep hg hb, rest⟩
theorem OwnS.alloc {w : World} {B : Nat} {v : Value} {L : List ByteArray} (h : OwnS w B v L) (o : Obj) : OwnS (w.alloc o) B v L := h.stays (below_new w o)
theorem OwnS.low {w : World} {B B' : Nat} {v : Value} {L : List ByteArray} (h : OwnS w B v L) (hB : B' ≤ B) : OwnS w B' v L := by
  obtain ⟨h1, h2⟩ := h
  refine ⟨h1, ?_⟩
  rcases h2 with h2 | ⟨g, cap, cur, hv, hg, rest⟩
  · exact .inl h2
  · exact .inr ⟨g, cap, cur, hv, by omega, rest⟩
theorem OwnS.nil (w : World) (B : Nat) : OwnS w B (.slice none 0 0) [] := ⟨rfl, .inl ⟨rfl, rfl⟩⟩
/- What such a row is: nothing, or a block whose first cells are the numbers. -/
theorem OwnS.form {w : World} {B : Nat} {v : Value} {L : List ByteArray} (h : OwnS w B v L) :
    (v = .slice none 0 0 ∧ L = []) ∨ ∃ g cap cur, v = .slice (some ⟨g, 0, none⟩) L.length cap ∧ B ≤ g ∧ w.heap[g]? = some (.cells cur 9 (0, 0)) ∧ L.length ≤ cap ∧ cap ≤ maxLen ∧ cur.size = cap ∧ (∀ i (hi : i < L.length), cur[i]? = some (.string L[i])) := by
  obtain ⟨h1, h2⟩ := h
  rcases h2 with ⟨h2, h3⟩ | ⟨g, cap, cur, hv, hB, hg, h4, h5, h6, h7⟩
  · exact .inl ⟨h2, List.eq_nil_of_length_eq_zero h3⟩
  · refine .inr ⟨g, cap, cur, hv, hB, hg, h4, h5, by omega, fun i hi => ?_⟩
    have e := congrArg (fun l => l[i]?) h7
    simp only [Nat.mul_one, List.getElem?_take, if_pos hi, cellsS, List.getElem?_map, List.getElem?_eq_getElem hi] at e
    simpa using e
theorem OwnS.mk {w : World} {B g cap : Nat} {cur : Array Value} {L : List ByteArray} (hB : B ≤ g) (hg : w.heap[g]? = some (.cells cur 9 (0, 0))) (h4 : L.length ≤ cap) (h5 : cap ≤ maxLen) (h6 : cur.size = cap) (h7 : ∀ i (hi : i < L.length), cur[i]? = some (.string L[i])) : OwnS w B (.slice (some ⟨g, 0, none⟩) L.length cap) L := by
  refine ⟨by simp [cellsS], .inr ⟨g, cap, cur, rfl, hB, hg, h4, h5, by omega, ?_⟩⟩
  apply List.ext_getElem?
  intro i
  rw [List.getElem?_take, Nat.mul_one]
  by_cases hi : i < L.length
  · rw [if_pos hi]
    have := h7 i hi
    simp [cellsS, hi]
    simpa using this
  · rw [if_neg hi, List.getElem?_eq_none (by simp [cellsS]; omega)]
theorem eqS_step {A B : List ByteArray} (hl : A.length = B.length) (k : Nat) (hk : k < A.length) (he : A[k] = B[k]'(by omega)) : (A.drop k = B.drop k ↔ A.drop (k + 1) = B.drop (k + 1)) := by
  have e1 := List.drop_eq_getElem_cons hk
  have e2 := List.drop_eq_getElem_cons (show k < B.length by omega)
  constructor
  · intro h; rw [e1, e2] at h; exact (List.cons.inj h).2
  · intro h; rw [e1, e2, h, he]
theorem eqS_stop {A B : List ByteArray} (k : Nat) (hk : k < A.length) (hk2 : k < B.length) (he : ¬ A[k] = B[k]) : ¬ A = B := fun e => by subst e; exact he rfl
set_option maxRecDepth 100000 in
set_option maxHeartbeats 1600000 in
theorem eqStringS_any (v1 v2 : Value) (B1 B2 : Nat) (L1 L2 : List ByteArray) (w : World) (h1 : OwnS w B1 v1 L1) (h2 : OwnS w B2 v2 L2) (hs : L1.length ≤ 1000000) (hs2 : L2.length ≤ 1000000) :
    Calls Tryd.prog 6 #[v1, v2] w fun e w' => e = .returned (.bool (decide (L1 = L2))) ∧ Below w.heap.size w w' := by
  have HF1 : Hid (_) := h1.form
  have HF2 : Hid (_) := h2.form
  clear h1 h2
  obtain ⟨a1, c1, rfl⟩ : ∃ a c, v1 = .slice a L1.length c := by
    rcases HF1.out with ⟨h, e⟩ | ⟨g, cap, _, h, _⟩
    · subst e; exact ⟨_, _, h⟩
    · exact ⟨_, _, h⟩
  obtain ⟨a2, c2, rfl⟩ : ∃ a c, v2 = .slice a L2.length c := by
    rcases HF2.out with ⟨h, e⟩ | ⟨g, cap, _, h, _⟩
    · subst e; exact ⟨_, _, h⟩
    · exact ⟨_, _, h⟩
  by_cases hl : L1.length = L2.length
  · have HL : Hid (_ = _) := hl
    have hlb : ((L1.length : Int) != (L2.length : Int)) = false := by simp [hl]
    clear hl
    go_enter Tryd.func6, Tryd.ntmps6
    go_wp2
    go_loopw [5] (fun i wr => ∃ k : Nat, k ≤ L1.length ∧ i = .int .i64 k ∧ Hid (Below w.heap.size w wr) ∧ Hid (L1 = L2 ↔ L1.drop k = L2.drop k)) (fun i _ => L1.length - (intOf i).toNat)
    case atStart => exact ⟨0, by omega, rfl, Below.refl _ _, Iff.rfl⟩
    case round =>
      obtain ⟨k, hk, rfl, HB, HE⟩ := hrel
      by_cases hlt : k < L1.length
      · have hlt2 : k < L2.length := by have := HL.out; omega
        obtain ⟨g1, rfl, hc1⟩ : ∃ g, a1 = some ⟨g, 0, none⟩ ∧ w.cell? ⟨g, k, none⟩ = some (.string L1[k]) := by
          rcases HF1.out with ⟨_, e⟩ | ⟨g, cap, cur, h, _, hg, _, _, _, hh⟩
          · subst e; simp at hlt
          · exact ⟨g, by cases h; rfl, by simp [World.cell?, hg, hh k hlt]⟩
        obtain ⟨g2, rfl, hc2⟩ : ∃ g, a2 = some ⟨g, 0, none⟩ ∧ w.cell? ⟨g, k, none⟩ = some (.string L2[k]) := by
          rcases HF2.out with ⟨_, e⟩ | ⟨g, cap, cur, h, _, hg, _, _, _, hh⟩
          · subst e; simp at hlt2
          · exact ⟨g, by cases h; rfl, by simp [World.cell?, hg, hh k hlt2]⟩
        have hw1 : wr.cell? ⟨g1, k, none⟩ = some (.string L1[k]) := (HB.out.cell (p := ⟨g1, k, none⟩) (World.block_lt_of_cell? w _ hc1)).trans hc1
        have hw2 : wr.cell? ⟨g2, k, none⟩ = some (.string L2[k]) := (HB.out.cell (p := ⟨g2, k, none⟩) (World.block_lt_of_cell? w _ hc2)).trans hc2
        clear hc1 hc2
        have hi0 : (0 : Int) ≤ (k : Int) := by omega
        have hi1 : (k : Int) < (L1.length : Int) := by omega
        have hi2 : (k : Int) < (L2.length : Int) := by omega
        have HS : Hid (∀ he : L1[k] = L2[k], (L1.drop k = L2.drop k ↔ L1.drop (k + 1) = L2.drop (k + 1))) := fun he => eqS_step HL.out k hlt he
        have HN : Hid (¬ L1[k] = L2[k] → ¬ L1 = L2) := fun he => eqS_stop k hlt hlt2 he
        generalize hx : L1[k] = x at *
        generalize hy : L2[k] = y at *
        clear hx hy
        by_cases he : x = y
        · subst he
          have hne : (x.toList == x.toList) = true := by simp
          go_wp2
          go_quiet (fail)
          go_wp2
          go_roundw
          case rel => exact ⟨k + 1, by omega, by go_num, below_drewS HB.out _, HE.out.trans (HS.out trivial)⟩
          case measure => simp [intOf]; omega
        · have hne : (x.toList == y.toList) = false := textS_ne he
          go_wp2
          go_quiet (fail)
          go_wp2
          go_ret
          exact ⟨ret_bool (by simp [HN.out he]), below_drewS HB.out _⟩
      · have HD : Hid (L1 = L2) := HE.out.2 (by rw [List.drop_of_length_le (by omega), List.drop_of_length_le (by have := HL.out; omega)])
        go_wp2
        go_ret
        exact ⟨ret_bool (by simp [HD.out]), HB.out⟩
  · have HD : Hid (¬ L1 = L2) := fun e => hl (by rw [e])
    have hlb : ((L1.length : Int) != (L2.length : Int)) = true := by simpa using (fun e => hl (by omega) : ¬ (L1.length : Int) = L2.length)
    clear hl
    go_enter Tryd.func6, Tryd.ntmps6
    go_wp2
    go_ret
    exact ⟨ret_bool (by simp [HD.out]), Below.refl _ _⟩
def decL (k : Nat) : List UInt8 := if k = 0 then [] else Lib.decDigits k
theorem decL_zero : decL 0 = [] := rfl
theorem decL_step (k : Nat) (h : 0 < k) : decL k = decL (k / 10) ++ [UInt8.ofNat (48 + k % 10)] := by
  have e : decL k = Lib.decDigits k := by unfold decL; rw [if_neg (by omega)]
  rw [e]
  by_cases hb : k < 10
  · rw [Lib.decDigits, dif_pos hb, show k / 10 = 0 by omega, decL_zero, show k % 10 = k by omega]; rfl
  · have e2 : decL (k / 10) = Lib.decDigits (k / 10) := by unfold decL; rw [if_neg (by omega)]
    rw [Lib.decDigits, dif_neg hb, e2]
theorem decL_len : ∀ (n k : Nat), k < 10 ^ n → (decL k).length ≤ n
  | 0, k, h => by
    obtain rfl : k = 0 := by simpa using h
    simp [decL_zero]
  | n + 1, k, h => by
    by_cases hk : k = 0
    · subst hk; simp [decL_zero]
    · rw [decL_step k (by omega)]
      have := decL_len n (k / 10) (by rw [Nat.pow_succ] at h; omega)
      simp; omega
theorem byte_cell (j : Nat) : [Value.int .u8 (48 + (j : Int) % 10)].take 1 = cellsU [UInt8.ofNat (48 + j % 10)] := by
  simp [cellsU]
  omega
theorem text_cat (a b : List UInt8) : (⟨a.toArray⟩ : ByteArray) ++ ⟨b.toArray⟩ = ⟨(a ++ b).toArray⟩ := by
  apply ByteArray.ext
  simp
def markT (k : Nat) : ByteArray := ⟨([109] ++ decL k).toArray⟩
set_option maxRecDepth 100000 in
set_option maxHeartbeats 1600000 in
theorem markText_any (k : Nat) (w : World) (hk0 : 0 < k) (hk1 : k ≤ 1000000000) :
    Calls Tryd.prog 12 #[.int .i64 k] w fun e w' => e = .returned (.string (markT k)) ∧ Below w.heap.size w w' := by
  have hp : ¬ ((k : Int) ≤ 0) := by omega
  go_enter Tryd.func12, Tryd.ntmps12
  go_wp2
  go_loopw [0, 3] (fun q s wr => ∃ (j : Nat) (out : List UInt8), j ≤ k ∧ q = .int .i64 j ∧ s = .string ⟨out.toArray⟩ ∧ Hid (decL k = decL j ++ out) ∧ Hid (Below w.heap.size w wr)) (fun q _ _ => (intOf q).toNat)
  case atStart => exact ⟨k, [], Nat.le_refl _, rfl, rfl, by show _ = _; simp, Below.refl _ _⟩
  case round =>
    obtain ⟨j, out, hj, rfl, rfl, HD, HB⟩ := hrel
    have ho : out.length ≤ 10 := by have h1 := congrArg List.length HD.out; have h2 := decL_len 10 k (by omega); simp at h1; omega
    by_cases hlt : 0 < j
    · have hd := decL_step j hlt
      have HS : Hid (_ = _) := hd
      clear hd
      have hpos : (0 : Int) < (j : Int) := by omega
      have hcv := conv_row (wr.alloc (.cells #[.int .u8 (48 + (j : Int) % 10)] 5)) wr.heap.size 1 1 5 [.int .u8 (48 + (j : Int) % 10)] [UInt8.ofNat (48 + j % 10)] (heap_alloc_new _ _) rfl (byte_cell j)
      generalize UInt8.ofNat (48 + j % 10) = c at *
      go_wp2
      go_roundw
      case rel => exact ⟨j / 10, c :: out, by omega, by go_num, by simp [text_cat], by show _ = _; rw [HD.out, HS.out]; simp, below_more HB.out _⟩
      case measure => simp [intOf]; omega
    · obtain rfl : j = 0 := by omega
      have HE : Hid (decL k = out) := by show _ = _; rw [HD.out, decL_zero]; rfl
      go_wp2
      go_ret
      exact ⟨ret_str (by rw [markT, HE.out]; simp [text_cat]), HB.out⟩
def marksS (k n : Nat) : List ByteArray := (List.range n).map fun (i : Nat) => markT (k + i)
theorem marksS_len (k n : Nat) : (marksS k n).length = n := by simp [marksS]
theorem marksS_at (k n i : Nat) (h : i < (marksS k n).length) : (marksS k n)[i] = markT (k + i) := by simp [marksS]
set_option maxRecDepth 100000 in
set_option maxHeartbeats 1600000 in
theorem markStringS_any (v : Value) (B : Nat) (L : List ByteArray) (k : Nat) (w : World) (h1 : OwnS w B v L) (hBw : B ≤ w.heap.size) (hs : L.length ≤ 1000000) (hk0 : 0 < k) (hk1 : k ≤ 1000000) :
    Calls Tryd.prog 7 #[v, .int .i64 k] w fun e w' => e = .returned (.int .i64 ((k + L.length : Nat) : Int)) ∧ OwnS w' B v (marksS k L.length) ∧ Below B w w' := by
  rcases h1.form with ⟨rfl, rfl⟩ | ⟨g, cap, cur, rfl, hB, hg, h4, h5, h6, h7⟩
  · clear h1
    go_enter Tryd.func7, Tryd.ntmps7
    go_wp2
    refine wp_loop_rounds 1 ?_
    rw [rounds_succ]
    go_wp2
    go_ret
    exact ⟨ret_int (by simp), OwnS.nil _ _, Below.refl _ _⟩
  · have HG : Hid (_ = _) := hg
    have HC : Hid (cur.size = cap) := h6
    clear h1 h7 hg h6
    unfold maxLen at h5
    go_enter Tryd.func7, Tryd.ntmps7
    go_wp2
    go_loopw [1, 5] (fun q i wr => ∃ (j : Nat), j ≤ L.length ∧ i = .int .i64 j ∧ q = .int .i64 ((k + j : Nat) : Int) ∧ Hid (∃ c : Array Value, wr.heap[g]? = some (.cells c 9 (0, 0)) ∧ c.size = cap ∧ ∀ t, t < j → c[t]? = some (.string (markT (k + t)))) ∧ Hid (Below B w wr)) (fun _ i _ => L.length - (intOf i).toNat)
    case atStart => exact ⟨0, by omega, rfl, by simp, ⟨cur, HG.out, HC.out, fun t ht => by omega⟩, Below.refl _ _⟩
    case round =>
      obtain ⟨j, hj, rfl, rfl, HX, HB⟩ := hrel
      by_cases hlt : j < L.length
      · have hkj : k + j ≤ 3000000 := by omega
        go_wp2_with fail
        refine (markText_any (k + j) _ (by omega) (by omega)).mono ?_
        rintro e y ⟨rfl, hb⟩
        obtain ⟨c, hc0, hcs, hct⟩ := HX.out
        have hc := heap_keep hc0 hb
        have HB2 : Hid (Below B w y) := HB.out.trans (hb.mono (by have := HB.out.size; omega))
        obtain ⟨x, hx⟩ : ∃ x, c[j]? = some x := ⟨c[j]'(by omega), by simp [show j < c.size by omega]⟩
        have q0 : y.cell? ⟨g, j, none⟩ = some x := by simp [World.cell?, hc, hx]
        have q1 : y.frozen? ⟨g, j, none⟩ = false := by simp [World.frozen?, hc]
        have HC1 : Hid (_ = _) := hc
        have HC2 : Hid (c.size = cap) := hcs
        have HC3 : Hid (∀ t, t < j → c[t]? = some (.string (markT (k + t)))) := hct
        clear hc hcs hct HX hx hc0 hb
        have hi0 : (0 : Int) ≤ (j : Int) := by omega
        have hi1 : (j : Int) < (L.length : Int) := by omega
        go_wp2
        go_roundw
        case rel =>
          refine ⟨j + 1, by omega, by go_num, by go_num, ⟨_, heap_set HC1.out j _, by simp [HC2.out], fun t ht => ?_⟩, HB2.out.setCell hB _⟩
          rw [Array.getElem?_setIfInBounds]
          by_cases e : j = t
          · subst e; simp [HC2.out]; omega
          · rw [if_neg e]; exact HC3.out t (by omega)
        case measure => simp [intOf]; omega
      · obtain rfl : j = L.length := by omega
        go_wp2
        go_ret
        obtain ⟨c, hc, hcs, hct⟩ := HX.out
        refine ⟨rfl, ?_, HB.out⟩
        have := OwnS.mk (L := marksS k L.length) hB hc (by rw [marksS_len]; exact h4) (by unfold maxLen; exact h5) hcs (fun i hi => by rw [marksS_at]; exact hct i (by rwa [marksS_len] at hi))
        rwa [marksS_len] at this
set_option maxRecDepth 100000 in
set_option maxHeartbeats 1600000 in
theorem heldStringS_any (v : Value) (B : Nat) (n k : Nat) (w : World) (h1 : OwnS w B v (marksS k n)) (hs : n ≤ 1000000) (hk0 : 0 < k) (hk1 : k ≤ 1000000) :
    Calls Tryd.prog 8 #[v, .int .i64 k] w fun e w' => e = .returned (.int .i64 ((k + n : Nat) : Int)) ∧ Below w.heap.size w w' := by
  rcases h1.form with ⟨rfl, e⟩ | ⟨g, cap, cur, rfl, hB, hg, h4, h5, h6, h7⟩
  · clear h1
    obtain rfl : n = 0 := by have := congrArg List.length e; simpa [marksS] using this
    go_enter Tryd.func8, Tryd.ntmps8
    go_wp2
    refine wp_loop_rounds 1 ?_
    rw [rounds_succ]
    go_wp2
    go_ret
    exact ⟨ret_int (by simp), Below.refl _ _⟩
  · rw [marksS_len]
    rw [marksS_len] at h4
    have HC : Hid (∀ t, t < n → w.cell? ⟨g, t, none⟩ = some (.string (markT (k + t)))) := fun t ht => by
      have := h7 t (by rwa [marksS_len])
      rw [marksS_at] at this
      simp [World.cell?, hg, this]
    have HLt : Hid (g < w.heap.size) := heap_lt hg
    clear h1 h7 hg h6
    unfold maxLen at h5
    go_enter Tryd.func8, Tryd.ntmps8
    go_wp2
    go_loopw [1, 5] (fun q i wr => ∃ (j : Nat), j ≤ n ∧ i = .int .i64 j ∧ q = .int .i64 ((k + j : Nat) : Int) ∧ Hid (Below w.heap.size w wr)) (fun _ i _ => n - (intOf i).toNat)
    case atStart => exact ⟨0, by omega, rfl, by simp, Below.refl _ _⟩
    case round =>
      obtain ⟨j, hj, rfl, rfl, HB⟩ := hrel
      by_cases hlt : j < n
      · have q0 : wr.cell? ⟨g, j, none⟩ = some (.string (markT (k + j))) := (HB.out.cell (p := ⟨g, j, none⟩) HLt.out).trans (HC.out j hlt)
        have hi0 : (0 : Int) ≤ (j : Int) := by omega
        have hi1 : (j : Int) < (n : Int) := by omega
        have hkj : k + j ≤ 3000000 := by omega
        have hne : ((markT (k + j)).toList == (markT (k + j)).toList) = true := by simp
        go_wp2_with fail
        go_region_held3 (fun w' => w'.cell? ⟨g, j, none⟩ = some (.string (markT (k + j)))) (go_keep) (first
          | (go_at_call 12; refine (markText_any (k + j) _ (by omega) (by omega)).mono ?_; rintro e y ⟨rfl, hb⟩; have HB2 : Hid (Below w.heap.size w y) := below_call (by exact HB.out.drew) hb; have q2 : y.cell? ⟨g, j, none⟩ = some (.string (markT (k + j))) := (HB2.out.cell (p := ⟨g, j, none⟩) HLt.out).trans (HC.out j hlt); clear hb q0))
        go_wp2
        go_roundw
        case rel => exact ⟨j + 1, by omega, by go_num, by go_num, HB2.out⟩
        case measure => simp [intOf]; omega
      · obtain rfl : j = n := by omega
        go_wp2
        go_ret
        exact ⟨rfl, HB.out⟩
end Go.Proofs.YtdokiccfjbieiadDoor
