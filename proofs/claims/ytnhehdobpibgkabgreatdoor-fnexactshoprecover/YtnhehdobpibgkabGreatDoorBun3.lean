/- Rows of bytes that a call itself makes: read, written, turned into a text. -/
import Derived.Test.YtnhehdobpibgkabGreatDoorRows
import Derived.WalkKit
import Derived.WalkSpells
import Derived.WalkLawsBesides
import Derived.Laws.BytesArg
import Derived.Test.YtnhehdobpibgkabGreatDoorBun0
import Derived.Outline
import Derived.RegionTactic
import Derived.BigRegion
import Derived.Deep.QuietTactic
import Derived.BigQuiet
import Derived.Deep.RegionHeld3
import Derived.Lib.ItoaNum
import Derived.Test.YtnhehdobpibgkabGreatDoorBun2
import Derived.Test.YtnhehdobpibgkabGreatDoorBun1
namespace Go.Proofs.YtnhehdobpibgkabGreatDoor
open Go.RowKit

def cellsU (L : List UInt8) : List Value := L.map fun b => Value.int .u8 (b.toNat : Int)
theorem strOf (L : List UInt8) : strOfNums (L.map fun b => (b.toNat : Int)) = ⟨L.toArray⟩ := by
  unfold strOfNums
  have h : (L.map fun b : UInt8 => (b.toNat : Int)).map (fun n => UInt8.ofNat n.toNat) = L := by
    rw [List.map_map]
    conv => rhs; rw [← List.map_id L]
    apply List.map_congr_left
    intro b _
    simp
  rw [h]
theorem conv_row (W : World) (B n cap : Nat) (t : TypeId) (R : List Value) (L : List UInt8) (hR : W.heap[B]? = some (.cells R.toArray t (0, 0))) (hl : L.length = n) (hT : R.take n = cellsU L) :
    (convert 61 9 (.slice (some ⟨B, 0, none⟩) n cap)).run Tryz.prog W = .ok (.string ⟨L.toArray⟩) W := by
  have h := run_convert_bytes_arg (P := Tryz.prog) W 61 5 Tryz.underlying61 Tryz.underlying5 B 0 n cap (L.map fun b => (b.toNat : Int)) (by simp [hl]) (fun i hi => ?_) 9 Tryz.underlying9
  · rw [h, strOf]
  · have e : R[i]? = (R.take n)[i]? := by rw [List.getElem?_take, if_pos hi]
    have hi2 : i < L.length := by omega
    simp [World.cell?, hR, e, hT, cellsU, List.getD, List.getElem?_eq_getElem hi2]
theorem row_cell {W : World} {B k : Nat} {t : TypeId} {R : List Value} (hR : W.heap[B]? = some (.cells R.toArray t (0, 0))) (h : k < R.length) : W.cell? ⟨B, k, none⟩ = some R[k] ∧ W.frozen? ⟨B, k, none⟩ = false := by
  constructor
  · simp [World.cell?, hR, h]
  · simp [World.frozen?, hR]
theorem row_set {W : World} {B k : Nat} {t : TypeId} {R : List Value} (hR : W.heap[B]? = some (.cells R.toArray t (0, 0))) (v : Value) : (W.setCell ⟨B, k, none⟩ v).heap[B]? = some (.cells (R.set k v).toArray t (0, 0)) := by
  rw [setCell_eq_setRow W B k R.toArray t (0, 0) v hR]
  rw [setRow_heap W B R.toArray _ t _ hR]
  simp
theorem set_take {R : List Value} {k : Nat} {L : List UInt8} (h : k < R.length) (hT : R.take k = cellsU L) (b : UInt8) : (R.set k (.int .u8 (b.toNat : Int))).take (k + 1) = cellsU (L ++ [b]) := by
  have hl : L.length = k := by have := congrArg List.length hT; simp [cellsU] at this; omega
  apply List.ext_getElem?
  intro j
  rw [List.getElem?_take]
  have e := congrArg (fun l => l[j]?) hT
  simp only [List.getElem?_take, cellsU] at e
  simp only [cellsU, List.map_append, List.getElem?_append, List.length_map, List.getElem?_set, hl]
  by_cases h1 : j < k
  · rw [if_pos (by omega), if_neg (by omega), if_pos h1]; rw [if_pos h1] at e; exact e
  · by_cases h2 : j = k
    · subst h2; simp [h]
    · rw [if_neg (by omega), if_neg h1]
      have : ¬ j - k < 1 := by omega
      simp; omega

theorem own_conv (W : World) (B : Nat) (v : Value) (n : Nat) (L : List UInt8) (h : W.ownsRow B 5 1 v n (cellsU L)) (hn : 0 < n) :
    (convert 61 9 v).run Tryz.prog W = .ok (.string ⟨L.toArray⟩) W := by
  obtain ⟨hl, h2⟩ := h
  rcases h2 with ⟨_, h0⟩ | ⟨g, cap, cur, rfl, _, hg, _, _, _, hT⟩
  · omega
  · exact conv_row W g n cap 5 cur.toList L (by simpa using hg) (by simp [cellsU] at hl; omega) (by simpa using hT)

theorem one_cell (x : Int) : ∀ u ∈ [Value.int .u8 x], u.oneCell' = true := by intro u hu; simp at hu; subst hu; rfl
end Go.Proofs.YtnhehdobpibgkabGreatDoor
namespace Go.Proofs.YtnhehdobpibgkabGreatDoor
open Go.RowKit

theorem textS_ne {s t : ByteArray} (h : ¬ s = t) : (s.toList == t.toList) = false := by
  rw [beq_eq_false_iff_ne]
  intro e
  rw [ByteArray.toList_eq, ByteArray.toList_eq] at e
  apply h
  cases s; cases t
  congr 1
  exact Array.toList_inj.1 e
theorem below_drewS {B : Nat} {a w : World} (h : Below B a w) (n : Nat) : Below B a (w.drewN n) := ⟨h.os, h.tape, h.output, h.size, h.block⟩
def cellsS (L : List ByteArray) : List Value := L.map Value.string
def OwnS (w : World) (B : Nat) (v : Value) (L : List ByteArray) : Prop := w.ownsRow B 9 1 v L.length (cellsS L)
theorem infoS : (Tryz.prog.info? 9).map (fun i => (i.zero, i.size, i.bytes)) = some (some (.string ⟨#[]⟩), 1, 16) := by kernel_rfl
theorem one_cellS (x : ByteArray) : ∀ u ∈ [Value.string x], u.oneCell' = true := by intro u hu; simp at hu; subst hu; rfl
theorem OwnS.stays {w w' : World} {B : Nat} {v : Value} {L : List ByteArray} (h : OwnS w B v L) (hb : Below w.heap.size w w') : OwnS w' B v L := by
  obtain ⟨h1, h2⟩ := h
  refine ⟨h1, ?_⟩
  rcases h2 with h2 | ⟨g, cap, cur, hv, hB, hg, rest⟩
  · exact .inl h2
  · exact .inr ⟨g, cap, cur, hv, hB, heap_keep hg hb, rest⟩
theorem OwnS.alloc {w : World} {B : Nat} {v : Value} {L : List ByteArray} (h : OwnS w B v L) (o : Obj) : OwnS (w.alloc o) B v L := h.stays (below_new w o)
theorem OwnS.low {w : World} {B B' : Nat} {v : Value} {L : List ByteArray} (h : OwnS w B v L) (hB : B' ≤ B) : OwnS w B' v L := by
  obtain ⟨h1, h2⟩ := h
  refine ⟨h1, ?_⟩
  rcases h2 with h2 | ⟨g, cap, cur, hv, hg, rest⟩
  · exact .inl h2
  · exact .inr ⟨g, cap, cur, hv, by omega, rest⟩
theorem OwnS.nil (w : World) (B : Nat) : OwnS w B (.slice none 0 0) [] := ⟨rfl, .inl ⟨rfl, rfl⟩⟩
/- What such a row is: nothing, or a block whose first cells are the numbers. -/
theorem OwnS.form {w : World} {B : Nat} {v : Value} {L : List ByteArray} (h : OwnS w B v L) :
    (v = .slice none 0 0 ∧ L = []) ∨ ∃ g cap cur, v = .slice (some ⟨g, 0, none⟩) L.length cap ∧ B ≤ g ∧ w.heap[g]? = some (.cells cur 9 (0, 0)) ∧ L.length ≤ cap ∧ cap ≤ maxLen ∧ cur.size = cap ∧ (∀ i (hi : i < L.length), cur[i]? = some (.string L[i])) := by
  obtain ⟨h1, h2⟩ := h
  rcases h2 with ⟨h2, h3⟩ | ⟨g, cap, cur, hv, hB, hg, h4, h5, h6, h7⟩
  · exact .inl ⟨h2, List.eq_nil_of_length_eq_zero h3⟩
  · refine .inr ⟨g, cap, cur, hv, hB, hg, h4, h5, by omega, fun i hi => ?_⟩
    have e := congrArg (fun l => l[i]?) h7
    simp only [Nat.mul_one, List.getElem?_take, if_pos hi, cellsS, List.getElem?_map, List.getElem?_eq_getElem hi] at e
    simpa using e
theorem OwnS.mk {w : World} {B g cap : Nat} {cur : Array Value} {L : List ByteArray} (hB : B ≤ g) (hg : w.heap[g]? = some (.cells cur 9 (0, 0))) (h4 : L.length ≤ cap) (h5 : cap ≤ maxLen) (h6 : cur.size = cap) (h7 : ∀ i (hi : i < L.length), cur[i]? = some (.string L[i])) : OwnS w B (.slice (some ⟨g, 0, none⟩) L.length cap) L := by
  refine ⟨by simp [cellsS], .inr ⟨g, cap, cur, rfl, hB, hg, h4, h5, by omega, ?_⟩⟩
  apply List.ext_getElem?
  intro i
  rw [List.getElem?_take, Nat.mul_one]
  by_cases hi : i < L.length
  · rw [if_pos hi]
    have := h7 i hi
    simp [cellsS, hi]
    simpa using this
  · rw [if_neg hi, List.getElem?_eq_none (by simp [cellsS]; omega)]
theorem eqS_step {A B : List ByteArray} (hl : A.length = B.length) (k : Nat) (hk : k < A.length) (he : A[k] = B[k]'(by omega)) : (A.drop k = B.drop k ↔ A.drop (k + 1) = B.drop (k + 1)) := by
  have e1 := List.drop_eq_getElem_cons hk
  have e2 := List.drop_eq_getElem_cons (show k < B.length by omega)
  constructor
  · intro h; rw [e1, e2] at h; exact (List.cons.inj h).2
  · intro h; rw [e1, e2, h, he]
theorem eqS_stop {A B : List ByteArray} (k : Nat) (hk : k < A.length) (hk2 : k < B.length) (he : ¬ A[k] = B[k]) : ¬ A = B := fun e => by subst e; exact he rfl
def decL (k : Nat) : List UInt8 := if k = 0 then [] else Lib.decDigits k
theorem decL_zero : decL 0 = [] := rfl
theorem decL_step (k : Nat) (h : 0 < k) : decL k = decL (k / 10) ++ [UInt8.ofNat (48 + k % 10)] := by
  have e : decL k = Lib.decDigits k := by unfold decL; rw [if_neg (by omega)]
  rw [e]
  by_cases hb : k < 10
  · rw [Lib.decDigits, dif_pos hb, show k / 10 = 0 by omega, decL_zero, show k % 10 = k by omega]; rfl
  · have e2 : decL (k / 10) = Lib.decDigits (k / 10) := by unfold decL; rw [if_neg (by omega)]
    rw [Lib.decDigits, dif_neg hb, e2]
theorem decL_len : ∀ (n k : Nat), k < 10 ^ n → (decL k).length ≤ n
  | 0, k, h => by
    obtain rfl : k = 0 := by simpa using h
    simp [decL_zero]
  | n + 1, k, h => by
    by_cases hk : k = 0
    · subst hk; simp [decL_zero]
    · rw [decL_step k (by omega)]
      have := decL_len n (k / 10) (by rw [Nat.pow_succ] at h; omega)
      simp; omega
theorem byte_cell (j : Nat) : [Value.int .u8 (48 + (j : Int) % 10)].take 1 = cellsU [UInt8.ofNat (48 + j % 10)] := by
  simp [cellsU]
  omega
theorem text_cat (a b : List UInt8) : (⟨a.toArray⟩ : ByteArray) ++ ⟨b.toArray⟩ = ⟨(a ++ b).toArray⟩ := by
  apply ByteArray.ext
  simp
def markT (k : Nat) : ByteArray := ⟨([109] ++ decL k).toArray⟩
def marksS (k n : Nat) : List ByteArray := (List.range n).map fun (i : Nat) => markT (k + i)
theorem marksS_len (k n : Nat) : (marksS k n).length = n := by simp [marksS]
theorem marksS_at (k n i : Nat) (h : i < (marksS k n).length) : (marksS k n)[i] = markT (k + i) := by simp [marksS]
end Go.Proofs.YtnhehdobpibgkabGreatDoor
namespace Go.Proofs.YtnhehdobpibgkabGreatDoor
open Go.RowKit

def strC (s : ByteArray) : List Value := [.string s]
theorem made_rowX (w : World) (n : Nat) (hn : n ≤ 400000000) : ∃ Z : List Value, Z.length = n ∧
    (Instr.makeSlice 61 (.int .i64 (n : Int)) (.int .i64 (n : Int))).run Tryz.prog w = .ok (.slice (some ⟨w.heap.size, 0, none⟩) n n) (w.alloc (.cells Z.toArray 5)) := by
  obtain ⟨i0, hi, hz0, hz1, hz2⟩ := info_parts info5
  have h := run_make (P := Tryz.prog) w 61 5 i0 (.int .u8 0) Tryz.underlying61 hi hz0 .i64 .i64 n n (by omega) (by omega) (by rw [hz2]; omega) (by omega)
  refine ⟨(madeCells (Value.int .u8 0).cells (n * i0.size)).toList, ?_, ?_⟩
  · rw [Array.length_toList, size_madeCells, hz1]; omega
  · rw [h]; simp
theorem RowIs.str {w : World} {a : Option Addr} {ts : List ByteArray} (h : RowIs 1 strC w a ts) (k : Nat) (hk : k < ts.length) : ∃ x : Addr, a = some x ∧ x.block < w.heap.size ∧ w.cell? (x.add k) = some (.string ts[k]) := by
  obtain ⟨x, hx, hb, hc⟩ := h (by omega)
  refine ⟨x, hx, hb, ?_⟩
  have := hc k hk 0 (.string ts[k]) rfl
  rwa [Nat.mul_one, Nat.add_zero] at this
theorem OwnS.rows {w : World} {B : Nat} {v : Value} {L : List ByteArray} (h : OwnS w B v L) : ∃ a cap, v = .slice a L.length cap ∧ RowIs 1 strC w a L := by
  rcases h.form with ⟨rfl, rfl⟩ | ⟨g, cap, cur, rfl, hB, hg, h4, h5, h6, h7⟩
  · exact ⟨none, 0, rfl, fun h => absurd h (by simp)⟩
  · refine ⟨_, cap, rfl, fun hl => ⟨_, rfl, heap_lt hg, fun i hi j v hv => ?_⟩⟩
    match j, hv with
    | 0, hv =>
      simp only [strC, List.getElem?_cons_zero, Option.some.injEq] at hv
      subst hv
      rw [add_zero_block, cell_of_row w g _ _ _ _ hg, Nat.mul_one, Nat.add_zero]
      exact h7 i hi
    | j + 1, hv => simp [strC] at hv
set_option maxRecDepth 100000 in
set_option maxHeartbeats 800000 in
theorem join_rows (ts : List ByteArray) (a : Option Addr) (cap : Nat) (w : World) (hR : RowIs 1 strC w a ts) (hlen : ts.length ≤ 2000000) (htot : (catL ts).size ≤ 400000000) :
    Calls Tryz.prog 15 #[.slice a ts.length cap] w fun e w' => e = .returned (.string (catL ts)) ∧ Below w.heap.size w w' := by
  have HC : Hid (RowIs 1 strC w a ts) := hR
  clear hR
  go_enter Tryz.func15, Tryz.ntmps15
  go_wp2
  go_loop [3, 12] (fun m i => ∃ k : Nat, k ≤ ts.length ∧ i = .int .i64 k ∧ m = .int .i64 ((catL (ts.take k)).size : Nat)) (fun _ i => ts.length - (intOf i).toNat)
  case atStart => exact ⟨0, by omega, rfl, by simp [catL]⟩
  case round =>
    obtain ⟨k, hk, rfl, rfl⟩ := hrel
    have hle := catL_le ts k
    by_cases hlt : k < ts.length
    · obtain ⟨x, rfl, hx, hck⟩ := HC.out.str k hlt
      have HS : Hid (_ = _) := catL_take_size ts k hlt
      have hle2 := catL_le ts (k + 1)
      rw [catL_take_size ts k hlt] at hle2
      go_wp2
      exact ⟨⟨k + 1, by omega, by go_num, by rw [HS.out]; go_num⟩, by simp [intOf]; omega⟩
    · obtain rfl : k = ts.length := by omega
      obtain ⟨Z, hZ, hmk⟩ := made_rowX w (catL ts).size htot
      go_wp2
      go_loopw [7, 25] (fun m i wr => ∃ k : Nat, k ≤ ts.length ∧ i = .int .i64 k ∧ m = .int .i64 ((catL (ts.take k)).size : Nat) ∧ ∃ R : List Value, Hid (wr.heap[w.heap.size]? = some (.cells R.toArray 5 (0, 0))) ∧ R.length = (catL ts).size ∧ Hid (R.take (catL (ts.take k)).size = bcells (catL (ts.take k))) ∧ Below w.heap.size w wr) (fun _ i _ => ts.length - (intOf i).toNat)
      case atStart => exact ⟨0, by omega, rfl, by simp [catL], Z, heap_alloc_new _ _, hZ, by simp [catL, bcells, Hid], (Below.refl _ _).alloc (Nat.le_refl _) _⟩
      case round =>
        obtain ⟨k, hk, rfl, rfl, R, HR, hRl, HT, hB⟩ := hrel
        have hle := catL_le ts k
        clear hmk
        by_cases hlt : k < ts.length
        · obtain ⟨x, rfl, hx, hck⟩ := (HC.out.below hB).str k hlt
          have HS : Hid (_ = _) := catL_take_size ts k hlt
          have hle2 := catL_le ts (k + 1)
          rw [catL_take_size ts k hlt] at hle2
          obtain ⟨dp, hdp, hsl⟩ := cut_row w.heap.size (catL ts).size (catL (ts.take k)).size hle
          have HD : Hid (_ → _) := hdp
          clear hdp
          obtain ⟨w2, hcp, HR2, hB2⟩ := copy_text (P := Tryz.prog) wr 61 9 3 5 Tryz.underlying61 size5 dp _ ((catL ts).size - (catL (ts.take k)).size) ts[k] w.heap.size (catL (ts.take k)).size R 5 HR.out (show ts[k].size ≤ (catL ts).size - (catL (ts.take k)).size by omega) (fun h => HD.out (by omega)) (by omega) w.heap.size w hB (Nat.le_refl _)
          go_wp2
          have HT2 : Hid (_ = _) := row_step ts k hlt R hRl HT.out
          go_roundw
          case rel => exact ⟨k + 1, by omega, by go_num, by rw [HS.out]; go_num, splice R (catL (ts.take k)).size (bcells ts[k]), HR2, by rw [length_splice _ _ _ (by rw [bcells_len]; omega)]; exact hRl, HT2, hB2⟩
          case measure => simp [intOf]; omega
        · obtain rfl : k = ts.length := by omega
          have hcv := row_text ts R wr HR.out hRl HT.out
          go_wp2
          go_ret
          exact ⟨rfl, hB⟩

theorem join_ownX (ts : List ByteArray) (v : Value) (B : Nat) (w : World) (h : OwnS w B v ts) (hlen : ts.length ≤ 2000000) (htot : (catL ts).size ≤ 400000000) :
    Calls Tryz.prog 15 #[v] w fun e w' => e = .returned (.string (catL ts)) ∧ Below w.heap.size w w' := by
  obtain ⟨a, cap, rfl, hR⟩ := h.rows
  exact join_rows ts a cap w hR hlen htot
theorem new_rows (w : World) (ts : List ByteArray) : RowIs 1 strC (w.alloc (.cells (ts.map Value.string).toArray 9)) (some ⟨w.heap.size, 0, none⟩) ts :=
  made_rowIs (fun _ => rfl) (by rw [heap_alloc_new]; congr 2; induction ts with | nil => rfl | cons t ts ih => simp_all [strC])
theorem join_new (ts : List ByteArray) (n : Nat) (w : World) (hn : ts.length = n) (hlen : n ≤ 2000000) (htot : (catL ts).size ≤ 400000000) :
    Calls Tryz.prog 15 #[.slice (some ⟨w.heap.size, 0, none⟩) n n] (w.alloc (.cells (ts.map Value.string).toArray 9)) fun e w' => e = .returned (.string (catL ts)) ∧ Below w.heap.size w w' := by
  subst hn
  exact (join_rows ts _ _ _ (new_rows w ts) hlen htot).mono fun e w' hw => ⟨hw.1, below_call (below_new w _) hw.2⟩
end Go.Proofs.YtnhehdobpibgkabGreatDoor
