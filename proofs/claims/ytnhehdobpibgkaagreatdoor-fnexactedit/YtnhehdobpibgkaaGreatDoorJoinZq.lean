/- The walk of joinTexts: texts put one behind the other, in new memory. -/
import Derived.Test.YtnhehdobpibgkaaGreatDoorRows
import Derived.WalkKit
import Derived.WalkSpells
import Derived.WalkLawsBesides
import Derived.Test.YtnhehdobpibgkaaGreatDoorBun0
import Derived.Test.YtnhehdobpibgkaaGreatDoorBun5
namespace Go.Proofs.YtnhehdobpibgkaaGreatDoor
open Go.RowKit

def catL : List ByteArray → ByteArray
  | [] => ByteArray.empty
  | t :: ts => t ++ catL ts
theorem catL_append (a b : List ByteArray) : catL (a ++ b) = catL a ++ catL b := by
  induction a with
  | nil => simp [catL]
  | cons t ts ih => simp [catL, ih, ByteArray.append_assoc]
theorem catL_take (ts : List ByteArray) (k : Nat) (h : k < ts.length) : catL (ts.take (k + 1)) = catL (ts.take k) ++ ts[k] := by
  rw [List.take_succ_eq_append_getElem h, catL_append]; simp [catL]
theorem catL_take_size (ts : List ByteArray) (k : Nat) (h : k < ts.length) : (catL (ts.take (k + 1))).size = (catL (ts.take k)).size + ts[k].size := by
  rw [catL_take ts k h, ByteArray.size_append]
theorem text_of (s : ByteArray) : strOfNums (s.data.toList.map fun b => (b.toNat : Int)) = s := by
  unfold strOfNums
  have h : (s.data.toList.map fun b : UInt8 => (b.toNat : Int)).map (fun n => UInt8.ofNat n.toNat) = s.data.toList := by
    rw [List.map_map]
    conv => rhs; rw [← List.map_id s.data.toList]
    apply List.map_congr_left
    intro b _
    simp
  rw [h]
theorem catL_le (ts : List ByteArray) (k : Nat) : (catL (ts.take k)).size ≤ (catL ts).size := by
  conv => rhs; rw [← List.take_append_drop k ts, catL_append, ByteArray.size_append]
  omega

theorem made_row (w : World) (n : Nat) (hn : n ≤ 1000000) : ∃ Z : List Value, Z.length = n ∧
    (Instr.makeSlice 80 (.int .i64 (n : Int)) (.int .i64 (n : Int))).run Tryz.prog w = .ok (.slice (some ⟨w.heap.size, 0, none⟩) n n) (w.alloc (.cells Z.toArray 5)) := by
  obtain ⟨i0, hi, hz0, hz1, hz2⟩ := info_parts info5
  have h := run_make (P := Tryz.prog) w 80 5 i0 (.int .u8 0) Tryz.underlying80 hi hz0 .i64 .i64 n n (by omega) (by omega) (by rw [hz2]; omega) (by omega)
  refine ⟨(madeCells (Value.int .u8 0).cells (n * i0.size)).toList, ?_, ?_⟩
  · rw [Array.length_toList, size_madeCells, hz1]; omega
  · rw [h]; simp

theorem cut_row (B n m : Nat) (h : m ≤ n) : ∃ dp : Option Addr, (m < n → dp = some ⟨B, m, none⟩) ∧
    ∀ W : World, (Instr.slice 80 (.slice (some ⟨B, 0, none⟩) n n) (some (.int .i64 (m : Int))) none none).run Tryz.prog W = .ok (.slice dp (n - m) (n - m)) W := by
  obtain ⟨i0, hi, hz0, hz1, hz2⟩ := info_parts info5
  have h1 : (m : Int) ≤ (n : Int) := by omega
  refine ⟨if n = m then some ⟨B, 0, none⟩ else some ⟨B, m, none⟩, fun hlt => if_neg (by omega), fun W => ?_⟩
  by_cases e : n = m
  · simp [Instr.slice, run_underlying Tryz.underlying80, Instr.sliceBounds, Instr.sliceBound, asIntOf, sizeOf, typeInfo, hi, e]
  · simp [Instr.slice, run_underlying Tryz.underlying80, Instr.sliceBounds, Instr.sliceBound, asIntOf, sizeOf, typeInfo, hi, hz1, h, e, Addr.add]
    omega

theorem size5 : (Tryz.prog.info? 5).map (·.size) = some 1 := by kernel_rfl
theorem row_step (ts : List ByteArray) (k : Nat) (hlt : k < ts.length) (R : List Value) (hRl : R.length = (catL ts).size) (hT : R.take (catL (ts.take k)).size = bcells (catL (ts.take k))) :
    (splice R (catL (ts.take k)).size (bcells ts[k])).take (catL (ts.take (k + 1))).size = bcells (catL (ts.take (k + 1))) := by
  have h2 := catL_le ts (k + 1)
  rw [catL_take ts k hlt, bcells_append, ← hT]
  rw [catL_take ts k hlt] at h2
  simp only [ByteArray.size_append] at h2 ⊢
  unfold splice
  rw [← List.append_assoc, List.take_append_of_le_length (by simp [bcells_len]; omega), List.take_of_length_le (by simp [bcells_len]; omega)]
theorem row_text (ts : List ByteArray) (R : List Value) (w : World) {B : Nat} (hR : w.heap[B]? = some (.cells R.toArray 5 (0, 0))) (hRl : R.length = (catL ts).size) (hT : R.take (catL (ts.take ts.length)).size = bcells (catL (ts.take ts.length))) :
    (convert 80 9 (.slice (some ⟨B, 0, none⟩) (catL ts).size (catL ts).size)).run Tryz.prog w = .ok (.string (catL ts)) w := by
  rw [List.take_length] at hT
  rw [List.take_of_length_le (by omega)] at hT
  subst hT
  have h := run_convert_bytes_arg (P := Tryz.prog) w 80 5 Tryz.underlying80 Tryz.underlying5 B 0 (catL ts).size (catL ts).size ((catL ts).data.toList.map fun b => (b.toNat : Int)) (by simp) (fun i hi => ?_) 9 Tryz.underlying9
  · rw [h, text_of]
  · have hi' : i < (bcells (catL ts)).length := by rw [bcells_len]; exact hi
    simp [World.cell?, hR, bcells, List.getD, hi]

set_option maxHeartbeats 400000 in
theorem join_any (ts : List ByteArray) (g : Nat) (w : World) (hcell : ∀ j, (h : j < ts.length) → w.cell? ⟨g, j, none⟩ = some (.string ts[j])) (hgB : g < w.heap.size) (hlen : ts.length ≤ 1000) (htot : (catL ts).size ≤ 1000000) :
    Calls Tryz.prog 55 #[.slice (some ⟨g, 0, none⟩) ts.length ts.length] w fun e w' => e = .returned (.string (catL ts)) ∧ Below w.heap.size w w' := by
  have HC : Hid (∀ j, (h : j < ts.length) → w.cell? ⟨g, j, none⟩ = some (.string ts[j])) := hcell
  clear hcell
  go_enter Tryz.func55, Tryz.ntmps55
  go_wp2
  go_loop [3, 12] (fun m i => ∃ k : Nat, k ≤ ts.length ∧ i = .int .i64 k ∧ m = .int .i64 ((catL (ts.take k)).size : Nat)) (fun _ i => ts.length - (intOf i).toNat)
  case atStart => exact ⟨0, by omega, rfl, by simp [catL]⟩
  case round =>
    obtain ⟨k, hk, rfl, rfl⟩ := hrel
    have hle := catL_le ts k
    by_cases hlt : k < ts.length
    · have hck := HC.out k hlt
      have HS : Hid (_ = _) := catL_take_size ts k hlt
      have hle2 := catL_le ts (k + 1)
      rw [catL_take_size ts k hlt] at hle2
      go_wp2
      exact ⟨⟨k + 1, by omega, by go_num, by rw [HS.out]; go_num⟩, by simp [intOf]; omega⟩
    · obtain rfl : k = ts.length := by omega
      obtain ⟨Z, hZ, hmk⟩ := made_row w (catL ts).size htot
      go_wp2
      go_loopw [7, 25] (fun m i wr => ∃ k : Nat, k ≤ ts.length ∧ i = .int .i64 k ∧ m = .int .i64 ((catL (ts.take k)).size : Nat) ∧ ∃ R : List Value, Hid (wr.heap[w.heap.size]? = some (.cells R.toArray 5 (0, 0))) ∧ R.length = (catL ts).size ∧ Hid (R.take (catL (ts.take k)).size = bcells (catL (ts.take k))) ∧ Below w.heap.size w wr) (fun _ i _ => ts.length - (intOf i).toNat)
      case atStart => exact ⟨0, by omega, rfl, by simp [catL], Z, heap_alloc_new _ _, hZ, by simp [catL, bcells, Hid], (Below.refl _ _).alloc (Nat.le_refl _) _⟩
      case round =>
        obtain ⟨k, hk, rfl, rfl, R, HR, hRl, HT, hB⟩ := hrel
        have hle := catL_le ts k
        clear hmk
        by_cases hlt : k < ts.length
        · have hck : wr.cell? ⟨g, k, none⟩ = some (.string ts[k]) := (hB.cell hgB).trans (HC.out k hlt)
          have HS : Hid (_ = _) := catL_take_size ts k hlt
          have hle2 := catL_le ts (k + 1)
          rw [catL_take_size ts k hlt] at hle2
          obtain ⟨dp, hdp, hsl⟩ := cut_row w.heap.size (catL ts).size (catL (ts.take k)).size hle
          have HD : Hid (_ → _) := hdp
          clear hdp
          obtain ⟨w2, hcp, HR2, hB2⟩ := copy_text (P := Tryz.prog) wr 80 9 3 5 Tryz.underlying80 size5 dp _ ((catL ts).size - (catL (ts.take k)).size) ts[k] w.heap.size (catL (ts.take k)).size R 5 HR.out (show ts[k].size ≤ (catL ts).size - (catL (ts.take k)).size by omega) (fun h => HD.out (by omega)) (by omega) w.heap.size w hB (Nat.le_refl _)
          go_wp2
          have HT2 : Hid (_ = _) := row_step ts k hlt R hRl HT.out
          go_roundw
          case rel => exact ⟨k + 1, by omega, by go_num, by rw [HS.out]; go_num, splice R (catL (ts.take k)).size (bcells ts[k]), HR2, by rw [length_splice _ _ _ (by rw [bcells_len]; omega)]; exact hRl, HT2, hB2⟩
          case measure => simp [intOf]; omega
        · obtain rfl : k = ts.length := by omega
          have hcv := row_text ts R wr HR.out hRl HT.out
          go_wp2
          go_ret
          exact ⟨rfl, hB⟩

theorem catL_two (a b : ByteArray) : catL [a, b] = a ++ b := by simp [catL]
theorem catL_one (a : ByteArray) : catL [a] = a := by simp [catL]
theorem join_two (a b : ByteArray) (w : World) (h : a.size + b.size ≤ 1000000) :
    Calls Tryz.prog 55 #[.slice (some ⟨w.heap.size, 0, none⟩) 2 2] (w.alloc (.cells #[.string a, .string b] 9)) fun e w' => e = .returned (.string (a ++ b)) ∧ Below w.heap.size w w' := by
  have hj := join_any [a, b] w.heap.size (w.alloc (.cells #[.string a, .string b] 9)) (fun j hj => by
    match j, hj with
    | 0, _ => simp
    | 1, _ => simp) (by simp) (by simp) (by rw [catL_two, ByteArray.size_append]; exact h)
  refine hj.mono fun e w' hw => ?_
  rw [catL_two] at hw
  exact ⟨hw.1, ((Below.refl _ _).alloc (Nat.le_refl _) _).trans (hw.2.mono (by simp))⟩
theorem join_one (a : ByteArray) (w : World) (h : a.size ≤ 1000000) :
    Calls Tryz.prog 55 #[.slice (some ⟨w.heap.size, 0, none⟩) 1 1] (w.alloc (.cells #[.string a] 9)) fun e w' => e = .returned (.string a) ∧ Below w.heap.size w w' := by
  have hj := join_any [a] w.heap.size (w.alloc (.cells #[.string a] 9)) (fun j hj => by
    match j, hj with
    | 0, _ => simp) (by simp) (by simp) (by rw [catL_one]; exact h)
  refine hj.mono fun e w' hw => ?_
  rw [catL_one] at hw
  exact ⟨hw.1, ((Below.refl _ _).alloc (Nat.le_refl _) _).trans (hw.2.mono (by simp))⟩

end Go.Proofs.YtnhehdobpibgkaaGreatDoor
