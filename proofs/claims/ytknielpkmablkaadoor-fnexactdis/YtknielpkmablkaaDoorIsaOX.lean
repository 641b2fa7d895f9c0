/- Instructions: where an operation stands in the program's table. -/
import Derived.Test.YtknielpkmablkaaDoorRows
import Derived.WalkKit
import Derived.WalkSpells
import Derived.WalkLawsBesides
import Derived.Outline
import Derived.Test.YtknielpkmablkaaDoorBun0
import Derived.Test.YtknielpkmablkaaDoorBun4
namespace Go.Proofs.YtknielpkmablkaaDoor
open Go.RowKit

def rowV (R : List ByteArray) : Array Value := (R.map Value.string).toArray
def findRows : List (List ByteArray) → Nat → ByteArray → Int × Int × Bool
  | [], _, _ => (0, 0, false)
  | R :: rest, k, op => if 0 ≤ atI R op then ((k : Int), atI R op, true) else findRows rest (k + 1) op
def findI (op : ByteArray) : Int × Int × Bool := if op = ⟨#[]⟩ then (0, 0, false) else findRows namesL 0 op
theorem names_i (k : Nat) (hk : k < 3) (W : World) : (Instr.index 76 (.agg namesV) (.int .i64 (k : Int))).run Tryd.prog W = .ok (.agg (rowV (namesL.getD k []))) W := by
  obtain rfl | rfl | rfl : k = 0 ∨ k = 1 ∨ k = 2 := by omega
  · kernel_rfl
  · kernel_rfl
  · kernel_rfl
theorem names_len (k : Nat) (hk : k < 3) : (namesL.getD k []).length = 16 := by
  obtain rfl | rfl | rfl : k = 0 ∨ k = 1 ∨ k = 2 := by omega
  · kernel_rfl
  · kernel_rfl
  · kernel_rfl
theorem size_string : (Tryd.prog.info? 9).map (·.size) = some 1 := by kernel_rfl
theorem row_i0 (a0 a1 a2 a3 a4 a5 a6 a7 a8 a9 a10 a11 a12 a13 a14 a15 : ByteArray) (W : World) : (Instr.index 75 (.agg (rowV [a0, a1, a2, a3, a4, a5, a6, a7, a8, a9, a10, a11, a12, a13, a14, a15])) (.int .i64 0)).run Tryd.prog W = .ok (.string a0) W := by kernel_rfl
theorem row_i1 (a0 a1 a2 a3 a4 a5 a6 a7 a8 a9 a10 a11 a12 a13 a14 a15 : ByteArray) (W : World) : (Instr.index 75 (.agg (rowV [a0, a1, a2, a3, a4, a5, a6, a7, a8, a9, a10, a11, a12, a13, a14, a15])) (.int .i64 1)).run Tryd.prog W = .ok (.string a1) W := by kernel_rfl
theorem row_i2 (a0 a1 a2 a3 a4 a5 a6 a7 a8 a9 a10 a11 a12 a13 a14 a15 : ByteArray) (W : World) : (Instr.index 75 (.agg (rowV [a0, a1, a2, a3, a4, a5, a6, a7, a8, a9, a10, a11, a12, a13, a14, a15])) (.int .i64 2)).run Tryd.prog W = .ok (.string a2) W := by kernel_rfl
theorem row_i3 (a0 a1 a2 a3 a4 a5 a6 a7 a8 a9 a10 a11 a12 a13 a14 a15 : ByteArray) (W : World) : (Instr.index 75 (.agg (rowV [a0, a1, a2, a3, a4, a5, a6, a7, a8, a9, a10, a11, a12, a13, a14, a15])) (.int .i64 3)).run Tryd.prog W = .ok (.string a3) W := by kernel_rfl
theorem row_i4 (a0 a1 a2 a3 a4 a5 a6 a7 a8 a9 a10 a11 a12 a13 a14 a15 : ByteArray) (W : World) : (Instr.index 75 (.agg (rowV [a0, a1, a2, a3, a4, a5, a6, a7, a8, a9, a10, a11, a12, a13, a14, a15])) (.int .i64 4)).run Tryd.prog W = .ok (.string a4) W := by kernel_rfl
theorem row_i5 (a0 a1 a2 a3 a4 a5 a6 a7 a8 a9 a10 a11 a12 a13 a14 a15 : ByteArray) (W : World) : (Instr.index 75 (.agg (rowV [a0, a1, a2, a3, a4, a5, a6, a7, a8, a9, a10, a11, a12, a13, a14, a15])) (.int .i64 5)).run Tryd.prog W = .ok (.string a5) W := by kernel_rfl
theorem row_i6 (a0 a1 a2 a3 a4 a5 a6 a7 a8 a9 a10 a11 a12 a13 a14 a15 : ByteArray) (W : World) : (Instr.index 75 (.agg (rowV [a0, a1, a2, a3, a4, a5, a6, a7, a8, a9, a10, a11, a12, a13, a14, a15])) (.int .i64 6)).run Tryd.prog W = .ok (.string a6) W := by kernel_rfl
theorem row_i7 (a0 a1 a2 a3 a4 a5 a6 a7 a8 a9 a10 a11 a12 a13 a14 a15 : ByteArray) (W : World) : (Instr.index 75 (.agg (rowV [a0, a1, a2, a3, a4, a5, a6, a7, a8, a9, a10, a11, a12, a13, a14, a15])) (.int .i64 7)).run Tryd.prog W = .ok (.string a7) W := by kernel_rfl
theorem row_i8 (a0 a1 a2 a3 a4 a5 a6 a7 a8 a9 a10 a11 a12 a13 a14 a15 : ByteArray) (W : World) : (Instr.index 75 (.agg (rowV [a0, a1, a2, a3, a4, a5, a6, a7, a8, a9, a10, a11, a12, a13, a14, a15])) (.int .i64 8)).run Tryd.prog W = .ok (.string a8) W := by kernel_rfl
theorem row_i9 (a0 a1 a2 a3 a4 a5 a6 a7 a8 a9 a10 a11 a12 a13 a14 a15 : ByteArray) (W : World) : (Instr.index 75 (.agg (rowV [a0, a1, a2, a3, a4, a5, a6, a7, a8, a9, a10, a11, a12, a13, a14, a15])) (.int .i64 9)).run Tryd.prog W = .ok (.string a9) W := by kernel_rfl
theorem row_i10 (a0 a1 a2 a3 a4 a5 a6 a7 a8 a9 a10 a11 a12 a13 a14 a15 : ByteArray) (W : World) : (Instr.index 75 (.agg (rowV [a0, a1, a2, a3, a4, a5, a6, a7, a8, a9, a10, a11, a12, a13, a14, a15])) (.int .i64 10)).run Tryd.prog W = .ok (.string a10) W := by kernel_rfl
theorem row_i11 (a0 a1 a2 a3 a4 a5 a6 a7 a8 a9 a10 a11 a12 a13 a14 a15 : ByteArray) (W : World) : (Instr.index 75 (.agg (rowV [a0, a1, a2, a3, a4, a5, a6, a7, a8, a9, a10, a11, a12, a13, a14, a15])) (.int .i64 11)).run Tryd.prog W = .ok (.string a11) W := by kernel_rfl
theorem row_i12 (a0 a1 a2 a3 a4 a5 a6 a7 a8 a9 a10 a11 a12 a13 a14 a15 : ByteArray) (W : World) : (Instr.index 75 (.agg (rowV [a0, a1, a2, a3, a4, a5, a6, a7, a8, a9, a10, a11, a12, a13, a14, a15])) (.int .i64 12)).run Tryd.prog W = .ok (.string a12) W := by kernel_rfl
theorem row_i13 (a0 a1 a2 a3 a4 a5 a6 a7 a8 a9 a10 a11 a12 a13 a14 a15 : ByteArray) (W : World) : (Instr.index 75 (.agg (rowV [a0, a1, a2, a3, a4, a5, a6, a7, a8, a9, a10, a11, a12, a13, a14, a15])) (.int .i64 13)).run Tryd.prog W = .ok (.string a13) W := by kernel_rfl
theorem row_i14 (a0 a1 a2 a3 a4 a5 a6 a7 a8 a9 a10 a11 a12 a13 a14 a15 : ByteArray) (W : World) : (Instr.index 75 (.agg (rowV [a0, a1, a2, a3, a4, a5, a6, a7, a8, a9, a10, a11, a12, a13, a14, a15])) (.int .i64 14)).run Tryd.prog W = .ok (.string a14) W := by kernel_rfl
theorem row_i15 (a0 a1 a2 a3 a4 a5 a6 a7 a8 a9 a10 a11 a12 a13 a14 a15 : ByteArray) (W : World) : (Instr.index 75 (.agg (rowV [a0, a1, a2, a3, a4, a5, a6, a7, a8, a9, a10, a11, a12, a13, a14, a15])) (.int .i64 15)).run Tryd.prog W = .ok (.string a15) W := by kernel_rfl
theorem row_i (R : List ByteArray) (hR : R.length = 16) (k : Nat) (hk : k < 16) (W : World) : (Instr.index 75 (.agg (rowV R)) (.int .i64 (k : Int))).run Tryd.prog W = .ok (.string (R.getD k ⟨#[]⟩)) W := by
  match R, hR with
  | [a0, a1, a2, a3, a4, a5, a6, a7, a8, a9, a10, a11, a12, a13, a14, a15], _ =>
    obtain rfl | rfl | rfl | rfl | rfl | rfl | rfl | rfl | rfl | rfl | rfl | rfl | rfl | rfl | rfl | rfl : k = 0 ∨ k = 1 ∨ k = 2 ∨ k = 3 ∨ k = 4 ∨ k = 5 ∨ k = 6 ∨ k = 7 ∨ k = 8 ∨ k = 9 ∨ k = 10 ∨ k = 11 ∨ k = 12 ∨ k = 13 ∨ k = 14 ∨ k = 15 := by omega
    · exact row_i0 _ _ _ _ _ _ _ _ _ _ _ _ _ _ _ _ W
    · exact row_i1 _ _ _ _ _ _ _ _ _ _ _ _ _ _ _ _ W
    · exact row_i2 _ _ _ _ _ _ _ _ _ _ _ _ _ _ _ _ W
    · exact row_i3 _ _ _ _ _ _ _ _ _ _ _ _ _ _ _ _ W
    · exact row_i4 _ _ _ _ _ _ _ _ _ _ _ _ _ _ _ _ W
    · exact row_i5 _ _ _ _ _ _ _ _ _ _ _ _ _ _ _ _ W
    · exact row_i6 _ _ _ _ _ _ _ _ _ _ _ _ _ _ _ _ W
    · exact row_i7 _ _ _ _ _ _ _ _ _ _ _ _ _ _ _ _ W
    · exact row_i8 _ _ _ _ _ _ _ _ _ _ _ _ _ _ _ _ W
    · exact row_i9 _ _ _ _ _ _ _ _ _ _ _ _ _ _ _ _ W
    · exact row_i10 _ _ _ _ _ _ _ _ _ _ _ _ _ _ _ _ W
    · exact row_i11 _ _ _ _ _ _ _ _ _ _ _ _ _ _ _ _ W
    · exact row_i12 _ _ _ _ _ _ _ _ _ _ _ _ _ _ _ _ W
    · exact row_i13 _ _ _ _ _ _ _ _ _ _ _ _ _ _ _ _ W
    · exact row_i14 _ _ _ _ _ _ _ _ _ _ _ _ _ _ _ _ W
    · exact row_i15 _ _ _ _ _ _ _ _ _ _ _ _ _ _ _ _ W
theorem rowV_size (R : List ByteArray) : (rowV R).size = R.length := by simp [rowV]
theorem rowV_one (R : List ByteArray) : (rowV R).all (·.oneCell') = true := by simp [rowV, Value.oneCell']
theorem find_step (op : ByteArray) (k : Nat) (hk : k < 3) : findRows (namesL.drop k) k op = if 0 ≤ atI (namesL.getD k []) op then ((k : Int), atI (namesL.getD k []) op, true) else findRows (namesL.drop (k + 1)) (k + 1) op := by
  obtain rfl | rfl | rfl : k = 0 ∨ k = 1 ∨ k = 2 := by omega
  all_goals rfl
theorem ret_place {a b a' b' : Int} {c c' : Bool} (h : (a, b, c) = (a', b', c')) : Ending.returned (.tuple #[.agg #[.int .i64 a, .int .i64 b], .bool c]) = .returned (.tuple #[.agg #[.int .i64 a', .int .i64 b'], .bool c']) := by
  cases h; rfl
theorem atF_ge (L : List ByteArray) (t : ByteArray) (i : Nat) : atF L t i = -1 ∨ (i : Int) ≤ atF L t i := by
  induction L generalizing i with
  | nil => exact .inl rfl
  | cons s L ih =>
    unfold atF
    split
    · exact .inr (by omega)
    · rcases ih (i + 1) with h | h
      · exact .inl h
      · exact .inr (by omega)
set_option maxRecDepth 100000 in
set_option maxHeartbeats 1600000 in
theorem findOp_any (op : ByteArray) (w : World) (hT : Tabs w) : Calls Tryd.prog 54 #[.string op] w fun e w' => e = .returned (.tuple #[.agg #[.int .i64 (findI op).1, .int .i64 (findI op).2.1], .bool (findI op).2.2]) ∧ Below w.heap.size w w' := by
  obtain ⟨t, fr, hO⟩ := hT.ops
  have HO : Hid (∀ o : Obj, (w.alloc o).heap[0]? = _) := fun o => heap_more hO o
  clear hT hO
  by_cases h0 : op = ⟨#[]⟩
  · have HF : Hid (findI op = (0, 0, false)) := by show _ = _; simp [findI, h0]
    subst h0
    go_enter Tryd.func54, Tryd.ntmps54
    go_wp2
    refine bodyPost_ret (results_row1 Tryd.results54 _ _ w.heap.size 81 #[.int .i64 0, .int .i64 0] (0, 0) _ rfl (heap_alloc_new _ _) Tryd.underlying81 rfl (by kernel_rfl)) rfl ⟨?_, ?_⟩
    · exact ret_place (by rw [HF.out])
    · exact (Below.refl _ _).alloc (Nat.le_refl _) _
  have HF : Hid (findI op = findRows namesL 0 op) := by show _ = _; simp [findI, h0]
  have h0n := text_no [] h0
  clear h0
  go_enter Tryd.func54, Tryd.ntmps54
  go_wp2_with (refine wpList_load_row rfl 76 _ rfl 0 rfl t _ fr _ (HO.out _) Tryd.underlying76 rfl (by kernel_rfl) ?_)
  go_loopw [12] (fun i wr => ∃ k : Nat, k ≤ 3 ∧ i = .int .i64 k ∧ Hid (Below w.heap.size w wr) ∧ Hid (wr.heap[w.heap.size]? = some (.cells #[.int .i64 0, .int .i64 0] 81 (0, 0))) ∧ Hid (findI op = findRows (namesL.drop k) k op)) (fun i _ => 3 - (intOf i).toNat)
  case atStart => exact ⟨0, by omega, rfl, (Below.refl _ _).alloc (Nat.le_refl _) _, heap_alloc_new _ _, HF.out⟩
  case round =>
    obtain ⟨k, hk, rfl, HB, HR, HN⟩ := hrel
    have hsz := heap_lt HR.out
    by_cases hlt : k < 3
    · have hi := names_i k hlt
      have hl := names_len k hlt
      have HST : Hid (_ = _) := find_step op k hlt
      generalize namesL.getD k [] = R at *
      have HL : Hid (R.length = 16) := hl
      clear hl
      have hri := row_i R HL.out
      have HI : Hid ((Tryd.prog.info? 75).map (·.size) = some (rowV R).size) := by rw [rowV_size, HL.out]; show _ = _; kernel_rfl
      go_wp2_with (first | (refine wpList_store_row rfl 75 _ _ rfl wr.heap.size (rowV R) rfl rfl 75 _ (heap_alloc_new _ _) HI.out (by rw [rowV_size, HL.out]; rfl) (rowV_one R) ?_) | (refine wpList_load_row rfl 75 _ rfl wr.heap.size rfl 75 (rowV R) (0, 0) _ (setRow_heap _ _ _ _ _ _ (heap_alloc_new _ _)) Tryd.underlying75 rfl HI.out ?_))
      obtain ⟨o, HO1⟩ : ∃ o : Obj, Hid (o = .cells (Array.replicate 16 (.string ⟨#[]⟩)) 75) := ⟨_, rfl⟩
      have HB1 : Hid (Below w.heap.size w ((wr.alloc o).setRow wr.heap.size (rowV R))) := below_row (HB.out.alloc (by omega) _) (by omega) _
      have HR1 : Hid (((wr.alloc o).setRow wr.heap.size (rowV R)).heap[w.heap.size]? = _) := heap_row_other (heap_more HR.out _) (by omega) _
      rw [HO1.out] at HB1 HR1
      simp only [List.replicate, Array.replicate] at HB1 HR1
      generalize World.setRow _ wr.heap.size (rowV R) = x at *
      go_loopw [17] (fun i y => ∃ j : Nat, j ≤ 16 ∧ i = .int .i64 j ∧ Hid (y = x) ∧ Hid (atI R op = atF (R.drop j) op j)) (fun i _ => 16 - (intOf i).toNat)
      case atStart => exact ⟨0, by omega, rfl, rfl, rfl⟩
      case round =>
        obtain ⟨j, hj, rfl, HX, HA⟩ := hrel
        by_cases hjl : j < 16
        · have hr := hri j hjl
          clear hri
          have HD : Hid (_ = _) := atF_drop R op j (by rw [HL.out]; exact hjl)
          have hge : R.getD j ⟨#[]⟩ = R[j]'(by rw [HL.out]; exact hjl) := by simp [List.getD, List.getElem?_eq_getElem (show j < R.length by rw [HL.out]; exact hjl)]
          rw [hge] at hr
          clear hge
          by_cases he : R[j]'(by rw [HL.out]; exact hjl) = op
          · have HE : Hid (findI op = ((k : Int), (j : Int), true)) := by
              have hA : atI R op = (j : Int) := by rw [HA.out, HD.out, if_pos he]
              show _ = _
              rw [HN.out, HST.out, hA, if_pos (by omega)]
            have hx := HX.out
            subst hx
            obtain ⟨q0, q1, f0, f1⟩ := two_cells HR1.out
            have he2 : ((R[j]'(by rw [HL.out]; exact hjl)).toList == op.toList) = true := by rw [he]; simp
            go_wp2
            refine bodyPost_ret (results_row1 Tryd.results54 _ _ w.heap.size 81 #[.int .i64 k, .int .i64 j] (0, 0) _ rfl (heap_set (heap_set HR1.out 0 _) 1 _) Tryd.underlying81 rfl (by kernel_rfl)) rfl ⟨?_, ?_⟩
            · exact ret_place (by rw [HE.out])
            · exact (HB1.out.setCell (Nat.le_refl _) _).setCell (Nat.le_refl _) _
          · have he2 := text_ne he
            go_wp2
            go_roundw
            case rel => exact ⟨j + 1, by omega, by go_num, HX.out, by show _ = _; rw [HA.out, HD.out, if_neg he]⟩
            case measure => simp [intOf]; omega
        · have HE : Hid (findI op = findRows (namesL.drop (k + 1)) (k + 1) op) := by
            have hA : atI R op = -1 := by rw [HA.out, List.drop_of_length_le (by rw [HL.out]; omega)]; rfl
            show _ = _
            rw [HN.out, HST.out, hA, if_neg (by omega)]
          have hx := HX.out
          subst hx
          clear hri
          go_wp2
          go_roundw
          case rel => exact ⟨k + 1, by omega, by go_num, HB1.out, HR1.out, HE.out⟩
          case measure => simp [intOf]; omega
    · obtain ⟨q0, q1, f0, f1⟩ := two_cells HR.out
      have HE : Hid (findI op = (0, 0, false)) := by
        show _ = _
        obtain rfl : k = 3 := by omega
        rw [HN.out]; rfl
      go_wp2
      refine bodyPost_ret (results_row1 Tryd.results54 _ _ w.heap.size 81 #[.int .i64 0, .int .i64 0] (0, 0) _ rfl (heap_set (heap_set HR.out 0 _) 1 _) Tryd.underlying81 rfl (by kernel_rfl)) rfl ⟨?_, ?_⟩
      · exact ret_place (by rw [HE.out])
      · exact (HB.out.setCell (Nat.le_refl _) _).setCell (Nat.le_refl _) _
end Go.Proofs.YtknielpkmablkaaDoor
