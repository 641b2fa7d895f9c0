/- Ops of the program. -/
import Derived.Test.YtdokiccfjbieiadDoorRows
import Derived.WalkKit
import Derived.WalkSpells
import Derived.WalkLawsBesides
import Derived.Outline
import Derived.Test.YtdokiccfjbieiadDoorBase
import Derived.Test.YtdokiccfjbieiadDoorRes
import Derived.Test.YtdokiccfjbieiadDoorOwnS
import Derived.Test.YtdokiccfjbieiadDoorOpsA
namespace Go.Proofs.YtdokiccfjbieiadDoor
open Go.RowKit

def fullB (s : ByteArray) : Bool := !(s.toList == [])
theorem flat_len (k : Nat) (hk : k ≤ 3) : (flatR (opsRows.take k)).length ≤ 48 := by
  obtain rfl | rfl | rfl | rfl : k = 0 ∨ k = 1 ∨ k = 2 ∨ k = 3 := by omega
  all_goals decide +kernel
theorem flat_all : flatR (opsRows.take 3) = opsAll := by decide +kernel
theorem flat_step (k : Nat) (hk : k < 3) : flatR (opsRows.take (k + 1)) = flatR (opsRows.take k) ++ (opsRows.getD k []).filter fullB := by
  obtain rfl | rfl | rfl : k = 0 ∨ k = 1 ∨ k = 2 := by omega
  all_goals decide +kernel
theorem filt_step (R : List ByteArray) (j : Nat) (h : j < R.length) : (R.take (j + 1)).filter fullB = (R.take j).filter fullB ++ (if fullB (R.getD j ⟨#[]⟩) then [R.getD j ⟨#[]⟩] else []) := by
  rw [List.take_succ_eq_append_getElem h, List.filter_append]
  have e : R.getD j ⟨#[]⟩ = R[j] := by simp [List.getD, List.getElem?_eq_getElem h]
  rw [e]
  cases hb : fullB R[j] <;> simp [hb]
theorem OwnS.more {w : World} {B : Nat} {v : Value} {L : List ByteArray} {x : ByteArray} (h : w.ownsRow B 9 1 v (L.length + 1) (cellsS L ++ [.string x])) : OwnS w B v (L ++ [x]) := by
  unfold OwnS
  rw [List.length_append, List.length_singleton]
  simpa [cellsS] using h
theorem lenS_small (k : Nat) (h : k < 1000000) : k + 1 ≤ maxLen := by unfold maxLen; omega
set_option maxRecDepth 100000 in
set_option maxHeartbeats 1600000 in
theorem implOps_any (w : World) (hT : OpsTab w) : Calls Tryd.prog 5 #[] w fun e w' => ∃ v, e = .returned v ∧ OwnS w' w.heap.size v opsAll ∧ Below w.heap.size w w' := by
  obtain ⟨t, fr, hO⟩ := hT.ops
  have HO : Hid (_ = _) := hO
  clear hT hO
  go_enter Tryd.func5, Tryd.ntmps5
  go_wp2_with (refine wpList_load_row rfl 28 _ rfl 0 rfl t _ fr _ HO.out Tryd.underlying28 rfl (by kernel_rfl) ?_)
  go_loopw [1, 7] (fun v i wr => ∃ k : Nat, k ≤ 3 ∧ i = .int .i64 k ∧ Hid (OwnS wr w.heap.size v (flatR (opsRows.take k))) ∧ Hid (Below w.heap.size w wr)) (fun _ i _ => 3 - (intOf i).toNat)
  case atStart => exact ⟨0, by omega, rfl, OwnS.nil _ _, Below.refl _ _⟩
  case round =>
    obtain ⟨k, hk, rfl, HS, HB⟩ := hrel
    have hsz := HB.out.size
    by_cases hlt : k < 3
    · have hi := opsRows_i k hlt
      have hl := opsRows_len k hlt
      have hfl := flat_len k hk
      have HST : Hid (_ = _) := flat_step k hlt
      generalize opsRows.getD k [] = R at *
      generalize flatR (opsRows.take k) = P at *
      have HL : Hid (R.length = 16) := hl
      clear hl
      have hri := rowS_i R HL.out
      have HI : Hid ((Tryd.prog.info? 27).map (·.size) = some (rowS16 R).size) := by rw [rowS16_size, HL.out]; show _ = _; kernel_rfl
      go_wp2_with (first | (refine wpList_store_row rfl 27 _ _ rfl wr.heap.size (rowS16 R) rfl rfl 27 _ (heap_alloc_new _ _) HI.out (by rw [rowS16_size, HL.out]; rfl) (rowS16_one R) ?_) | (refine wpList_load_row rfl 27 _ rfl wr.heap.size rfl 27 (rowS16 R) (0, 0) _ (setRow_heap _ _ _ _ _ _ (heap_alloc_new _ _)) Tryd.underlying27 rfl HI.out ?_))
      have HB1 : Hid (Below w.heap.size w _) := below_row (below_more HB.out (.cells #[.string ⟨#[]⟩, .string ⟨#[]⟩, .string ⟨#[]⟩, .string ⟨#[]⟩, .string ⟨#[]⟩, .string ⟨#[]⟩, .string ⟨#[]⟩, .string ⟨#[]⟩, .string ⟨#[]⟩, .string ⟨#[]⟩, .string ⟨#[]⟩, .string ⟨#[]⟩, .string ⟨#[]⟩, .string ⟨#[]⟩, .string ⟨#[]⟩, .string ⟨#[]⟩] 27)) (g := wr.heap.size) hsz (rowS16 R)
      have HQ1 : Hid (Below wr.heap.size wr _) := below_row (below_new wr (.cells #[.string ⟨#[]⟩, .string ⟨#[]⟩, .string ⟨#[]⟩, .string ⟨#[]⟩, .string ⟨#[]⟩, .string ⟨#[]⟩, .string ⟨#[]⟩, .string ⟨#[]⟩, .string ⟨#[]⟩, .string ⟨#[]⟩, .string ⟨#[]⟩, .string ⟨#[]⟩, .string ⟨#[]⟩, .string ⟨#[]⟩, .string ⟨#[]⟩, .string ⟨#[]⟩] 27)) (g := wr.heap.size) (Nat.le_refl _) (rowS16 R)
      have HS1 : Hid (OwnS _ w.heap.size _ P) := HS.out.stays HQ1.out
      generalize World.setRow _ wr.heap.size (rowS16 R) = x at *
      clear HQ1
      go_loopw [1, 11] (fun v i y => ∃ j : Nat, j ≤ 16 ∧ i = .int .i64 j ∧ Hid (OwnS y w.heap.size v (P ++ (R.take j).filter fullB)) ∧ Hid (Below w.heap.size w y)) (fun _ i _ => 16 - (intOf i).toNat)
      case atStart => exact ⟨0, by omega, rfl, by show OwnS _ _ _ _; simpa using HS1.out, HB1.out⟩
      case round =>
        obtain ⟨j, hj, rfl, HY, HYB⟩ := hrel
        have hsy := HYB.out.size
        by_cases hjl : j < 16
        · have hr := hri j hjl
          clear hri
          have HD : Hid (_ = _) := filt_step R j (by rw [HL.out]; exact hjl)
          have hlen : (P ++ (R.take j).filter fullB).length < 1000000 := by
            have h1 := List.length_filter_le fullB (R.take j)
            have h2 := List.length_take_le j R
            rw [List.length_append]; omega
          generalize R.getD j ⟨#[]⟩ = nm at *
          by_cases he : nm = ⟨#[]⟩
          · subst he
            go_wp2
            go_roundw
            case rel => exact ⟨j + 1, by omega, by go_num, by show OwnS _ _ _ _; rw [HD.out]; simpa [fullB] using HY.out, HYB.out⟩
            case measure => simp [intOf]; omega
          · have he2 : (nm.toList == []) = false := by have h := textS_ne he; rw [ByteArray.toList_eq (bs := ⟨#[]⟩)] at h; exact h
            have HF : Hid (fullB nm = true) := by show _ = _; simp [fullB, he2]
            obtain ⟨i0, hi', hz0, hz1, hz2⟩ := info_parts infoS
            go_wp2_with (at_builtin; refine wpList_append_own _ rfl (.tmp 16) (.tmp 18) 22 rfl w.heap.size 9 i0 (.string ⟨#[]⟩) 1 16 Tryd.underlying22 hi' hz0 hz1 hz2 rfl (by decide) _ _ _ rfl (HY.out.alloc _) ⟨wr.heap.size, 0, none⟩ 1 1 [.string nm] rfl rfl (cell_one_new _ _ _) (one_cellS _) (lenS_small _ hlen) (by omega) (by simp; omega) ?_; intro v2 w2 hown2 hgrow2 _)
            go_roundw
            case rel =>
              have hb3 : Below w.heap.size w w2 := (below_more HYB.out _).grown hgrow2 (below_more HYB.out _).size (fun q hq => (HY.out.lt q hq).1)
              exact ⟨j + 1, by omega, by go_num, by show OwnS _ _ _ _; rw [HD.out, if_pos HF.out, ← List.append_assoc]; exact OwnS.more hown2, hb3⟩
            case measure => simp [intOf]; omega
        · obtain rfl : j = 16 := by omega
          clear hri
          go_wp2
          go_roundw
          case rel => exact ⟨k + 1, by omega, by go_num, by show OwnS _ _ _ _; have h := HY.out; rw [List.take_of_length_le (by rw [HL.out]; omega)] at h; rw [HST.out]; exact h, HYB.out⟩
          case measure => simp [intOf]; omega
    · obtain rfl : k = 3 := by omega
      go_wp2
      go_ret
      exact ⟨_, rfl, by have h := HS.out; rw [flat_all] at h; exact h, HB.out⟩
end Go.Proofs.YtdokiccfjbieiadDoor
