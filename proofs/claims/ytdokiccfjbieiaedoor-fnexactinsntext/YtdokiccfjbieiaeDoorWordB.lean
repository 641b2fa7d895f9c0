/- How words are written: WordText, by the program and by the specification. -/
import Derived.Test.YtdokiccfjbieiaeDoorRows
import Derived.WalkKit
import Derived.WalkSpells
import Derived.WalkLawsBesides
import Derived.Outline
import Derived.Deep.RegionHeld3
import Derived.Test.YtdokiccfjbieiaeDoorBase
import Derived.Test.YtdokiccfjbieiaeDoorRes
import Derived.Test.YtdokiccfjbieiaeDoorJoin
import Derived.Test.YtdokiccfjbieiaeDoorWordA
namespace Go.Proofs.YtdokiccfjbieiaeDoor
open Go.RowKit
set_option linter.unusedVariables false

def wtB (nm : ByteArray) (n : Int) : ByteArray := if wordB nm n = false then ⟨#[]⟩ else if nm = ⟨#[]⟩ then digs (Lib.itoa n) else if n = 0 then nm else nm ++ sgnB n
theorem word_empty {n : Int} (h : wordB ⟨#[]⟩ n = true) : 0 ≤ n ∧ n ≤ 65535 := by
  unfold wordB at h; rw [if_pos rfl] at h; simp [isB] at h; omega
theorem word_named {nm : ByteArray} {n : Int} (hn : ¬ nm = ⟨#[]⟩) (h : wordB nm n = true) : nm.size ≤ 20 ∧ -32767 ≤ n ∧ n ≤ 32767 := by
  unfold wordB at h; rw [if_neg hn, Bool.and_eq_true] at h
  obtain ⟨h1, h2⟩ := h
  unfold nameB at h1
  have := of_decide_eq_true h1
  simp [isB] at h2
  omega
theorem two_only {W : World} {B : Nat} {t : TypeId} {v0 v1 : Value} (h : W.heap[B]? = some (.cells #[v0, v1] t (0, 0))) : W.cell? ⟨B, 0, none⟩ = some v0 ∧ W.cell? ⟨B, 1, none⟩ = some v1 := ⟨(two_cells h).1, (two_cells h).2.1⟩
theorem sgn_size (n : Int) (h0 : -100000 ≤ n) (h1 : n ≤ 100000) : (sgnB n).size ≤ 8 := by
  have h : (digs (Lib.itoa n)).size ≤ 7 := itoa_len n (by omega) (by omega)
  unfold sgnB
  split
  · omega
  · rw [ByteArray.size_append]; show 1 + _ ≤ 8; omega
set_option maxRecDepth 100000 in
set_option maxHeartbeats 1600000 in
theorem implWordText_any (nm : ByteArray) (n : Int) (w : World) (hs : nm.size ≤ maxLen) (hP : Pow w) : Calls Tryd.prog 24 #[.agg #[.string nm, .int .i64 n]] w fun e w' => e = .returned (.string (wtB nm n)) ∧ Below w.heap.size w w' := by
  have HP : Hid (Pow w) := hP
  clear hP
  unfold wtB
  cases hW : wordB nm n
  · have HW : Hid (_ = _) := hW
    clear hW
    rw [if_pos rfl]
    go_enter Tryd.func24, Tryd.ntmps24
    go_wp2_with fail
    refine (wordRight_any nm n _ hs).mono ?_
    rintro e x1 ⟨rfl, hb⟩
    rw [HW.out]
    go_wp2
    go_ret
    exact ⟨rfl, below_call (below_new _ _) hb⟩
  rw [if_neg (by simp)]
  have HW : Hid (_ = _) := hW
  by_cases hn : nm = ⟨#[]⟩
  · rw [if_pos hn]
    subst hn
    obtain ⟨n0, n1⟩ := word_empty hW
    clear hW
    go_enter Tryd.func24, Tryd.ntmps24
    go_wp2_with fail
    refine (wordRight_any ⟨#[]⟩ n _ hs).mono ?_
    rintro e x1 ⟨rfl, hb⟩
    rw [HW.out]
    have HV1 : Hid (_ = _) := heap_keep (heap_alloc_new w _) hb
    have HB1 : Hid (Below w.heap.size w x1) := below_call (below_new _ _) hb
    clear hb
    obtain ⟨c0, c1, _, _⟩ := two_cells HV1.out
    go_wp2_with fail
    refine (digitsOf_any n _ (by omega) (by omega) (HP.out.below HB1.out)).mono ?_
    rintro e x2 ⟨rfl, hb⟩
    go_wp2
    go_ret
    exact ⟨rfl, below_call HB1.out hb⟩
  rw [if_neg hn]
  have h1 := text_no [] hn
  obtain ⟨z0, n0, n1⟩ := word_named hn hW
  clear hW
  by_cases hz : n = 0
  · rw [if_pos hz]
    subst hz
    go_enter Tryd.func24, Tryd.ntmps24
    go_wp2_with fail
    refine (wordRight_any nm 0 _ hs).mono ?_
    rintro e x1 ⟨rfl, hb⟩
    rw [HW.out]
    have HV1 : Hid (_ = _) := heap_keep (heap_alloc_new w _) hb
    have HB1 : Hid (Below w.heap.size w x1) := below_call (below_new _ _) hb
    clear hb
    obtain ⟨c0, c1, _, _⟩ := two_cells HV1.out
    go_wp2_with fail
    refine (join_one nm _ (by omega)).mono ?_
    rintro e x2 ⟨rfl, hb⟩
    go_wp2
    go_ret
    exact ⟨rfl, below_call HB1.out hb⟩
  · rw [if_neg hz]
    have hz' : (n == 0) = false := by rw [beq_eq_false_iff_ne]; exact hz
    go_enter Tryd.func24, Tryd.ntmps24
    go_wp2_with fail
    refine (wordRight_any nm n _ hs).mono ?_
    rintro e x1 ⟨rfl, hb⟩
    rw [HW.out]
    have HV1 : Hid (_ = _) := heap_keep (heap_alloc_new w _) hb
    have HB1 : Hid (Below w.heap.size w x1) := below_call (below_new _ _) hb
    clear hb
    obtain ⟨c0, c1, _, _⟩ := two_cells HV1.out
    have hss := sgn_size n (by omega) (by omega)
    go_wp2_with fail
    go_region_held3 (fun w' => w'.cell? ⟨w.heap.size, 0, none⟩ = some (.string nm) ∧ w'.cell? ⟨w.heap.size, 1, none⟩ = some (.int .i64 n)) (exact two_only (by repeat (first | with_reducible exact HV3.out | with_reducible exact HV2.out | with_reducible exact HV1.out | with_reducible apply heap_drewn | with_reducible apply heap_more))) (first
      | (go_at_call 56; refine (signed_any n _ (by omega) (by omega) (HP.out.below (by repeat (first | with_reducible exact HB1.out | with_reducible refine Below.drew ?_)))).mono ?_; rintro e x2 ⟨rfl, hb⟩; have HV2 : Hid (_ = _) := heap_keep (by repeat (first | with_reducible exact HV1.out | with_reducible apply heap_drewn)) hb; have HB2 : Hid (Below w.heap.size w x2) := below_call (by repeat (first | with_reducible exact HB1.out | with_reducible refine Below.drew ?_)) hb; clear hb)
      | (go_at_call 55; refine (join_two nm (sgnB n) x2 (by omega)).mono ?_; rintro e x3 ⟨rfl, hb⟩; have HV3 : Hid (_ = _) := heap_keep HV2.out hb; have HB3 : Hid (Below w.heap.size w x3) := below_call HB2.out hb; clear hb))
    go_wp2
    go_ret
    exact ⟨rfl, HB3.out⟩
set_option maxRecDepth 100000 in
set_option maxHeartbeats 1600000 in
theorem specWordText_any (nm : ByteArray) (n : Int) (w : World) (hs : nm.size ≤ maxLen) : Calls Tryd.prog 22 #[.agg #[.string nm, .int .i64 n]] w fun e w' => e = .returned (.string (wtB nm n)) ∧ Below w.heap.size w w' := by
  unfold wtB
  cases hW : wordB nm n
  · have HW : Hid (_ = _) := hW
    clear hW
    rw [if_pos rfl]
    go_enter Tryd.func22, Tryd.ntmps22
    go_wp2_with fail
    refine (l03Right_any nm n _ hs).mono ?_
    rintro e x1 ⟨rfl, hb⟩
    rw [HW.out]
    go_wp2
    go_ret
    exact ⟨rfl, below_call (below_new _ _) hb⟩
  rw [if_neg (by simp)]
  have HW : Hid (_ = _) := hW
  by_cases hn : nm = ⟨#[]⟩
  · rw [if_pos hn]
    subst hn
    obtain ⟨n0, n1⟩ := word_empty hW
    clear hW
    go_enter Tryd.func22, Tryd.ntmps22
    go_wp2_with fail
    refine (l03Right_any ⟨#[]⟩ n _ hs).mono ?_
    rintro e x1 ⟨rfl, hb⟩
    rw [HW.out]
    have HV1 : Hid (_ = _) := heap_keep (heap_alloc_new w _) hb
    have HB1 : Hid (Below w.heap.size w x1) := below_call (below_new _ _) hb
    clear hb
    obtain ⟨c0, c1, _, _⟩ := two_cells HV1.out
    go_wp2_with fail
    refine (l01Dec_any n _ (by omega) (by omega)).mono ?_
    rintro e x2 ⟨rfl, hb⟩
    go_wp2
    go_ret
    exact ⟨rfl, below_call HB1.out hb⟩
  rw [if_neg hn]
  have h1 := text_no [] hn
  obtain ⟨z0, n0, n1⟩ := word_named hn hW
  clear hW
  have hsz : (digs (Lib.itoa n)).size ≤ 7 := itoa_len n (by omega) (by omega)
  by_cases hz : n = 0
  · rw [if_pos hz]
    subst hz
    go_enter Tryd.func22, Tryd.ntmps22
    go_wp2_with fail
    refine (l03Right_any nm 0 _ hs).mono ?_
    rintro e x1 ⟨rfl, hb⟩
    rw [HW.out]
    have HV1 : Hid (_ = _) := heap_keep (heap_alloc_new w _) hb
    have HB1 : Hid (Below w.heap.size w x1) := below_call (below_new _ _) hb
    clear hb
    obtain ⟨c0, c1, _, _⟩ := two_cells HV1.out
    go_wp2
    go_ret
    exact ⟨rfl, HB1.out⟩
  · rw [if_neg hz]
    unfold sgnB
    have HL : Hid (∀ W : World, Calls Tryd.prog 52 #[.int .i64 n] W fun e w' => e = .returned (.string (digs (Lib.itoa n))) ∧ Below W.heap.size W w') := fun W => l01Dec_any n W (by omega) (by omega)
    generalize digs (Lib.itoa n) = D at *
    by_cases hneg : n < 0
    · rw [if_pos hneg]
      have k1 := fun W : World => run_string_add_sum (P := Tryd.prog) W nm D (by omega)
      have hpos : ¬ 0 < n := by omega
      go_enter Tryd.func22, Tryd.ntmps22
      go_wp2_with fail
      refine (l03Right_any nm n _ hs).mono ?_
      rintro e x1 ⟨rfl, hb⟩
      rw [HW.out]
      have HV1 : Hid (_ = _) := heap_keep (heap_alloc_new w _) hb
      have HB1 : Hid (Below w.heap.size w x1) := below_call (below_new _ _) hb
      clear hb
      obtain ⟨c0, c1, _, _⟩ := two_cells HV1.out
      go_wp2_with fail
      go_region_held3 (fun w' => w'.cell? ⟨w.heap.size, 0, none⟩ = some (.string nm) ∧ w'.cell? ⟨w.heap.size, 1, none⟩ = some (.int .i64 n)) (exact two_only (by repeat (first | with_reducible exact HV2.out | with_reducible exact HV1.out | with_reducible apply heap_drewn))) (first
        | (go_at_call 52; refine (HL.out _).mono ?_; rintro e x2 ⟨rfl, hb⟩; have HV2 : Hid (_ = _) := heap_keep (by repeat (first | with_reducible exact HV1.out | with_reducible apply heap_drewn)) hb; have HB2 : Hid (Below w.heap.size w x2) := below_call (by repeat (first | with_reducible exact HB1.out | with_reducible refine Below.drew ?_)) hb; clear hb))
      go_wp2
      go_ret
      exact ⟨rfl, HB2.out⟩
    · rw [if_neg hneg]
      have k1 := fun W : World => run_string_add_sum (P := Tryd.prog) W nm ⟨#[43]⟩ (by show nm.size + 1 ≤ _; omega)
      have k2 := fun W : World => run_string_add_sum (P := Tryd.prog) W (nm ++ ⟨#[43]⟩) D (by rw [ByteArray.size_append]; show nm.size + 1 + D.size ≤ _; omega)
      have hpos : 0 < n := by omega
      go_enter Tryd.func22, Tryd.ntmps22
      go_wp2_with fail
      refine (l03Right_any nm n _ hs).mono ?_
      rintro e x1 ⟨rfl, hb⟩
      rw [HW.out]
      have HV1 : Hid (_ = _) := heap_keep (heap_alloc_new w _) hb
      have HB1 : Hid (Below w.heap.size w x1) := below_call (below_new _ _) hb
      clear hb
      obtain ⟨c0, c1, _, _⟩ := two_cells HV1.out
      go_wp2_with fail
      go_region_held3 (fun w' => w'.cell? ⟨w.heap.size, 0, none⟩ = some (.string nm) ∧ w'.cell? ⟨w.heap.size, 1, none⟩ = some (.int .i64 n)) (exact two_only (by repeat (first | with_reducible exact HV2.out | with_reducible exact HV1.out | with_reducible apply heap_drewn))) (first
        | (go_at_call 52; refine (HL.out _).mono ?_; rintro e x2 ⟨rfl, hb⟩; have HV2 : Hid (_ = _) := heap_keep (by repeat (first | with_reducible exact HV1.out | with_reducible apply heap_drewn)) hb; have HB2 : Hid (Below w.heap.size w x2) := below_call (by repeat (first | with_reducible exact HB1.out | with_reducible refine Below.drew ?_)) hb; clear hb))
      go_wp2
      go_ret
      exact ⟨ret_str (by rw [ByteArray.append_assoc]), HB2.out⟩
end Go.Proofs.YtdokiccfjbieiaeDoor
