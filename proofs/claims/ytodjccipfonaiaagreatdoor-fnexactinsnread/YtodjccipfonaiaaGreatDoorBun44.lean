/- WordRead, by the specification. -/
import Derived.Test.YtodjccipfonaiaaGreatDoorRows
import Derived.WalkKit
import Derived.WalkSpells
import Derived.WalkLawsBesides
import Derived.Outline
import Derived.Test.YtodjccipfonaiaaGreatDoorBun0
import Derived.Test.YtodjccipfonaiaaGreatDoorWordRSX
import Derived.Test.YtodjccipfonaiaaGreatDoorBun30
import Derived.Test.YtodjccipfonaiaaGreatDoorBun34
import Derived.RegionTactic
import Derived.BigRegion
import Derived.Deep.QuietTactic
import Derived.BigQuiet
import Derived.Deep.RegionHeld3
import Derived.Test.YtodjccipfonaiaaGreatDoorBun3
import Derived.Test.YtodjccipfonaiaaGreatDoorBun35
import Derived.Test.YtodjccipfonaiaaGreatDoorBun7
import Derived.Test.YtodjccipfonaiaaGreatDoorBun37
import Derived.Test.YtodjccipfonaiaaGreatDoorGramWX
namespace Go.Proofs.YtodjccipfonaiaaGreatDoor
open Go.RowKit
set_option linter.unusedVariables false

theorem cells3h {W : World} {B : Nat} {t : TypeId} {fr : Nat × Nat} {v0 v1 v2 : Value} (h : W.heap[B]? = some (.cells #[v0, v1, v2] t fr)) : W.cell? ⟨B, 0, none⟩ = some v0 ∧ W.cell? ⟨B, 1, none⟩ = some v1 ∧ W.cell? ⟨B, 2, none⟩ = some v2 := by
  refine ⟨?_, ?_, ?_⟩ <;> simp [World.cell?, h]
theorem set_three {W : World} {g : Nat} {z0 z1 z2 a b c : Value} {t : TypeId} (h : W.heap[g]? = some (.cells #[z0, z1, z2] t (0, 0))) : (((W.setCell ⟨g, 0, none⟩ a).setCell ⟨g, 1, none⟩ b).setCell ⟨g, 2, none⟩ c).heap[g]? = some (.cells #[a, b, c] t (0, 0)) :=
  heap_set (heap_set (heap_set h 0 a) 1 b) 2 c
def outW (s : ByteArray) : Array Value := if 8000 < s.size then #[.string ⟨#[]⟩, .int .i64 0, .int .i64 2] else match wordR s with | some p => #[.string p.1, .int .i64 p.2, .int .i64 0] | none => #[.string ⟨#[]⟩, .int .i64 0, .int .i64 3]
theorem ret_aggW {A B : Array Value} (h : A = B) : Ending.returned (.agg A) = .returned (.agg B) := by rw [h]
set_option maxRecDepth 100000 in
set_option maxHeartbeats 1600000 in
theorem specWordRead_any (s : ByteArray) (w : World) (hs : s.size ≤ maxLen) : Calls Tryz.prog 17 #[.string s] w fun e w' => e = .returned (.agg (outW s)) ∧ Below w.heap.size w w' := by
  have HM : Hid (s.size ≤ maxLen) := hs
  unfold maxLen at hs
  by_cases h8 : 8000 < s.size
  · have h8' : (8000 : Int) < (s.size : Int) := by omega
    have HO : Hid (outW s = #[.string ⟨#[]⟩, .int .i64 0, .int .i64 2]) := by show _ = _; unfold outW; rw [if_pos h8]
    go_enter Tryz.func17, Tryz.ntmps17
    go_wp2
    exact bodyPost_ret (results_cell_row Tryz.results17 _ _ w.heap.size 39 _ (0, 0) _ rfl (heap_alloc_new _ _) Tryz.underlying39 rfl (by kernel_rfl)) rfl ⟨ret_aggW HO.out.symm, below_new _ _⟩
  · have h8' : ¬ (8000 : Int) < (s.size : Int) := by omega
    go_enter Tryz.func17, Tryz.ntmps17
    go_wp2_with fail
    refine (l03Word_any s _ HM.out).mono ?_
    rintro e x1 ⟨nm, n, ok, rfl, hR, hb⟩
    have HR1 : Hid (_ = _) := heap_keep (heap_alloc_new w _) hb
    have HB1 : Hid (Below w.heap.size w x1) := below_call (below_new _ _) hb
    have HW : Hid (_ = _) := hR
    clear hR hb
    have hz1 := heap_lt HR1.out
    have hne : w.heap.size ≠ x1.heap.size := Nat.ne_of_lt hz1
    obtain ⟨r0, r1, r2⟩ := cells3h HR1.out
    have y0 := frozen_of_row _ _ 0 _ _ HR1.out
    have y1 := frozen_of_row _ _ 1 _ _ HR1.out
    have y2 := frozen_of_row _ _ 2 _ _ HR1.out
    cases ok
    · have HO : Hid (outW s = #[.string ⟨#[]⟩, .int .i64 0, .int .i64 3]) := by show _ = _; unfold outW; rw [if_neg h8, HW.out]; rfl
      go_wp2
      exact bodyPost_ret (results_cell_row Tryz.results17 _ _ w.heap.size 39 _ (0, 0) _ rfl (heap_more (set_three HR1.out) _) Tryz.underlying39 rfl (by kernel_rfl)) rfl ⟨ret_aggW HO.out.symm, below_more (((HB1.out.setCell (Nat.le_refl _) _).setCell (Nat.le_refl _) _).setCell (Nat.le_refl _) _) _⟩
    · have HO : Hid (outW s = #[.string nm, .int .i64 n, .int .i64 0]) := by show _ = _; unfold outW; rw [if_neg h8, HW.out]; rfl
      go_wp2
      exact bodyPost_ret (results_cell_row Tryz.results17 _ _ w.heap.size 39 _ (0, 0) _ rfl (heap_more (set_three HR1.out) _) Tryz.underlying39 rfl (by kernel_rfl)) rfl ⟨ret_aggW HO.out.symm, below_more (((HB1.out.setCell (Nat.le_refl _) _).setCell (Nat.le_refl _) _).setCell (Nat.le_refl _) _) _⟩
end Go.Proofs.YtodjccipfonaiaaGreatDoor
namespace Go.Proofs.YtodjccipfonaiaaGreatDoor
open Go.RowKit
set_option linter.unusedVariables false

theorem runP_len (s : ByteArray) : ∀ (f p : Nat) (st : PSt), (runP s f p st).acc.length ≤ st.acc.length + f
  | 0, p, st => Nat.le_refl _
  | f + 1, p, st => by
    show (if p < s.size then runP s f (p + (Utf8.decode s p).2) (stepP s st p) else st).acc.length ≤ _
    split
    · have h := runP_len s f (p + (Utf8.decode s p).2) (stepP s st p)
      have h2 : (stepP s st p).acc.length ≤ st.acc.length + 1 := by
        unfold stepP
        split
        · show (st.acc ++ [_]).length ≤ _; simp
        · show st.acc.length ≤ _; omega
      omega
    · omega
theorem pieces_len (s : ByteArray) : (piecesL s).length ≤ s.size + 1 := by
  unfold piecesL
  split
  · simp
  · have h := runP_len s s.size 0 ⟨0, false, []⟩
    have h0 : (PSt.mk 0 false []).acc.length = 0 := rfl
    rw [List.length_append]
    have h1 : [s.extract (runP s s.size 0 ⟨0, false, []⟩).fr s.size].length = 1 := rfl
    omega
theorem catL_mem : ∀ (L : List ByteArray) (p : ByteArray), p ∈ L → p.size ≤ (catL L).size
  | [], p, h => by simp at h
  | q :: L, p, h => by
    have e : catL (q :: L) = q ++ catL L := rfl
    rw [e, ByteArray.size_append]
    rcases List.mem_cons.1 h with rfl | h
    · omega
    · have := catL_mem L p h; omega
theorem pieces_size (s : ByteArray) : ∀ p ∈ piecesL s, p.size ≤ s.size := fun p hp => by
  have h := catL_mem _ p hp
  rw [pieces_cat] at h
  exact h
theorem Rd.make {x : World} {B : Nat} {v : Value} {L : List ByteArray} (h : OwnS x B v L) (hl : L.length ≤ 9000) (ht : ∀ p ∈ L, p.size ≤ 8000) (h0 : 0 < x.heap.size) : ∃ g a cap, v = .slice a L.length cap ∧ Rd (x.alloc (.cells #[v] 62)) x.heap.size g a cap L := by
  rcases h.form with ⟨rfl, rfl⟩ | ⟨g, cap, cur, rfl, hB, hg, h1, h2, h3, h4⟩
  · exact ⟨0, none, 0, rfl, heap_alloc_new x _, fun h => by simp at h, by simp, by simp, by unfold maxLen; omega, by simp, by simp⟩
  · have hgl := heap_lt hg
    refine ⟨g, some ⟨g, 0, none⟩, cap, rfl, heap_alloc_new x _, fun _ => ⟨0, rfl, by omega, fun i hi => ?_⟩, by simp; omega, h1, h2, hl, ht⟩
    rw [cell_of_row _ _ _ _ _ _ (heap_more hg _), Nat.zero_add]
    exact h4 i hi
theorem outW_yes {s : ByteArray} {nm : ByteArray} {n : Int} (h8 : ¬ 8000 < s.size) (h : wordT (piecesL s) = some ((nm, n), [])) : outW s = #[.string nm, .int .i64 n, .int .i64 0] := by
  unfold outW
  rw [if_neg h8, ← word_eq]
  unfold wordP
  rw [h]
theorem outW_no {s : ByteArray} (h8 : ¬ 8000 < s.size) (h : ∀ x, wordT (piecesL s) ≠ some (x, [])) : outW s = #[.string ⟨#[]⟩, .int .i64 0, .int .i64 3] := by
  unfold outW
  rw [if_neg h8, ← word_eq]
  have e : wordP s = none := by
    unfold wordP
    split
    · rename_i x hx; exact absurd hx (h x)
    · rfl
  rw [e]
set_option maxRecDepth 100000 in
set_option maxHeartbeats 3200000 in
theorem implWordRead_any (s : ByteArray) (w : World) (hs : s.size ≤ maxLen) : Calls Tryz.prog 13 #[.string s] w fun e w' => e = .returned (.agg (outW s)) ∧ Below w.heap.size w w' := by
  unfold maxLen at hs
  by_cases h8 : 8000 < s.size
  · have h8' : (8000 : Int) < (s.size : Int) := by omega
    have HO : Hid (outW s = #[.string ⟨#[]⟩, .int .i64 0, .int .i64 2]) := by show _ = _; unfold outW; rw [if_pos h8]
    go_enter Tryz.func13, Tryz.ntmps13
    go_wp2
    exact bodyPost_ret (results_cell_row Tryz.results13 _ _ w.heap.size 39 _ (0, 0) _ rfl (heap_alloc_new _ _) Tryz.underlying39 rfl (by kernel_rfl)) rfl ⟨ret_aggW HO.out.symm, below_new _ _⟩
  · have h8' : ¬ (8000 : Int) < (s.size : Int) := by omega
    go_enter Tryz.func13, Tryz.ntmps13
    go_wp2_with fail
    refine (piecesOf_any s _ (by omega)).mono ?_
    rintro e x1 ⟨v, rfl, hO, hb⟩
    have HV1 : Hid (x1.heap[w.heap.size]? = _) := heap_keep (heap_alloc_new w _) hb
    have HB1 : Hid (Below w.heap.size w x1) := below_call (below_new _ _) hb
    clear hb
    have hs1 := heap_lt HV1.out
    obtain ⟨g, a, cap, rfl, hR⟩ := Rd.make hO (by have := pieces_len s; omega) (fun p hp => by have := pieces_size s p hp; omega) (by omega)
    have HR : Hid (_) := hR
    clear hR hO
    go_wp2_with fail
    refine (word_any x1.heap.size g cap a (piecesL s) _ HR.out).mono ?_
    rintro e x2 ⟨nm, n, ok, a2, cap2, L2, rfl, hW, hR2, hB2⟩
    have HV2 : Hid (x2.heap[w.heap.size]? = _) := But.keep (heap_more HV1.out _) hB2 (by omega)
    have HB2 : Hid (Below w.heap.size w x2) := But.below (below_more HB1.out _) hB2 (by omega) (by simp; omega)
    have HR2 : Hid (_) := hR2
    have HW : Hid (_ = _) := hW
    clear HR hW hR2 hB2 HV1 HB1
    have hs2 := heap_lt HV2.out
    have hne : w.heap.size ≠ x2.heap.size := Nat.ne_of_lt hs2
    obtain ⟨r0, r1, r2⟩ := cells3h HV2.out
    have y0 := frozen_of_row _ _ 0 _ _ HV2.out
    have y1 := frozen_of_row _ _ 1 _ _ HV2.out
    have y2 := frozen_of_row _ _ 2 _ _ HV2.out
    cases ok
    · have HO : Hid (outW s = #[.string ⟨#[]⟩, .int .i64 0, .int .i64 3]) := outW_no h8 (fun x hx => by rw [HW.out] at hx; cases hx)
      go_wp2
      exact bodyPost_ret (results_cell_row Tryz.results13 _ _ w.heap.size 39 _ (0, 0) _ rfl (heap_more (set_three HV2.out) _) Tryz.underlying39 rfl (by kernel_rfl)) rfl ⟨ret_aggW HO.out.symm, below_more (((HB2.out.setCell (Nat.le_refl _) _).setCell (Nat.le_refl _) _).setCell (Nat.le_refl _) _) _⟩
    · cases L2 with
      | nil =>
        have HO : Hid (outW s = #[.string nm, .int .i64 n, .int .i64 0]) := outW_yes h8 HW.out
        go_wp2_with fail
        refine (atEnd_any x1.heap.size g cap2 a2 [] _ (HR2.out.alloc _)).mono ?_
        rintro e x3 ⟨rfl, hx⟩
        have hx' := hx.symm
        subst hx'
        clear hx
        go_wp2
        exact bodyPost_ret (results_cell_row Tryz.results13 _ _ w.heap.size 39 _ (0, 0) _ rfl (heap_more (set_three HV2.out) _) Tryz.underlying39 rfl (by kernel_rfl)) rfl ⟨ret_aggW HO.out.symm, below_more (((HB2.out.setCell (Nat.le_refl _) _).setCell (Nat.le_refl _) _).setCell (Nat.le_refl _) _) _⟩
      | cons q L2 =>
        have HO : Hid (outW s = #[.string ⟨#[]⟩, .int .i64 0, .int .i64 3]) := outW_no h8 (fun x hx => by rw [HW.out] at hx; cases hx)
        go_wp2_with fail
        refine (atEnd_any x1.heap.size g cap2 a2 (q :: L2) _ (HR2.out.alloc _)).mono ?_
        rintro e x3 ⟨rfl, hx⟩
        have hx' := hx.symm
        subst hx'
        clear hx
        go_wp2
        exact bodyPost_ret (results_cell_row Tryz.results13 _ _ w.heap.size 39 _ (0, 0) _ rfl (heap_more (set_three HV2.out) _) Tryz.underlying39 rfl (by kernel_rfl)) rfl ⟨ret_aggW HO.out.symm, below_more (((HB2.out.setCell (Nat.le_refl _) _).setCell (Nat.le_refl _) _).setCell (Nat.le_refl _) _) _⟩
/- The law's walk: both sides answer alike, and the comparison says so. -/
theorem outW_form (s : ByteArray) : ∃ nm n c, outW s = #[.string nm, .int .i64 n, .int .i64 c] := by
  unfold outW
  split
  · exact ⟨_, _, _, rfl⟩
  · split
    · exact ⟨_, _, _, rfl⟩
    · exact ⟨_, _, _, rfl⟩
end Go.Proofs.YtodjccipfonaiaaGreatDoor
namespace Go.Proofs.YtodjccipfonaiaaGreatDoor
open Go.RowKit
set_option linter.unusedVariables false

set_option maxRecDepth 100000 in
set_option maxHeartbeats 1600000 in
theorem named_any (v0 v1 v2 v3 v4 v5 v6 v7 v8 v9 v10 : Value) (a b c : ByteArray) (k1 k2 k3 : Int) (w : World) : Calls Tryz.prog 36 #[.agg #[v0, v1, v2, v3, v4, v5, v6, v7, v8, v9, v10, .string a, .int .i64 k1, .string b, .int .i64 k2, .string c, .int .i64 k3]] w fun e w' => e = .returned (.bool (!(a.toList.isEmpty && b.toList.isEmpty && c.toList.isEmpty))) ∧ Below w.heap.size w w' := by
  cases h1 : a.toList.isEmpty
  · go_enter Tryz.func36, Tryz.ntmps36
    go_wp2
    go_ret
    exact ⟨ret_bool (by rfl), below_new _ _⟩
  · cases h2 : b.toList.isEmpty
    · go_enter Tryz.func36, Tryz.ntmps36
      go_wp2
      go_ret
      exact ⟨ret_bool (by rfl), below_new _ _⟩
    · cases h3 : c.toList.isEmpty
      · go_enter Tryz.func36, Tryz.ntmps36
        go_wp2
        go_ret
        exact ⟨ret_bool (by rfl), below_new _ _⟩
      · go_enter Tryz.func36, Tryz.ntmps36
        go_wp2
        go_ret
        exact ⟨ret_bool (by rfl), below_new _ _⟩
end Go.Proofs.YtodjccipfonaiaaGreatDoor
namespace Go.Proofs.YtodjccipfonaiaaGreatDoor
open Go.RowKit
set_option linter.unusedVariables false

theorem arr17 {cs : Array Value} (h : cs.size = 17) : ∃ z0 z1 z2 z3 z4 z5 z6 z7 z8 z9 z10 z11 z12 z13 z14 z15 z16, cs = #[z0, z1, z2, z3, z4, z5, z6, z7, z8, z9, z10, z11, z12, z13, z14, z15, z16] := by
  obtain ⟨l⟩ := cs
  match l, h with
  | [z0, z1, z2, z3, z4, z5, z6, z7, z8, z9, z10, z11, z12, z13, z14, z15, z16], _ => exact ⟨_, _, _, _, _, _, _, _, _, _, _, _, _, _, _, _, _, rfl⟩
set_option maxHeartbeats 1600000 in
theorem set_17 {W : World} {g : Nat} {z0 z1 z2 z3 z4 z5 z6 z7 z8 z9 z10 z11 z12 z13 z14 z15 z16 a0 a1 a2 a3 a4 a5 a6 a7 a8 a9 a10 a11 a12 a13 a14 a15 a16 : Value} {t : TypeId} (h : W.heap[g]? = some (.cells #[z0, z1, z2, z3, z4, z5, z6, z7, z8, z9, z10, z11, z12, z13, z14, z15, z16] t (0, 0))) : ((((((((((((((((((W).setCell ⟨g, 0, none⟩ a0).setCell ⟨g, 1, none⟩ a1).setCell ⟨g, 2, none⟩ a2).setCell ⟨g, 3, none⟩ a3).setCell ⟨g, 4, none⟩ a4).setCell ⟨g, 5, none⟩ a5).setCell ⟨g, 6, none⟩ a6).setCell ⟨g, 7, none⟩ a7).setCell ⟨g, 8, none⟩ a8).setCell ⟨g, 9, none⟩ a9).setCell ⟨g, 10, none⟩ a10).setCell ⟨g, 11, none⟩ a11).setCell ⟨g, 12, none⟩ a12).setCell ⟨g, 13, none⟩ a13).setCell ⟨g, 14, none⟩ a14).setCell ⟨g, 15, none⟩ a15).setCell ⟨g, 16, none⟩ a16).heap[g]? = some (.cells #[a0, a1, a2, a3, a4, a5, a6, a7, a8, a9, a10, a11, a12, a13, a14, a15, a16] t (0, 0)) := by
  have k := (heap_set (heap_set (heap_set (heap_set (heap_set (heap_set (heap_set (heap_set (heap_set (heap_set (heap_set (heap_set (heap_set (heap_set (heap_set (heap_set (heap_set h 0 a0) 1 a1) 2 a2) 3 a3) 4 a4) 5 a5) 6 a6) 7 a7) 8 a8) 9 a9) 10 a10) 11 a11) 12 a12) 13 a13) 14 a14) 15 a15) 16 a16)
  simp only [List.setIfInBounds_toArray, List.set_cons_zero, List.set_cons_succ] at k
  exact k
theorem far_17 {W : World} {G g : Nat} {o : Obj} {a0 a1 a2 a3 a4 a5 a6 a7 a8 a9 a10 a11 a12 a13 a14 a15 a16 : Value} (hne : G ≠ g) (h : W.heap[G]? = some o) : ((((((((((((((((((W).setCell ⟨g, 0, none⟩ a0).setCell ⟨g, 1, none⟩ a1).setCell ⟨g, 2, none⟩ a2).setCell ⟨g, 3, none⟩ a3).setCell ⟨g, 4, none⟩ a4).setCell ⟨g, 5, none⟩ a5).setCell ⟨g, 6, none⟩ a6).setCell ⟨g, 7, none⟩ a7).setCell ⟨g, 8, none⟩ a8).setCell ⟨g, 9, none⟩ a9).setCell ⟨g, 10, none⟩ a10).setCell ⟨g, 11, none⟩ a11).setCell ⟨g, 12, none⟩ a12).setCell ⟨g, 13, none⟩ a13).setCell ⟨g, 14, none⟩ a14).setCell ⟨g, 15, none⟩ a15).setCell ⟨g, 16, none⟩ a16).heap[G]? = some o :=
  (set_far (a := ⟨g, 16, none⟩) hne (set_far (a := ⟨g, 15, none⟩) hne (set_far (a := ⟨g, 14, none⟩) hne (set_far (a := ⟨g, 13, none⟩) hne (set_far (a := ⟨g, 12, none⟩) hne (set_far (a := ⟨g, 11, none⟩) hne (set_far (a := ⟨g, 10, none⟩) hne (set_far (a := ⟨g, 9, none⟩) hne (set_far (a := ⟨g, 8, none⟩) hne (set_far (a := ⟨g, 7, none⟩) hne (set_far (a := ⟨g, 6, none⟩) hne (set_far (a := ⟨g, 5, none⟩) hne (set_far (a := ⟨g, 4, none⟩) hne (set_far (a := ⟨g, 3, none⟩) hne (set_far (a := ⟨g, 2, none⟩) hne (set_far (a := ⟨g, 1, none⟩) hne (set_far (a := ⟨g, 0, none⟩) hne h)))))))))))))))))
theorem But.st17 {b : Nat} {x W : World} (h : But b x W) {g : Nat} (hg : x.heap.size ≤ g) (a0 a1 a2 a3 a4 a5 a6 a7 a8 a9 a10 a11 a12 a13 a14 a15 a16 : Value) : But b x ((((((((((((((((((W).setCell ⟨g, 0, none⟩ a0).setCell ⟨g, 1, none⟩ a1).setCell ⟨g, 2, none⟩ a2).setCell ⟨g, 3, none⟩ a3).setCell ⟨g, 4, none⟩ a4).setCell ⟨g, 5, none⟩ a5).setCell ⟨g, 6, none⟩ a6).setCell ⟨g, 7, none⟩ a7).setCell ⟨g, 8, none⟩ a8).setCell ⟨g, 9, none⟩ a9).setCell ⟨g, 10, none⟩ a10).setCell ⟨g, 11, none⟩ a11).setCell ⟨g, 12, none⟩ a12).setCell ⟨g, 13, none⟩ a13).setCell ⟨g, 14, none⟩ a14).setCell ⟨g, 15, none⟩ a15).setCell ⟨g, 16, none⟩ a16) :=
  (But.setN (p := ⟨g, 16, none⟩) (But.setN (p := ⟨g, 15, none⟩) (But.setN (p := ⟨g, 14, none⟩) (But.setN (p := ⟨g, 13, none⟩) (But.setN (p := ⟨g, 12, none⟩) (But.setN (p := ⟨g, 11, none⟩) (But.setN (p := ⟨g, 10, none⟩) (But.setN (p := ⟨g, 9, none⟩) (But.setN (p := ⟨g, 8, none⟩) (But.setN (p := ⟨g, 7, none⟩) (But.setN (p := ⟨g, 6, none⟩) (But.setN (p := ⟨g, 5, none⟩) (But.setN (p := ⟨g, 4, none⟩) (But.setN (p := ⟨g, 3, none⟩) (But.setN (p := ⟨g, 2, none⟩) (But.setN (p := ⟨g, 1, none⟩) (But.setN (p := ⟨g, 0, none⟩) h hg a0) hg a1) hg a2) hg a3) hg a4) hg a5) hg a6) hg a7) hg a8) hg a9) hg a10) hg a11) hg a12) hg a13) hg a14) hg a15) hg a16)
theorem Rd.st17 {W : World} {b e : Nat} {a : Option Addr} {cap : Nat} {L : List ByteArray} (h : Rd W b e a cap L) {g : Nat} (ht : g ≠ b) (hg : e ≠ g) (a0 a1 a2 a3 a4 a5 a6 a7 a8 a9 a10 a11 a12 a13 a14 a15 a16 : Value) : Rd ((((((((((((((((((W).setCell ⟨g, 0, none⟩ a0).setCell ⟨g, 1, none⟩ a1).setCell ⟨g, 2, none⟩ a2).setCell ⟨g, 3, none⟩ a3).setCell ⟨g, 4, none⟩ a4).setCell ⟨g, 5, none⟩ a5).setCell ⟨g, 6, none⟩ a6).setCell ⟨g, 7, none⟩ a7).setCell ⟨g, 8, none⟩ a8).setCell ⟨g, 9, none⟩ a9).setCell ⟨g, 10, none⟩ a10).setCell ⟨g, 11, none⟩ a11).setCell ⟨g, 12, none⟩ a12).setCell ⟨g, 13, none⟩ a13).setCell ⟨g, 14, none⟩ a14).setCell ⟨g, 15, none⟩ a15).setCell ⟨g, 16, none⟩ a16) b e a cap L :=
  (Rd.setN (p := ⟨g, 16, none⟩) ht hg (Rd.setN (p := ⟨g, 15, none⟩) ht hg (Rd.setN (p := ⟨g, 14, none⟩) ht hg (Rd.setN (p := ⟨g, 13, none⟩) ht hg (Rd.setN (p := ⟨g, 12, none⟩) ht hg (Rd.setN (p := ⟨g, 11, none⟩) ht hg (Rd.setN (p := ⟨g, 10, none⟩) ht hg (Rd.setN (p := ⟨g, 9, none⟩) ht hg (Rd.setN (p := ⟨g, 8, none⟩) ht hg (Rd.setN (p := ⟨g, 7, none⟩) ht hg (Rd.setN (p := ⟨g, 6, none⟩) ht hg (Rd.setN (p := ⟨g, 5, none⟩) ht hg (Rd.setN (p := ⟨g, 4, none⟩) ht hg (Rd.setN (p := ⟨g, 3, none⟩) ht hg (Rd.setN (p := ⟨g, 2, none⟩) ht hg (Rd.setN (p := ⟨g, 1, none⟩) ht hg (Rd.setN (p := ⟨g, 0, none⟩) ht hg h)))))))))))))))))
theorem cells17 {W : World} {B : Nat} {z0 z1 z2 z3 z4 z5 z6 z7 z8 z9 z10 z11 z12 z13 z14 z15 z16 : Value} {t : TypeId} {fr : Nat × Nat} (h : W.heap[B]? = some (.cells #[z0, z1, z2, z3, z4, z5, z6, z7, z8, z9, z10, z11, z12, z13, z14, z15, z16] t fr)) : W.cell? ⟨B, 0, none⟩ = some z0 ∧ W.cell? ⟨B, 1, none⟩ = some z1 ∧ W.cell? ⟨B, 2, none⟩ = some z2 ∧ W.cell? ⟨B, 3, none⟩ = some z3 ∧ W.cell? ⟨B, 4, none⟩ = some z4 ∧ W.cell? ⟨B, 5, none⟩ = some z5 ∧ W.cell? ⟨B, 6, none⟩ = some z6 ∧ W.cell? ⟨B, 7, none⟩ = some z7 ∧ W.cell? ⟨B, 8, none⟩ = some z8 ∧ W.cell? ⟨B, 9, none⟩ = some z9 ∧ W.cell? ⟨B, 10, none⟩ = some z10 ∧ W.cell? ⟨B, 11, none⟩ = some z11 ∧ W.cell? ⟨B, 12, none⟩ = some z12 ∧ W.cell? ⟨B, 13, none⟩ = some z13 ∧ W.cell? ⟨B, 14, none⟩ = some z14 ∧ W.cell? ⟨B, 15, none⟩ = some z15 ∧ W.cell? ⟨B, 16, none⟩ = some z16 :=
  ⟨cell_of_row W B 0 _ t fr h, cell_of_row W B 1 _ t fr h, cell_of_row W B 2 _ t fr h, cell_of_row W B 3 _ t fr h, cell_of_row W B 4 _ t fr h, cell_of_row W B 5 _ t fr h, cell_of_row W B 6 _ t fr h, cell_of_row W B 7 _ t fr h, cell_of_row W B 8 _ t fr h, cell_of_row W B 9 _ t fr h, cell_of_row W B 10 _ t fr h, cell_of_row W B 11 _ t fr h, cell_of_row W B 12 _ t fr h, cell_of_row W B 13 _ t fr h, cell_of_row W B 14 _ t fr h, cell_of_row W B 15 _ t fr h, cell_of_row W B 16 _ t fr h⟩
theorem frz17 {W : World} {B : Nat} {cs : Array Value} {t : TypeId} (h : W.heap[B]? = some (.cells cs t (0, 0))) : W.frozen? ⟨B, 0, none⟩ = false ∧ W.frozen? ⟨B, 1, none⟩ = false ∧ W.frozen? ⟨B, 2, none⟩ = false ∧ W.frozen? ⟨B, 3, none⟩ = false ∧ W.frozen? ⟨B, 4, none⟩ = false ∧ W.frozen? ⟨B, 5, none⟩ = false ∧ W.frozen? ⟨B, 6, none⟩ = false ∧ W.frozen? ⟨B, 7, none⟩ = false ∧ W.frozen? ⟨B, 8, none⟩ = false ∧ W.frozen? ⟨B, 9, none⟩ = false ∧ W.frozen? ⟨B, 10, none⟩ = false ∧ W.frozen? ⟨B, 11, none⟩ = false ∧ W.frozen? ⟨B, 12, none⟩ = false ∧ W.frozen? ⟨B, 13, none⟩ = false ∧ W.frozen? ⟨B, 14, none⟩ = false ∧ W.frozen? ⟨B, 15, none⟩ = false ∧ W.frozen? ⟨B, 16, none⟩ = false :=
  ⟨frozen_of_row _ _ 0 _ _ h, frozen_of_row _ _ 1 _ _ h, frozen_of_row _ _ 2 _ _ h, frozen_of_row _ _ 3 _ _ h, frozen_of_row _ _ 4 _ _ h, frozen_of_row _ _ 5 _ _ h, frozen_of_row _ _ 6 _ _ h, frozen_of_row _ _ 7 _ _ h, frozen_of_row _ _ 8 _ _ h, frozen_of_row _ _ 9 _ _ h, frozen_of_row _ _ 10 _ _ h, frozen_of_row _ _ 11 _ _ h, frozen_of_row _ _ 12 _ _ h, frozen_of_row _ _ 13 _ _ h, frozen_of_row _ _ 14 _ _ h, frozen_of_row _ _ 15 _ _ h, frozen_of_row _ _ 16 _ _ h⟩
theorem But2.asBut {b t : Nat} {w x y : World} (h : But b w x) (h2 : But2 b t x y) (ht : w.heap.size ≤ t) : But b w y :=
  ⟨h2.os.trans h.os, h2.tape.trans h.tape, h2.output.trans h.output, Nat.le_trans h.size h2.size, fun k hk hb => (h2.block k (Nat.lt_of_lt_of_le hk h.size) hb (by omega)).trans (h.block k hk hb)⟩
abbrev w17 (i : Ins) (s : ByteArray) (k1 : Int) (d : ByteArray) (k2 : Int) (j : ByteArray) (k3 : Int) : Array Value := #[.string i.op, .bool i.b, .int .i64 i.m, .int .i64 i.r, .int .i64 i.n, .bool i.l, .int .i64 i.m2, .int .i64 i.r2, .int .i64 i.n2, .bool i.l2, .int .i64 i.j, .string s, .int .i64 k1, .string d, .int .i64 k2, .string j, .int .i64 k3]
theorem putSD_z (p : ByteArray) (bl : Bool) (m r n : Int) (l : Bool) (nm : ByteArray) (k m2 r2 n2 : Int) (l2 : Bool) (nm2 : ByteArray) (k2 : Int) : putSD (((m, r, n, l), nm, k), ((m2, r2, n2, l2), nm2, k2)) (z17 p bl) = w17 (insOf p bl (m, r, n, l) (m2, r2, n2, l2) 0) nm k nm2 k2 ⟨#[]⟩ 0 := by
  unfold putSD putD putS setW setO z17 w17 insOf
  simp only [List.setIfInBounds_toArray, List.set_cons_zero, List.set_cons_succ]
theorem putS_z (p : ByteArray) (bl : Bool) (m r n : Int) (l : Bool) (nm : ByteArray) (k : Int) : putS ((m, r, n, l), nm, k) (z17 p bl) = w17 (insOf p bl (m, r, n, l) noO 0) nm k ⟨#[]⟩ 0 ⟨#[]⟩ 0 := by
  unfold putS setW setO z17 w17 insOf noO
  simp only [List.setIfInBounds_toArray, List.set_cons_zero, List.set_cons_succ]
theorem putJ_l (p : ByteArray) (bl : Bool) (j : Int) : putJ (.inl j) (z17 p bl) = w17 (insOf p bl noO noO j) ⟨#[]⟩ 0 ⟨#[]⟩ 0 ⟨#[]⟩ 0 := by
  unfold putJ z17 w17 insOf noO
  simp only [List.setIfInBounds_toArray, List.set_cons_zero, List.set_cons_succ]
theorem putJ_r (p : ByteArray) (bl : Bool) (x : ByteArray × Int) : putJ (.inr x) (z17 p bl) = w17 (insOf p bl noO noO 0) ⟨#[]⟩ 0 ⟨#[]⟩ 0 x.1 x.2 := by
  unfold putJ setW z17 w17 insOf noO
  simp only [List.setIfInBounds_toArray, List.set_cons_zero, List.set_cons_succ]
theorem z17_size (p : ByteArray) (bl : Bool) : (z17 p bl).size = 17 := rfl
theorem z17_fit (p : ByteArray) (bl : Bool) : Fit (z17 p bl) := ⟨_, _, _, _, _, _, _, _, _, _, _, _, _, _, _, _, _, rfl⟩
def ArgOut (p : ByteArray) (bl : Bool) (b g t : Nat) (w : World) (L : List ByteArray) (e : Ending) (w' : World) : Prop :=
  ∃ cs ok a' cap' L', e = .returned (.bool ok) ∧ Fit cs ∧ Rd w' b g a' cap' L' ∧ w'.heap[t]? = some (.cells cs 64 (0, 0)) ∧ But2 b t w w' ∧ ((ok = false ∧ argT p bl L = none) ∨ (ok = true ∧ ∃ i s k1 d k2 j k3, argT p bl L = some ((i, s, d, j), L') ∧ cs = w17 i s k1 d k2 j k3))
theorem args_any (p : ByteArray) (bl : Bool) (w0 : World) (b g cap t : Nat) (a : Option Addr) (L : List ByteArray) (w : World) (hR : Rd w b g a cap L) (hP : Pow w0) (hF : Far w0 w b) (hT : w.heap[t]? = some (.cells (z17 p bl) 64 (0, 0))) (htb : t ≠ b) (hgt : g ≠ t) : Calls Tryz.prog 77 #[.pointer (some ⟨b, 0, none⟩), .int .i64 (kindI p), .pointer (some ⟨t, 0, none⟩)] w (ArgOut p bl b g t w L) := by
  unfold kindI
  by_cases h2 : 0 ≤ atI twosL p
  · rw [if_pos h2]
    refine (operands_two w0 b g cap t a L w _ hR hP hF hT (z17_size p bl) htb hgt).mono ?_
    rintro e w' ⟨cs, ok, a', cap', L', rfl, hs, hR', hT', hB, hc⟩
    refine ⟨cs, ok, a', cap', L', rfl, hs.2 (z17_fit p bl), hR', hT', hB, ?_⟩
    rcases hc with ⟨rfl, h⟩ | ⟨rfl, y, h, hcs⟩
    · exact .inl ⟨rfl, by unfold argT; rw [if_pos h2, h]; rfl⟩
    · obtain ⟨⟨⟨m, r, n, l⟩, nm, k⟩, ⟨⟨m2, r2, n2, l2⟩, nm2, k2⟩⟩ := y
      exact .inr ⟨rfl, _, nm, k, nm2, k2, ⟨#[]⟩, 0, by unfold argT; rw [if_pos h2, h]; rfl, hcs.trans (putSD_z ..)⟩
  rw [if_neg h2]
  by_cases h3 : 0 ≤ atI onesL p
  · rw [if_pos h3]
    refine (operands_one w0 b g cap t a L w _ hR hP hF hT (z17_size p bl) htb hgt).mono ?_
    rintro e w' ⟨cs, ok, a', cap', L', rfl, hs, hR', hT', hB, hc⟩
    refine ⟨cs, ok, a', cap', L', rfl, hs.2 (z17_fit p bl), hR', hT', hB, ?_⟩
    rcases hc with ⟨rfl, h⟩ | ⟨rfl, y, h, hcs⟩
    · exact .inl ⟨rfl, by unfold argT; rw [if_neg h2, if_pos h3, h]; rfl⟩
    · obtain ⟨⟨m, r, n, l⟩, nm, k⟩ := y
      exact .inr ⟨rfl, _, nm, k, ⟨#[]⟩, 0, ⟨#[]⟩, 0, by unfold argT; rw [if_neg h2, if_pos h3, h]; rfl, hcs.trans (putS_z ..)⟩
  · rw [if_neg h3]
    refine (operands_jump w0 b g cap t a L w _ hR hP hF hT (z17_size p bl) htb hgt).mono ?_
    rintro e w' ⟨cs, ok, a', cap', L', rfl, hs, hR', hT', hB, hc⟩
    refine ⟨cs, ok, a', cap', L', rfl, hs.2 (z17_fit p bl), hR', hT', hB, ?_⟩
    rcases hc with ⟨rfl, h⟩ | ⟨rfl, y, h, hcs⟩
    · exact .inl ⟨rfl, by unfold argT; rw [if_neg h2, if_neg h3, h]; rfl⟩
    · cases y with
      | inl j => exact .inr ⟨rfl, _, ⟨#[]⟩, 0, ⟨#[]⟩, 0, ⟨#[]⟩, 0, by unfold argT; rw [if_neg h2, if_neg h3, h]; rfl, hcs.trans (putJ_l ..)⟩
      | inr x => exact .inr ⟨rfl, _, ⟨#[]⟩, 0, ⟨#[]⟩, 0, x.1, x.2, by unfold argT; rw [if_neg h2, if_neg h3, h]; rfl, hcs.trans (putJ_r ..)⟩
def InsnPOut (b g : Nat) (w : World) (L : List ByteArray) (e : Ending) (w' : World) : Prop :=
  ∃ cs ok a' cap' L', e = .returned (.tuple #[.agg cs, .bool ok]) ∧ Fit cs ∧ Rd w' b g a' cap' L' ∧ But b w w' ∧ ((ok = false ∧ (insnT L = none ∨ ∃ x L2, insnT L = some (x, L2) ∧ okI x.1 = false)) ∨ (ok = true ∧ ∃ i s k1 d k2 j k3, insnT L = some ((i, s, d, j), L') ∧ okI i = true ∧ cs = w17 i s k1 d k2 j k3))
theorem insnP_mk {b g : Nat} {w w' : World} {L : List ByteArray} (i : Ins) (s d jn : ByteArray) (a' : Option Addr) (cap' : Nat) (L' : List ByteArray) (k1 k2 k3 : Int) (h : insnT L = some ((i, s, d, jn), L')) (hR : Rd w' b g a' cap' L') (hB : But b w w') : InsnPOut b g w L (.returned (.tuple #[.agg (w17 i s k1 d k2 jn k3), .bool (okI i)])) w' := by
  refine ⟨_, okI i, a', cap', L', rfl, ⟨_, _, _, _, _, _, _, _, _, _, _, _, _, _, _, _, _, rfl⟩, hR, hB, ?_⟩
  cases ho : okI i
  · exact .inl ⟨rfl, .inr ⟨_, _, h, ho⟩⟩
  · exact .inr ⟨rfl, i, s, k1, d, k2, jn, k3, h, ho, rfl⟩
end Go.Proofs.YtodjccipfonaiaaGreatDoor
