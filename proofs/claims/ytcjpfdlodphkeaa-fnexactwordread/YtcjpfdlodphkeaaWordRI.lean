/- WordRead of the program: the same answer. -/
import Derived.Test.YtcjpfdlodphkeaaRows
import Derived.WalkKit
import Derived.WalkSpells
import Derived.WalkLawsBesides
import Derived.Outline
import Derived.Test.YtcjpfdlodphkeaaBase
import Derived.Test.YtcjpfdlodphkeaaRes2
import Derived.Test.YtcjpfdlodphkeaaPieces
import Derived.Test.YtcjpfdlodphkeaaWordRT
import Derived.Test.YtcjpfdlodphkeaaRdW
namespace Go.Proofs.Ytcjpfdlodphkeaa
open Go.RowKit
set_option linter.unusedVariables false

theorem runP_len (s : ByteArray) : ∀ (f p : Nat) (st : PSt), (runP s f p st).acc.length ≤ st.acc.length + f
  | 0, p, st => Nat.le_refl _
  | f + 1, p, st => by
    show (if p < s.size then runP s f (p + (Utf8.decode s p).2) (stepP s st p) else st).acc.length ≤ _
    split
    · have h := runP_len s f (p + (Utf8.decode s p).2) (stepP s st p)
      have h2 : (stepP s st p).acc.length ≤ st.acc.length + 1 := by
        unfold stepP
        split
        · show (st.acc ++ [_]).length ≤ _; simp
        · show st.acc.length ≤ _; omega
      omega
    · omega
theorem pieces_len (s : ByteArray) : (piecesL s).length ≤ s.size + 1 := by
  unfold piecesL
  split
  · simp
  · have h := runP_len s s.size 0 ⟨0, false, []⟩
    have h0 : (PSt.mk 0 false []).acc.length = 0 := rfl
    rw [List.length_append]
    have h1 : [s.extract (runP s s.size 0 ⟨0, false, []⟩).fr s.size].length = 1 := rfl
    omega
theorem catL_mem : ∀ (L : List ByteArray) (p : ByteArray), p ∈ L → p.size ≤ (catL L).size
  | [], p, h => by simp at h
  | q :: L, p, h => by
    have e : catL (q :: L) = q ++ catL L := rfl
    rw [e, ByteArray.size_append]
    rcases List.mem_cons.1 h with rfl | h
    · omega
    · have := catL_mem L p h; omega
theorem pieces_size (s : ByteArray) : ∀ p ∈ piecesL s, p.size ≤ s.size := fun p hp => by
  have h := catL_mem _ p hp
  rw [pieces_cat] at h
  exact h
theorem Rd.make {x : World} {B : Nat} {v : Value} {L : List ByteArray} (h : OwnS x B v L) (hl : L.length ≤ 9000) (ht : ∀ p ∈ L, p.size ≤ 8000) (h0 : 0 < x.heap.size) : ∃ g a cap, v = .slice a L.length cap ∧ Rd (x.alloc (.cells #[v] 55)) x.heap.size g a cap L := by
  rcases h.form with ⟨rfl, rfl⟩ | ⟨g, cap, cur, rfl, hB, hg, h1, h2, h3, h4⟩
  · exact ⟨0, none, 0, rfl, heap_alloc_new x _, fun h => by simp at h, by simp, by simp, by unfold maxLen; omega, by simp, by simp⟩
  · have hgl := heap_lt hg
    refine ⟨g, some ⟨g, 0, none⟩, cap, rfl, heap_alloc_new x _, fun _ => ⟨0, rfl, by omega, fun i hi => ?_⟩, by simp; omega, h1, h2, hl, ht⟩
    rw [cell_of_row _ _ _ _ _ _ (heap_more hg _), Nat.zero_add]
    exact h4 i hi
theorem outW_yes {s : ByteArray} {nm : ByteArray} {n : Int} (h8 : ¬ 8000 < s.size) (h : wordT (piecesL s) = some ((nm, n), [])) : outW s = #[.string nm, .int .i64 n, .int .i64 0] := by
  unfold outW
  rw [if_neg h8, ← word_eq]
  unfold wordP
  rw [h]
theorem outW_no {s : ByteArray} (h8 : ¬ 8000 < s.size) (h : ∀ x, wordT (piecesL s) ≠ some (x, [])) : outW s = #[.string ⟨#[]⟩, .int .i64 0, .int .i64 3] := by
  unfold outW
  rw [if_neg h8, ← word_eq]
  have e : wordP s = none := by
    unfold wordP
    split
    · rename_i x hx; exact absurd hx (h x)
    · rfl
  rw [e]
set_option maxRecDepth 100000 in
set_option maxHeartbeats 3200000 in
theorem implWordRead_any (s : ByteArray) (w : World) (hs : s.size ≤ maxLen) : Calls Try.prog 7 #[.string s] w fun e w' => e = .returned (.agg (outW s)) ∧ Below w.heap.size w w' := by
  unfold maxLen at hs
  by_cases h8 : 8000 < s.size
  · have h8' : (8000 : Int) < (s.size : Int) := by omega
    have HO : Hid (outW s = #[.string ⟨#[]⟩, .int .i64 0, .int .i64 2]) := by show _ = _; unfold outW; rw [if_pos h8]
    go_enter Try.func7, Try.ntmps7
    go_wp2
    exact bodyPost_ret (results_cell_row Try.results7 _ _ w.heap.size 25 _ (0, 0) _ rfl (heap_alloc_new _ _) Try.underlying25 rfl (by kernel_rfl)) rfl ⟨ret_aggW HO.out.symm, below_new _ _⟩
  · have h8' : ¬ (8000 : Int) < (s.size : Int) := by omega
    go_enter Try.func7, Try.ntmps7
    go_wp2_with fail
    refine (piecesOf_any s _ (by omega)).mono ?_
    rintro e x1 ⟨v, rfl, hO, hb⟩
    have HV1 : Hid (x1.heap[w.heap.size]? = _) := heap_keep (heap_alloc_new w _) hb
    have HB1 : Hid (Below w.heap.size w x1) := below_call (below_new _ _) hb
    clear hb
    have hs1 := heap_lt HV1.out
    obtain ⟨g, a, cap, rfl, hR⟩ := Rd.make hO (by have := pieces_len s; omega) (fun p hp => by have := pieces_size s p hp; omega) (by omega)
    have HR : Hid (_) := hR
    clear hR hO
    go_wp2_with fail
    refine (word_any x1.heap.size g cap a (piecesL s) _ HR.out).mono ?_
    rintro e x2 ⟨nm, n, ok, a2, cap2, L2, rfl, hW, hR2, hB2⟩
    have HV2 : Hid (x2.heap[w.heap.size]? = _) := But.keep (heap_more HV1.out _) hB2 (by omega)
    have HB2 : Hid (Below w.heap.size w x2) := But.below (below_more HB1.out _) hB2 (by omega) (by simp; omega)
    have HR2 : Hid (_) := hR2
    have HW : Hid (_ = _) := hW
    clear HR hW hR2 hB2 HV1 HB1
    have hs2 := heap_lt HV2.out
    have hne : w.heap.size ≠ x2.heap.size := Nat.ne_of_lt hs2
    obtain ⟨r0, r1, r2⟩ := cells3h HV2.out
    have y0 := frozen_of_row _ _ 0 _ _ HV2.out
    have y1 := frozen_of_row _ _ 1 _ _ HV2.out
    have y2 := frozen_of_row _ _ 2 _ _ HV2.out
    cases ok
    · have HO : Hid (outW s = #[.string ⟨#[]⟩, .int .i64 0, .int .i64 3]) := outW_no h8 (fun x hx => by rw [HW.out] at hx; cases hx)
      go_wp2
      exact bodyPost_ret (results_cell_row Try.results7 _ _ w.heap.size 25 _ (0, 0) _ rfl (heap_more (set_three HV2.out) _) Try.underlying25 rfl (by kernel_rfl)) rfl ⟨ret_aggW HO.out.symm, below_more (((HB2.out.setCell (Nat.le_refl _) _).setCell (Nat.le_refl _) _).setCell (Nat.le_refl _) _) _⟩
    · cases L2 with
      | nil =>
        have HO : Hid (outW s = #[.string nm, .int .i64 n, .int .i64 0]) := outW_yes h8 HW.out
        go_wp2_with fail
        refine (atEnd_any x1.heap.size g cap2 a2 [] _ (HR2.out.alloc _)).mono ?_
        rintro e x3 ⟨rfl, hx⟩
        have hx' := hx.symm
        subst hx'
        clear hx
        go_wp2
        exact bodyPost_ret (results_cell_row Try.results7 _ _ w.heap.size 25 _ (0, 0) _ rfl (heap_more (set_three HV2.out) _) Try.underlying25 rfl (by kernel_rfl)) rfl ⟨ret_aggW HO.out.symm, below_more (((HB2.out.setCell (Nat.le_refl _) _).setCell (Nat.le_refl _) _).setCell (Nat.le_refl _) _) _⟩
      | cons q L2 =>
        have HO : Hid (outW s = #[.string ⟨#[]⟩, .int .i64 0, .int .i64 3]) := outW_no h8 (fun x hx => by rw [HW.out] at hx; cases hx)
        go_wp2_with fail
        refine (atEnd_any x1.heap.size g cap2 a2 (q :: L2) _ (HR2.out.alloc _)).mono ?_
        rintro e x3 ⟨rfl, hx⟩
        have hx' := hx.symm
        subst hx'
        clear hx
        go_wp2
        exact bodyPost_ret (results_cell_row Try.results7 _ _ w.heap.size 25 _ (0, 0) _ rfl (heap_more (set_three HV2.out) _) Try.underlying25 rfl (by kernel_rfl)) rfl ⟨ret_aggW HO.out.symm, below_more (((HB2.out.setCell (Nat.le_refl _) _).setCell (Nat.le_refl _) _).setCell (Nat.le_refl _) _) _⟩
/- The law's walk: both sides answer alike, and the comparison says so. -/
theorem outW_form (s : ByteArray) : ∃ nm n c, outW s = #[.string nm, .int .i64 n, .int .i64 c] := by
  unfold outW
  split
  · exact ⟨_, _, _, rfl⟩
  · split
    · exact ⟨_, _, _, rfl⟩
    · exact ⟨_, _, _, rfl⟩
end Go.Proofs.Ytcjpfdlodphkeaa
