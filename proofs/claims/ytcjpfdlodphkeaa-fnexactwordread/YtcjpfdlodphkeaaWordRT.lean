/- WordRead, by the specification. -/
import Derived.Test.YtcjpfdlodphkeaaRows
import Derived.WalkKit
import Derived.WalkSpells
import Derived.WalkLawsBesides
import Derived.Outline
import Derived.Test.YtcjpfdlodphkeaaBase
import Derived.Test.YtcjpfdlodphkeaaRes2
import Derived.Test.YtcjpfdlodphkeaaWordRS
namespace Go.Proofs.Ytcjpfdlodphkeaa
open Go.RowKit
set_option linter.unusedVariables false

theorem cells3h {W : World} {B : Nat} {t : TypeId} {fr : Nat × Nat} {v0 v1 v2 : Value} (h : W.heap[B]? = some (.cells #[v0, v1, v2] t fr)) : W.cell? ⟨B, 0, none⟩ = some v0 ∧ W.cell? ⟨B, 1, none⟩ = some v1 ∧ W.cell? ⟨B, 2, none⟩ = some v2 := by
  refine ⟨?_, ?_, ?_⟩ <;> simp [World.cell?, h]
theorem set_three {W : World} {g : Nat} {z0 z1 z2 a b c : Value} {t : TypeId} (h : W.heap[g]? = some (.cells #[z0, z1, z2] t (0, 0))) : (((W.setCell ⟨g, 0, none⟩ a).setCell ⟨g, 1, none⟩ b).setCell ⟨g, 2, none⟩ c).heap[g]? = some (.cells #[a, b, c] t (0, 0)) :=
  heap_set (heap_set (heap_set h 0 a) 1 b) 2 c
def outW (s : ByteArray) : Array Value := if 8000 < s.size then #[.string ⟨#[]⟩, .int .i64 0, .int .i64 2] else match wordR s with | some p => #[.string p.1, .int .i64 p.2, .int .i64 0] | none => #[.string ⟨#[]⟩, .int .i64 0, .int .i64 3]
theorem ret_aggW {A B : Array Value} (h : A = B) : Ending.returned (.agg A) = .returned (.agg B) := by rw [h]
set_option maxRecDepth 100000 in
set_option maxHeartbeats 1600000 in
theorem specWordRead_any (s : ByteArray) (w : World) (hs : s.size ≤ maxLen) : Calls Try.prog 6 #[.string s] w fun e w' => e = .returned (.agg (outW s)) ∧ Below w.heap.size w w' := by
  have HM : Hid (s.size ≤ maxLen) := hs
  unfold maxLen at hs
  by_cases h8 : 8000 < s.size
  · have h8' : (8000 : Int) < (s.size : Int) := by omega
    have HO : Hid (outW s = #[.string ⟨#[]⟩, .int .i64 0, .int .i64 2]) := by show _ = _; unfold outW; rw [if_pos h8]
    go_enter Try.func6, Try.ntmps6
    go_wp2
    exact bodyPost_ret (results_cell_row Try.results6 _ _ w.heap.size 25 _ (0, 0) _ rfl (heap_alloc_new _ _) Try.underlying25 rfl (by kernel_rfl)) rfl ⟨ret_aggW HO.out.symm, below_new _ _⟩
  · have h8' : ¬ (8000 : Int) < (s.size : Int) := by omega
    go_enter Try.func6, Try.ntmps6
    go_wp2_with fail
    refine (l03Word_any s _ HM.out).mono ?_
    rintro e x1 ⟨nm, n, ok, rfl, hR, hb⟩
    have HR1 : Hid (_ = _) := heap_keep (heap_alloc_new w _) hb
    have HB1 : Hid (Below w.heap.size w x1) := below_call (below_new _ _) hb
    have HW : Hid (_ = _) := hR
    clear hR hb
    have hz1 := heap_lt HR1.out
    have hne : w.heap.size ≠ x1.heap.size := Nat.ne_of_lt hz1
    obtain ⟨r0, r1, r2⟩ := cells3h HR1.out
    have y0 := frozen_of_row _ _ 0 _ _ HR1.out
    have y1 := frozen_of_row _ _ 1 _ _ HR1.out
    have y2 := frozen_of_row _ _ 2 _ _ HR1.out
    cases ok
    · have HO : Hid (outW s = #[.string ⟨#[]⟩, .int .i64 0, .int .i64 3]) := by show _ = _; unfold outW; rw [if_neg h8, HW.out]; rfl
      go_wp2
      exact bodyPost_ret (results_cell_row Try.results6 _ _ w.heap.size 25 _ (0, 0) _ rfl (heap_more (set_three HR1.out) _) Try.underlying25 rfl (by kernel_rfl)) rfl ⟨ret_aggW HO.out.symm, below_more (((HB1.out.setCell (Nat.le_refl _) _).setCell (Nat.le_refl _) _).setCell (Nat.le_refl _) _) _⟩
    · have HO : Hid (outW s = #[.string nm, .int .i64 n, .int .i64 0]) := by show _ = _; unfold outW; rw [if_neg h8, HW.out]; rfl
      go_wp2
      exact bodyPost_ret (results_cell_row Try.results6 _ _ w.heap.size 25 _ (0, 0) _ rfl (heap_more (set_three HR1.out) _) Try.underlying25 rfl (by kernel_rfl)) rfl ⟨ret_aggW HO.out.symm, below_more (((HB1.out.setCell (Nat.le_refl _) _).setCell (Nat.le_refl _) _).setCell (Nat.le_refl _) _) _⟩
end Go.Proofs.Ytcjpfdlodphkeaa
