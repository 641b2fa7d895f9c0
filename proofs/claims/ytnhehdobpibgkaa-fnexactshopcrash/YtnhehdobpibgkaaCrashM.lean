/- ShopCrash, by the specification and by the program. -/
import Derived.Test.YtnhehdobpibgkaaRows
import Derived.WalkKit
import Derived.WalkSpells
import Derived.WalkLawsBesides
import Derived.Test.YtnhehdobpibgkaaBase
import Derived.Test.YtnhehdobpibgkaaRes2
import Derived.Test.YtnhehdobpibgkaaShopA
import Derived.Test.YtnhehdobpibgkaaShopOf
namespace Go.Proofs.Ytnhehdobpibgkaa
open Go.RowKit
set_option linter.unusedVariables false

def keptN (z sy keep : Int) : Int := if keep ≤ 0 then sy else if keep < z - sy then sy + keep else z
def crashL (g : ByteArray) (sy keep : Int) : ByteArray := if sy < 0 ∨ (g.size : Int) < sy then g else g.extract 0 (keptN g.size sy keep).toNat
def crashN (g : ByteArray) (sy keep : Int) : Int := if sy < 0 ∨ (g.size : Int) < sy then sy else keptN g.size sy keep
theorem cut_headS (g : ByteArray) (n : Int) (m : Nat) (hn : n = (m : Int)) (h1 : m ≤ g.size) (W : World) : (Instr.slice 9 (.string g) none (some (.int .i64 n)) none).run Try.prog W = .ok (.string (g.extract 0 m)) W := by
  subst hn
  have h3 : ¬ ((m : Int) < 0 ∨ (g.size : Int) < (m : Int)) := by omega
  simp [go_sem, Try.underlying9]
  omega
set_option maxRecDepth 100000 in
set_option maxHeartbeats 1600000 in
theorem specCrash_out (g : ByteArray) (sy keep : Int) (w : World) (hs : g.size ≤ 1048576) (hw1 : -9223372036854775808 ≤ keep) (hw2 : keep ≤ 9223372036854775807) (hout : sy < 0 ∨ (g.size : Int) < sy) : Calls Try.prog 5 #[.agg #[.string g, .int .i64 sy], .int .i64 keep] w fun e w' => e = .returned (.agg #[.string (crashL g sy keep), .int .i64 (crashN g sy keep)]) ∧ Below w.heap.size w w' := by
  have HL : Hid (crashL g sy keep = g) := if_pos hout
  have HN : Hid (crashN g sy keep = sy) := if_pos hout
  rcases hout with h | h
  · have h1 : ¬ 0 ≤ sy := by omega
    go_enter Try.func5, Try.ntmps5
    go_wp2
    exact bodyPost_ret (results_cell_row Try.results5 _ _ (w.heap.size + 1) 25 _ (0, 0) _ rfl (heap_new2 w _ _) Try.underlying25 rfl (by kernel_rfl)) rfl ⟨ret_shop HL.out.symm HN.out.symm, below_more (below_new _ _) _⟩
  · have h0 : 0 ≤ sy := by omega
    have h1 : ¬ sy ≤ (g.size : Int) := by omega
    go_enter Try.func5, Try.ntmps5
    go_wp2
    exact bodyPost_ret (results_cell_row Try.results5 _ _ (w.heap.size + 1) 25 _ (0, 0) _ rfl (heap_new2 w _ _) Try.underlying25 rfl (by kernel_rfl)) rfl ⟨ret_shop HL.out.symm HN.out.symm, below_more (below_new _ _) _⟩
set_option maxRecDepth 100000 in
set_option maxHeartbeats 1600000 in
theorem implCrash_out (g : ByteArray) (sy keep : Int) (w : World) (hs : g.size ≤ 1048576) (hw1 : -9223372036854775808 ≤ keep) (hw2 : keep ≤ 9223372036854775807) (hout : sy < 0 ∨ (g.size : Int) < sy) : Calls Try.prog 7 #[.agg #[.string g, .int .i64 sy], .int .i64 keep] w fun e w' => e = .returned (.agg #[.string (crashL g sy keep), .int .i64 (crashN g sy keep)]) ∧ Below w.heap.size w w' := by
  have HL : Hid (crashL g sy keep = g) := if_pos hout
  have HN : Hid (crashN g sy keep = sy) := if_pos hout
  rcases hout with h | h
  · have h1 : ¬ 0 ≤ sy := by omega
    go_enter Try.func7, Try.ntmps7
    go_wp2_with fail
    refine (shopOf_any g sy _ (by omega)).mono ?_
    rintro e x ⟨rfl, hb⟩
    have HX : Hid (x.heap[w.heap.size + 1]? = _) := heap_keep (heap_new2 w (.cells #[.string g, .int .i64 sy] 25) (.cells #[.string ⟨#[]⟩, .int .i64 0] 25)) hb
    have HB : Hid (Below w.heap.size w x) := below_call (below_more (below_new w _) _) hb
    obtain ⟨c0, c1, f0, f1⟩ := two_cells HX.out
    clear hb
    go_wp2
    exact bodyPost_ret (results_cell_row Try.results7 _ _ (w.heap.size + 1) 25 _ (0, 0) _ rfl (set_two HX.out) Try.underlying25 rfl (by kernel_rfl)) rfl ⟨ret_shop HL.out.symm HN.out.symm, (HB.out.setCell (by show _ ≤ w.heap.size + 1; omega) _).setCell (by show _ ≤ w.heap.size + 1; omega) _⟩
  · have h0 : ¬ sy < 0 := by omega
    have h1 : ¬ sy ≤ (g.size : Int) := by omega
    go_enter Try.func7, Try.ntmps7
    go_wp2_with fail
    refine (shopOf_any g sy _ (by omega)).mono ?_
    rintro e x ⟨rfl, hb⟩
    have HX : Hid (x.heap[w.heap.size + 1]? = _) := heap_keep (heap_new2 w (.cells #[.string g, .int .i64 sy] 25) (.cells #[.string ⟨#[]⟩, .int .i64 0] 25)) hb
    have HB : Hid (Below w.heap.size w x) := below_call (below_more (below_new w _) _) hb
    obtain ⟨c0, c1, f0, f1⟩ := two_cells HX.out
    clear hb
    go_wp2
    exact bodyPost_ret (results_cell_row Try.results7 _ _ (w.heap.size + 1) 25 _ (0, 0) _ rfl (set_two HX.out) Try.underlying25 rfl (by kernel_rfl)) rfl ⟨ret_shop HL.out.symm HN.out.symm, (HB.out.setCell (by show _ ≤ w.heap.size + 1; omega) _).setCell (by show _ ≤ w.heap.size + 1; omega) _⟩
set_option maxRecDepth 100000 in
set_option maxHeartbeats 1600000 in
theorem specCrash_none (g : ByteArray) (sy keep : Int) (w : World) (hs : g.size ≤ 1048576) (hw1 : -9223372036854775808 ≤ keep) (hw2 : keep ≤ 9223372036854775807) (hin : ¬ (sy < 0 ∨ (g.size : Int) < sy)) (hk : keep ≤ 0) : Calls Try.prog 5 #[.agg #[.string g, .int .i64 sy], .int .i64 keep] w fun e w' => e = .returned (.agg #[.string (crashL g sy keep), .int .i64 (crashN g sy keep)]) ∧ Below w.heap.size w w' := by
  have h0 : 0 ≤ sy := by omega
  have h1 : sy ≤ (g.size : Int) := by omega
  have h1a : ¬ sy < 0 := by omega
  have h1b : ¬ (g.size : Int) < sy := by omega
  have h2 : keep ≤ 0 := hk
  have h2a : ¬ 0 < keep := by omega
  obtain ⟨m, hm⟩ : ∃ m : Nat, sy = (m : Int) := ⟨sy.toNat, by omega⟩
  have HL : Hid (crashL g sy keep = g.extract 0 sy.toNat) := by show _ = _; unfold crashL keptN; rw [if_neg (by omega), if_pos h2]
  have HN : Hid (crashN g sy keep = sy) := by show _ = _; unfold crashN keptN; rw [if_neg (by omega), if_pos h2]
  have hm0 : 0 ≤ sy ∧ sy ≤ (g.size : Int) := ⟨h0, h1⟩
  clear hm
  go_enter Try.func5, Try.ntmps5
  go_wp2
  exact bodyPost_ret (results_cell_row Try.results5 _ _ (w.heap.size + 1) 25 _ (0, 0) _ rfl (heap_new2 w _ _) Try.underlying25 rfl (by kernel_rfl)) rfl ⟨ret_shop HL.out.symm HN.out.symm, below_more (below_new _ _) _⟩
set_option maxRecDepth 100000 in
set_option maxHeartbeats 1600000 in
theorem implCrash_none (g : ByteArray) (sy keep : Int) (w : World) (hs : g.size ≤ 1048576) (hw1 : -9223372036854775808 ≤ keep) (hw2 : keep ≤ 9223372036854775807) (hin : ¬ (sy < 0 ∨ (g.size : Int) < sy)) (hk : keep ≤ 0) : Calls Try.prog 7 #[.agg #[.string g, .int .i64 sy], .int .i64 keep] w fun e w' => e = .returned (.agg #[.string (crashL g sy keep), .int .i64 (crashN g sy keep)]) ∧ Below w.heap.size w w' := by
  have h0 : 0 ≤ sy := by omega
  have h1 : sy ≤ (g.size : Int) := by omega
  have h1a : ¬ sy < 0 := by omega
  have h1b : ¬ (g.size : Int) < sy := by omega
  have h2 : keep ≤ 0 := hk
  have h2a : ¬ 0 < keep := by omega
  obtain ⟨m, hm⟩ : ∃ m : Nat, sy = (m : Int) := ⟨sy.toNat, by omega⟩
  have HL : Hid (crashL g sy keep = g.extract 0 sy.toNat) := by show _ = _; unfold crashL keptN; rw [if_neg (by omega), if_pos h2]
  have HN : Hid (crashN g sy keep = sy) := by show _ = _; unfold crashN keptN; rw [if_neg (by omega), if_pos h2]
  have hm0 : 0 ≤ sy ∧ sy ≤ (g.size : Int) := ⟨h0, h1⟩
  clear hm
  by_cases hz : keep = 0
  · subst hz
    clear hw1 hw2
    go_enter Try.func7, Try.ntmps7
    go_wp2_with fail
    refine (shopOf_any (g.extract 0 sy.toNat) sy _ (by rw [ByteArray.size_extract]; omega)).mono ?_
    rintro e x ⟨rfl, hb⟩
    have HX : Hid (x.heap[w.heap.size + 1]? = _) := heap_keep (heap_new2 w (.cells #[.string g, .int .i64 sy] 25) (.cells #[.string ⟨#[]⟩, .int .i64 0] 25)) hb
    have HB : Hid (Below w.heap.size w x) := below_call (below_more (below_new w _) _) hb
    obtain ⟨c0, c1, f0, f1⟩ := two_cells HX.out
    clear hb
    go_wp2
    exact bodyPost_ret (results_cell_row Try.results7 _ _ (w.heap.size + 1) 25 _ (0, 0) _ rfl (set_two HX.out) Try.underlying25 rfl (by kernel_rfl)) rfl ⟨ret_shop HL.out.symm HN.out.symm, (HB.out.setCell (by show _ ≤ w.heap.size + 1; omega) _).setCell (by show _ ≤ w.heap.size + 1; omega) _⟩
  · have h2b : keep < 0 := by omega
    have h2c : ¬ 0 ≤ keep := by omega
    clear hz
    go_enter Try.func7, Try.ntmps7
    go_wp2_with fail
    refine (shopOf_any (g.extract 0 sy.toNat) sy _ (by rw [ByteArray.size_extract]; omega)).mono ?_
    rintro e x ⟨rfl, hb⟩
    have HX : Hid (x.heap[w.heap.size + 1]? = _) := heap_keep (heap_new2 w (.cells #[.string g, .int .i64 sy] 25) (.cells #[.string ⟨#[]⟩, .int .i64 0] 25)) hb
    have HB : Hid (Below w.heap.size w x) := below_call (below_more (below_new w _) _) hb
    obtain ⟨c0, c1, f0, f1⟩ := two_cells HX.out
    clear hb
    go_wp2
    exact bodyPost_ret (results_cell_row Try.results7 _ _ (w.heap.size + 1) 25 _ (0, 0) _ rfl (set_two HX.out) Try.underlying25 rfl (by kernel_rfl)) rfl ⟨ret_shop HL.out.symm HN.out.symm, (HB.out.setCell (by show _ ≤ w.heap.size + 1; omega) _).setCell (by show _ ≤ w.heap.size + 1; omega) _⟩
set_option maxRecDepth 100000 in
set_option maxHeartbeats 1600000 in
theorem specCrash_some (g : ByteArray) (sy keep : Int) (w : World) (hs : g.size ≤ 1048576) (hw1 : -9223372036854775808 ≤ keep) (hw2 : keep ≤ 9223372036854775807) (hin : ¬ (sy < 0 ∨ (g.size : Int) < sy)) (hk : ¬ keep ≤ 0) (hk2 : keep < (g.size : Int) - sy) : Calls Try.prog 5 #[.agg #[.string g, .int .i64 sy], .int .i64 keep] w fun e w' => e = .returned (.agg #[.string (crashL g sy keep), .int .i64 (crashN g sy keep)]) ∧ Below w.heap.size w w' := by
  have h0 : 0 ≤ sy := by omega
  have h1 : sy ≤ (g.size : Int) := by omega
  have h1a : ¬ sy < 0 := by omega
  have h1b : ¬ (g.size : Int) < sy := by omega
  have h2 : 0 < keep := by omega
  have h2a : ¬ keep ≤ 0 := by omega
  have h3 : keep < (g.size : Int) - sy := hk2
  have h3a : ¬ (g.size : Int) - sy ≤ keep := by omega
  have h3b : ¬ (g.size : Int) - sy < keep := by omega
  have h3c : keep ≤ (g.size : Int) - sy := by omega
  have h2b : 0 ≤ keep := by omega
  have h2c : ¬ keep < 0 := by omega
  obtain ⟨m, hm⟩ : ∃ m : Nat, sy + keep = (m : Int) := ⟨(sy + keep).toNat, by omega⟩
  have HL : Hid (crashL g sy keep = g.extract 0 (sy + keep).toNat) := by show _ = _; unfold crashL keptN; rw [if_neg (by omega), if_neg h2a, if_pos h3]
  have HN : Hid (crashN g sy keep = sy + keep) := by show _ = _; unfold crashN keptN; rw [if_neg (by omega), if_neg h2a, if_pos h3]
  have hm0 : 0 ≤ sy + keep := by omega
  have hm1 : sy + keep ≤ (g.size : Int) := by omega
  clear hm
  go_enter Try.func5, Try.ntmps5
  go_wp2
  exact bodyPost_ret (results_cell_row Try.results5 _ _ (w.heap.size + 1) 25 _ (0, 0) _ rfl (heap_new2 w _ _) Try.underlying25 rfl (by kernel_rfl)) rfl ⟨ret_shop HL.out.symm HN.out.symm, below_more (below_new _ _) _⟩
set_option maxRecDepth 100000 in
set_option maxHeartbeats 1600000 in
theorem implCrash_some (g : ByteArray) (sy keep : Int) (w : World) (hs : g.size ≤ 1048576) (hw1 : -9223372036854775808 ≤ keep) (hw2 : keep ≤ 9223372036854775807) (hin : ¬ (sy < 0 ∨ (g.size : Int) < sy)) (hk : ¬ keep ≤ 0) (hk2 : keep < (g.size : Int) - sy) : Calls Try.prog 7 #[.agg #[.string g, .int .i64 sy], .int .i64 keep] w fun e w' => e = .returned (.agg #[.string (crashL g sy keep), .int .i64 (crashN g sy keep)]) ∧ Below w.heap.size w w' := by
  have h0 : 0 ≤ sy := by omega
  have h1 : sy ≤ (g.size : Int) := by omega
  have h1a : ¬ sy < 0 := by omega
  have h1b : ¬ (g.size : Int) < sy := by omega
  have h2 : 0 < keep := by omega
  have h2a : ¬ keep ≤ 0 := by omega
  have h3 : keep < (g.size : Int) - sy := hk2
  have h3a : ¬ (g.size : Int) - sy ≤ keep := by omega
  have h3b : ¬ (g.size : Int) - sy < keep := by omega
  have h3c : keep ≤ (g.size : Int) - sy := by omega
  have h2b : 0 ≤ keep := by omega
  have h2c : ¬ keep < 0 := by omega
  obtain ⟨m, hm⟩ : ∃ m : Nat, sy + keep = (m : Int) := ⟨(sy + keep).toNat, by omega⟩
  have HL : Hid (crashL g sy keep = g.extract 0 (sy + keep).toNat) := by show _ = _; unfold crashL keptN; rw [if_neg (by omega), if_neg h2a, if_pos h3]
  have HN : Hid (crashN g sy keep = sy + keep) := by show _ = _; unfold crashN keptN; rw [if_neg (by omega), if_neg h2a, if_pos h3]
  have hm0 : 0 ≤ sy + keep := by omega
  have hm1 : sy + keep ≤ (g.size : Int) := by omega
  clear hm
  go_enter Try.func7, Try.ntmps7
  go_wp2_with fail
  refine (shopOf_any (g.extract 0 (sy + keep).toNat) (sy + keep) _ (by rw [ByteArray.size_extract]; omega)).mono ?_
  rintro e x ⟨rfl, hb⟩
  have HX : Hid (x.heap[w.heap.size + 1]? = _) := heap_keep (heap_new2 w (.cells #[.string g, .int .i64 sy] 25) (.cells #[.string ⟨#[]⟩, .int .i64 0] 25)) hb
  have HB : Hid (Below w.heap.size w x) := below_call (below_more (below_new w _) _) hb
  obtain ⟨c0, c1, f0, f1⟩ := two_cells HX.out
  clear hb
  go_wp2
  exact bodyPost_ret (results_cell_row Try.results7 _ _ (w.heap.size + 1) 25 _ (0, 0) _ rfl (set_two HX.out) Try.underlying25 rfl (by kernel_rfl)) rfl ⟨ret_shop HL.out.symm HN.out.symm, (HB.out.setCell (by show _ ≤ w.heap.size + 1; omega) _).setCell (by show _ ≤ w.heap.size + 1; omega) _⟩
set_option maxRecDepth 100000 in
set_option maxHeartbeats 1600000 in
theorem specCrash_all (g : ByteArray) (sy keep : Int) (w : World) (hs : g.size ≤ 1048576) (hw1 : -9223372036854775808 ≤ keep) (hw2 : keep ≤ 9223372036854775807) (hin : ¬ (sy < 0 ∨ (g.size : Int) < sy)) (hk : ¬ keep ≤ 0) (hk2 : ¬ keep < (g.size : Int) - sy) : Calls Try.prog 5 #[.agg #[.string g, .int .i64 sy], .int .i64 keep] w fun e w' => e = .returned (.agg #[.string (crashL g sy keep), .int .i64 (crashN g sy keep)]) ∧ Below w.heap.size w w' := by
  have h0 : 0 ≤ sy := by omega
  have h1 : sy ≤ (g.size : Int) := by omega
  have h1a : ¬ sy < 0 := by omega
  have h1b : ¬ (g.size : Int) < sy := by omega
  have h2 : 0 < keep := by omega
  have h2a : ¬ keep ≤ 0 := by omega
  have h3 : ¬ keep < (g.size : Int) - sy := hk2
  have h3a : (g.size : Int) - sy ≤ keep := by omega
  have h2b : 0 ≤ keep := by omega
  have h2c : ¬ keep < 0 := by omega
  have hsum : sy + ((g.size : Int) - sy) = (g.size : Int) := by omega
  have HL : Hid (crashL g sy keep = g) := by show _ = _; unfold crashL keptN; rw [if_neg (by omega), if_neg h2a, if_neg h3]; simp
  have HN : Hid (crashN g sy keep = (g.size : Int)) := by show _ = _; unfold crashN keptN; rw [if_neg (by omega), if_neg h2a, if_neg h3]
  go_enter Try.func5, Try.ntmps5
  go_wp2
  exact bodyPost_ret (results_cell_row Try.results5 _ _ (w.heap.size + 1) 25 _ (0, 0) _ rfl (heap_new2 w _ _) Try.underlying25 rfl (by kernel_rfl)) rfl ⟨ret_shop HL.out.symm HN.out.symm, below_more (below_new _ _) _⟩
set_option maxRecDepth 100000 in
set_option maxHeartbeats 1600000 in
theorem implCrash_all (g : ByteArray) (sy keep : Int) (w : World) (hs : g.size ≤ 1048576) (hw1 : -9223372036854775808 ≤ keep) (hw2 : keep ≤ 9223372036854775807) (hin : ¬ (sy < 0 ∨ (g.size : Int) < sy)) (hk : ¬ keep ≤ 0) (hk2 : ¬ keep < (g.size : Int) - sy) : Calls Try.prog 7 #[.agg #[.string g, .int .i64 sy], .int .i64 keep] w fun e w' => e = .returned (.agg #[.string (crashL g sy keep), .int .i64 (crashN g sy keep)]) ∧ Below w.heap.size w w' := by
  have h0 : 0 ≤ sy := by omega
  have h1 : sy ≤ (g.size : Int) := by omega
  have h1a : ¬ sy < 0 := by omega
  have h1b : ¬ (g.size : Int) < sy := by omega
  have h2 : 0 < keep := by omega
  have h2a : ¬ keep ≤ 0 := by omega
  have h3 : ¬ keep < (g.size : Int) - sy := hk2
  have h3a : (g.size : Int) - sy ≤ keep := by omega
  have h2b : 0 ≤ keep := by omega
  have h2c : ¬ keep < 0 := by omega
  have hsum : sy + ((g.size : Int) - sy) = (g.size : Int) := by omega
  have HL : Hid (crashL g sy keep = g) := by show _ = _; unfold crashL keptN; rw [if_neg (by omega), if_neg h2a, if_neg h3]; simp
  have HN : Hid (crashN g sy keep = (g.size : Int)) := by show _ = _; unfold crashN keptN; rw [if_neg (by omega), if_neg h2a, if_neg h3]
  by_cases hz : keep = (g.size : Int) - sy
  · subst hz
    go_enter Try.func7, Try.ntmps7
    go_wp2_with fail
    refine (shopOf_any g (g.size : Int) _ (by omega)).mono ?_
    rintro e x ⟨rfl, hb⟩
    have HX : Hid (x.heap[w.heap.size + 1]? = _) := heap_keep (heap_new2 w (.cells #[.string g, .int .i64 sy] 25) (.cells #[.string ⟨#[]⟩, .int .i64 0] 25)) hb
    have HB : Hid (Below w.heap.size w x) := below_call (below_more (below_new w _) _) hb
    obtain ⟨c0, c1, f0, f1⟩ := two_cells HX.out
    clear hb
    go_wp2
    exact bodyPost_ret (results_cell_row Try.results7 _ _ (w.heap.size + 1) 25 _ (0, 0) _ rfl (set_two HX.out) Try.underlying25 rfl (by kernel_rfl)) rfl ⟨ret_shop HL.out.symm HN.out.symm, (HB.out.setCell (by show _ ≤ w.heap.size + 1; omega) _).setCell (by show _ ≤ w.heap.size + 1; omega) _⟩
  · have h3d : (g.size : Int) - sy < keep := by omega
    have h3e : ¬ keep ≤ (g.size : Int) - sy := by omega
    clear hz
    go_enter Try.func7, Try.ntmps7
    go_wp2_with fail
    refine (shopOf_any g (g.size : Int) _ (by omega)).mono ?_
    rintro e x ⟨rfl, hb⟩
    have HX : Hid (x.heap[w.heap.size + 1]? = _) := heap_keep (heap_new2 w (.cells #[.string g, .int .i64 sy] 25) (.cells #[.string ⟨#[]⟩, .int .i64 0] 25)) hb
    have HB : Hid (Below w.heap.size w x) := below_call (below_more (below_new w _) _) hb
    obtain ⟨c0, c1, f0, f1⟩ := two_cells HX.out
    clear hb
    go_wp2
    exact bodyPost_ret (results_cell_row Try.results7 _ _ (w.heap.size + 1) 25 _ (0, 0) _ rfl (set_two HX.out) Try.underlying25 rfl (by kernel_rfl)) rfl ⟨ret_shop HL.out.symm HN.out.symm, (HB.out.setCell (by show _ ≤ w.heap.size + 1; omega) _).setCell (by show _ ≤ w.heap.size + 1; omega) _⟩
set_option maxRecDepth 100000 in
set_option maxHeartbeats 1600000 in
theorem specCrash_any (g : ByteArray) (sy keep : Int) (w : World) (hs : g.size ≤ 1048576) (hw1 : -9223372036854775808 ≤ keep) (hw2 : keep ≤ 9223372036854775807)  : Calls Try.prog 5 #[.agg #[.string g, .int .i64 sy], .int .i64 keep] w fun e w' => e = .returned (.agg #[.string (crashL g sy keep), .int .i64 (crashN g sy keep)]) ∧ Below w.heap.size w w' := by
  by_cases hout : sy < 0 ∨ (g.size : Int) < sy
  · exact specCrash_out g sy keep w hs hw1 hw2 hout
  · by_cases hk : keep ≤ 0
    · exact specCrash_none g sy keep w hs hw1 hw2 hout hk
    · by_cases hk2 : keep < (g.size : Int) - sy
      · exact specCrash_some g sy keep w hs hw1 hw2 hout hk hk2
      · exact specCrash_all g sy keep w hs hw1 hw2 hout hk hk2
set_option maxRecDepth 100000 in
set_option maxHeartbeats 1600000 in
theorem implCrash_any (g : ByteArray) (sy keep : Int) (w : World) (hs : g.size ≤ 1048576) (hw1 : -9223372036854775808 ≤ keep) (hw2 : keep ≤ 9223372036854775807)  : Calls Try.prog 7 #[.agg #[.string g, .int .i64 sy], .int .i64 keep] w fun e w' => e = .returned (.agg #[.string (crashL g sy keep), .int .i64 (crashN g sy keep)]) ∧ Below w.heap.size w w' := by
  by_cases hout : sy < 0 ∨ (g.size : Int) < sy
  · exact implCrash_out g sy keep w hs hw1 hw2 hout
  · by_cases hk : keep ≤ 0
    · exact implCrash_none g sy keep w hs hw1 hw2 hout hk
    · by_cases hk2 : keep < (g.size : Int) - sy
      · exact implCrash_some g sy keep w hs hw1 hw2 hout hk hk2
      · exact implCrash_all g sy keep w hs hw1 hw2 hout hk hk2
end Go.Proofs.Ytnhehdobpibgkaa
