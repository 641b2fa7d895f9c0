/- ObjectRead of the specification. -/
import Derived.Test.YtcnjeeckkpiilaaRows
import Derived.WalkKit
import Derived.WalkSpells
import Derived.WalkLawsBesides
import Derived.Outline
import Derived.Test.YtcnjeeckkpiilaaBun0
import Derived.Test.YtcnjeeckkpiilaaBun1
import Derived.Test.YtcnjeeckkpiilaaReadOX
import Derived.Test.YtcnjeeckkpiilaaRowSX
import Derived.Test.YtcnjeeckkpiilaaRowLX
namespace Go.Proofs.Ytcnjeeckkpiilaa
open Go.RowKit
set_option linter.unusedVariables false

set_option maxRecDepth 100000 in
set_option maxHeartbeats 3200000 in
theorem specRead_any (s : ByteArray) (w : World) (hs0 : s.size ≤ maxLen) : Calls Try.prog 14 #[.string s] w (ReadRes s w (outS s)) := by
  unfold maxLen at hs0
  by_cases h8 : 8000 < s.size
  · have HF : Hid (outS s = (2, nilO)) := if_pos h8
    go_enter Try.func14, Try.ntmps14
    go_wp2
    refine bodyPost_ret (v := .agg #[.slice none 0 0, .slice none 0 0, .slice none 0 0, .string ⟨#[]⟩, .int .i64 0, .int .i64 2]) (by simp [results, Try.results14, go_sem]) rfl ?_
    rw [HF.out]
    exact ⟨_, _, _, rfl, OwnO.nil _ _, nil_fits, (Below.refl _ _).alloc (Nat.le_refl _) _⟩
  have hs : s.size ≤ 8000 := by omega
  have HF : Hid (outS s = pickS s (sAll s 0)) := if_neg h8
  have HZ : Hid ((w.alloc (.cells #[.slice none 0 0, .slice none 0 0, .slice none 0 0, .string ⟨#[]⟩, .int .i64 0, .int .i64 0] 39)).heap[w.heap.size]? = _) := heap_alloc_new w (.cells #[.slice none 0 0, .slice none 0 0, .slice none 0 0, .string ⟨#[]⟩, .int .i64 0, .int .i64 0] 39)
  have HB0 : Hid (Below w.heap.size w (w.alloc (.cells #[.slice none 0 0, .slice none 0 0, .slice none 0 0, .string ⟨#[]⟩, .int .i64 0, .int .i64 0] 39))) := below_new w _
  have hxs : (w.alloc (.cells #[.slice none 0 0, .slice none 0 0, .slice none 0 0, .string ⟨#[]⟩, .int .i64 0, .int .i64 0] 39)).heap.size = w.heap.size + 1 := by simp
  go_enter Try.func14, Try.ntmps14
  go_wp2_with fail
  generalize w.alloc (.cells #[.slice none 0 0, .slice none 0 0, .slice none 0 0, .string ⟨#[]⟩, .int .i64 0, .int .i64 0] 39) = x0 at *
  refine (l07Read_any s x0 hs).mono ?_
  rintro e y3 ⟨vw, vs, vr, W, S, R, ok, rfl, hO, hb, hx⟩
  obtain ⟨a, b, c, ka, kb, kc, rfl, rfl, rfl, hI⟩ := hO.is
  have HOO : Hid (OwnO y3 (w.heap.size + 1) (.slice a W.length ka) (.slice b S.length kb) (.slice c R.length kc) W S R) := hO.low (by omega)
  have HBA : Hid (Below w.heap.size w y3) := below_call HB0.out hb
  have HZA : Hid (y3.heap[w.heap.size]? = some (.cells #[.slice none 0 0, .slice none 0 0, .slice none 0 0, .string ⟨#[]⟩, .int .i64 0, .int .i64 0] 39 (0, 0))) := heap_keep HZ.out hb
  have HX : Hid (_ ∨ _) := hx
  clear hO hb hx hI
  have HOb : Hid ((y3.alloc (.cells #[.slice a W.length ka, .slice b S.length kb, .slice c R.length kc] 34)).heap[y3.heap.size]? = some (.cells #[.slice a W.length ka, .slice b S.length kb, .slice c R.length kc] 34 (0, 0))) := heap_alloc_new y3 _
  have HOf : Hid (OwnO (y3.alloc (.cells #[.slice a W.length ka, .slice b S.length kb, .slice c R.length kc] 34)) (w.heap.size + 1) (.slice a W.length ka) (.slice b S.length kb) (.slice c R.length kc) W S R) := HOO.out.call (below_new _ _)
  have HBf : Hid (Below w.heap.size w (y3.alloc (.cells #[.slice a W.length ka, .slice b S.length kb, .slice c R.length kc] 34))) := below_more HBA.out _
  have HZf : Hid ((y3.alloc (.cells #[.slice a W.length ka, .slice b S.length kb, .slice c R.length kc] 34)).heap[w.heap.size]? = some (.cells #[.slice none 0 0, .slice none 0 0, .slice none 0 0, .string ⟨#[]⟩, .int .i64 0, .int .i64 0] 39 (0, 0))) := heap_more HZA.out _
  obtain ⟨c0, c1, c2, c3, c4, c5⟩ := cells6L HZf.out
  have f0 : (y3.alloc (.cells #[.slice a W.length ka, .slice b S.length kb, .slice c R.length kc] 34)).frozen? ⟨w.heap.size, 0, none⟩ = false := frozen_of_row _ _ _ _ _ HZf.out
  have f1 : (y3.alloc (.cells #[.slice a W.length ka, .slice b S.length kb, .slice c R.length kc] 34)).frozen? ⟨w.heap.size, 1, none⟩ = false := frozen_of_row _ _ _ _ _ HZf.out
  have f2 : (y3.alloc (.cells #[.slice a W.length ka, .slice b S.length kb, .slice c R.length kc] 34)).frozen? ⟨w.heap.size, 2, none⟩ = false := frozen_of_row _ _ _ _ _ HZf.out
  have f3 : (y3.alloc (.cells #[.slice a W.length ka, .slice b S.length kb, .slice c R.length kc] 34)).frozen? ⟨w.heap.size, 3, none⟩ = false := frozen_of_row _ _ _ _ _ HZf.out
  have f4 : (y3.alloc (.cells #[.slice a W.length ka, .slice b S.length kb, .slice c R.length kc] 34)).frozen? ⟨w.heap.size, 4, none⟩ = false := frozen_of_row _ _ _ _ _ HZf.out
  have f5 : (y3.alloc (.cells #[.slice a W.length ka, .slice b S.length kb, .slice c R.length kc] 34)).frozen? ⟨w.heap.size, 5, none⟩ = false := frozen_of_row _ _ _ _ _ HZf.out
  rcases HX.out with ⟨rfl, hp, hfi⟩ | ⟨rfl, hp⟩
  · have HP2 : Hid (outS s = (0, (W, S, R))) := by show _ = _; rw [HF.out, hp]
    have HFI : Hid (ObjFits W S R) := hfi
    have HR5 : Hid (_ = _) := set6_row HZf.out (.slice a W.length ka) (.slice b S.length kb) (.slice c R.length kc) (.string ⟨#[]⟩) (.int .i64 0) (.int .i64 0)
    clear hp hfi
    go_wp2
    exact bodyPost_ret (results_cell_row Try.results14 _ _ w.heap.size 39 _ (0, 0) _ rfl HR5.out Try.underlying39 rfl (by kernel_rfl)) rfl (by rw [HP2.out]; exact ⟨_, _, _, rfl, set6_own HOf.out (by omega) _ _ _ _ _ _, HFI.out, set6_below HBf.out (Nat.le_refl _) _ _ _ _ _ _⟩)
  · have HP2 : Hid (outS s = (3, nilO)) := by show _ = _; rw [HF.out, hp]
    have HR5 : Hid (_ = _) := set6_row HZf.out (.slice none 0 0) (.slice none 0 0) (.slice none 0 0) (.string ⟨#[]⟩) (.int .i64 0) (.int .i64 3)
    clear hp
    go_wp2
    exact bodyPost_ret (results_cell_row Try.results14 _ _ w.heap.size 39 _ (0, 0) _ rfl HR5.out Try.underlying39 rfl (by kernel_rfl)) rfl (by rw [HP2.out]; exact ⟨_, _, _, rfl, OwnO.nil _ _, nil_fits, set6_below HBf.out (Nat.le_refl _) _ _ _ _ _ _⟩)
end Go.Proofs.Ytcnjeeckkpiilaa
