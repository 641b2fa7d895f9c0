/- The program's reader of rows: a Sym, a Ref. -/
import Derived.Test.YtcnjeeckkpiilaaRows
import Derived.WalkKit
import Derived.WalkSpells
import Derived.WalkLawsBesides
import Derived.Outline
import Derived.RegionTactic
import Derived.BigRegion
import Derived.Deep.QuietTactic
import Derived.BigQuiet
import Derived.Deep.RegionHeld3
import Derived.Test.YtcnjeeckkpiilaaBun0
import Derived.Test.YtcnjeeckkpiilaaBun1
import Derived.Test.YtcnjeeckkpiilaaBun3
import Derived.Test.YtcnjeeckkpiilaaBun16
import Derived.Test.YtcnjeeckkpiilaaReadNumX
import Derived.Test.YtcnjeeckkpiilaaGetTextX
import Derived.Test.YtcnjeeckkpiilaaReadMX
import Derived.Test.YtcnjeeckkpiilaaSymAX
import Derived.Test.YtcnjeeckkpiilaaRefAX
import Derived.Test.YtcnjeeckkpiilaaRowRdX
namespace Go.Proofs.Ytcnjeeckkpiilaa
open Go.RowKit
set_option linter.unusedVariables false

set_option maxRecDepth 100000 in
set_option maxHeartbeats 1600000 in
theorem rowSym_any (b : Nat) (s : ByteArray) (q : Int) (wr : Bool) (w : World) (h : RR w b s q wr) (hs : s.size ≤ 8000) :
    Calls Try.prog 50 #[.pointer (some ⟨b, 0, none⟩)] w (RO (fun y : symE => .agg (symC y).toArray) b s w (unlessB wr (pSym s q))) := by
  have HZ : Hid ((w.alloc (.cells #[.string ⟨#[]⟩, .int .i64 0, .bool false] 65)).heap[w.heap.size]? = _) := heap_alloc_new w (.cells #[.string ⟨#[]⟩, .int .i64 0, .bool false] 65)
  have hbs : b < w.heap.size := heap_lt h.row
  have HR0 : Hid (RR (w.alloc (.cells #[.string ⟨#[]⟩, .int .i64 0, .bool false] 65)) b s q wr) := h.call (below_new w _)
  have HT0 : Hid (But b w (w.alloc (.cells #[.string ⟨#[]⟩, .int .i64 0, .bool false] 65))) := But.of (below_new w _)
  clear h
  go_enter Try.func50, Try.ntmps50
  go_wp2_with fail
  refine (rowText_any b s q wr _ HR0.out hs).mono ?_
  rintro e x1 ⟨hb, v1, q1, w1, rfl, hR, hx⟩
  have HT1 : Hid (But b _ x1) := hb
  have HR1 : Hid (RR x1 b s q1 w1) := hR
  have HX1 : Hid (_ ∨ _) := hx
  clear hb hR hx
  go_wp2_with fail
  refine (rowNum_any b s q1 w1 _ HR1.out hs).mono ?_
  rintro e x2 ⟨hb, v2, q2, w2, rfl, hR, hx⟩
  have HT2 : Hid (But b x1 x2) := hb
  have HR2 : Hid (RR x2 b s q2 w2) := hR
  have HX2 : Hid (_ ∨ _) := hx
  clear hb hR hx
  go_wp2_with fail
  refine (rowFlag_any b s q2 w2 _ HR2.out hs).mono ?_
  rintro e x3 ⟨hb, v3, q3, w3, rfl, hR, hx⟩
  have HT3 : Hid (But b x2 x3) := hb
  have HR3 : Hid (RR x3 b s q3 w3) := hR
  have HX3 : Hid (_ ∨ _) := hx
  clear hb hR hx
  have HTA : Hid (But b w x3) := (((HT0.out).trans HT1.out).trans HT2.out).trans HT3.out
  have HZn : Hid (x3.heap[w.heap.size]? = some (.cells #[.string ⟨#[]⟩, .int .i64 0, .bool false] 65 (0, 0))) := But.keep (But.keep (But.keep (HZ.out) HT1.out (by omega)) HT2.out (by omega)) HT3.out (by omega)
  have HXf : Hid ((w3 = false ∧ unlessB wr (pSym s q) = some ((v1, v2, v3), q3)) ∨ (w3 = true ∧ unlessB wr (pSym s q) = none)) := by
    show _ ∨ _
    unfold pSym
    have h2 := seq_step (f := pN s) (g := pF s) HX2.out HX3.out
    rw [← unless_bind] at h2
    have h1 := seq_step (f := pT s) (g := seqP (pN s) (pF s)) HX1.out h2
    rw [← unless_bind] at h1
    exact h1
  have f0 : x3.frozen? ⟨w.heap.size, 0, none⟩ = false := frozen_of_row _ _ _ _ _ HZn.out
  have f1 : x3.frozen? ⟨w.heap.size, 1, none⟩ = false := frozen_of_row _ _ _ _ _ HZn.out
  have f2 : x3.frozen? ⟨w.heap.size, 2, none⟩ = false := frozen_of_row _ _ _ _ _ HZn.out
  obtain ⟨c0, c1, c2⟩ := cells3L HZn.out
  have HZf : Hid (_ = _) := heap_set (heap_set (heap_set (HZn.out) 0 (.string v1)) 1 (.int .i64 v2)) 2 (.bool v3)
  have HTf : Hid (But b w _) := But.setN (But.setN (But.setN (HTA.out) (p := ⟨w.heap.size, 0, none⟩) (Nat.le_refl _) (.string v1)) (p := ⟨w.heap.size, 1, none⟩) (Nat.le_refl _) (.int .i64 v2)) (p := ⟨w.heap.size, 2, none⟩) (Nat.le_refl _) (.bool v3)
  have HRf : Hid (RR _ b s q3 w3) := ⟨heap_set_other (heap_set_other (heap_set_other (HR3.out.row) ⟨w.heap.size, 0, none⟩ (by show b ≠ w.heap.size; omega) (.string v1)) ⟨w.heap.size, 1, none⟩ (by show b ≠ w.heap.size; omega) (.int .i64 v2)) ⟨w.heap.size, 2, none⟩ (by show b ≠ w.heap.size; omega) (.bool v3), HR3.out.lo, HR3.out.hi⟩
  go_wp2
  exact bodyPost_ret (results_cell_row Try.results50 _ _ w.heap.size 65 _ (0, 0) _ rfl HZf.out Try.underlying65 rfl (by kernel_rfl)) rfl ⟨HTf.out, (v1, v2, v3), q3, w3, rfl, HRf.out, HXf.out⟩
set_option maxRecDepth 100000 in
set_option maxHeartbeats 1600000 in
theorem rowRef_any (b : Nat) (s : ByteArray) (q : Int) (wr : Bool) (w : World) (h : RR w b s q wr) (hs : s.size ≤ 8000) :
    Calls Try.prog 52 #[.pointer (some ⟨b, 0, none⟩)] w (RO (fun y : refE => .agg (refC y).toArray) b s w (unlessB wr (pRef s q))) := by
  have HZ : Hid ((w.alloc (.cells #[.int .i64 0, .string ⟨#[]⟩, .int .i64 0, .bool false] 70)).heap[w.heap.size]? = _) := heap_alloc_new w (.cells #[.int .i64 0, .string ⟨#[]⟩, .int .i64 0, .bool false] 70)
  have hbs : b < w.heap.size := heap_lt h.row
  have HR0 : Hid (RR (w.alloc (.cells #[.int .i64 0, .string ⟨#[]⟩, .int .i64 0, .bool false] 70)) b s q wr) := h.call (below_new w _)
  have HT0 : Hid (But b w (w.alloc (.cells #[.int .i64 0, .string ⟨#[]⟩, .int .i64 0, .bool false] 70))) := But.of (below_new w _)
  clear h
  go_enter Try.func52, Try.ntmps52
  go_wp2_with fail
  refine (rowNum_any b s q wr _ HR0.out hs).mono ?_
  rintro e x1 ⟨hb, v1, q1, w1, rfl, hR, hx⟩
  have HT1 : Hid (But b _ x1) := hb
  have HR1 : Hid (RR x1 b s q1 w1) := hR
  have HX1 : Hid (_ ∨ _) := hx
  clear hb hR hx
  go_wp2_with fail
  refine (rowText_any b s q1 w1 _ HR1.out hs).mono ?_
  rintro e x2 ⟨hb, v2, q2, w2, rfl, hR, hx⟩
  have HT2 : Hid (But b x1 x2) := hb
  have HR2 : Hid (RR x2 b s q2 w2) := hR
  have HX2 : Hid (_ ∨ _) := hx
  clear hb hR hx
  go_wp2_with fail
  refine (rowNum_any b s q2 w2 _ HR2.out hs).mono ?_
  rintro e x3 ⟨hb, v3, q3, w3, rfl, hR, hx⟩
  have HT3 : Hid (But b x2 x3) := hb
  have HR3 : Hid (RR x3 b s q3 w3) := hR
  have HX3 : Hid (_ ∨ _) := hx
  clear hb hR hx
  go_wp2_with fail
  refine (rowFlag_any b s q3 w3 _ HR3.out hs).mono ?_
  rintro e x4 ⟨hb, v4, q4, w4, rfl, hR, hx⟩
  have HT4 : Hid (But b x3 x4) := hb
  have HR4 : Hid (RR x4 b s q4 w4) := hR
  have HX4 : Hid (_ ∨ _) := hx
  clear hb hR hx
  have HTA : Hid (But b w x4) := ((((HT0.out).trans HT1.out).trans HT2.out).trans HT3.out).trans HT4.out
  have HZn : Hid (x4.heap[w.heap.size]? = some (.cells #[.int .i64 0, .string ⟨#[]⟩, .int .i64 0, .bool false] 70 (0, 0))) := But.keep (But.keep (But.keep (But.keep (HZ.out) HT1.out (by omega)) HT2.out (by omega)) HT3.out (by omega)) HT4.out (by omega)
  have HXf : Hid ((w4 = false ∧ unlessB wr (pRef s q) = some ((v1, v2, v3, v4), q4)) ∨ (w4 = true ∧ unlessB wr (pRef s q) = none)) := by
    show _ ∨ _
    unfold pRef
    have h3 := seq_step (f := pN s) (g := pF s) HX3.out HX4.out
    rw [← unless_bind] at h3
    have h2 := seq_step (f := pT s) (g := seqP (pN s) (pF s)) HX2.out h3
    rw [← unless_bind] at h2
    have h1 := seq_step (f := pN s) (g := seqP (pT s) (seqP (pN s) (pF s))) HX1.out h2
    rw [← unless_bind] at h1
    exact h1
  have f0 : x4.frozen? ⟨w.heap.size, 0, none⟩ = false := frozen_of_row _ _ _ _ _ HZn.out
  have f1 : x4.frozen? ⟨w.heap.size, 1, none⟩ = false := frozen_of_row _ _ _ _ _ HZn.out
  have f2 : x4.frozen? ⟨w.heap.size, 2, none⟩ = false := frozen_of_row _ _ _ _ _ HZn.out
  have f3 : x4.frozen? ⟨w.heap.size, 3, none⟩ = false := frozen_of_row _ _ _ _ _ HZn.out
  obtain ⟨c0, c1, c2, c3⟩ := cells4L HZn.out
  have HZf : Hid (_ = _) := heap_set (heap_set (heap_set (heap_set (HZn.out) 0 (.int .i64 v1)) 1 (.string v2)) 2 (.int .i64 v3)) 3 (.bool v4)
  have HTf : Hid (But b w _) := But.setN (But.setN (But.setN (But.setN (HTA.out) (p := ⟨w.heap.size, 0, none⟩) (Nat.le_refl _) (.int .i64 v1)) (p := ⟨w.heap.size, 1, none⟩) (Nat.le_refl _) (.string v2)) (p := ⟨w.heap.size, 2, none⟩) (Nat.le_refl _) (.int .i64 v3)) (p := ⟨w.heap.size, 3, none⟩) (Nat.le_refl _) (.bool v4)
  have HRf : Hid (RR _ b s q4 w4) := ⟨heap_set_other (heap_set_other (heap_set_other (heap_set_other (HR4.out.row) ⟨w.heap.size, 0, none⟩ (by show b ≠ w.heap.size; omega) (.int .i64 v1)) ⟨w.heap.size, 1, none⟩ (by show b ≠ w.heap.size; omega) (.string v2)) ⟨w.heap.size, 2, none⟩ (by show b ≠ w.heap.size; omega) (.int .i64 v3)) ⟨w.heap.size, 3, none⟩ (by show b ≠ w.heap.size; omega) (.bool v4), HR4.out.lo, HR4.out.hi⟩
  go_wp2
  exact bodyPost_ret (results_cell_row Try.results52 _ _ w.heap.size 70 _ (0, 0) _ rfl HZf.out Try.underlying70 rfl (by kernel_rfl)) rfl ⟨HTf.out, (v1, v2, v3, v4), q4, w4, rfl, HRf.out, HXf.out⟩
end Go.Proofs.Ytcnjeeckkpiilaa
