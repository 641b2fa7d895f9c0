/- eqHexOut, markHexOut, heldHexOut of the laws. -/
import Derived.Test.YtdkkhkpehefnoaaDoorRows
import Derived.WalkKit
import Derived.WalkSpells
import Derived.WalkLawsBesides
import Derived.Test.YtdkkhkpehefnoaaDoorBase
import Derived.Test.YtdkkhkpehefnoaaDoorRes2
import Derived.Test.YtdkkhkpehefnoaaDoorOwn
import Derived.Test.YtdkkhkpehefnoaaDoorHexRP
import Derived.Test.YtdkkhkpehefnoaaDoorMarkT
namespace Go.Proofs.YtdkkhkpehefnoaaDoor
open Go.RowKit
set_option linter.unusedVariables false

theorem cells3x {W : World} {B : Nat} {t : TypeId} {v0 v1 v2 : Value} (hR : W.heap[B]? = some (.cells #[v0, v1, v2] t (0, 0))) :
    W.cell? ⟨B, 0, none⟩ = some v0 ∧ W.cell? ⟨B, 1, none⟩ = some v1 ∧ W.cell? ⟨B, 2, none⟩ = some v2 := by
  obtain ⟨h0, h1, h2, _, _, _⟩ := three_cf hR
  exact ⟨h0, h1, h2⟩
set_option maxRecDepth 100000 in
set_option maxHeartbeats 1600000 in
theorem eqHexOut_any (b c : Int) (v1 v2 : Value) (B1 B2 : Nat) (L : List Int) (w : World) (h1 : OwnI w B1 v1 L) (h2 : OwnI w B2 v2 L) (hs : L.length ≤ 2000000) :
    Calls Tryd.prog 6 #[.agg #[.int .i64 b, v1, .int .i64 c], .agg #[.int .i64 b, v2, .int .i64 c]] w fun e w' => e = .returned (.bool true) ∧ Below w.heap.size w w' := by
  have H1 : Hid (OwnI w B1 v1 L) := h1
  have H2 : Hid (OwnI w B2 v2 L) := h2
  clear h1 h2
  have hbb : (b != b) = false := by simp
  have hcc : (c != c) = false := by simp
  have HX : Hid (((w.alloc (.cells #[.int .i64 b, v1, .int .i64 c] 24)).alloc (.cells #[.int .i64 b, v2, .int .i64 c] 24)).heap[w.heap.size]? = _) := heap_more (heap_alloc_new w _) _
  have HY : Hid (((w.alloc (.cells #[.int .i64 b, v1, .int .i64 c] 24)).alloc (.cells #[.int .i64 b, v2, .int .i64 c] 24)).heap[w.heap.size + 1]? = _) := heap_new2 w _ _
  have HB : Hid (Below w.heap.size w ((w.alloc (.cells #[.int .i64 b, v1, .int .i64 c] 24)).alloc (.cells #[.int .i64 b, v2, .int .i64 c] 24))) := below_more (below_new _ _) _
  go_enter Tryd.func6, Tryd.ntmps6
  go_wp2_with fail
  refine (eqInt64S_any v1 v2 B1 B2 L L _ ((H1.out.alloc _).alloc _) ((H2.out.alloc _).alloc _) hs hs).mono ?_
  rintro e y ⟨rfl, hb⟩
  have HXy : Hid (y.heap[w.heap.size]? = _) := heap_keep HX.out hb
  have HYy : Hid (y.heap[w.heap.size + 1]? = _) := heap_keep HY.out hb
  have HBy : Hid (Below w.heap.size w y) := below_call HB.out hb
  clear hb
  have hll : decide (L = L) = true := by simp
  obtain ⟨c0, c1, c2⟩ := cells3x HXy.out
  obtain ⟨d0, d1, d2⟩ := cells3x HYy.out
  go_wp2
  go_ret
  exact ⟨rfl, HBy.out⟩
set_option maxRecDepth 100000 in
set_option maxHeartbeats 1600000 in
theorem markHexOut_any (b c k : Int) (v : Value) (B : Nat) (L : List Int) (w : World) (h : OwnI w B v L) (hB : B ≤ w.heap.size) (hs : L.length ≤ 1000000) (hk0 : 0 ≤ k) (hk1 : k ≤ 1000000) :
    Calls Tryd.prog 7 #[.agg #[.int .i64 b, v, .int .i64 c], .int .i64 k] w fun e w' => e = .returned (.int .i64 (k + L.length)) ∧ OwnI w' B v (marksI k L.length) ∧ Below B w w' ∧ (∀ q, q < w.heap.size → v.ownBlock ≠ some q → w'.heap[q]? = w.heap[q]?) := by
  have H : Hid (OwnI w B v L) := h
  clear h
  go_enter Tryd.func7, Tryd.ntmps7
  go_wp2_with fail
  refine (markInt64S_but v B L k _ (H.out.alloc _) hs hk0 hk1).mono ?_
  rintro e y ⟨rfl, ho, hb, hk⟩
  have HO : Hid (OwnI _ _ _ _) := ho
  have HBy : Hid (Below B w y) := ((Below.refl _ _).alloc hB _).trans hb
  have HK : Hid (∀ q, q < w.heap.size → v.ownBlock ≠ some q → y.heap[q]? = w.heap[q]?) := fun q hq hne => (hk q (by simp; omega) hne).trans (Go.heap_alloc_old w _ hq)
  clear ho hb hk
  go_wp2
  go_ret
  exact ⟨rfl, HO.out, HBy.out, HK.out⟩
set_option maxRecDepth 100000 in
set_option maxHeartbeats 1600000 in
theorem heldHexOut_any (b c k : Int) (v : Value) (B n : Nat) (w : World) (h : OwnI w B v (marksI k n)) (hs : n ≤ 1000000) (hk0 : 0 ≤ k) (hk1 : k ≤ 1000000) :
    Calls Tryd.prog 8 #[.agg #[.int .i64 b, v, .int .i64 c], .int .i64 k] w fun e w' => e = .returned (.int .i64 (k + n)) ∧ Below w.heap.size w w' := by
  have H : Hid (OwnI w B v (marksI k n)) := h
  clear h
  have hp : ¬ (k + (n : Int) < 0) := by omega
  go_enter Tryd.func8, Tryd.ntmps8
  go_wp2_with fail
  refine (heldInt64S_any v B n k _ (H.out.alloc _) hs hk0 hk1).mono ?_
  rintro e y ⟨rfl, rfl⟩
  go_wp2
  go_ret
  exact ⟨rfl, below_new _ _⟩
end Go.Proofs.YtdkkhkpehefnoaaDoor
