/- The walk of FnExactDecode. -/
import Derived.Test.YtdokiccfjbieiaeDoorRows
import Derived.WalkKit
import Derived.WalkSpells
import Derived.WalkLawsBesides
import Derived.Outline
import Derived.Test.YtdokiccfjbieiaeDoorBase
import Derived.Test.YtdokiccfjbieiaeDoorRes
import Derived.Test.YtdokiccfjbieiaeDoorOwn
import Derived.Test.YtdokiccfjbieiaeDoorToWords
import Derived.Test.YtdokiccfjbieiaeDoorIsaD6
import Derived.Test.YtdokiccfjbieiaeDoorIsaD13
import Derived.Test.YtdokiccfjbieiaeDoorIsaD16
namespace Go.Proofs.YtdokiccfjbieiaeDoor
open Go.RowKit
set_option linter.unusedVariables false

theorem row_read {w : World} {a : Option Addr} {len cap : Nat} {zs : List Int} (h : (a = none ∧ len = 0 ∧ cap = 0 ∧ zs = []) ∨ ∃ x, a = some x ∧ len ≤ cap ∧ cap ≤ maxLen ∧ zs.length = cap ∧ (∀ i, i < zs.length → w.cell? (x.add i) = some (.int .i64 (zs.getD i 0))) ∧ ∀ n ∈ zs, (Lit.int .i64 n).wf = true) : ∃ L : List Int, L.length = len ∧ ReadI w a L ∧ L.length ≤ maxLen := by
  rcases h with ⟨rfl, rfl, rfl, rfl⟩ | ⟨x, rfl, h1, h2, h3, h4, _⟩
  · exact ⟨[], rfl, fun h => by simp at h, by simp⟩
  · have hl : (zs.take len).length = len := by simp; omega
    refine ⟨zs.take len, hl, fun h0 => ⟨x, rfl, ?_, fun i hi => ?_⟩, by omega⟩
    · have h := World.block_lt_of_cell? w _ (h4 0 (by omega))
      rwa [add_blockI] at h
    · rw [h4 i (by omega)]
      simp [List.getD, show i < zs.length by omega]
set_option maxRecDepth 100000 in
set_option maxHeartbeats 1600000 in
theorem lawDecode_walk (a : Option Addr) (L : List Int) (cap : Nat) (w : World) (hR : ReadI w a L) (hm : L.length ≤ maxLen) (hT : Tabs w) :
    Calls Tryd.prog 5 #[.slice a L.length cap] w fun e w' => e = .returned (.bool true) ∧ Below w.heap.size w w' := by
  have HT : Hid (_) := hT
  have HR : Hid (ReadI w a L) := hR
  have HM : Hid (_ ≤ _) := hm
  unfold maxLen at hm
  clear hT hR
  by_cases hbig : 1048576 < L.length
  · have hb' : (1048576 : Int) < (L.length : Int) := by omega
    go_enter Tryd.func5, Tryd.ntmps5
    go_wp2
    go_ret
    exact ⟨rfl, Below.refl _ _⟩
  · have hb' : ¬ (1048576 : Int) < (L.length : Int) := by omega
    obtain ⟨⟨op, b, m, r, n, l, m2, r2, n2, l2, j⟩, k, c, hE⟩ := decAll_is L
    have HE : Hid (decAll L = #[.string op, .bool b, .int .i64 m, .int .i64 r, .int .i64 n, .bool l, .int .i64 m2, .int .i64 r2, .int .i64 n2, .bool l2, .int .i64 j, .int .i64 k, .int .i64 c]) := hE
    clear hE
    go_enter Tryd.func5, Tryd.ntmps5
    go_wp2_with fail
    refine (toInt64S_any a L cap _ HR.out (by omega)).mono ?_
    rintro e x1 ⟨rfl, h1, hb⟩
    have HG1 : Hid (_ = _) := h1
    have HB1 : Hid (Below w.heap.size w x1) := hb
    clear h1 hb
    go_wp2_with fail
    refine (specDecode_any _ L _ _ HM.out (made_read HG1.out)).mono ?_
    rintro e x2 ⟨rfl, hb⟩
    have HB2' : Hid (Below w.heap.size w x2) := below_call HB1.out hb
    clear hb
    rw [HE.out]
    go_wp2_with fail
    have HW2 : Hid (_ = _) := heap_alloc_new x2 (.cells #[.string op, .bool b, .int .i64 m, .int .i64 r, .int .i64 n, .bool l, .int .i64 m2, .int .i64 r2, .int .i64 n2, .bool l2, .int .i64 j, .int .i64 k, .int .i64 c] 38)
    have HB2 : Hid (Below w.heap.size w (x2.alloc (.cells #[.string op, .bool b, .int .i64 m, .int .i64 r, .int .i64 n, .bool l, .int .i64 m2, .int .i64 r2, .int .i64 n2, .bool l2, .int .i64 j, .int .i64 k, .int .i64 c] 38))) := below_more HB2'.out _
    have hq2 : w.heap.size ≤ x2.heap.size := HB2'.out.size
    clear HB2'
    generalize x2.alloc (.cells #[.string op, .bool b, .int .i64 m, .int .i64 r, .int .i64 n, .bool l, .int .i64 m2, .int .i64 r2, .int .i64 n2, .bool l2, .int .i64 j, .int .i64 k, .int .i64 c] 38) = x2' at *
    generalize x2.heap.size = g2 at *
    refine (toInt64S_any a L cap _ (HR.out.below HB2.out) (by omega)).mono ?_
    rintro e x3 ⟨rfl, h1, hb⟩
    have HG3 : Hid (_ = _) := h1
    have HB3 : Hid (Below w.heap.size w x3) := below_call HB2.out hb
    have HW3 : Hid (_ = _) := heap_keep HW2.out hb
    clear h1 hb
    go_wp2_with fail
    refine (implDecode_any _ L _ _ HM.out (made_read HG3.out) (HT.out.below HB3.out)).mono ?_
    rintro e x4 ⟨rfl, hb⟩
    have HG4 : Hid (_ = _) := heap_keep HG3.out hb
    have HB4 : Hid (Below w.heap.size w x4) := below_call HB3.out hb
    have HW4 : Hid (_ = _) := heap_keep HW3.out hb
    clear hb
    rw [HE.out]
    obtain ⟨q0, q1, q2, q3, q4, q5, q6, q7, q8, q9, q10, q11, q12⟩ := cellsD HW4.out
    have hz4 := heap_lt HW4.out
    have hz4' : g2 ≠ x4.heap.size := Nat.ne_of_lt hz4
    go_wp2_with fail
    refine (eqInsnOut_any ⟨op, b, m, r, n, l, m2, r2, n2, l2, j⟩ k c _).mono ?_
    rintro e x5 ⟨rfl, hb⟩
    have HG5 : Hid (_ = _) := heap_keep (heap_more HG4.out _) hb
    have HB5 : Hid (Below w.heap.size w x5) := below_call (below_more HB4.out _) hb
    clear hb
    go_wp2_with fail
    refine (toInt64S_any a L cap _ (HR.out.below HB5.out) (by omega)).mono ?_
    rintro e x6 ⟨rfl, h1, hb⟩
    have HG6 : Hid (_ = _) := h1
    have HH6 : Hid (_ = _) := heap_keep HG5.out hb
    have HB6 : Hid (Below w.heap.size w x6) := below_call HB5.out hb
    clear h1 hb
    go_wp2_with fail
    refine (eqInt64S_any _ _ 0 0 L L _ (made_own HH6.out (Nat.zero_le _) (by omega)) (made_own HG6.out (Nat.zero_le _) (by omega)) (by omega) (by omega)).mono ?_
    rintro e x7 ⟨rfl, hb⟩
    rw [decide_eq_true rfl]
    go_wp2
    go_ret
    exact ⟨rfl, below_call HB6.out hb⟩
end Go.Proofs.YtdokiccfjbieiaeDoor
