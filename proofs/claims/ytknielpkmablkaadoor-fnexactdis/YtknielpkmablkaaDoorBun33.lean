/- When a Word is right, by the specification. -/
import Derived.Test.YtknielpkmablkaaDoorRows
import Derived.WalkKit
import Derived.WalkSpells
import Derived.WalkLawsBesides
import Derived.Outline
import Derived.Test.YtknielpkmablkaaDoorBun0
import Derived.Test.YtknielpkmablkaaDoorIsaX
import Derived.Test.YtknielpkmablkaaDoorBun4
import Derived.Test.YtknielpkmablkaaDoorBun31
import Derived.Lib.AppendIntMem
import Derived.Test.YtknielpkmablkaaDoorFmt
import Derived.Test.YtknielpkmablkaaDoorDecX
import Derived.Deep.RegionHeld3
namespace Go.Proofs.YtknielpkmablkaaDoor
open Go.RowKit
set_option linter.unusedVariables false

def wordB (nm : ByteArray) (n : Int) : Bool := if nm = ⟨#[]⟩ then isB n 0 65535 else nameB nm && isB n (-32767) 32767
end Go.Proofs.YtknielpkmablkaaDoor
namespace Go.Proofs.YtknielpkmablkaaDoor
open Go.RowKit
set_option linter.unusedVariables false

/- The table of powers of ten that strconv reads. -/
def Pow (w : World) : Prop := Lib.TabIs Tryd.prog w "internal/strconv.uint64pow10" .u64 Lib.pow10Tab
theorem Pow.below {w w' : World} (h : Pow w) (hb : Below w.heap.size w w') : Pow w' := by
  unfold Pow Lib.TabIs World.var? at *
  cases hg : Tryd.prog.globalNamed "internal/strconv.uint64pow10" with
  | none => simp [hg] at h
  | some g =>
    simp only [hg, Option.bind_some] at h ⊢
    have hlt : g < w.heap.size := by
      rcases Nat.lt_or_ge g w.heap.size with h' | h'
      · exact h'
      · rw [Array.getElem?_eq_none h'] at h; simp at h
    rw [hb.block g hlt]
    exact h
theorem Pow.alloc {w : World} (h : Pow w) (o : Obj) : Pow (w.alloc o) := h.below (below_new w o)
theorem fmt_any (n : Int) (w : World) (h0 : -1000000 ≤ n) (h1 : n ≤ 1000000) (hP : Pow w) : Calls Tryd.prog 62 #[.int .i64 n, .int .i64 10] w fun e w' => e = .returned (.string (digs (Lib.itoa n))) ∧ Below w.heap.size w w' :=
  (fmtInt_any n (by omega) (by omega) w hP).mono fun e w' h => by
    obtain ⟨h1, k, os, rfl⟩ := h
    exact ⟨h1, Lib.below_grow _ w (Nat.le_refl _) k os⟩
set_option maxRecDepth 100000 in
set_option maxHeartbeats 1600000 in
theorem digitsOf_any (n : Int) (w : World) (h0 : -1000000 ≤ n) (h1 : n ≤ 1000000) (hP : Pow w) : Calls Tryd.prog 46 #[.int .i64 n] w fun e w' => e = .returned (.string (digs (Lib.itoa n))) ∧ Below w.heap.size w w' := by
  have HP : Hid (_) := hP
  clear hP
  go_enter Tryd.func46, Tryd.ntmps46
  go_wp2_with fail
  refine (fmt_any n _ h0 h1 HP.out).mono ?_
  rintro e x1 ⟨rfl, hb⟩
  go_wp2
  go_ret
  exact ⟨rfl, hb⟩
def sgnB (n : Int) : ByteArray := if n < 0 then digs (Lib.itoa n) else ⟨#[43]⟩ ++ digs (Lib.itoa n)
set_option maxRecDepth 100000 in
set_option maxHeartbeats 1600000 in
theorem signed_any (n : Int) (w : World) (h0 : -100000 ≤ n) (h1 : n ≤ 100000) (hP : Pow w) : Calls Tryd.prog 61 #[.int .i64 n] w fun e w' => e = .returned (.string (sgnB n)) ∧ Below w.heap.size w w' := by
  have HP : Hid (_) := hP
  clear hP
  have hsz : (digs (Lib.itoa n)).size ≤ 7 := itoa_len n (by omega) (by omega)
  unfold sgnB
  by_cases hn : n < 0
  · rw [if_pos hn]
    go_enter Tryd.func61, Tryd.ntmps61
    go_wp2_with fail
    refine (digitsOf_any n _ (by omega) (by omega) HP.out).mono ?_
    rintro e x1 ⟨rfl, hb⟩
    go_wp2
    go_ret
    exact ⟨rfl, hb⟩
  · rw [if_neg hn]
    go_enter Tryd.func61, Tryd.ntmps61
    go_wp2_with fail
    refine (digitsOf_any n _ (by omega) (by omega) HP.out).mono ?_
    rintro e x1 ⟨rfl, hb⟩
    go_wp2
    go_ret
    exact ⟨rfl, hb⟩
end Go.Proofs.YtknielpkmablkaaDoor
namespace Go.Proofs.YtknielpkmablkaaDoor
open Go.RowKit
set_option linter.unusedVariables false

def wtB (nm : ByteArray) (n : Int) : ByteArray := if wordB nm n = false then ⟨#[]⟩ else if nm = ⟨#[]⟩ then digs (Lib.itoa n) else if n = 0 then nm else nm ++ sgnB n
theorem word_empty {n : Int} (h : wordB ⟨#[]⟩ n = true) : 0 ≤ n ∧ n ≤ 65535 := by
  unfold wordB at h; rw [if_pos rfl] at h; simp [isB] at h; omega
theorem word_named {nm : ByteArray} {n : Int} (hn : ¬ nm = ⟨#[]⟩) (h : wordB nm n = true) : nm.size ≤ 20 ∧ -32767 ≤ n ∧ n ≤ 32767 := by
  unfold wordB at h; rw [if_neg hn, Bool.and_eq_true] at h
  obtain ⟨h1, h2⟩ := h
  unfold nameB at h1
  have := of_decide_eq_true h1
  simp [isB] at h2
  omega
theorem two_only {W : World} {B : Nat} {t : TypeId} {v0 v1 : Value} (h : W.heap[B]? = some (.cells #[v0, v1] t (0, 0))) : W.cell? ⟨B, 0, none⟩ = some v0 ∧ W.cell? ⟨B, 1, none⟩ = some v1 := ⟨(two_cells h).1, (two_cells h).2.1⟩
theorem sgn_size (n : Int) (h0 : -100000 ≤ n) (h1 : n ≤ 100000) : (sgnB n).size ≤ 8 := by
  have h : (digs (Lib.itoa n)).size ≤ 7 := itoa_len n (by omega) (by omega)
  unfold sgnB
  split
  · omega
  · rw [ByteArray.size_append]; show 1 + _ ≤ 8; omega
end Go.Proofs.YtknielpkmablkaaDoor
