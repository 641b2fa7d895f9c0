/- Instructions: InsnRight of the specification, all ways together. -/
import Derived.Test.YtdokiccfjbieiaeDoorRows
import Derived.WalkKit
import Derived.Test.YtdokiccfjbieiaeDoorIsaQ
import Derived.Test.YtdokiccfjbieiaeDoorIsaQ1
import Derived.Test.YtdokiccfjbieiaeDoorIsaQ2
import Derived.Test.YtdokiccfjbieiaeDoorIsaQ3
import Derived.Test.YtdokiccfjbieiaeDoorIsaQ4
import Derived.Test.YtdokiccfjbieiaeDoorIsaQ5
namespace Go.Proofs.YtdokiccfjbieiaeDoor
open Go.RowKit

theorem text_is {s : ByteArray} {l : List UInt8} : (s.toList == l) = decide (s = ⟨l.toArray⟩) := by
  by_cases h : s = ⟨l.toArray⟩
  · subst h; simp [ByteArray.toList_eq]
  · rw [text_no l h]; simp [h]
theorem specRight_any (op : ByteArray) (b : Bool) (m r n : Int) (l : Bool) (m2 r2 n2 : Int) (l2 : Bool) (j : Int) (w : World) :
    Calls Tryd.prog 9 #[.agg #[.string op, .bool b, .int .i64 m, .int .i64 r, .int .i64 n, .bool l, .int .i64 m2, .int .i64 r2, .int .i64 n2, .bool l2, .int .i64 j]] w fun e w' => e = .returned (.bool (insnB op b m r n l m2 r2 n2 l2 j)) ∧ Below w.heap.size w w' := by
  unfold insnB rightB
  by_cases h1 : 0 ≤ atI twosL op
  · rw [if_pos h1]; exact right_two _ _ _ op b m r n l m2 r2 n2 l2 j w rfl rfl rfl h1
  rw [if_neg h1]
  by_cases h2 : 0 ≤ atI jumpsL op
  · rw [if_pos h2]; exact right_jump _ _ _ op b m r n l m2 r2 n2 l2 j w rfl rfl rfl h1 h2
  rw [if_neg h2]
  by_cases h3 : op = ⟨#[114, 101, 116, 105]⟩
  · rw [if_pos h3]; exact right_reti _ _ _ op b m r n l m2 r2 n2 l2 j w rfl rfl rfl h1 h2 (by rw [text_is]; simpa using h3)
  rw [if_neg h3]
  have h3' := text_no [114, 101, 116, 105] h3
  by_cases h4 : atI onesL op < 0
  · rw [if_pos h4]; exact right_none _ _ _ op b m r n l m2 r2 n2 l2 j w rfl rfl rfl h1 h2 h3' (by simpa using h4)
  rw [if_neg h4]
  have h4' : decide (atI onesL op < 0) = false := by simpa using h4
  cases hs : srcB m r n l
  · exact right_src _ _ _ op b m r n l m2 r2 n2 l2 j w rfl rfl rfl h1 h2 h3' h4' hs
  cases hz : zeroB m2 r2 n2 l2
  · exact right_dst _ _ _ op b m r n l m2 r2 n2 l2 j w rfl rfl rfl h1 h2 h3' h4' hs hz
  cases hj : (j == 0)
  · exact right_jmp _ _ _ op b m r n l m2 r2 n2 l2 j w rfl rfl rfl h1 h2 h3' h4' hs hz hj
  exact right_one _ _ _ op b m r n l m2 r2 n2 l2 j w rfl rfl rfl _ _ _ _ h1 h2 h3' h4' hs hz hj text_is text_is text_is text_is
end Go.Proofs.YtdokiccfjbieiaeDoor
