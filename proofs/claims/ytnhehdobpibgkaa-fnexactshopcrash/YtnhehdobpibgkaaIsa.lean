/- Instructions: what the specification's small functions answer. -/
import Derived.Test.YtnhehdobpibgkaaRows
import Derived.WalkKit
import Derived.WalkSpells
import Derived.WalkLawsBesides
import Derived.Test.YtnhehdobpibgkaaBase
namespace Go.Proofs.Ytnhehdobpibgkaa
open Go.RowKit

structure Opd where
  mode : Int
  reg : Int
  n : Int
  long : Bool
def Opd.val (o : Opd) : Value := .agg #[.int .i64 o.mode, .int .i64 o.reg, .int .i64 o.n, .bool o.long]
def isB (n low high : Int) : Bool := decide (low ≤ n) && decide (n ≤ high)
theorem l02Is_any (n low high : Int) (w : World) : Calls Try.prog 9 #[.int .i64 n, .int .i64 low, .int .i64 high] w fun e w' => e = .returned (.bool (isB n low high)) ∧ w' = w := by
  by_cases h1 : low ≤ n
  · go_enter Try.func9, Try.ntmps9
    go_wp2
    go_ret
    exact ⟨ret_bool (by simp [isB, h1]), rfl⟩
  · go_enter Try.func9, Try.ntmps9
    go_wp2
    go_ret
    exact ⟨ret_bool (by simp [isB]; omega), rfl⟩
def plainB (r : Int) : Bool := isB r 0 15 && (r != 2 && r != 3)
def shortI (n : Int) : Int × Int × Bool :=
  if n = 0 ∨ n = 1 ∨ n = 2 then (n, 3, true) else if n = 65535 then (3, 3, true) else if n = 4 then (2, 2, true) else if n = 8 then (3, 2, true) else (3, 0, false)
theorem ret_three {a b a' b' : Int} {c c' : Bool} (h : (a, b, c) = (a', b', c')) : Ending.returned (.tuple #[.int .i64 a, .int .i64 b, .bool c]) = .returned (.tuple #[.int .i64 a', .int .i64 b', .bool c']) := by
  cases h; rfl
def srcB (m r n : Int) (l : Bool) : Bool :=
  if m = 0 then isB r 0 15 && (r != 3) && (n == 0) && !l
  else if m = 1 then plainB r && isB n 0 65535 && !l
  else if m = 2 then (r == 0) && isB n 0 65535 && !l
  else if m = 3 then plainB r && (n == 0) && !l
  else if m = 4 then plainB r && (r != 0) && (n == 0) && !l
  else if m = 5 then (r == 0) && isB n 0 65535 && (!l || (shortI n).2.2)
  else false
end Go.Proofs.Ytnhehdobpibgkaa
