/- Instructions: what the program's own small functions answer. -/
import Derived.Test.YtdokiccfjbieiaeDoorRows
import Derived.WalkKit
import Derived.WalkSpells
import Derived.WalkLawsBesides
import Derived.Test.YtdokiccfjbieiaeDoorBase
import Derived.Test.YtdokiccfjbieiaeDoorIsa
import Derived.Test.YtdokiccfjbieiaeDoorRes
import Derived.Test.YtdokiccfjbieiaeDoorIsa2
namespace Go.Proofs.YtdokiccfjbieiaeDoor
open Go.RowKit

theorem isWord_any (n : Int) (w : World) : Calls Tryd.prog 69 #[.int .i64 n] w fun e w' => e = .returned (.bool (isB n 0 65535)) ∧ w' = w := by
  by_cases h1 : 0 ≤ n
  · go_enter Tryd.func69, Tryd.ntmps69
    go_wp2
    go_ret
    exact ⟨ret_bool (by simp [isB, h1]), rfl⟩
  · go_enter Tryd.func69, Tryd.ntmps69
    go_wp2
    go_ret
    exact ⟨ret_bool (by simp [isB]; omega), rfl⟩
theorem isReg_any (n : Int) (w : World) : Calls Tryd.prog 80 #[.int .i64 n] w fun e w' => e = .returned (.bool (isB n 0 15)) ∧ w' = w := by
  by_cases h1 : 0 ≤ n
  · go_enter Tryd.func80, Tryd.ntmps80
    go_wp2
    go_ret
    exact ⟨ret_bool (by simp [isB, h1]), rfl⟩
  · go_enter Tryd.func80, Tryd.ntmps80
    go_wp2
    go_ret
    exact ⟨ret_bool (by simp [isB]; omega), rfl⟩
theorem holdsAddress_any (r : Int) (w : World) : Calls Tryd.prog 79 #[.int .i64 r] w fun e w' => e = .returned (.bool (plainB r)) ∧ w' = w := by
  go_enter Tryd.func79, Tryd.ntmps79
  go_wp2_with fail
  refine (isReg_any r _).mono ?_
  rintro e w1 ⟨rfl, rfl⟩
  cases h : isB r 0 15
  · go_wp2
    go_ret
    exact ⟨ret_bool (by simp [plainB, h]), rfl⟩
  · go_wp2
    all_goals
      go_ret
      exact ⟨ret_bool (by simp_all [plainB]), rfl⟩
/- The two tables, as the program lays them. -/
def namesL : List (List ByteArray) :=
  [⟨#[]⟩ :: ⟨#[]⟩ :: ⟨#[]⟩ :: ⟨#[]⟩ :: twosL, onesL ++ List.replicate 9 ⟨#[]⟩, jumpsL ++ List.replicate 8 ⟨#[]⟩]
def namesV : Array Value := (namesL.flatten.map Value.string).toArray
def shortsL : List Int := [0, 0, 3, 1, 1, 3, 2, 2, 3, 65535, 3, 3, 4, 2, 2, 8, 3, 2]
def shortsV : Array Value := (shortsL.map (Value.int .i64)).toArray
structure Tabs (w : World) : Prop where
  ops : ∃ t fr, w.heap[0]? = some (.cells namesV t fr)
  shorts : ∃ t fr, w.heap[1]? = some (.cells shortsV t fr)
theorem Tabs.below {w w' : World} (h : Tabs w) (hb : Below w.heap.size w w') : Tabs w' := by
  obtain ⟨⟨t, fr, h1⟩, ⟨u, fs, h2⟩⟩ := h
  exact ⟨⟨t, fr, heap_keep h1 hb⟩, ⟨u, fs, heap_keep h2 hb⟩⟩
theorem Tabs.alloc {w : World} (h : Tabs w) (o : Obj) : Tabs (w.alloc o) := h.below ((Below.refl _ _).alloc (Nat.le_refl _) _)
theorem Tabs.drew {w : World} (h : Tabs w) : Tabs w.drew := ⟨h.ops, h.shorts⟩
theorem namesV_size : namesV.size = 48 := by kernel_rfl
theorem shortsV_size : shortsV.size = 18 := by kernel_rfl
end Go.Proofs.YtdokiccfjbieiaeDoor
