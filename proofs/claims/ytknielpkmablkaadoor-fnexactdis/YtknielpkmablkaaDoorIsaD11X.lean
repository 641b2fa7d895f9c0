/- Instructions: l02First of the specification, one form for all words. -/
import Derived.Test.YtknielpkmablkaaDoorRows
import Derived.WalkKit
import Derived.Test.YtknielpkmablkaaDoorBun15
import Derived.Test.YtknielpkmablkaaDoorIsaD8X
import Derived.Test.YtknielpkmablkaaDoorIsaD9X
import Derived.Test.YtknielpkmablkaaDoorIsaD10X
namespace Go.Proofs.YtknielpkmablkaaDoor
open Go.RowKit
set_option linter.unusedVariables false

def dstO (a r : Int) : Int × Int × Int × Bool := if a = 0 then (0, r, 0, false) else opdT 1 r
def bit (b : Bool) : Int := if b then 1 else 0
structure Fst where
  i : Ins
  n : Bool
  m : Bool
  ok : Bool
def firstS (w : Int) : Fst :=
  if w = 4864 then ⟨retiIns, false, false, true⟩
  else if 8192 ≤ w ∧ w < 16384 then ⟨jumpIns (w / 1024 % 8).toNat ((w + 512) % 1024 - 512), false, false, true⟩
  else if w < 4096 ∨ 4864 ≤ w ∧ w < 16384 then ⟨zeroIns, false, false, false⟩
  else if w < 8192 then ⟨oneIns (w / 128 % 8).toNat (w / 64 % 2 == 1) (opdT (w / 16 % 4) (w % 16)), (opdT (w / 16 % 4) (w % 16)).2.2.2, false, (oneIns (w / 128 % 8).toNat (w / 64 % 2 == 1) (opdT (w / 16 % 4) (w % 16))).right⟩
  else ⟨twoIns (w / 4096 - 4).toNat (w / 64 % 2 == 1) (opdT (w / 16 % 4) (w / 256 % 16)).1 (opdT (w / 16 % 4) (w / 256 % 16)).2.1 (opdT (w / 16 % 4) (w / 256 % 16)).2.2.1 (dstO (w / 128 % 2) (w % 16)).1 (dstO (w / 128 % 2) (w % 16)).2.1 (dstO (w / 128 % 2) (w % 16)).2.2.1, (opdT (w / 16 % 4) (w / 256 % 16)).2.2.2, (dstO (w / 128 % 2) (w % 16)).2.2.2, (twoIns (w / 4096 - 4).toNat (w / 64 % 2 == 1) (opdT (w / 16 % 4) (w / 256 % 16)).1 (opdT (w / 16 % 4) (w / 256 % 16)).2.1 (opdT (w / 16 % 4) (w / 256 % 16)).2.2.1 (dstO (w / 128 % 2) (w % 16)).1 (dstO (w / 128 % 2) (w % 16)).2.1 (dstO (w / 128 % 2) (w % 16)).2.2.1).right⟩
theorem first_any (word : Int) (w : World) (h0 : 0 ≤ word) (h1 : word ≤ 65535) : Calls Tryd.prog 34 #[.int .i64 word] w fun e w' => e = .returned (.tuple #[.agg (firstS word).i.vals, .int .i64 (bit (firstS word).n), .int .i64 (bit (firstS word).m), .bool (firstS word).ok]) ∧ Below w.heap.size w w' := by
  unfold firstS
  by_cases c1 : word = 4864
  · subst c1; exact first_reti w
  rw [if_neg c1]
  by_cases c2 : 8192 ≤ word ∧ word < 16384
  · rw [if_pos c2]; exact first_jump word _ w c2.1 c2.2 (by omega) (by omega)
  rw [if_neg c2]
  by_cases c3 : word < 4096 ∨ 4864 ≤ word ∧ word < 16384
  · rw [if_pos c3]; exact first_no word w h0 (by omega)
  rw [if_neg c3]
  by_cases c4 : word < 8192
  · rw [if_pos c4]; exact first_one word (word / 128 % 8).toNat _ _ _ _ w (by omega) (by omega) (by omega) (by omega) rfl
  rw [if_neg c4]
  by_cases c5 : word / 128 % 2 = 0
  · have e : dstO (word / 128 % 2) (word % 16) = (0, word % 16, 0, false) := by unfold dstO; rw [if_pos c5]
    rw [e]
    exact first_two0 word (word / 4096 - 4).toNat _ _ _ _ w (by omega) h1 (by omega) (by omega) rfl c5
  · have e : dstO (word / 128 % 2) (word % 16) = opdT 1 (word % 16) := by unfold dstO; rw [if_neg c5]
    rw [e]
    exact first_two1 word (word / 4096 - 4).toNat _ _ _ _ _ _ _ _ w (by omega) h1 (by omega) (by omega) rfl (by omega) rfl
end Go.Proofs.YtknielpkmablkaaDoor
