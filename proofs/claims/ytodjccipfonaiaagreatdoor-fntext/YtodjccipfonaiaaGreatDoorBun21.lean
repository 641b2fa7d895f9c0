/- Whether a text of a Word has a name, by the specification. -/
import Derived.Test.YtodjccipfonaiaaGreatDoorRows
import Derived.WalkKit
import Derived.WalkSpells
import Derived.WalkLawsBesides
import Derived.Outline
import Derived.Test.YtodjccipfonaiaaGreatDoorBun0
import Derived.Test.YtodjccipfonaiaaGreatDoorBun1
import Derived.Test.YtodjccipfonaiaaGreatDoorInsS3X
import Derived.RegionTactic
import Derived.BigRegion
import Derived.Deep.QuietTactic
import Derived.BigQuiet
import Derived.Deep.RegionHeld3
import Derived.Test.YtodjccipfonaiaaGreatDoorBun3
import Derived.Test.YtodjccipfonaiaaGreatDoorOpsAX
namespace Go.Proofs.YtodjccipfonaiaaGreatDoor
open Go.RowKit
set_option linter.unusedVariables false

def namedR (t : ByteArray) : Bool := match wordR t with | some x => !decide (x.1 = ⟨#[]⟩) | none => false
set_option maxRecDepth 100000 in
set_option maxHeartbeats 1600000 in
theorem l03Named_any (t : ByteArray) (w : World) (ht : t.size ≤ maxLen) : Calls Tryz.prog 47 #[.string t] w fun e w' => e = .returned (.bool (namedR t)) ∧ Below w.heap.size w w' := by
  go_enter Tryz.func47, Tryz.ntmps47
  go_wp2_with fail
  refine (l03Word_any t _ ht).mono ?_
  rintro e x1 ⟨nm, n, ok, rfl, hW, hb⟩
  have HW : Hid (_ = _) := hW
  have HB : Hid (Below w.heap.size w x1) := hb
  clear hW hb
  cases ok
  · go_wp2
    go_ret
    exact ⟨ret_bool (by unfold namedR; rw [HW.out]; rfl), below_more HB.out _⟩
  · by_cases hn : nm = ⟨#[]⟩
    · have HN : Hid (nm = ⟨#[]⟩) := hn
      have h1 : (nm.toList == []) = true := by rw [hn, ByteArray.toList_eq]; rfl
      clear hn
      go_wp2
      go_ret
      exact ⟨ret_bool (by unfold namedR; rw [HW.out]; show _ = !decide (nm = ⟨#[]⟩); rw [decide_eq_true HN.out]; rfl), below_more HB.out _⟩
    · have HN : Hid (¬ nm = ⟨#[]⟩) := hn
      have h1 := text_no [] hn
      clear hn
      go_wp2
      go_ret
      exact ⟨ret_bool (by unfold namedR; rw [HW.out]; show _ = !decide (nm = ⟨#[]⟩); rw [decide_eq_false HN.out]; rfl), below_more HB.out _⟩
end Go.Proofs.YtodjccipfonaiaaGreatDoor
namespace Go.Proofs.YtodjccipfonaiaaGreatDoor
open Go.RowKit
set_option linter.unusedVariables false

theorem ops_formR {w : World} {B : Nat} {v : Value} (h : OwnS w B v opsAll) : ∃ q c, v = .slice (some ⟨q, 0, none⟩) 27 c ∧ ∀ i (h : i < 27), w.cell? ⟨q, i, none⟩ = some (.string (opsAll[i]'h)) := by
  rcases h.form with ⟨_, h2⟩ | ⟨g, cap, cur, hv, hB, hg, h4, h5, h6, h7⟩
  · exact absurd h2 (by decide +kernel)
  · exact ⟨g, cap, hv, fun i hi => by rw [cell_of_row _ _ _ _ _ _ hg]; exact h7 i hi⟩
theorem ops_atR (q cap : Nat) (t : ByteArray) (w : World) (k : Int) (hk : atI opsAll t = k) (hc : ∀ i (h : i < 27), w.cell? ⟨q, i, none⟩ = some (.string (opsAll[i]'h))) : Calls Tryz.prog 53 #[.slice (some ⟨q, 0, none⟩) 27 cap, .string t] w fun e w' => e = .returned (.int .i64 k) ∧ w' = w := by
  subst hk
  exact l02At_any q opsAll cap t w (by decide +kernel) hc
def dotB : ByteArray := ⟨#[46, 98]⟩
def opPart (t : ByteArray) : ByteArray × Bool := if 2 < idxI 32 t ∧ t.extract (idxI 32 t - 2) (idxI 32 t) = ⟨#[46, 98]⟩ then (t.extract 0 (idxI 32 t - 2), true) else (t.extract 0 (idxI 32 t), false)
def restP (t : ByteArray) : ByteArray := if idxI 32 t < t.size then t.extract (idxI 32 t + 1) t.size else ⟨#[]⟩
abbrev InsO : Type := Ins × ByteArray × ByteArray
def insOf (op : ByteArray) (b : Bool) (x y : Int × Int × Int × Bool) (j : Int) : Ins := ⟨op, b, x.1, x.2.1, x.2.2.1, x.2.2.2, y.1, y.2.1, y.2.2.1, y.2.2.2, j⟩
def noO : Int × Int × Int × Bool := (0, 0, 0, false)
def twoM (op : ByteArray) (b : Bool) (x y : Option Opnd) (two : Bool) : Option InsO := match x, y, two with | some x, some y, true => some (insOf op b x.1 y.1 0, x.2, y.2) | _, _, _ => none
def oneM (op : ByteArray) (b : Bool) (x : Option Opnd) : Option InsO := match x with | some x => some (insOf op b x.1 noO 0, x.2, ⟨#[]⟩) | none => none
def jumpM (op : ByteArray) (b : Bool) (x : Option Int) : Option InsO := match x with | some j => some (insOf op b noO noO j, ⟨#[]⟩, ⟨#[]⟩) | none => none
/- An operation and what is behind it; whether all was the operation. -/
def readO (op : ByteArray) (b : Bool) (k : Int) (rest : ByteArray) (whole : Bool) : Option InsO :=
  if k < 0 then none
  else if k < 12 then twoM op b (opndR (splitR rest).1) (opndR (splitR rest).2.1) (splitR rest).2.2
  else if k < 18 then oneM op b (opndR rest)
  else if k = 18 then (if whole then some (insOf op b noO noO 0, ⟨#[]⟩, ⟨#[]⟩) else none)
  else jumpM op b (jumpR rest)
def readR (t : ByteArray) : Option InsO := readO (opPart t).1 (opPart t).2 (atI opsAll (opPart t).1) (restP t) (decide (idxI 32 t = t.size))
def ReadOut (t : ByteArray) (w : World) (e : Ending) (w' : World) : Prop := ∃ (i : Ins) (s d : ByteArray) (ok : Bool), e = .returned (.tuple #[.agg i.vals, .string s, .string d, .bool ok]) ∧ readR t = (if ok then some (i, s, d) else none) ∧ s.size ≤ maxLen ∧ d.size ≤ maxLen ∧ Below w.heap.size w w'
set_option maxHeartbeats 1600000 in
theorem below11 {B : Nat} {A W : World} {g : Nat} (a0 a1 a2 a3 a4 a5 a6 a7 a8 a9 a10 : Value) (hg : B ≤ g) (h : Below B A W) :
    Below B A (((((((((((W.setCell ⟨g, 0, none⟩ a0).setCell ⟨g, 1, none⟩ a1).setCell ⟨g, 2, none⟩ a2).setCell ⟨g, 3, none⟩ a3).setCell ⟨g, 4, none⟩ a4).setCell ⟨g, 5, none⟩ a5).setCell ⟨g, 6, none⟩ a6).setCell ⟨g, 7, none⟩ a7).setCell ⟨g, 8, none⟩ a8).setCell ⟨g, 9, none⟩ a9).setCell ⟨g, 10, none⟩ a10) :=
  ((((((((((h.setCell (p := ⟨g, 0, none⟩) hg a0).setCell (p := ⟨g, 1, none⟩) hg a1).setCell (p := ⟨g, 2, none⟩) hg a2).setCell (p := ⟨g, 3, none⟩) hg a3).setCell (p := ⟨g, 4, none⟩) hg a4).setCell (p := ⟨g, 5, none⟩) hg a5).setCell (p := ⟨g, 6, none⟩) hg a6).setCell (p := ⟨g, 7, none⟩) hg a7).setCell (p := ⟨g, 8, none⟩) hg a8).setCell (p := ⟨g, 9, none⟩) hg a9).setCell (p := ⟨g, 10, none⟩) hg a10
theorem frz11 {W : World} {B : Nat} {cs : Array Value} {t : TypeId} (h : W.heap[B]? = some (.cells cs t (0, 0))) (i : Nat) : W.frozen? ⟨B, i, none⟩ = false := frozen_of_row _ _ i _ _ h
theorem split_size {t a b : ByteArray} {two : Bool} (h : splitR t = (a, b, two)) : a.size ≤ t.size ∧ b.size ≤ t.size := by
  unfold splitR at h
  split at h
  · cases h
    refine ⟨by rw [ByteArray.size_extract]; omega, ?_⟩
    unfold noBlank
    split
    · rw [ByteArray.size_extract, ByteArray.size_extract]; omega
    · rw [ByteArray.size_extract]; omega
  · cases h
    exact ⟨Nat.le_refl _, Nat.zero_le _⟩
end Go.Proofs.YtodjccipfonaiaaGreatDoor
