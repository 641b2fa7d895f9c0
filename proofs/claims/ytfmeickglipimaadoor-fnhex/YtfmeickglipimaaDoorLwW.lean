/- lwWords of the laws: two rows of numbers that are read, held against each other. -/
import Derived.Test.YtfmeickglipimaaDoorRows
import Derived.WalkKit
import Derived.WalkSpells
import Derived.WalkLawsBesides
import Derived.Outline
import Derived.RegionTactic
import Derived.BigRegion
import Derived.Deep.QuietTactic
import Derived.BigQuiet
import Derived.Test.YtfmeickglipimaaDoorBase
import Derived.Test.YtfmeickglipimaaDoorRes2
import Derived.Test.YtfmeickglipimaaDoorOwn
import Derived.Test.YtfmeickglipimaaDoorWordsR
namespace Go.Proofs.YtfmeickglipimaaDoor
open Go.RowKit
set_option linter.unusedVariables false

set_option maxRecDepth 100000 in
set_option maxHeartbeats 1600000 in
theorem lwWords_any (a1 a2 : Option Addr) (c1 c2 : Nat) (L1 L2 : List Int) (w : World) (h1 : ReadI w a1 L1) (h2 : ReadI w a2 L2) (hs : L1.length ≤ 2000000) (hs2 : L2.length ≤ 2000000) :
    Calls Tryd.prog 9 #[.slice a1 L1.length c1, .slice a2 L2.length c2] w fun e w' => e = .returned (.bool (decide (L1 = L2))) ∧ Below w.heap.size w w' := by
  have HF1 : Hid (ReadI w a1 L1) := h1
  have HF2 : Hid (ReadI w a2 L2) := h2
  clear h1 h2
  by_cases hl : L1.length = L2.length
  · have HL : Hid (_ = _) := hl
    have hlb : ((L1.length : Int) != (L2.length : Int)) = false := by simp [hl]
    clear hl
    go_enter Tryd.func9, Tryd.ntmps9
    go_wp2
    go_loopw [5] (fun i wr => ∃ k : Nat, k ≤ L1.length ∧ i = .int .i64 k ∧ Hid (Below w.heap.size w wr) ∧ Hid (L1 = L2 ↔ L1.drop k = L2.drop k)) (fun i _ => L1.length - (intOf i).toNat)
    case atStart => exact ⟨0, by omega, rfl, Below.refl _ _, Iff.rfl⟩
    case round =>
      obtain ⟨k, hk, rfl, HB, HE⟩ := hrel
      by_cases hlt : k < L1.length
      · have hlt2 : k < L2.length := by have := HL.out; omega
        obtain ⟨g1, rfl, _, hc1⟩ := (HF1.out.below HB.out) (by omega)
        obtain ⟨g2, rfl, _, hc2⟩ := (HF2.out.below HB.out) (by omega)
        have hw1 := hc1 k hlt
        have hw2 := hc2 k hlt2
        clear hc1 hc2
        have hi0 : (0 : Int) ≤ (k : Int) := by omega
        have hi1 : (k : Int) < (L1.length : Int) := by omega
        have hi2 : (k : Int) < (L2.length : Int) := by omega
        have HS : Hid (∀ he : L1[k] = L2[k], (L1.drop k = L2.drop k ↔ L1.drop (k + 1) = L2.drop (k + 1))) := fun he => eq_step HL.out k hlt he
        have HN : Hid (¬ L1[k] = L2[k] → ¬ L1 = L2) := fun he => eq_stop k hlt hlt2 he
        generalize hx : L1[k] = x at *
        generalize hy : L2[k] = y at *
        clear hx hy
        by_cases he : x = y
        · subst he
          have hne : (x != x) = false := by simp
          go_wp2
          go_quiet (fail)
          go_wp2
          go_roundw
          case rel => exact ⟨k + 1, by omega, by go_num, below_drewN HB.out _, HE.out.trans (HS.out trivial)⟩
          case measure => simp [intOf]; omega
        · have hne : (x != y) = true := by simpa using he
          go_wp2
          go_quiet (fail)
          go_wp2
          go_ret
          exact ⟨ret_bool (by simp [HN.out he]), below_drewN HB.out _⟩
      · have HD : Hid (L1 = L2) := HE.out.2 (by rw [List.drop_of_length_le (by omega), List.drop_of_length_le (by have := HL.out; omega)])
        go_wp2
        go_ret
        exact ⟨ret_bool (by simp [HD.out]), HB.out⟩
  · have HD : Hid (¬ L1 = L2) := fun e => hl (by rw [e])
    have hlb : ((L1.length : Int) != (L2.length : Int)) = true := by simpa using (fun e => hl (by omega) : ¬ (L1.length : Int) = L2.length)
    clear hl
    go_enter Tryd.func9, Tryd.ntmps9
    go_wp2
    go_ret
    exact ⟨ret_bool (by simp [HD.out]), Below.refl _ _⟩
end Go.Proofs.YtfmeickglipimaaDoor
