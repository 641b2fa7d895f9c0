/- The walk of the law on CacheRight. -/
import Derived.Test.YtcnjeeckkpiilaaRows
import Derived.WalkKit
import Derived.WalkSpells
import Derived.WalkLawsBesides
import Derived.Outline
import Derived.Test.YtcnjeeckkpiilaaBase
import Derived.Test.YtcnjeeckkpiilaaRes2
import Derived.Test.YtcnjeeckkpiilaaSrcA
import Derived.Test.YtcnjeeckkpiilaaEntA
import Derived.Test.YtcnjeeckkpiilaaEntR
import Derived.Test.YtcnjeeckkpiilaaEntP
import Derived.Test.YtcnjeeckkpiilaaOpenEnt
namespace Go.Proofs.Ytcnjeeckkpiilaa
open Go.RowKit
set_option linter.unusedVariables false

set_option maxRecDepth 100000 in
set_option maxHeartbeats 1600000 in
theorem lawCache_walk (a : Option Addr) (L : List Src) (cap : Nat) (w : World) (hR : RowIs 2 srcC w a L) (hl : L.length ≤ maxLen) (hs : ∀ s ∈ L, textsFitE s) : Calls Try.prog 6 #[.slice a L.length cap] w fun e w' => e = .returned (.bool true) ∧ Below w.heap.size w w' := by
  have HR : Hid (RowIs 2 srcC w a L) := hR
  have HL : Hid (L.length ≤ maxLen) := hl
  have HS : Hid (∀ s ∈ L, textsFitE s) := hs
  clear hR hl hs
  go_enter Try.func6, Try.ntmps6
  go_wp2_with fail
  refine (szEntryS_any a L cap 1048576 w (by omega) (by omega) HR.out HL.out HS.out).mono ?_
  rintro e x1 ⟨r, rfl, hr1, hr, hb⟩
  have HB1 : Hid (Below w.heap.size w x1) := hb
  have HR1 : Hid (RowIs 2 srcC x1 a L) := HR.out.below hb
  have HF : Hid (¬ r < 0 → L.length ≤ 1048576 ∧ ∀ s ∈ L, fitsS s) := hr
  clear hb hr HR HL HS
  by_cases hneg : r < 0
  · go_wp2
    go_ret
    exact ⟨rfl, HB1.out⟩
  · obtain ⟨hl, hfit⟩ := HF.out hneg
    have HFT : Hid (∀ s ∈ L, fitsS s) := hfit
    clear hfit HF
    go_wp2_with fail
    refine (toEntryS_any a L cap x1 HR1.out (by omega)).mono ?_
    rintro e x2 ⟨rfl, hm, hb⟩
    have HB2 : Hid (Below w.heap.size w x2) := below_call HB1.out hb
    have HR2 : Hid (RowIs 2 srcC x2 a L) := HR1.out.below hb
    have HM2 : Hid (RowIs 2 srcC x2 (some ⟨x1.heap.size, 0, none⟩) L) := made_rowIs srcC_len hm
    clear hb hm HB1 HR1
    go_wp2_with fail
    refine (specCache_any _ L _ x2 HM2.out (by omega) HFT.out (Nat.le_refl _)).mono ?_
    rintro e x3 ⟨rfl, hb⟩
    have HB3 : Hid (Below w.heap.size w x3) := below_call HB2.out hb
    have HR3 : Hid (RowIs 2 srcC x3 a L) := HR2.out.below hb
    clear hb HB2 HR2 HM2
    go_wp2_with fail
    refine (toEntryS_any a L cap x3 HR3.out (by omega)).mono ?_
    rintro e x4 ⟨rfl, hm, hb⟩
    have HB4 : Hid (Below w.heap.size w x4) := below_call HB3.out hb
    have HR4 : Hid (RowIs 2 srcC x4 a L) := HR3.out.below hb
    have HM4 : Hid (RowIs 2 srcC x4 (some ⟨x3.heap.size, 0, none⟩) L) := made_rowIs srcC_len hm
    clear hb hm HB3 HR3
    go_wp2_with fail
    refine (implCache_any _ L _ x4 HM4.out (by omega) HFT.out (Nat.le_refl _)).mono ?_
    rintro e x5 ⟨rfl, hb⟩
    have HB5 : Hid (Below w.heap.size w x5) := below_call HB4.out hb
    have HR5 : Hid (RowIs 2 srcC x5 a L) := HR4.out.below hb
    have HM5 : Hid (RowIs 2 srcC x5 (some ⟨x3.heap.size, 0, none⟩) L) := HM4.out.below hb
    clear hb HB4 HR4 HM4
    go_wp2_with fail
    refine (toEntryS_any a L cap x5 HR5.out (by omega)).mono ?_
    rintro e x6 ⟨rfl, hm, hb⟩
    have HB6 : Hid (Below w.heap.size w x6) := below_call HB5.out hb
    have HM6 : Hid (RowIs 2 srcC x6 (some ⟨x3.heap.size, 0, none⟩) L) := HM5.out.below hb
    have HN6 : Hid (RowIs 2 srcC x6 (some ⟨x5.heap.size, 0, none⟩) L) := made_rowIs srcC_len hm
    clear hb hm HB5 HR5 HM5
    go_wp2_with fail
    refine (eqEntryS_any _ _ L _ _ x6 HM6.out HN6.out (by omega)).mono ?_
    rintro e x7 ⟨rfl, hb⟩
    have HB7 : Hid (Below w.heap.size w x7) := below_call HB6.out hb
    clear hb HB6 HM6 HN6
    go_wp2
    go_ret
    exact ⟨rfl, HB7.out⟩
end Go.Proofs.Ytcnjeeckkpiilaa
