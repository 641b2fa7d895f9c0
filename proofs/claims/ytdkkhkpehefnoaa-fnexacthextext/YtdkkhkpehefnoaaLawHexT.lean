/- The walk of the law on HexText. -/
import Derived.Test.YtdkkhkpehefnoaaRows
import Derived.WalkKit
import Derived.WalkSpells
import Derived.WalkLawsBesides
import Derived.Outline
import Derived.Deep.RegionHeld3
import Derived.Test.YtdkkhkpehefnoaaBase
import Derived.Test.YtdkkhkpehefnoaaRes2
import Derived.Test.YtdkkhkpehefnoaaOwn
import Derived.Test.YtdkkhkpehefnoaaToWords
import Derived.Test.YtdkkhkpehefnoaaHexS
import Derived.Test.YtdkkhkpehefnoaaHexT
import Derived.Test.YtdkkhkpehefnoaaOpenInts
namespace Go.Proofs.Ytdkkhkpehefnoaa
open Go.RowKit
set_option linter.unusedVariables false

set_option maxRecDepth 100000 in
set_option maxHeartbeats 1600000 in
theorem lawHexText_walk (b : Int) (a : Option Addr) (L : List Int) (cap : Nat) (w : World) (hR : ReadI w a L) (hm : L.length ≤ maxLen) :
    Calls Try.prog 3 #[.int .i64 b, .slice a L.length cap] w fun e w' => e = .returned (.bool true) ∧ Below w.heap.size w w' := by
  have HR : Hid (ReadI w a L) := hR
  unfold maxLen at hm
  clear hR
  by_cases hbig : 1048576 < L.length
  · have hb' : (1048576 : Int) < (L.length : Int) := by omega
    go_enter Try.func3, Try.ntmps3
    go_wp2
    go_ret
    exact ⟨rfl, Below.refl _ _⟩
  have hs : ¬ (1048576 : Int) < (L.length : Int) := by omega
  go_enter Try.func3, Try.ntmps3
  go_wp2_with fail
  refine (toInt64S_any a L cap _ HR.out (by omega)).mono ?_
  rintro e x1 ⟨rfl, hg1, hb1⟩
  have HG1 : Hid (_ = _) := hg1
  have HB1 : Hid (Below w.heap.size w x1) := hb1
  clear hg1 hb1
  go_wp2_with fail
  refine (specHex_any b _ L _ x1 (made_read HG1.out) (by omega)).mono ?_
  rintro e x2 ⟨rfl, hb⟩
  have HB2 : Hid (Below w.heap.size w x2) := below_call HB1.out hb
  clear hb HG1 HB1
  go_wp2_with fail
  refine (toInt64S_any a L cap _ (HR.out.below HB2.out) (by omega)).mono ?_
  rintro e x3 ⟨rfl, hg1, hb1⟩
  have HG3 : Hid (_ = _) := hg1
  have HB3 : Hid (Below w.heap.size w x3) := below_call HB2.out hb1
  have hsz2 := HB2.out.size
  clear hg1 hb1
  go_wp2_with fail
  refine (implHex_any b _ L _ x3 (made_read HG3.out) (by omega) (Nat.le_refl _) (by unfold maxLen; omega)).mono ?_
  rintro e x4 ⟨rfl, hb⟩
  have HG4 : Hid (_ = _) := heap_keep HG3.out hb
  have HB4 : Hid (Below w.heap.size w x4) := below_call HB3.out hb
  clear hb HG3 HB3
  have heq : ((hexT b L).toList == (hexT b L).toList) = true := by simp
  go_wp2_with fail
  refine (toInt64S_any a L cap _ (HR.out.below HB4.out) (by omega)).mono ?_
  rintro e x5 ⟨rfl, hg1, hb1⟩
  have HG5 : Hid (_ = _) := hg1
  have HG6 : Hid (_ = _) := heap_keep HG4.out hb1
  have HB5 : Hid (Below w.heap.size w x5) := below_call HB4.out hb1
  clear hg1 hb1 HG4 HB4
  go_wp2_with fail
  refine (eqInt64S_any _ _ 0 0 L L x5 (made_own HG6.out (Nat.zero_le _) (by omega)) (made_own HG5.out (Nat.zero_le _) (by omega)) (by omega) (by omega)).mono ?_
  rintro e x6 ⟨rfl, hb⟩
  have HB6 : Hid (Below w.heap.size w x6) := below_call HB5.out hb
  have hdd : decide (L = L) = true := by simp
  go_wp2
  go_ret
  exact ⟨rfl, HB6.out⟩
end Go.Proofs.Ytdkkhkpehefnoaa
