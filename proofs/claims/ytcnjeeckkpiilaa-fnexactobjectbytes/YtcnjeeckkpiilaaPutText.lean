/- The walks of PutText, in both ways. -/
import Derived.Test.YtcnjeeckkpiilaaRows
import Derived.WalkKit
import Derived.WalkSpells
import Derived.WalkLawsBesides
import Derived.Test.YtcnjeeckkpiilaaBase
import Derived.Test.YtcnjeeckkpiilaaPutNum
import Derived.Test.YtcnjeeckkpiilaaJoin
namespace Go.Proofs.Ytcnjeeckkpiilaa
open Go.RowKit

def putT (s : ByteArray) : ByteArray := if 8000 < s.size then ⟨#[]⟩ else putS (foldN (s.size : Int)) ++ s
set_option maxHeartbeats 400000 in
theorem specPutText_any (s : ByteArray) (w : World) (hs0 : s.size ≤ maxLen) :
    Calls Try.prog 68 #[.string s] w fun e w' => e = .returned (.string (putT s)) ∧ Below w.heap.size w w' := by
  unfold maxLen at hs0
  by_cases h1 : 8000 < s.size
  · have HI : Hid (putT s = _) := if_pos h1
    go_enter Try.func68, Try.ntmps68
    go_wp2
    go_ret
    exact ⟨ret_str HI.out.symm, Below.refl _ _⟩
  · have HI : Hid (putT s = _) := if_neg h1
    have hp := putS_le (foldN (s.size : Int))
    go_enter Try.func68, Try.ntmps68
    go_wp2_with fail
    refine (specPutNum_any (s.size : Int) _ (by omega) (by omega)).mono ?_
    rintro e w1 ⟨rfl, hb⟩
    go_wp2
    go_ret
    exact ⟨ret_str HI.out.symm, hb⟩
set_option maxHeartbeats 400000 in
theorem implPutText_any (s : ByteArray) (w : World) (hs0 : s.size ≤ maxLen) :
    Calls Try.prog 78 #[.string s] w fun e w' => e = .returned (.string (putT s)) ∧ Below w.heap.size w w' := by
  unfold maxLen at hs0
  by_cases h1 : 8000 < s.size
  · have HI : Hid (putT s = _) := if_pos h1
    go_enter Try.func78, Try.ntmps78
    go_wp2
    go_ret
    exact ⟨ret_str HI.out.symm, Below.refl _ _⟩
  · have HI : Hid (putT s = _) := if_neg h1
    have hp := putS_le (foldN (s.size : Int))
    go_enter Try.func78, Try.ntmps78
    go_wp2_with fail
    refine (implPutNum_any (s.size : Int) _ (by omega) (by omega)).mono ?_
    rintro e w1 ⟨rfl, hb⟩
    go_wp2_with fail
    refine (join_two (putS (foldN (s.size : Int))) s _ (by omega)).mono ?_
    rintro e w2 ⟨rfl, hb2⟩
    go_wp2
    go_ret
    exact ⟨ret_str HI.out.symm, hb.trans (hb2.mono hb.size)⟩
end Go.Proofs.Ytcnjeeckkpiilaa
