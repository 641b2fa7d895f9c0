/- The walks of Seal and Unseal. -/
import Derived.Test.YthmobogbaijndaaRows
import Derived.WalkKit
import Derived.WalkSpells
import Derived.WalkLawsBesides
import Derived.Test.YthmobogbaijndaaBase
import Derived.Test.YthmobogbaijndaaCrc
import Derived.Test.YthmobogbaijndaaJoin
import Derived.Test.YthmobogbaijndaaFour
namespace Go.Proofs.Ythmobogbaijndaa
open Go.RowKit

def sealB (s : ByteArray) : ByteArray := if 7996 < s.size then ⟨#[]⟩ else s ++ four (crcOf 0 s)

set_option maxHeartbeats 400000 in
theorem specSeal_any (s : ByteArray) (w : World) (hs0 : s.size ≤ maxLen) :
    Calls Try.prog 6 #[.string s] w fun e w' => e = .returned (.string (sealB s)) ∧ Below w.heap.size w w' := by
  unfold maxLen at hs0
  by_cases h1 : 7996 < s.size
  · have HI : Hid (sealB s = _) := if_pos h1
    go_enter Try.func6, Try.ntmps6
    go_wp2
    go_ret
    exact ⟨ret_str HI.out.symm, Below.refl _ _⟩
  · have HI : Hid (sealB s = _) := if_neg h1
    have hs : s.size ≤ 8000 := by omega
    have hc := crcOf_lt 0 s (by omega)
    have h4 := four_size (crcOf 0 s)
    go_enter Try.func6, Try.ntmps6
    go_wp2_with fail
    refine (l01Crc_any 0 s _ (by omega) hs).mono ?_
    rintro e w' ⟨rfl, rfl⟩
    go_wp2_with fail
    refine (l01Four_any (crcOf 0 s) _ hc).mono ?_
    rintro e w1 ⟨rfl, hb⟩
    go_wp2
    go_ret
    exact ⟨ret_str HI.out.symm, hb⟩
set_option maxHeartbeats 400000 in
theorem implSeal_any (s : ByteArray) (w : World) (hs0 : s.size ≤ maxLen) :
    Calls Try.prog 5 #[.string s] w fun e w' => e = .returned (.string (sealB s)) ∧ Below w.heap.size w w' := by
  have hs1 := hs0
  unfold maxLen at hs0
  by_cases h1 : 7996 < s.size
  · have HI : Hid (sealB s = _) := if_pos h1
    go_enter Try.func5, Try.ntmps5
    go_wp2
    go_ret
    exact ⟨ret_str HI.out.symm, Below.refl _ _⟩
  · have HI : Hid (sealB s = _) := if_neg h1
    have hs : s.size ≤ 8000 := by omega
    have hc := crcOf_lt 0 s (by omega)
    have h4 := four_size (crcOf 0 s)
    have HJ : Hid (crcI s = (crcOf 0 s : Nat)) := if_neg (by omega)
    go_enter Try.func5, Try.ntmps5
    go_wp2_with fail
    refine (implCrc_any s _ hs1).mono ?_
    rintro e w' ⟨rfl, rfl⟩
    rw [HJ.out]
    go_wp2_with fail
    refine (crcText_any (crcOf 0 s) _ hc).mono ?_
    rintro e w1 ⟨rfl, hb⟩
    go_wp2_with fail
    refine (join_two s (four (crcOf 0 s)) _ (by omega)).mono ?_
    rintro e w2 ⟨rfl, hb2⟩
    go_wp2
    go_ret
    exact ⟨ret_str HI.out.symm, hb.trans (hb2.mono hb.size)⟩
end Go.Proofs.Ythmobogbaijndaa
