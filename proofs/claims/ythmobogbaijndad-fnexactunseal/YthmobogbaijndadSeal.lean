/- The walks of Seal and Unseal. -/
import Derived.Test.YthmobogbaijndadRows
import Derived.WalkKit
import Derived.WalkSpells
import Derived.WalkLawsBesides
import Derived.Test.YthmobogbaijndadCrc
import Derived.Test.YthmobogbaijndadJoin
import Derived.Test.YthmobogbaijndadFour
namespace Go.Proofs.Ythmobogbaijndad
open Go.RowKit

def sealB (s : ByteArray) : ByteArray := if 7996 < s.size then ⟨#[]⟩ else s ++ four (crcOf 0 s)
theorem ret_str {a b : ByteArray} (h : a = b) : Ending.returned (.string a) = .returned (.string b) := by rw [h]
theorem bcell {W w1 : World} (hb : Below W.heap.size W w1) : (∀ b o, b < W.heap.size → w1.cell? ⟨b, o, none⟩ = W.cell? ⟨b, o, none⟩) ∧ (∀ b o, b < W.heap.size → w1.frozen? ⟨b, o, none⟩ = W.frozen? ⟨b, o, none⟩) :=
  ⟨fun b o h => hb.cell (p := ⟨b, o, none⟩) h, fun b o h => hb.frozen (p := ⟨b, o, none⟩) h⟩

set_option maxHeartbeats 400000 in
theorem specSeal_any (s : ByteArray) (w : World) (hs0 : s.size ≤ maxLen) :
    Calls Try.prog 14 #[.string s] w fun e w' => e = .returned (.string (sealB s)) ∧ Below w.heap.size w w' := by
  unfold maxLen at hs0
  by_cases h1 : 7996 < s.size
  · have HI : Hid (sealB s = _) := if_pos h1
    go_enter Try.func14, Try.ntmps14
    go_wp2
    go_ret
    exact ⟨ret_str HI.out.symm, Below.refl _ _⟩
  · have HI : Hid (sealB s = _) := if_neg h1
    have hs : s.size ≤ 8000 := by omega
    have hc := crcOf_lt 0 s (by omega)
    have h4 := four_size (crcOf 0 s)
    go_enter Try.func14, Try.ntmps14
    go_wp2_with fail
    refine (l01Crc_any 0 s _ (by omega) hs).mono ?_
    rintro e w' ⟨rfl, rfl⟩
    go_wp2_with fail
    refine (l01Four_any (crcOf 0 s) _ hc).mono ?_
    rintro e w1 ⟨rfl, hb⟩
    go_wp2
    go_ret
    exact ⟨ret_str HI.out.symm, hb⟩
set_option maxHeartbeats 400000 in
theorem implSeal_any (s : ByteArray) (w : World) (hs0 : s.size ≤ maxLen) :
    Calls Try.prog 15 #[.string s] w fun e w' => e = .returned (.string (sealB s)) ∧ Below w.heap.size w w' := by
  have hs1 := hs0
  unfold maxLen at hs0
  by_cases h1 : 7996 < s.size
  · have HI : Hid (sealB s = _) := if_pos h1
    go_enter Try.func15, Try.ntmps15
    go_wp2
    go_ret
    exact ⟨ret_str HI.out.symm, Below.refl _ _⟩
  · have HI : Hid (sealB s = _) := if_neg h1
    have hs : s.size ≤ 8000 := by omega
    have hc := crcOf_lt 0 s (by omega)
    have h4 := four_size (crcOf 0 s)
    have HJ : Hid (crcI s = (crcOf 0 s : Nat)) := if_neg (by omega)
    go_enter Try.func15, Try.ntmps15
    go_wp2_with fail
    refine (implCrc_any s _ hs1).mono ?_
    rintro e w' ⟨rfl, rfl⟩
    rw [HJ.out]
    go_wp2_with fail
    refine (crcText_any (crcOf 0 s) _ hc).mono ?_
    rintro e w1 ⟨rfl, hb⟩
    go_wp2_with fail
    refine (join_two s (four (crcOf 0 s)) _ (by omega)).mono ?_
    rintro e w2 ⟨rfl, hb2⟩
    go_wp2
    go_ret
    exact ⟨ret_str HI.out.symm, hb.trans (hb2.mono hb.size)⟩
end Go.Proofs.Ythmobogbaijndad
