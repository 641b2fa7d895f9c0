/- When a Word is right, by the specification. -/
import Derived.Test.YtcjpfdlodphkeaaRows
import Derived.WalkKit
import Derived.WalkSpells
import Derived.WalkLawsBesides
import Derived.Outline
import Derived.Test.YtcjpfdlodphkeaaBase
import Derived.Test.YtcjpfdlodphkeaaRes
import Derived.Test.YtcjpfdlodphkeaaIsa
import Derived.Test.YtcjpfdlodphkeaaIsa3
import Derived.Test.YtcjpfdlodphkeaaName
namespace Go.Proofs.Ytcjpfdlodphkeaa
open Go.RowKit
set_option linter.unusedVariables false

def wordB (nm : ByteArray) (n : Int) : Bool := if nm = ⟨#[]⟩ then isB n 0 65535 else nameB nm && isB n (-32767) 32767
set_option maxRecDepth 100000 in
set_option maxHeartbeats 1600000 in
theorem l03Right_any (nm : ByteArray) (n : Int) (w : World) (hs : nm.size ≤ maxLen) : Calls Try.prog 44 #[.agg #[.string nm, .int .i64 n]] w fun e w' => e = .returned (.bool (wordB nm n)) ∧ Below w.heap.size w w' := by
  unfold wordB
  by_cases hn : nm = ⟨#[]⟩
  · rw [if_pos hn]
    subst hn
    go_enter Try.func44, Try.ntmps44
    go_wp2_with fail
    refine (l02Word_any n _).mono ?_
    rintro e x1 ⟨rfl, rfl⟩
    go_wp2
    go_ret
    exact ⟨rfl, below_new _ _⟩
  · rw [if_neg hn]
    have h1 := text_no [] hn
    cases hN : nameB nm
    · have HN : Hid (_ = _) := hN
      go_enter Try.func44, Try.ntmps44
      go_wp2_with fail
      refine (specName_any nm _ hs).mono ?_
      rintro e x1 ⟨rfl, rfl⟩
      rw [HN.out]
      go_wp2
      go_ret
      exact ⟨rfl, below_new _ _⟩
    · have HN : Hid (_ = _) := hN
      clear hN
      go_enter Try.func44, Try.ntmps44
      go_wp2_with fail
      refine (specName_any nm _ hs).mono ?_
      rintro e x1 ⟨rfl, rfl⟩
      rw [HN.out]
      go_wp2_with fail
      refine (l02Is_any n (-32767) 32767 _).mono ?_
      rintro e x1 ⟨rfl, rfl⟩
      go_wp2
      go_ret
      exact ⟨rfl, below_new _ _⟩
end Go.Proofs.Ytcjpfdlodphkeaa
