/- Reading: whether a rune may stand in a name; prefixes; by the program. -/
import Derived.Test.YtcjpfdlodphkeaaRows
import Derived.WalkKit
import Derived.WalkSpells
import Derived.WalkLawsBesides
import Derived.Outline
import Derived.Test.YtcjpfdlodphkeaaBase
import Derived.Test.YtcjpfdlodphkeaaRes2
import Derived.Test.YtcjpfdlodphkeaaName
import Derived.Test.YtcjpfdlodphkeaaNumS
namespace Go.Proofs.Ytcjpfdlodphkeaa
open Go.RowKit
set_option linter.unusedVariables false

/- A byte that may stand in a name. -/
def inN (c : Int) : Bool := goodB 1 c
set_option maxRecDepth 100000 in
set_option maxHeartbeats 1600000 in
theorem inName_any (c : Int) (w : World) : Calls Try.prog 51 #[.int .u8 c] w fun e w' => e = .returned (.bool (inN c)) ∧ w' = w := by
  cases hg : inN c
  · have HG : Hid (inN c = false) := hg
    obtain ⟨hp1, hp2⟩ := good_f hg
    clear hg
    rcases hp1 with hp1 | ⟨hp0, hp1⟩ <;> rcases hp2 with hz | ⟨hk0, hp2 | ⟨hp4, hp2⟩, hp3⟩
    all_goals first | (exfalso; omega) | skip
    all_goals
      go_enter Try.func51, Try.ntmps51
      go_wp2
      go_ret
      exact ⟨rfl, rfl⟩
  · have HG : Hid (inN c = true) := hg
    have hp := good_t hg
    clear hg
    rcases hp with ⟨hp1, hp2⟩ | ⟨hk0, ⟨hp1, hp2⟩ | hp1⟩
    all_goals
      go_enter Try.func51, Try.ntmps51
      go_wp2
      go_ret
      exact ⟨rfl, rfl⟩
def runeN (r : Int) : Bool := decide (r < 128) && inN r
set_option maxRecDepth 100000 in
set_option maxHeartbeats 1600000 in
theorem runeInName_any (r : Int) (w : World) (h0 : 0 ≤ r) : Calls Try.prog 45 #[.int .i32 r] w fun e w' => e = .returned (.bool (runeN r)) ∧ w' = w := by
  by_cases h1 : r < 128
  · have HR : Hid (runeN r = inN r) := by show _ = _; simp [runeN, h1]
    have hw : IntKind.u8.wrap r = r := IntWalk.u8_in _ (by omega)
    go_enter Try.func45, Try.ntmps45
    go_wp2_with fail
    refine (inName_any r _).mono ?_
    rintro e w1 ⟨rfl, rfl⟩
    go_wp2
    go_ret
    exact ⟨ret_bool HR.out.symm, rfl⟩
  · have HR : Hid (runeN r = false) := by show _ = _; simp [runeN, h1]
    go_enter Try.func45, Try.ntmps45
    go_wp2
    go_ret
    exact ⟨ret_bool HR.out.symm, rfl⟩
end Go.Proofs.Ytcjpfdlodphkeaa
