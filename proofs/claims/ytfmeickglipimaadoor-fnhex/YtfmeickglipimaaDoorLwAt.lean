/- lwAt of the laws. -/
import Derived.Test.YtfmeickglipimaaDoorRows
import Derived.WalkKit
import Derived.WalkSpells
import Derived.WalkLawsBesides
import Derived.Test.YtfmeickglipimaaDoorDraw
namespace Go.Proofs.YtfmeickglipimaaDoor
open Go.RowKit

set_option maxRecDepth 100000 in
set_option maxHeartbeats 1000000 in
theorem lwAt_any (a : Option Addr) (len cap : Nat) (at_ : Nat) (most : Int) (w : World) (h : Arg w a len cap) (hat : at_ ≤ 1000000) (hm0 : -9223372036854775808 ≤ most) (hm1 : most ≤ 9223372036854775807) :
    Calls Tryd.prog 10 #[.slice a len cap, .int .i64 (at_ : Int), .int .i64 most] w fun e w' => ∃ v : Int, e = .returned (.int .i64 v) ∧ 0 ≤ v ∧ (v = 0 ∨ v < most) ∧ v < 256 ∧ w' = w := by
  have hsm := h.small
  by_cases h1 : most ≤ 1
  · go_enter Tryd.func10, Tryd.ntmps10
    go_wp2
    go_ret
    exact ⟨0, rfl, by omega, by omega, by omega, rfl⟩
  by_cases h2 : len = 0
  · have h2b : ((len : Int) == 0) = true := by rw [beq_iff_eq]; omega
    clear h2
    go_enter Tryd.func10, Tryd.ntmps10
    go_wp2
    go_ret
    exact ⟨0, rfl, by omega, by omega, by omega, rfl⟩
  · obtain ⟨x, rfl, hx, hc⟩ := h.arg (by omega)
    have hmod : at_ % len < len := Nat.mod_lt _ (by omega)
    obtain ⟨z, hz0, hz1, hzc⟩ := hc (at_ % len) hmod
    have h2b : ((len : Int) == 0) = false := by rw [beq_eq_false_iff_ne]; omega
    have e1 : ((at_ : Int) % (len : Int)).toNat = at_ % len := by omega
    have hp : 0 < len := by omega
    clear hc h2
    go_enter Tryd.func10, Tryd.ntmps10
    go_wp2
    go_ret
    have k0 : 0 ≤ z % most := Int.emod_nonneg _ (by omega)
    have k1 : z % most < most := Int.emod_lt_of_pos _ (by omega)
    have k2 : z % most < 256 := by
      by_cases hz : z < most
      · rw [Int.emod_eq_of_lt hz0 hz]; exact hz1
      · omega
    exact ⟨z % most, rfl, k0, Or.inr k1, k2, rfl⟩
end Go.Proofs.YtfmeickglipimaaDoor
