/- What the shell tells of a slice of bytes, in the draws' words. -/
import Derived.Test.YtfmeickglipimaaDoorDraw
import Derived.OpenShut
namespace Go.Proofs.YtfmeickglipimaaDoor
open Go.RowKit
theorem Arg.drew {w : World} {a : Option Addr} {len cap : Nat} (h : Arg w a len cap) : Arg w.drew a len cap := ⟨h.small, h.arg⟩
theorem arg_of_cells {w : World} {a : Option Addr} {len cap : Nat} {zs : List Int}
    (h : (a = none ∧ len = 0 ∧ cap = 0 ∧ zs = []) ∨ ∃ x, a = some x ∧ len ≤ cap ∧ cap ≤ maxLen ∧ zs.length = cap ∧ (∀ i, i < zs.length → w.cell? (x.add i) = some (.int .u8 (zs.getD i 0))) ∧ ∀ n ∈ zs, (Lit.int .u8 n).wf = true)
    (hl : len ≤ 1048576) : Arg w a len cap := by
  refine ⟨hl, fun hp => ?_⟩
  rcases h with ⟨_, h0, _⟩ | ⟨x, rfl, hlc, _, hz, hc, hw⟩
  · omega
  · have hx : x.block < w.heap.size := by
      have := World.block_lt_of_cell? w _ (hc 0 (by omega))
      rwa [add_block] at this
    refine ⟨x, rfl, hx, fun i hi => ?_⟩
    have hi2 : i < zs.length := by omega
    have hm : zs.getD i 0 ∈ zs := by simp [List.getD, List.getElem?_eq_getElem hi2]
    have hb := bounds_u8 (hw _ hm)
    exact ⟨zs.getD i 0, by omega, by omega, hc i hi2⟩
end Go.Proofs.YtfmeickglipimaaDoor
