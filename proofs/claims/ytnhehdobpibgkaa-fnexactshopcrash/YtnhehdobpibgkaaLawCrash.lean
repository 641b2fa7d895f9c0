/- The walk of FnExactShopCrash. -/
import Derived.Test.YtnhehdobpibgkaaRows
import Derived.WalkKit
import Derived.WalkSpells
import Derived.WalkLawsBesides
import Derived.Test.YtnhehdobpibgkaaBase
import Derived.Test.YtnhehdobpibgkaaRes2
import Derived.Test.YtnhehdobpibgkaaShopA
import Derived.Test.YtnhehdobpibgkaaCrashM
namespace Go.Proofs.Ytnhehdobpibgkaa
open Go.RowKit
set_option linter.unusedVariables false

set_option maxRecDepth 100000 in
set_option maxHeartbeats 3200000 in
theorem lawShopCrash_walk (g : ByteArray) (sy keep : Int) (w : World) (hs : g.size ≤ maxLen) (hw1 : -9223372036854775808 ≤ keep) (hw2 : keep ≤ 9223372036854775807) :
    Calls Try.prog 3 #[.agg #[.string g, .int .i64 sy], .int .i64 keep] w fun e w' => e = .returned (.bool true) ∧ Below w.heap.size w w' := by
  have HS : Hid (g.size ≤ maxLen) := hs
  clear hs
  go_enter Try.func3, Try.ntmps3
  go_wp2_with fail
  refine (szShop_any g sy _ _ HS.out (by omega) (by omega)).mono ?_
  rintro e x1 ⟨r, rfl, hr1, hr, hb⟩
  have HB1 : Hid (Below w.heap.size w x1) := below_call (below_new w _) hb
  have HG1 : Hid (x1.heap[w.heap.size]? = _) := heap_keep (heap_alloc_new w (.cells #[.string g, .int .i64 sy] 23)) hb
  obtain ⟨c0, c1, _⟩ := two_cells HG1.out
  have hz1 := heap_lt HG1.out
  have HRR : Hid (¬ r < 0 → g.size ≤ 1048576) := hr
  clear hb hr
  by_cases hneg : r < 0
  · go_wp2
    go_ret
    exact ⟨rfl, HB1.out⟩
  · have hgs := HRR.out hneg
    obtain ⟨m, hm⟩ : ∃ m, crashN g sy keep = m := ⟨_, rfl⟩
    have HM : Hid (crashN g sy keep = m) := hm
    obtain ⟨u, hu⟩ : ∃ u, crashL g sy keep = u := ⟨_, rfl⟩
    have HU : Hid (crashL g sy keep = u) := hu
    clear hm hu
    go_wp2_with fail
    refine (toShop_any g sy _).mono ?_
    rintro e x2 ⟨rfl, hb⟩
    have HB2 : Hid (Below w.heap.size w x2) := below_call HB1.out hb
    have HG2 : Hid (_ = _) := heap_keep HG1.out hb
    clear hb
    go_wp2_with fail
    refine (specCrash_any g sy keep _ hgs hw1 hw2).mono ?_
    rintro e x3 ⟨rfl, hb⟩
    rw [HM.out, HU.out]
    have HB3 : Hid (Below w.heap.size w x3) := below_call HB2.out hb
    have HG3 : Hid (_ = _) := heap_keep HG2.out hb
    obtain ⟨d0, d1, _⟩ := two_cells HG3.out
    have hz3 := heap_lt HG3.out
    have HA3 : Hid ((x3.alloc (.cells #[.string u, .int .i64 m] 25)).heap[x3.heap.size]? = _) := heap_alloc_new x3 _
    clear hb c0 c1
    go_wp2_with fail
    refine (toShop_any g sy _).mono ?_
    rintro e x4 ⟨rfl, hb⟩
    have HB4 : Hid (Below w.heap.size w x4) := below_call (below_more HB3.out _) hb
    have HA4 : Hid (x4.heap[x3.heap.size]? = _) := heap_keep HA3.out hb
    clear hb d0 d1
    go_wp2_with fail
    refine (implCrash_any g sy keep _ hgs hw1 hw2).mono ?_
    rintro e x5 ⟨rfl, hb⟩
    rw [HM.out, HU.out]
    have HB5 : Hid (Below w.heap.size w x5) := below_call HB4.out hb
    have HA5 : Hid (x5.heap[x3.heap.size]? = _) := heap_keep HA4.out hb
    obtain ⟨d0, d1, _⟩ := two_cells HA5.out
    have hz5 := heap_lt HA5.out
    clear hb
    go_wp2_with fail
    refine (eqShop_any u m _).mono ?_
    rintro e x6 ⟨rfl, hb⟩
    have HB6 : Hid (Below w.heap.size w x6) := below_call (below_more HB5.out _) hb
    clear hb
    go_wp2
    go_ret
    exact ⟨rfl, HB6.out⟩
end Go.Proofs.Ytnhehdobpibgkaa
