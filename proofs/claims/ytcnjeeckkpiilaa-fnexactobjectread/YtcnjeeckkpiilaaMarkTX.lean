/- markInt64S of the laws: it turns no block but the row's own. -/
import Derived.Test.YtcnjeeckkpiilaaRows
import Derived.WalkKit
import Derived.WalkSpells
import Derived.WalkLawsBesides
import Derived.Outline
import Derived.Test.YtcnjeeckkpiilaaBun0
import Derived.Test.YtcnjeeckkpiilaaOwnX
namespace Go.Proofs.Ytcnjeeckkpiilaa
open Go.RowKit
set_option linter.unusedVariables false

set_option maxRecDepth 100000 in
set_option maxHeartbeats 1600000 in
theorem markInt64S_but (v : Value) (B : Nat) (L : List Int) (k : Int) (w : World) (h1 : OwnI w B v L) (hs : L.length ≤ 1000000) (hk0 : 0 ≤ k) (hk1 : k ≤ 1000000) :
    Calls Try.prog 89 #[v, .int .i64 k] w fun e w' => e = .returned (.int .i64 (k + L.length)) ∧ OwnI w' B v (marksI k L.length) ∧ Below B w w' ∧ (∀ q, q < w.heap.size → v.ownBlock ≠ some q → w'.heap[q]? = w.heap[q]?) := by
  rcases h1.form with ⟨rfl, rfl⟩ | ⟨g, cap, cur, rfl, hB, hg, h4, h5, h6, h7⟩
  · clear h1
    go_enter Try.func89, Try.ntmps89
    go_wp2
    refine wp_loop_rounds 1 ?_
    rw [rounds_succ]
    go_wp2
    go_ret
    exact ⟨ret_int (by simp), OwnI.nil _ _, Below.refl _ _, fun _ _ _ => rfl⟩
  · have HG : Hid (_ = _) := hg
    have HC : Hid (cur.size = cap) := h6
    clear h1 h7 hg h6
    unfold maxLen at h5
    go_enter Try.func89, Try.ntmps89
    go_wp2
    go_loopw [1, 5] (fun q i wr => ∃ (j : Nat), j ≤ L.length ∧ i = .int .i64 j ∧ q = .int .i64 (k + j) ∧ Hid (∃ c : Array Value, wr.heap[g]? = some (.cells c 2 (0, 0)) ∧ c.size = cap ∧ ∀ t, t < j → c[t]? = some (.int .i64 (k + t))) ∧ Hid (Below B w wr) ∧ Hid (∀ q, q < w.heap.size → g ≠ q → wr.heap[q]? = w.heap[q]?)) (fun _ i _ => L.length - (intOf i).toNat)
    case atStart => exact ⟨0, by omega, rfl, by simp, ⟨cur, HG.out, HC.out, fun t ht => by omega⟩, Below.refl _ _, fun _ _ _ => rfl⟩
    case round =>
      obtain ⟨j, hj, rfl, rfl, HX, HB, HK⟩ := hrel
      by_cases hlt : j < L.length
      · obtain ⟨c, hc, hcs, hct⟩ := HX.out
        obtain ⟨y, hy⟩ : ∃ y, c[j]? = some y := ⟨c[j]'(by omega), by simp [show j < c.size by omega]⟩
        have q0 : wr.cell? ⟨g, j, none⟩ = some y := by simp [World.cell?, hc, hy]
        have q1 : wr.frozen? ⟨g, j, none⟩ = false := by simp [World.frozen?, hc]
        have HC1 : Hid (_ = _) := hc
        have HC2 : Hid (c.size = cap) := hcs
        have HC3 : Hid (∀ t, t < j → c[t]? = some (.int .i64 (k + t))) := hct
        clear hc hcs hct HX hy
        have hi0 : (0 : Int) ≤ (j : Int) := by omega
        have hi1 : (j : Int) < (L.length : Int) := by omega
        go_wp2
        go_roundw
        case rel =>
          refine ⟨j + 1, by omega, by go_num, by go_num, ⟨_, heap_set HC1.out j _, by simp [HC2.out], fun t ht => ?_⟩, HB.out.setCell hB _, fun q hq hne => (Go.heap_setCell_other wr ⟨g, j, none⟩ q _ (fun e => hne e.symm)).trans (HK.out q hq hne)⟩
          rw [Array.getElem?_setIfInBounds]
          by_cases e : j = t
          · subst e; simp [HC2.out]; omega
          · rw [if_neg e]; exact HC3.out t (by omega)
        case measure => simp [intOf]; omega
      · obtain rfl : j = L.length := by omega
        go_wp2
        go_ret
        obtain ⟨c, hc, hcs, hct⟩ := HX.out
        refine ⟨rfl, ?_, HB.out, fun q hq hne => HK.out q hq (fun e => hne (by rw [← e]; rfl))⟩
        have := OwnI.mk (L := marksI k L.length) hB hc (by rw [marksI_len]; exact h4) (by unfold maxLen; exact h5) hcs (fun i hi => by rw [marksI_at]; exact hct i (by rwa [marksI_len] at hi))
        rwa [marksI_len] at this
end Go.Proofs.Ytcnjeeckkpiilaa
