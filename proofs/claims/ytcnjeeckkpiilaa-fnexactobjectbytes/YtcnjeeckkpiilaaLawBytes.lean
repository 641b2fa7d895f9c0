/- The walk of the law on ObjectBytes. -/
import Derived.Test.YtcnjeeckkpiilaaRows
import Derived.WalkKit
import Derived.WalkSpells
import Derived.WalkLawsBesides
import Derived.Outline
import Derived.RegionTactic
import Derived.BigRegion
import Derived.Deep.QuietTactic
import Derived.BigQuiet
import Derived.Deep.RegionHeld3
import Derived.Test.YtcnjeeckkpiilaaBase
import Derived.Test.YtcnjeeckkpiilaaRes2
import Derived.Test.YtcnjeeckkpiilaaObjS
import Derived.Test.YtcnjeeckkpiilaaLayP
import Derived.Test.YtcnjeeckkpiilaaLayQ
import Derived.Test.YtcnjeeckkpiilaaLayS
import Derived.Test.YtcnjeeckkpiilaaObjT
import Derived.Test.YtcnjeeckkpiilaaOpenObj
namespace Go.Proofs.Ytcnjeeckkpiilaa
open Go.RowKit
set_option linter.unusedVariables false

theorem MadeObj.drew {w : World} {g1 g2 g3 : Nat} {W : List Int} {S : List symE} {R : List refE} (h : MadeObj w g1 g2 g3 W S R) : MadeObj w.drew g1 g2 g3 W S R := ⟨h.ws, h.ss, h.rs⟩
set_option maxRecDepth 100000 in
set_option maxHeartbeats 3200000 in
theorem lawBytes_walk (a b c : Option Addr) (W : List Int) (S : List symE) (R : List refE) (ka kb kc : Nat) (w : World) (hO : ObjIs w a b c W S R) (hF : ObjRaw W S R) : Calls Try.prog 4 #[.agg #[.slice a W.length ka, .slice b S.length kb, .slice c R.length kc]] w fun e w' => e = .returned (.bool true) ∧ Below w.heap.size w w' := by
  have HO : Hid (ObjIs w a b c W S R) := hO
  have HW : Hid (ObjRaw W S R) := hF
  clear hO hF
  go_enter Try.func4, Try.ntmps4
  go_wp2_with fail
  refine (szObject_any a b c W S R ka kb kc _ 1048576 (by omega) (by omega) (HO.out.below (below_new w _)) HW.out).mono ?_
  rintro e x1 ⟨r, rfl, hr1, hr, hb⟩
  have HX1 : Hid (x1.heap[w.heap.size]? = _) := heap_keep (heap_alloc_new w _) hb
  have HB1 : Hid (Below w.heap.size w x1) := below_call (below_new _ _) hb
  have HP : Hid (¬ r < 0 → ObjFits W S R) := hr
  clear hb hr
  obtain ⟨c0, c1, c2⟩ := cells3o HX1.out
  by_cases hneg : r < 0
  · go_wp2
    go_ret
    exact ⟨rfl, HB1.out⟩
  have HF : Hid (ObjFits W S R) := HP.out hneg
  clear HP
  go_wp2_with fail
  refine (toObject_any a b c W S R ka kb kc x1 (HO.out.below HB1.out) HF.out).mono ?_
  rintro e x2 ⟨g1, g2, g3, rfl, hM, hb, hg1, hg2, hg3⟩
  have HX2 : Hid (x2.heap[w.heap.size]? = _) := heap_keep HX1.out hb
  have HB2 : Hid (Below w.heap.size w x2) := below_call HB1.out hb
  have HM2 : Hid (MadeObj x2 g1 g2 g3 W S R) := hM
  clear hb hM hg1 hg2 hg3 HX1 HB1 c0 c1 c2
  go_wp2_with fail
  refine (specBytes_any _ _ _ W S R _ _ _ x2 HM2.out.is HF.out).mono ?_
  rintro e x3 ⟨rfl, hb⟩
  have HX3 : Hid (x3.heap[w.heap.size]? = _) := heap_keep HX2.out hb
  have HB3 : Hid (Below w.heap.size w x3) := below_call HB2.out hb
  clear hb HX2 HB2 HM2
  obtain ⟨c0, c1, c2⟩ := cells3o HX3.out
  go_wp2_with fail
  refine (toObject_any a b c W S R ka kb kc x3 (HO.out.below HB3.out) HF.out).mono ?_
  rintro e x4 ⟨k1, k2, k3, rfl, hM, hb, hk1, hk2, hk3⟩
  have HX4 : Hid (_ = _) := heap_more (heap_keep HX3.out hb) (.cells #[.slice (some ⟨k1, 0, none⟩) W.length W.length, .slice (some ⟨k2, 0, none⟩) S.length S.length, .slice (some ⟨k3, 0, none⟩) R.length R.length] 34)
  have HY4 : Hid (_ = _) := heap_alloc_new x4 (.cells #[.slice (some ⟨k1, 0, none⟩) W.length W.length, .slice (some ⟨k2, 0, none⟩) S.length S.length, .slice (some ⟨k3, 0, none⟩) R.length R.length] 34)
  have HB4 : Hid (Below w.heap.size w _) := below_more (below_call HB3.out hb) (.cells #[.slice (some ⟨k1, 0, none⟩) W.length W.length, .slice (some ⟨k2, 0, none⟩) S.length S.length, .slice (some ⟨k3, 0, none⟩) R.length R.length] 34)
  have HM4 : Hid (MadeObj _ k1 k2 k3 W S R) := hM.below (below_new x4 (.cells #[.slice (some ⟨k1, 0, none⟩) W.length W.length, .slice (some ⟨k2, 0, none⟩) S.length S.length, .slice (some ⟨k3, 0, none⟩) R.length R.length] 34))
  clear hb hM hk1 hk2 hk3 HX3 HB3 c0 c1 c2
  go_wp2_with fail
  generalize x4.alloc (.cells #[.slice (some ⟨k1, 0, none⟩) W.length W.length, .slice (some ⟨k2, 0, none⟩) S.length S.length, .slice (some ⟨k3, 0, none⟩) R.length R.length] 34) = y4 at *
  refine (implBytes_any _ _ _ W S R _ _ _ y4 HM4.out.is HF.out).mono ?_
  rintro e x5 ⟨rfl, hb⟩
  have HX5 : Hid (x5.heap[w.heap.size]? = _) := heap_keep HX4.out hb
  have HY5 : Hid (x5.heap[x4.heap.size]? = _) := heap_keep HY4.out hb
  have HB5 : Hid (Below w.heap.size w x5) := below_call HB4.out hb
  have HM5 : Hid (MadeObj x5 k1 k2 k3 W S R) := HM4.out.below hb
  clear hb HX4 HY4 HB4 HM4
  obtain ⟨c0, c1, c2⟩ := cells3o HX5.out
  obtain ⟨d0, d1, d2⟩ := cells3o HY5.out
  go_wp2_with fail
  go_region_held3 (fun w' => w'.cell? ⟨w.heap.size, 0, none⟩ = some (.slice a W.length ka) ∧ w'.cell? ⟨w.heap.size, 1, none⟩ = some (.slice b S.length kb) ∧ w'.cell? ⟨w.heap.size, 2, none⟩ = some (.slice c R.length kc) ∧ w'.cell? ⟨x4.heap.size, 0, none⟩ = some (.slice (some ⟨k1, 0, none⟩) W.length W.length) ∧ w'.cell? ⟨x4.heap.size, 1, none⟩ = some (.slice (some ⟨k2, 0, none⟩) S.length S.length) ∧ w'.cell? ⟨x4.heap.size, 2, none⟩ = some (.slice (some ⟨k3, 0, none⟩) R.length R.length)) (exact ⟨(cells3o HX5.out).1, (cells3o HX5.out).2.1, (cells3o HX5.out).2.2, (cells3o HY5.out).1, (cells3o HY5.out).2.1, (cells3o HY5.out).2.2⟩) (first
    | (go_at_call 11; refine (toObject_any a b c W S R ka kb kc _ (HO.out.below (by repeat (first | with_reducible exact HB5.out | with_reducible refine Below.drew ?_))) HF.out).mono ?_; rintro e x6 ⟨j1, j2, j3, rfl, hM, hb, hj1, hj2, hj3⟩; have HX5 : Hid (x6.heap[w.heap.size]? = _) := heap_keep (by exact HX5.out) hb; have HY5 : Hid (x6.heap[x4.heap.size]? = _) := heap_keep (by exact HY5.out) hb; have HM5 : Hid (MadeObj x6 k1 k2 k3 W S R) := MadeObj.below (by repeat (first | with_reducible exact HM5.out | with_reducible refine MadeObj.drew ?_)) hb; have HN5 : Hid (MadeObj x6 j1 j2 j3 W S R) := hM; have HB5 : Hid (Below w.heap.size w x6) := below_call (by repeat (first | with_reducible exact HB5.out | with_reducible refine Below.drew ?_)) hb; clear hb hM hj1 hj2 hj3)
    | (go_at_call 13; refine (eqObject_any W S R k1 k2 k3 j1 j2 j3 _ (by repeat (first | with_reducible exact HM5.out | with_reducible refine MadeObj.drew ?_)) (by repeat (first | with_reducible exact HN5.out | with_reducible refine MadeObj.drew ?_)) HF.out).mono ?_; rintro e x7 ⟨rfl, hb⟩; have HX5 : Hid (x7.heap[w.heap.size]? = _) := heap_keep (by exact HX5.out) hb; have HY5 : Hid (x7.heap[x4.heap.size]? = _) := heap_keep (by exact HY5.out) hb; have HB5 : Hid (Below w.heap.size w x7) := below_call (by repeat (first | with_reducible exact HB5.out | with_reducible refine Below.drew ?_)) hb; clear hb))
  all_goals
    go_wp2
    go_ret
    exact ⟨rfl, HB5.out⟩
end Go.Proofs.Ytcnjeeckkpiilaa
