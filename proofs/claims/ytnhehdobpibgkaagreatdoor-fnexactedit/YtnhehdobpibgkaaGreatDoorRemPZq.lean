/- Remove, by the program. -/
import Derived.Test.YtnhehdobpibgkaaGreatDoorRows
import Derived.WalkKit
import Derived.WalkSpells
import Derived.WalkLawsBesides
import Derived.Outline
import Derived.RegionTactic
import Derived.BigRegion
import Derived.Deep.RegionWith
import Derived.Deep.RegionHeld3
import Derived.Test.YtnhehdobpibgkaaGreatDoorBun0
import Derived.Test.YtnhehdobpibgkaaGreatDoorBun48
import Derived.Test.YtnhehdobpibgkaaGreatDoorRightPZq
import Derived.Test.YtnhehdobpibgkaaGreatDoorBun50
import Derived.Test.YtnhehdobpibgkaaGreatDoorRecPZq
namespace Go.Proofs.YtnhehdobpibgkaaGreatDoor
open Go.RowKit
set_option linter.unusedVariables false

theorem stOf_rightP (g : ByteArray) : rightT (stOf g).1 := by
  unfold stOf
  split
  · exact (start_right g).1
  · exact (stateL_right g).1
theorem rightState_is {te : TypeId} {pe : Value} {g : ByteArray} {sy : Int} {b : Bool} {S : List Src} {im : ByteArray} {n p : Nat} {w : World} (hb : okShop g sy = b) (hst : stOf g = ((S, im, n), p)) (hs : g.size ≤ maxLen) (hP : PanV te pe w) (hE : ErrV w) :
    Calls Tryz.prog 32 #[.agg #[.string g, .int .i64 sy]] w fun e w' => (∃ a k, e = .returned (.tuple #[.agg #[.slice a S.length k, .string im, .int .i64 (n : Int), .int .i64 (p : Int)], .bool b]) ∧ RowIs 2 srcC w' a S) ∧ Below w.heap.size w w' := by
  subst hb
  refine (rightState_any te pe g sy w hs hP hE).mono ?_
  rintro e x ⟨⟨v, rfl, ho⟩, hb⟩
  rw [hst] at ho ⊢
  obtain ⟨a, k, rfl, hR, _⟩ := ho.rows srcC_len
  exact ⟨⟨a, k, rfl, hR⟩, hb⟩
theorem find_is {a : Option Addr} {L : List Src} {n cap : Nat} {nm : ByteArray} {b : Bool} {w : World} (hb : decide (0 ≤ idxL L nm) = b) (hR : RowIs 2 srcC w a L) (hn : L.length = n) (hl : n ≤ 2000000) : Calls Tryz.prog 38 #[.slice a n cap, .string nm] w fun e w' => (∃ k : Int, e = .returned (.tuple #[.int .i64 k, .bool b])) ∧ Below w.heap.size w w' := hb ▸ find_any a L n cap nm w hR hn hl
theorem rows_one (z : World) (nm : ByteArray) : RowIs 1 strC (z.alloc (.cells #[.string nm] 9)) (some ⟨z.heap.size, 0, none⟩) [nm] := new_rows z [nm]
theorem recRem_is {nm r : ByteArray} {N : Nat} {W : World} (hr : recT (remB nm) = r) (hnm : nm.size ≤ 8000) (hrow : RowIs 1 strC W (some ⟨N, 0, none⟩) [nm]) : Calls Tryz.prog 40 #[.int .u8 82, .slice (some ⟨N, 0, none⟩) 1 1] W fun e w' => e = .returned (.string r) ∧ Below W.heap.size W w' := by
  have h := recordOf_any 82 (some ⟨N, 0, none⟩) [nm] 1 1 (putT nm) r W hrow rfl (by intro s hs; simp at hs; subst hs; exact hnm) (by omega) (by show catL [putT nm] = _; exact catL_one _) (by have := putT_8010 hnm; omega) hr
  exact h
set_option maxRecDepth 100000 in
set_option maxHeartbeats 6400000 in
theorem implRemove_any (te : TypeId) (pe : Value) (g : ByteArray) (sy : Int) (nm : ByteArray) (w : World) (hs : g.size ≤ maxLen) (hm : nm.size ≤ maxLen) (hP : PanV te pe w) (hE : ErrV w) : Calls Tryz.prog 21 #[.agg #[.string g, .int .i64 sy], .string nm] w fun e w' => e = .returned (shopV (remR g sy nm).1 (remR g sy nm).2.1 (remR g sy nm).2.2) ∧ Below w.heap.size w w' := by
  have HS : Hid (g.size ≤ maxLen) := hs
  have HNM : Hid (nm.size ≤ maxLen) := hm
  have HP : Hid (PanV te pe w) := hP
  have HE : Hid (ErrV w) := hE
  clear hP hE
  unfold maxLen at hs hm
  obtain ⟨X, hX⟩ : ∃ X, remR g sy nm = X := ⟨_, rfl⟩
  rw [hX]
  by_cases h1 : 8000 < nm.size
  · have HX : Hid (X = (⟨#[]⟩, 0, 2)) := by show _ = _; rw [← hX]; unfold remR; exact if_pos h1
    have h1i : (8000 : Int) < (nm.size : Int) := by omega
    clear hX
    go_enter Tryz.func21, Tryz.ntmps21
    go_wp2
    exact bodyPost_ret (results_cell_row Tryz.results21 _ _ (w.heap.size + 1) 37 _ (0, 0) _ rfl (heap_new2 w _ _) Tryz.underlying37 rfl (by kernel_rfl)) rfl ⟨ret_shR HX.out, below_more (below_new _ _) _⟩
  have h1i : ¬ (8000 : Int) < (nm.size : Int) := by omega
  obtain ⟨⟨⟨S, im, n⟩, p⟩, hst⟩ : ∃ st, stOf g = st := ⟨_, rfl⟩
  have HST : Hid (stOf g = ((S, im, n), p)) := hst
  have hrt := stOf_rightP g
  rw [hst] at hrt
  have hl20 : S.length ≤ 20 := hrt.2.1
  have HSR : Hid (Srt S) := hrt.1
  clear hrt
  cases hok : okShop g sy
  · have HOK : Hid (okShop g sy = false) := hok
    have HX : Hid (X = (⟨#[]⟩, 0, 1)) := by show _ = _; rw [← hX]; unfold remR; rw [if_neg h1]; exact if_neg (fun h => by rw [hok] at h; cases h.1)
    clear hX hok hst
    go_enter Tryz.func21, Tryz.ntmps21
    go_wp2_with fail
    refine (rightState_is (b := false) HOK.out HST.out HS.out ((HP.out.alloc _).alloc _) ((HE.out.alloc _).alloc _)).mono ?_
    rintro e x ⟨⟨a, k, rfl, ho⟩, hb⟩
    have HRx : Hid (x.heap[w.heap.size]? = some (.cells #[.string g, .int .i64 sy] 33 (0, 0))) := heap_keep (heap_more (heap_alloc_new w _) _) hb
    have HYx : Hid (x.heap[w.heap.size + 1]? = some (.cells #[.string ⟨#[]⟩, .int .i64 0, .string ⟨#[]⟩, .int .i64 0, .int .i64 0] 37 (0, 0))) := heap_keep (heap_new2 w _ _) hb
    have HBx : Hid (Below w.heap.size w x) := below_call (below_more (below_new w _) _) hb
    have hz1 := heap_lt HYx.out
    clear hb ho
    obtain ⟨c0, c1, c2, c3⟩ := two_cells HRx.out
    obtain ⟨⟨k0, k1, k2, k3, k4⟩, f0, f1, f2, f3, f4⟩ := five_cf HYx.out
    go_wp2
    exact bodyPost_ret (results_cell_row Tryz.results21 _ _ (w.heap.size + 1) 37 _ (0, 0) _ rfl (heap_more (set_five HYx.out) _) Tryz.underlying37 rfl (by kernel_rfl)) rfl ⟨ret_shR HX.out, below_more (((((HBx.out.setCell (by show _ ≤ w.heap.size + 1; omega) _).setCell (by show _ ≤ w.heap.size + 1; omega) _).setCell (by show _ ≤ w.heap.size + 1; omega) _).setCell (by show _ ≤ w.heap.size + 1; omega) _).setCell (by show _ ≤ w.heap.size + 1; omega) _) _⟩
  have HOK : Hid (okShop g sy = true) := hok
  have hg8 := ok_small hok
  cases hn : nameB nm
  · have HN : Hid (nameB nm = false) := hn
    have HX : Hid (X = (⟨#[]⟩, 0, 1)) := by show _ = _; rw [← hX]; unfold remR; rw [if_neg h1]; exact if_neg (fun h => by have := h.2; rw [hn] at this; cases this)
    clear hX hok hn hst
    go_enter Tryz.func21, Tryz.ntmps21
    go_wp2_with fail
    refine (rightState_is (b := true) HOK.out HST.out HS.out ((HP.out.alloc _).alloc _) ((HE.out.alloc _).alloc _)).mono ?_
    rintro e x ⟨⟨a, k, rfl, ho⟩, hb⟩
    have HRx : Hid (x.heap[w.heap.size]? = some (.cells #[.string g, .int .i64 sy] 33 (0, 0))) := heap_keep (heap_more (heap_alloc_new w _) _) hb
    have HYx : Hid (x.heap[w.heap.size + 1]? = some (.cells #[.string ⟨#[]⟩, .int .i64 0, .string ⟨#[]⟩, .int .i64 0, .int .i64 0] 37 (0, 0))) := heap_keep (heap_new2 w _ _) hb
    have HBx : Hid (Below w.heap.size w x) := below_call (below_more (below_new w _) _) hb
    have hz1 := heap_lt HYx.out
    clear hb ho
    go_wp2_with fail
    refine (implName_is (b := false) _ HNM.out HN.out).mono ?_
    rintro e z ⟨rfl, hz⟩
    have hz2 := hz.symm
    clear hz
    subst hz2
    obtain ⟨c0, c1, c2, c3⟩ := two_cells HRx.out
    obtain ⟨⟨k0, k1, k2, k3, k4⟩, f0, f1, f2, f3, f4⟩ := five_cf HYx.out
    go_wp2
    exact bodyPost_ret (results_cell_row Tryz.results21 _ _ (w.heap.size + 1) 37 _ (0, 0) _ rfl (heap_more (set_five HYx.out) _) Tryz.underlying37 rfl (by kernel_rfl)) rfl ⟨ret_shR HX.out, below_more (((((HBx.out.setCell (by show _ ≤ w.heap.size + 1; omega) _).setCell (by show _ ≤ w.heap.size + 1; omega) _).setCell (by show _ ≤ w.heap.size + 1; omega) _).setCell (by show _ ≤ w.heap.size + 1; omega) _).setCell (by show _ ≤ w.heap.size + 1; omega) _) _⟩
  have HN : Hid (nameB nm = true) := hn
  have hsl : stateL g = ((S, im, n), p) := by rw [← hst]; unfold stOf; rw [if_neg (by omega)]
  have hix := idx_has HSR.out nm
  cases hh : hasL S nm
  · have HI : Hid (decide (0 ≤ idxL S nm) = false) := by show _ = _; rw [hix, hh]; rfl
    have HX : Hid (X = (⟨#[]⟩, 0, 6)) := by show _ = _; rw [← hX]; unfold remR; rw [if_neg h1, if_pos ⟨hok, hn⟩, hsl]; show (if hasL S nm = true then _ else _) = _; rw [hh]; rfl
    clear hX hok hn hst hsl hix hh
    go_enter Tryz.func21, Tryz.ntmps21
    go_wp2_with fail
    refine (rightState_is (b := true) HOK.out HST.out HS.out ((HP.out.alloc _).alloc _) ((HE.out.alloc _).alloc _)).mono ?_
    rintro e x ⟨⟨a, k, rfl, ho⟩, hb⟩
    have HRo : Hid (RowIs 2 srcC x a S) := ho
    have HYx : Hid (x.heap[w.heap.size + 1]? = some (.cells #[.string ⟨#[]⟩, .int .i64 0, .string ⟨#[]⟩, .int .i64 0, .int .i64 0] 37 (0, 0))) := heap_keep (heap_new2 w _ _) hb
    have HBx : Hid (Below w.heap.size w x) := below_call (below_more (below_new w _) _) hb
    clear hb ho
    go_wp2_with fail
    refine (implName_is (b := true) _ HNM.out HN.out).mono ?_
    rintro e z ⟨rfl, hz⟩
    have hz2 := hz.symm
    clear hz
    subst hz2
    go_wp2_with fail
    refine (find_is HI.out (HRo.out.alloc _) rfl (by omega)).mono ?_
    rintro e z ⟨⟨kf, rfl⟩, hb⟩
    have HYz : Hid (z.heap[w.heap.size + 1]? = _) := heap_keep (heap_more HYx.out _) hb
    have HBz : Hid (Below w.heap.size w z) := below_call (below_more HBx.out _) hb
    clear hb
    obtain ⟨⟨k0, k1, k2, k3, k4⟩, f0, f1, f2, f3, f4⟩ := five_cf HYz.out
    go_wp2
    exact bodyPost_ret (results_cell_row Tryz.results21 _ _ (w.heap.size + 1) 37 _ (0, 0) _ rfl (set_five HYz.out) Tryz.underlying37 rfl (by kernel_rfl)) rfl ⟨ret_shR HX.out, ((((HBz.out.setCell (by show _ ≤ w.heap.size + 1; omega) _).setCell (by show _ ≤ w.heap.size + 1; omega) _).setCell (by show _ ≤ w.heap.size + 1; omega) _).setCell (by show _ ≤ w.heap.size + 1; omega) _).setCell (by show _ ≤ w.heap.size + 1; omega) _⟩
  · have HI : Hid (decide (0 ≤ idxL S nm) = true) := by show _ = _; rw [hix, hh]; exact decide_eq_true (by show (0 : Int) ≤ (plcL S nm : Int); omega)
    obtain ⟨r, hrr⟩ : ∃ r, recT (remB nm) = r := ⟨_, rfl⟩
    have HRT : Hid (recT (remB nm) = r) := hrr
    have HX : Hid (X = (addG g r, addN g r sy, addC g r)) := by show _ = _; rw [← hX]; unfold remR; rw [if_neg h1, if_pos ⟨hok, hn⟩, hsl]; show (if hasL S nm = true then _ else _) = _; rw [hh, if_pos rfl, hrr]; rfl
    have hpl := putT_sm (t := nm) (by have := name_le hn; omega)
    have hbd : (remB nm).size ≤ 7996 := by unfold remB; rw [ByteArray.size_append]; have := name_le hn; show 1 + _ ≤ _; omega
    have HRZ : Hid (r.size ≤ 100000) := by show _ ≤ _; rw [← hrr]; have := recT_le hbd; omega
    have HN8 : Hid (nm.size ≤ 8000) := by show _ ≤ _; omega
    have HG8 : Hid (g.size ≤ 8000) := hg8
    clear hX hok hn hst hsl hix hh hrr hpl hbd
    go_enter Tryz.func21, Tryz.ntmps21
    go_wp2_with fail
    refine (rightState_is (b := true) HOK.out HST.out HS.out ((HP.out.alloc _).alloc _) ((HE.out.alloc _).alloc _)).mono ?_
    rintro e x ⟨⟨a, k, rfl, ho⟩, hb⟩
    have HRo : Hid (RowIs 2 srcC x a S) := ho
    have HRx : Hid (x.heap[w.heap.size]? = some (.cells #[.string g, .int .i64 sy] 33 (0, 0))) := heap_keep (heap_more (heap_alloc_new w _) _) hb
    have HYx : Hid (x.heap[w.heap.size + 1]? = some (.cells #[.string ⟨#[]⟩, .int .i64 0, .string ⟨#[]⟩, .int .i64 0, .int .i64 0] 37 (0, 0))) := heap_keep (heap_new2 w _ _) hb
    have HBx : Hid (Below w.heap.size w x) := below_call (below_more (below_new w _) _) hb
    clear hb ho
    go_wp2_with fail
    refine (implName_is (b := true) _ HNM.out HN.out).mono ?_
    rintro e z ⟨rfl, hz⟩
    have hz2 := hz.symm
    clear hz
    subst hz2
    go_wp2_with fail
    refine (find_is HI.out (HRo.out.alloc _) rfl (by omega)).mono ?_
    rintro e z ⟨⟨kf, rfl⟩, hb⟩
    have HRq : Hid (z.heap[w.heap.size]? = some (.cells #[.string g, .int .i64 sy] 33 (0, 0))) := heap_keep (heap_more HRx.out _) hb
    have HYq : Hid (z.heap[w.heap.size + 1]? = some (.cells #[.string ⟨#[]⟩, .int .i64 0, .string ⟨#[]⟩, .int .i64 0, .int .i64 0] 37 (0, 0))) := heap_keep (heap_more HYx.out _) hb
    have HBq : Hid (Below w.heap.size w z) := below_call (below_more HBx.out _) hb
    clear hb
    obtain ⟨c0, c1, c2, c3⟩ := two_cells HRq.out
    go_wp2_with fail
    go_region_held3 (fun w' => w'.cell? ⟨w.heap.size, 0, none⟩ = some (.string g) ∧ w'.cell? ⟨w.heap.size, 1, none⟩ = some (.int .i64 sy)) (first | exact ⟨row20 (by repeat (first | with_reducible exact HRq.out | with_reducible apply heap_drewn | with_reducible apply heap_more)), row21 (by repeat (first | with_reducible exact HRq.out | with_reducible apply heap_drewn | with_reducible apply heap_more))⟩ | exact five_far HRq.out) (first
      | (go_at_call 40; refine (recRem_is HRT.out HN8.out (by repeat (first | with_reducible exact rows_one z nm | with_reducible apply rowT_drew))).mono ?_; rintro e q ⟨rfl, hb⟩; have HRq : Hid (q.heap[w.heap.size]? = some (.cells #[.string g, .int .i64 sy] 33 (0, 0))) := heap_keep (by repeat (first | with_reducible exact HRq.out | with_reducible apply heap_drewn | with_reducible apply heap_more)) hb; have HYq : Hid (q.heap[w.heap.size + 1]? = some (.cells #[.string ⟨#[]⟩, .int .i64 0, .string ⟨#[]⟩, .int .i64 0, .int .i64 0] 37 (0, 0))) := heap_keep (by repeat (first | with_reducible exact HYq.out | with_reducible apply heap_drewn | with_reducible apply heap_more)) hb; have HBq : Hid (Below w.heap.size w q) := below_call (by repeat (first | with_reducible exact HBq.out | with_reducible refine Below.drew ?_ | with_reducible refine below_more ?_ _)) hb; clear hb)
      | (go_at_call 39; refine (withRecord_any g sy r _ HG8.out HRZ.out).mono ?_; unfold shopV; rintro e q ⟨rfl, hb⟩; have HRq : Hid (q.heap[w.heap.size]? = some (.cells #[.string g, .int .i64 sy] 33 (0, 0))) := heap_keep (by repeat (first | with_reducible exact HRq.out | with_reducible apply heap_drewn)) hb; have HYq : Hid (q.heap[w.heap.size + 1]? = some (.cells #[.string ⟨#[]⟩, .int .i64 0, .string ⟨#[]⟩, .int .i64 0, .int .i64 0] 37 (0, 0))) := heap_keep (by repeat (first | with_reducible exact HYq.out | with_reducible apply heap_drewn)) hb; have HBq : Hid (Below w.heap.size w q) := below_call (by repeat (first | with_reducible exact HBq.out | with_reducible refine Below.drew ?_)) hb; obtain ⟨⟨m0, m1, m2, m3, m4⟩, g0, g1, g2, g3, g4⟩ := five_cf HYq.out; clear hb))
    all_goals
      go_wp2
      exact bodyPost_ret (results_cell_row Tryz.results21 _ _ (w.heap.size + 1) 37 _ (0, 0) _ rfl (set_five HYq.out) Tryz.underlying37 rfl (by kernel_rfl)) rfl ⟨ret_shR HX.out, ((((HBq.out.setCell (by show _ ≤ w.heap.size + 1; omega) _).setCell (by show _ ≤ w.heap.size + 1; omega) _).setCell (by show _ ≤ w.heap.size + 1; omega) _).setCell (by show _ ≤ w.heap.size + 1; omega) _).setCell (by show _ ≤ w.heap.size + 1; omega) _⟩
end Go.Proofs.YtnhehdobpibgkaaGreatDoor
