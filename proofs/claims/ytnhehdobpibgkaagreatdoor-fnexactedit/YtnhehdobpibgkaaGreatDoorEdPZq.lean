/- Edit, by the program. -/
import Derived.Test.YtnhehdobpibgkaaGreatDoorRows
import Derived.WalkKit
import Derived.WalkSpells
import Derived.WalkLawsBesides
import Derived.Outline
import Derived.RegionTactic
import Derived.BigRegion
import Derived.Deep.RegionWith
import Derived.Deep.RegionHeld3
import Derived.Test.YtnhehdobpibgkaaGreatDoorBun0
import Derived.Test.YtnhehdobpibgkaaGreatDoorBun48
import Derived.Test.YtnhehdobpibgkaaGreatDoorRightPZq
import Derived.Test.YtnhehdobpibgkaaGreatDoorBun50
import Derived.Test.YtnhehdobpibgkaaGreatDoorRecPZq
import Derived.Test.YtnhehdobpibgkaaGreatDoorRemPZq
namespace Go.Proofs.YtnhehdobpibgkaaGreatDoor
open Go.RowKit
set_option linter.unusedVariables false
theorem rows_two (z : World) (nm tx : ByteArray) : RowIs 1 strC (z.alloc (.cells #[.string nm, .string tx] 9)) (some ⟨z.heap.size, 0, none⟩) [nm, tx] := new_rows z [nm, tx]
theorem recEd_is {nm tx r : ByteArray} {N : Nat} {W : World} (hr : recT (edB nm tx) = r) (hnm : nm.size ≤ 8000) (htx : tx.size ≤ 8000) (hrow : RowIs 1 strC W (some ⟨N, 0, none⟩) [nm, tx]) : Calls Tryz.prog 40 #[.int .u8 69, .slice (some ⟨N, 0, none⟩) 2 2] W fun e w' => e = .returned (.string r) ∧ Below W.heap.size W w' := by
  have he : oneB 69 ++ (putT nm ++ putT tx) = edB nm tx := by unfold edB; rw [ByteArray.append_assoc]; rfl
  have h := recordOf_any 69 (some ⟨N, 0, none⟩) [nm, tx] 2 2 (putT nm ++ putT tx) r W hrow rfl (by intro s hs; simp at hs; rcases hs with rfl | rfl <;> assumption) (by omega) (by show catL [putT nm, putT tx] = _; exact catL_two _ _) (by have h1 := putT_8010 hnm; have h2 := putT_8010 htx; rw [ByteArray.size_append]; omega) (by rw [he]; exact hr)
  exact h
set_option maxRecDepth 100000 in
set_option maxHeartbeats 6400000 in
theorem implEdit_any (te : TypeId) (pe : Value) (g : ByteArray) (sy : Int) (nm tx : ByteArray) (w : World) (hs : g.size ≤ maxLen) (hm : nm.size ≤ maxLen) (ht : tx.size ≤ maxLen) (hP : PanV te pe w) (hE : ErrV w) : Calls Tryz.prog 18 #[.agg #[.string g, .int .i64 sy], .string nm, .string tx] w fun e w' => e = .returned (shopV (edR g sy nm tx).1 (edR g sy nm tx).2.1 (edR g sy nm tx).2.2) ∧ Below w.heap.size w w' := by
  have HS : Hid (g.size ≤ maxLen) := hs
  have HNM : Hid (nm.size ≤ maxLen) := hm
  have HP : Hid (PanV te pe w) := hP
  have HE : Hid (ErrV w) := hE
  clear hP hE
  unfold maxLen at hs hm ht
  obtain ⟨X, hX⟩ : ∃ X, edR g sy nm tx = X := ⟨_, rfl⟩
  rw [hX]
  by_cases h1 : 8000 < nm.size
  · have HX : Hid (X = (⟨#[]⟩, 0, 2)) := by show _ = _; rw [← hX]; unfold edR; exact if_pos (.inl h1)
    have h1i : (8000 : Int) < (nm.size : Int) := by omega
    clear hX
    go_enter Tryz.func18, Tryz.ntmps18
    go_wp2
    exact bodyPost_ret (results_cell_row Tryz.results18 _ _ (w.heap.size + 1) 37 _ (0, 0) _ rfl (heap_new2 w _ _) Tryz.underlying37 rfl (by kernel_rfl)) rfl ⟨ret_shR HX.out, below_more (below_new _ _) _⟩
  have h1i : ¬ (8000 : Int) < (nm.size : Int) := by omega
  by_cases h2 : 8000 < tx.size
  · have HX : Hid (X = (⟨#[]⟩, 0, 2)) := by show _ = _; rw [← hX]; unfold edR; exact if_pos (.inr h2)
    have h2i : (8000 : Int) < (tx.size : Int) := by omega
    clear hX
    go_enter Tryz.func18, Tryz.ntmps18
    go_wp2
    exact bodyPost_ret (results_cell_row Tryz.results18 _ _ (w.heap.size + 1) 37 _ (0, 0) _ rfl (heap_new2 w _ _) Tryz.underlying37 rfl (by kernel_rfl)) rfl ⟨ret_shR HX.out, below_more (below_new _ _) _⟩
  have h2i : ¬ (8000 : Int) < (tx.size : Int) := by omega
  have hnb : ¬ (8000 < nm.size ∨ 8000 < tx.size) := by rintro (h | h) <;> omega
  obtain ⟨⟨⟨S, im, n⟩, p⟩, hst⟩ : ∃ st, stOf g = st := ⟨_, rfl⟩
  have HST : Hid (stOf g = ((S, im, n), p)) := hst
  have hrt := stOf_rightP g
  rw [hst] at hrt
  have hl20 : S.length ≤ 20 := hrt.2.1
  have HSR : Hid (Srt S) := hrt.1
  clear hrt
  cases hok : okShop g sy
  · have HOK : Hid (okShop g sy = false) := hok
    have HX : Hid (X = (⟨#[]⟩, 0, 1)) := by show _ = _; rw [← hX]; unfold edR; rw [if_neg hnb]; exact if_neg (fun h => by rw [hok] at h; cases h.1)
    clear hX hok hst hnb
    go_enter Tryz.func18, Tryz.ntmps18
    go_wp2_with fail
    refine (rightState_is (b := false) HOK.out HST.out HS.out ((HP.out.alloc _).alloc _) ((HE.out.alloc _).alloc _)).mono ?_
    rintro e x ⟨⟨a, k, rfl, ho⟩, hb⟩
    have HRo : Hid (RowIs 2 srcC x a S) := ho
    have HRx : Hid (x.heap[w.heap.size]? = some (.cells #[.string g, .int .i64 sy] 33 (0, 0))) := heap_keep (heap_more (heap_alloc_new w _) _) hb
    have HYx : Hid (x.heap[w.heap.size + 1]? = some (.cells #[.string ⟨#[]⟩, .int .i64 0, .string ⟨#[]⟩, .int .i64 0, .int .i64 0] 37 (0, 0))) := heap_keep (heap_new2 w _ _) hb
    have HBx : Hid (Below w.heap.size w x) := below_call (below_more (below_new w _) _) hb
    have HVx : Hid ((x.alloc (.cells #[.slice a S.length k, .string im, .int .i64 (n : Int), .int .i64 (p : Int)] 24)).heap[x.heap.size]? = _) := heap_alloc_new x _
    have hz1 := heap_lt HYx.out
    clear hb ho
    obtain ⟨c0, c1, c2, c3⟩ := two_cells HRx.out
    obtain ⟨⟨k0, k1, k2, k3, k4⟩, f0, f1, f2, f3, f4⟩ := five_cf HYx.out
    go_wp2
    exact bodyPost_ret (results_cell_row Tryz.results18 _ _ (w.heap.size + 1) 37 _ (0, 0) _ rfl (heap_more (set_five HYx.out) _) Tryz.underlying37 rfl (by kernel_rfl)) rfl ⟨ret_shR HX.out, below_more (((((HBx.out.setCell (by show _ ≤ w.heap.size + 1; omega) _).setCell (by show _ ≤ w.heap.size + 1; omega) _).setCell (by show _ ≤ w.heap.size + 1; omega) _).setCell (by show _ ≤ w.heap.size + 1; omega) _).setCell (by show _ ≤ w.heap.size + 1; omega) _) _⟩
  have HOK : Hid (okShop g sy = true) := hok
  have hg8 := ok_small hok
  cases hn : nameB nm
  · have HN : Hid (nameB nm = false) := hn
    have HX : Hid (X = (⟨#[]⟩, 0, 1)) := by show _ = _; rw [← hX]; unfold edR; rw [if_neg hnb]; exact if_neg (fun h => by have := h.2.1; rw [hn] at this; cases this)
    clear hX hok hn hst hnb
    go_enter Tryz.func18, Tryz.ntmps18
    go_wp2_with fail
    refine (rightState_is (b := true) HOK.out HST.out HS.out ((HP.out.alloc _).alloc _) ((HE.out.alloc _).alloc _)).mono ?_
    rintro e x ⟨⟨a, k, rfl, ho⟩, hb⟩
    have HRo : Hid (RowIs 2 srcC x a S) := ho
    have HRx : Hid (x.heap[w.heap.size]? = some (.cells #[.string g, .int .i64 sy] 33 (0, 0))) := heap_keep (heap_more (heap_alloc_new w _) _) hb
    have HYx : Hid (x.heap[w.heap.size + 1]? = some (.cells #[.string ⟨#[]⟩, .int .i64 0, .string ⟨#[]⟩, .int .i64 0, .int .i64 0] 37 (0, 0))) := heap_keep (heap_new2 w _ _) hb
    have HBx : Hid (Below w.heap.size w x) := below_call (below_more (below_new w _) _) hb
    have HVx : Hid ((x.alloc (.cells #[.slice a S.length k, .string im, .int .i64 (n : Int), .int .i64 (p : Int)] 24)).heap[x.heap.size]? = _) := heap_alloc_new x _
    have hz1 := heap_lt HYx.out
    clear hb ho
    go_wp2_with fail
    refine (implName_is (b := false) _ HNM.out HN.out).mono ?_
    rintro e z ⟨rfl, hz⟩
    have hz2 := hz.symm
    clear hz
    subst hz2
    obtain ⟨c0, c1, c2, c3⟩ := two_cells HRx.out
    obtain ⟨⟨k0, k1, k2, k3, k4⟩, f0, f1, f2, f3, f4⟩ := five_cf HYx.out
    go_wp2
    exact bodyPost_ret (results_cell_row Tryz.results18 _ _ (w.heap.size + 1) 37 _ (0, 0) _ rfl (heap_more (set_five HYx.out) _) Tryz.underlying37 rfl (by kernel_rfl)) rfl ⟨ret_shR HX.out, below_more (((((HBx.out.setCell (by show _ ≤ w.heap.size + 1; omega) _).setCell (by show _ ≤ w.heap.size + 1; omega) _).setCell (by show _ ≤ w.heap.size + 1; omega) _).setCell (by show _ ≤ w.heap.size + 1; omega) _).setCell (by show _ ≤ w.heap.size + 1; omega) _) _⟩
  have HN : Hid (nameB nm = true) := hn
  by_cases h4 : 4000 < tx.size
  · have h4i : (4000 : Int) < (tx.size : Int) := by omega
    have HX : Hid (X = (⟨#[]⟩, 0, 1)) := by show _ = _; rw [← hX]; unfold edR; rw [if_neg hnb]; exact if_neg (fun h => by have := h.2.2; omega)
    clear hX hok hn hst hnb
    go_enter Tryz.func18, Tryz.ntmps18
    go_wp2_with fail
    refine (rightState_is (b := true) HOK.out HST.out HS.out ((HP.out.alloc _).alloc _) ((HE.out.alloc _).alloc _)).mono ?_
    rintro e x ⟨⟨a, k, rfl, ho⟩, hb⟩
    have HRo : Hid (RowIs 2 srcC x a S) := ho
    have HRx : Hid (x.heap[w.heap.size]? = some (.cells #[.string g, .int .i64 sy] 33 (0, 0))) := heap_keep (heap_more (heap_alloc_new w _) _) hb
    have HYx : Hid (x.heap[w.heap.size + 1]? = some (.cells #[.string ⟨#[]⟩, .int .i64 0, .string ⟨#[]⟩, .int .i64 0, .int .i64 0] 37 (0, 0))) := heap_keep (heap_new2 w _ _) hb
    have HBx : Hid (Below w.heap.size w x) := below_call (below_more (below_new w _) _) hb
    have HVx : Hid ((x.alloc (.cells #[.slice a S.length k, .string im, .int .i64 (n : Int), .int .i64 (p : Int)] 24)).heap[x.heap.size]? = _) := heap_alloc_new x _
    have hz1 := heap_lt HYx.out
    clear hb ho
    go_wp2_with fail
    refine (implName_is (b := true) _ HNM.out HN.out).mono ?_
    rintro e z ⟨rfl, hz⟩
    have hz2 := hz.symm
    clear hz
    subst hz2
    obtain ⟨c0, c1, c2, c3⟩ := two_cells HRx.out
    obtain ⟨⟨k0, k1, k2, k3, k4⟩, f0, f1, f2, f3, f4⟩ := five_cf HYx.out
    go_wp2
    exact bodyPost_ret (results_cell_row Tryz.results18 _ _ (w.heap.size + 1) 37 _ (0, 0) _ rfl (heap_more (set_five HYx.out) _) Tryz.underlying37 rfl (by kernel_rfl)) rfl ⟨ret_shR HX.out, below_more (((((HBx.out.setCell (by show _ ≤ w.heap.size + 1; omega) _).setCell (by show _ ≤ w.heap.size + 1; omega) _).setCell (by show _ ≤ w.heap.size + 1; omega) _).setCell (by show _ ≤ w.heap.size + 1; omega) _).setCell (by show _ ≤ w.heap.size + 1; omega) _) _⟩
  have h4i : ¬ (4000 : Int) < (tx.size : Int) := by omega
  have hsl : stateL g = ((S, im, n), p) := by rw [← hst]; unfold stOf; rw [if_neg (by omega)]
  have hix := idx_has HSR.out nm
  have hc4 : okShop g sy = true ∧ nameB nm = true ∧ tx.size ≤ 4000 := ⟨hok, hn, by omega⟩
  obtain ⟨r, hrr⟩ : ∃ r, recT (edB nm tx) = r := ⟨_, rfl⟩
  have HRT : Hid (recT (edB nm tx) = r) := hrr
  have hpl := putT_sm (t := nm) (by have := name_le hn; omega)
  have hpt := putT_sm (t := tx) (by omega)
  have hbd : (edB nm tx).size ≤ 7996 := by unfold edB; rw [ByteArray.size_append, ByteArray.size_append]; have := name_le hn; show 1 + _ + _ ≤ _; omega
  have HRZ : Hid (r.size ≤ 100000) := by show _ ≤ _; rw [← hrr]; have := recT_le hbd; omega
  have HN8 : Hid (nm.size ≤ 8000) := by show _ ≤ _; omega
  have HT8 : Hid (tx.size ≤ 8000) := by show _ ≤ _; omega
  have HG8 : Hid (g.size ≤ 8000) := hg8
  have hadd : ¬ (hasL S nm = false ∧ S.length = 20) → X = (addG g r, addN g r sy, addC g r) := fun h => by rw [← hX]; unfold edR; rw [if_neg hnb, if_pos hc4, hsl]; show (if hasL S nm = false ∧ S.length = 20 then _ else _) = _; rw [if_neg h, hrr]; rfl
  cases hh : hasL S nm
  · have HI : Hid (decide (0 ≤ idxL S nm) = false) := by show _ = _; rw [hix, hh]; rfl
    by_cases h20 : S.length = 20
    · have h20e : ((S.length : Int) == 20) = true := by rw [h20]; rfl
      have HX : Hid (X = (⟨#[]⟩, 0, 9)) := by show _ = _; rw [← hX]; unfold edR; rw [if_neg hnb, if_pos hc4, hsl]; exact if_pos ⟨hh, h20⟩
      clear hX hok hn hst hsl hix hh hrr hpl hpt hbd hadd hc4 hnb h20
      go_enter Tryz.func18, Tryz.ntmps18
      go_wp2_with fail
      refine (rightState_is (b := true) HOK.out HST.out HS.out ((HP.out.alloc _).alloc _) ((HE.out.alloc _).alloc _)).mono ?_
      rintro e x ⟨⟨a, k, rfl, ho⟩, hb⟩
      have HRo : Hid (RowIs 2 srcC x a S) := ho
      have HRx : Hid (x.heap[w.heap.size]? = some (.cells #[.string g, .int .i64 sy] 33 (0, 0))) := heap_keep (heap_more (heap_alloc_new w _) _) hb
      have HYx : Hid (x.heap[w.heap.size + 1]? = some (.cells #[.string ⟨#[]⟩, .int .i64 0, .string ⟨#[]⟩, .int .i64 0, .int .i64 0] 37 (0, 0))) := heap_keep (heap_new2 w _ _) hb
      have HBx : Hid (Below w.heap.size w x) := below_call (below_more (below_new w _) _) hb
      have HVx : Hid ((x.alloc (.cells #[.slice a S.length k, .string im, .int .i64 (n : Int), .int .i64 (p : Int)] 24)).heap[x.heap.size]? = _) := heap_alloc_new x _
      have hz1 := heap_lt HYx.out
      clear hb ho
      go_wp2_with fail
      refine (implName_is (b := true) _ HNM.out HN.out).mono ?_
      rintro e z ⟨rfl, hz⟩
      have hz2 := hz.symm
      clear hz
      subst hz2
      go_wp2_with fail
      refine (find_is HI.out (HRo.out.alloc _) rfl (by omega)).mono ?_
      rintro e z ⟨⟨kf, rfl⟩, hb⟩
      have HRq : Hid (z.heap[w.heap.size]? = some (.cells #[.string g, .int .i64 sy] 33 (0, 0))) := heap_keep (heap_more HRx.out _) hb
      have HYq : Hid (z.heap[w.heap.size + 1]? = some (.cells #[.string ⟨#[]⟩, .int .i64 0, .string ⟨#[]⟩, .int .i64 0, .int .i64 0] 37 (0, 0))) := heap_keep (heap_more HYx.out _) hb
      have HVq : Hid (z.heap[x.heap.size]? = _) := heap_keep HVx.out hb
      have HBq : Hid (Below w.heap.size w z) := below_call (below_more HBx.out _) hb
      have hzq := heap_lt HVq.out
      clear hb
      obtain ⟨⟨v0, v1, v2, v3⟩, _⟩ := four_cf HVq.out
      obtain ⟨⟨k0, k1, k2, k3, k4⟩, f0, f1, f2, f3, f4⟩ := five_cf HYq.out
      go_wp2
      exact bodyPost_ret (results_cell_row Tryz.results18 _ _ (w.heap.size + 1) 37 _ (0, 0) _ rfl (set_five HYq.out) Tryz.underlying37 rfl (by kernel_rfl)) rfl ⟨ret_shR HX.out, ((((HBq.out.setCell (by show _ ≤ w.heap.size + 1; omega) _).setCell (by show _ ≤ w.heap.size + 1; omega) _).setCell (by show _ ≤ w.heap.size + 1; omega) _).setCell (by show _ ≤ w.heap.size + 1; omega) _).setCell (by show _ ≤ w.heap.size + 1; omega) _⟩
    · have h20e : ((S.length : Int) == 20) = false := by rw [beq_eq_false_iff_ne]; omega
      have h20n : ¬ (S.length : Int) = 20 := by omega
      have HX : Hid (X = (addG g r, addN g r sy, addC g r)) := hadd (fun h => h20 h.2)
      clear hX hok hn hst hsl hix hh hrr hpl hpt hbd hadd hc4 hnb h20
      go_enter Tryz.func18, Tryz.ntmps18
      go_wp2_with fail
      refine (rightState_is (b := true) HOK.out HST.out HS.out ((HP.out.alloc _).alloc _) ((HE.out.alloc _).alloc _)).mono ?_
      rintro e x ⟨⟨a, k, rfl, ho⟩, hb⟩
      have HRo : Hid (RowIs 2 srcC x a S) := ho
      have HRx : Hid (x.heap[w.heap.size]? = some (.cells #[.string g, .int .i64 sy] 33 (0, 0))) := heap_keep (heap_more (heap_alloc_new w _) _) hb
      have HYx : Hid (x.heap[w.heap.size + 1]? = some (.cells #[.string ⟨#[]⟩, .int .i64 0, .string ⟨#[]⟩, .int .i64 0, .int .i64 0] 37 (0, 0))) := heap_keep (heap_new2 w _ _) hb
      have HBx : Hid (Below w.heap.size w x) := below_call (below_more (below_new w _) _) hb
      have HVx : Hid ((x.alloc (.cells #[.slice a S.length k, .string im, .int .i64 (n : Int), .int .i64 (p : Int)] 24)).heap[x.heap.size]? = _) := heap_alloc_new x _
      have hz1 := heap_lt HYx.out
      clear hb ho
      go_wp2_with fail
      refine (implName_is (b := true) _ HNM.out HN.out).mono ?_
      rintro e z ⟨rfl, hz⟩
      have hz2 := hz.symm
      clear hz
      subst hz2
      go_wp2_with fail
      refine (find_is HI.out (HRo.out.alloc _) rfl (by omega)).mono ?_
      rintro e z ⟨⟨kf, rfl⟩, hb⟩
      have HRq : Hid (z.heap[w.heap.size]? = some (.cells #[.string g, .int .i64 sy] 33 (0, 0))) := heap_keep (heap_more HRx.out _) hb
      have HYq : Hid (z.heap[w.heap.size + 1]? = some (.cells #[.string ⟨#[]⟩, .int .i64 0, .string ⟨#[]⟩, .int .i64 0, .int .i64 0] 37 (0, 0))) := heap_keep (heap_more HYx.out _) hb
      have HVq : Hid (z.heap[x.heap.size]? = _) := heap_keep HVx.out hb
      have HBq : Hid (Below w.heap.size w z) := below_call (below_more HBx.out _) hb
      have hzq := heap_lt HVq.out
      clear hb
      obtain ⟨⟨v0, v1, v2, v3⟩, _⟩ := four_cf HVq.out
      obtain ⟨c0, c1, c2, c3⟩ := two_cells HRq.out
      go_wp2_with fail
      go_region_held3 (fun w' => w'.cell? ⟨w.heap.size, 0, none⟩ = some (.string g) ∧ w'.cell? ⟨w.heap.size, 1, none⟩ = some (.int .i64 sy)) (first | exact ⟨row20 (by repeat (first | with_reducible exact HRq.out | with_reducible apply heap_drewn | with_reducible apply heap_more)), row21 (by repeat (first | with_reducible exact HRq.out | with_reducible apply heap_drewn | with_reducible apply heap_more))⟩ | exact five_far HRq.out) (first
        | (go_at_call 40; refine (recEd_is HRT.out HN8.out HT8.out (by repeat (first | with_reducible exact rows_two z nm tx | with_reducible apply rowT_drew))).mono ?_; rintro e q ⟨rfl, hb⟩; have HRq : Hid (q.heap[w.heap.size]? = some (.cells #[.string g, .int .i64 sy] 33 (0, 0))) := heap_keep (by repeat (first | with_reducible exact HRq.out | with_reducible apply heap_drewn | with_reducible apply heap_more)) hb; have HYq : Hid (q.heap[w.heap.size + 1]? = some (.cells #[.string ⟨#[]⟩, .int .i64 0, .string ⟨#[]⟩, .int .i64 0, .int .i64 0] 37 (0, 0))) := heap_keep (by repeat (first | with_reducible exact HYq.out | with_reducible apply heap_drewn | with_reducible apply heap_more)) hb; have HBq : Hid (Below w.heap.size w q) := below_call (by repeat (first | with_reducible exact HBq.out | with_reducible refine Below.drew ?_ | with_reducible refine below_more ?_ _)) hb; clear hb)
        | (go_at_call 39; refine (withRecord_any g sy r _ HG8.out HRZ.out).mono ?_; unfold shopV; rintro e q ⟨rfl, hb⟩; have HRq : Hid (q.heap[w.heap.size]? = some (.cells #[.string g, .int .i64 sy] 33 (0, 0))) := heap_keep (by repeat (first | with_reducible exact HRq.out | with_reducible apply heap_drewn | with_reducible apply heap_more)) hb; have HYq : Hid (q.heap[w.heap.size + 1]? = some (.cells #[.string ⟨#[]⟩, .int .i64 0, .string ⟨#[]⟩, .int .i64 0, .int .i64 0] 37 (0, 0))) := heap_keep (by repeat (first | with_reducible exact HYq.out | with_reducible apply heap_drewn | with_reducible apply heap_more)) hb; have HBq : Hid (Below w.heap.size w q) := below_call (by repeat (first | with_reducible exact HBq.out | with_reducible refine Below.drew ?_ | with_reducible refine below_more ?_ _)) hb; obtain ⟨⟨m0, m1, m2, m3, m4⟩, g0, g1, g2, g3, g4⟩ := five_cf HYq.out; clear hb))
      all_goals
        go_wp2
        exact bodyPost_ret (results_cell_row Tryz.results18 _ _ (w.heap.size + 1) 37 _ (0, 0) _ rfl (set_five HYq.out) Tryz.underlying37 rfl (by kernel_rfl)) rfl ⟨ret_shR HX.out, ((((HBq.out.setCell (by show _ ≤ w.heap.size + 1; omega) _).setCell (by show _ ≤ w.heap.size + 1; omega) _).setCell (by show _ ≤ w.heap.size + 1; omega) _).setCell (by show _ ≤ w.heap.size + 1; omega) _).setCell (by show _ ≤ w.heap.size + 1; omega) _⟩
  · have HI : Hid (decide (0 ≤ idxL S nm) = true) := by show _ = _; rw [hix, hh]; exact decide_eq_true (by show (0 : Int) ≤ (plcL S nm : Int); omega)
    have HX : Hid (X = (addG g r, addN g r sy, addC g r)) := hadd (fun h => by rw [hh] at h; cases h.1)
    clear hX hok hn hst hsl hix hh hrr hpl hpt hbd hadd hc4 hnb
    go_enter Tryz.func18, Tryz.ntmps18
    go_wp2_with fail
    refine (rightState_is (b := true) HOK.out HST.out HS.out ((HP.out.alloc _).alloc _) ((HE.out.alloc _).alloc _)).mono ?_
    rintro e x ⟨⟨a, k, rfl, ho⟩, hb⟩
    have HRo : Hid (RowIs 2 srcC x a S) := ho
    have HRx : Hid (x.heap[w.heap.size]? = some (.cells #[.string g, .int .i64 sy] 33 (0, 0))) := heap_keep (heap_more (heap_alloc_new w _) _) hb
    have HYx : Hid (x.heap[w.heap.size + 1]? = some (.cells #[.string ⟨#[]⟩, .int .i64 0, .string ⟨#[]⟩, .int .i64 0, .int .i64 0] 37 (0, 0))) := heap_keep (heap_new2 w _ _) hb
    have HBx : Hid (Below w.heap.size w x) := below_call (below_more (below_new w _) _) hb
    have HVx : Hid ((x.alloc (.cells #[.slice a S.length k, .string im, .int .i64 (n : Int), .int .i64 (p : Int)] 24)).heap[x.heap.size]? = _) := heap_alloc_new x _
    have hz1 := heap_lt HYx.out
    clear hb ho
    go_wp2_with fail
    refine (implName_is (b := true) _ HNM.out HN.out).mono ?_
    rintro e z ⟨rfl, hz⟩
    have hz2 := hz.symm
    clear hz
    subst hz2
    go_wp2_with fail
    refine (find_is HI.out (HRo.out.alloc _) rfl (by omega)).mono ?_
    rintro e z ⟨⟨kf, rfl⟩, hb⟩
    have HRq : Hid (z.heap[w.heap.size]? = some (.cells #[.string g, .int .i64 sy] 33 (0, 0))) := heap_keep (heap_more HRx.out _) hb
    have HYq : Hid (z.heap[w.heap.size + 1]? = some (.cells #[.string ⟨#[]⟩, .int .i64 0, .string ⟨#[]⟩, .int .i64 0, .int .i64 0] 37 (0, 0))) := heap_keep (heap_more HYx.out _) hb
    have HVq : Hid (z.heap[x.heap.size]? = _) := heap_keep HVx.out hb
    have HBq : Hid (Below w.heap.size w z) := below_call (below_more HBx.out _) hb
    have hzq := heap_lt HVq.out
    clear hb
    obtain ⟨⟨v0, v1, v2, v3⟩, _⟩ := four_cf HVq.out
    obtain ⟨c0, c1, c2, c3⟩ := two_cells HRq.out
    go_wp2_with fail
    go_region_held3 (fun w' => w'.cell? ⟨w.heap.size, 0, none⟩ = some (.string g) ∧ w'.cell? ⟨w.heap.size, 1, none⟩ = some (.int .i64 sy)) (first | exact ⟨row20 (by repeat (first | with_reducible exact HRq.out | with_reducible apply heap_drewn | with_reducible apply heap_more)), row21 (by repeat (first | with_reducible exact HRq.out | with_reducible apply heap_drewn | with_reducible apply heap_more))⟩ | exact five_far HRq.out) (first
      | (go_at_call 40; refine (recEd_is HRT.out HN8.out HT8.out (by repeat (first | with_reducible exact rows_two z nm tx | with_reducible apply rowT_drew))).mono ?_; rintro e q ⟨rfl, hb⟩; have HRq : Hid (q.heap[w.heap.size]? = some (.cells #[.string g, .int .i64 sy] 33 (0, 0))) := heap_keep (by repeat (first | with_reducible exact HRq.out | with_reducible apply heap_drewn | with_reducible apply heap_more)) hb; have HYq : Hid (q.heap[w.heap.size + 1]? = some (.cells #[.string ⟨#[]⟩, .int .i64 0, .string ⟨#[]⟩, .int .i64 0, .int .i64 0] 37 (0, 0))) := heap_keep (by repeat (first | with_reducible exact HYq.out | with_reducible apply heap_drewn | with_reducible apply heap_more)) hb; have HBq : Hid (Below w.heap.size w q) := below_call (by repeat (first | with_reducible exact HBq.out | with_reducible refine Below.drew ?_ | with_reducible refine below_more ?_ _)) hb; clear hb)
      | (go_at_call 39; refine (withRecord_any g sy r _ HG8.out HRZ.out).mono ?_; unfold shopV; rintro e q ⟨rfl, hb⟩; have HRq : Hid (q.heap[w.heap.size]? = some (.cells #[.string g, .int .i64 sy] 33 (0, 0))) := heap_keep (by repeat (first | with_reducible exact HRq.out | with_reducible apply heap_drewn | with_reducible apply heap_more)) hb; have HYq : Hid (q.heap[w.heap.size + 1]? = some (.cells #[.string ⟨#[]⟩, .int .i64 0, .string ⟨#[]⟩, .int .i64 0, .int .i64 0] 37 (0, 0))) := heap_keep (by repeat (first | with_reducible exact HYq.out | with_reducible apply heap_drewn | with_reducible apply heap_more)) hb; have HBq : Hid (Below w.heap.size w q) := below_call (by repeat (first | with_reducible exact HBq.out | with_reducible refine Below.drew ?_ | with_reducible refine below_more ?_ _)) hb; obtain ⟨⟨m0, m1, m2, m3, m4⟩, g0, g1, g2, g3, g4⟩ := five_cf HYq.out; clear hb))
    all_goals
      go_wp2
      exact bodyPost_ret (results_cell_row Tryz.results18 _ _ (w.heap.size + 1) 37 _ (0, 0) _ rfl (set_five HYq.out) Tryz.underlying37 rfl (by kernel_rfl)) rfl ⟨ret_shR HX.out, ((((HBq.out.setCell (by show _ ≤ w.heap.size + 1; omega) _).setCell (by show _ ≤ w.heap.size + 1; omega) _).setCell (by show _ ≤ w.heap.size + 1; omega) _).setCell (by show _ ≤ w.heap.size + 1; omega) _).setCell (by show _ ≤ w.heap.size + 1; omega) _⟩
end Go.Proofs.YtnhehdobpibgkaaGreatDoor
