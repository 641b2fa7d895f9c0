/- Edit, by the specification. -/
import Derived.Test.YtnhehdobpibgkaaGreatDoorRows
import Derived.WalkKit
import Derived.WalkSpells
import Derived.WalkLawsBesides
import Derived.Outline
import Derived.RegionTactic
import Derived.BigRegion
import Derived.Deep.RegionWith
import Derived.Test.YtnhehdobpibgkaaGreatDoorBun0
import Derived.Test.YtnhehdobpibgkaaGreatDoorBun48
import Derived.Test.YtnhehdobpibgkaaGreatDoorRightSZq
import Derived.Deep.RegionHeld3
namespace Go.Proofs.YtnhehdobpibgkaaGreatDoor
open Go.RowKit
set_option linter.unusedVariables false

set_option maxRecDepth 100000 in
set_option maxHeartbeats 3200000 in
theorem specEdit_any (g : ByteArray) (sy : Int) (nm tx : ByteArray) (w : World) (hs : g.size ≤ maxLen) (hm : nm.size ≤ maxLen) (ht : tx.size ≤ maxLen) : Calls Tryz.prog 17 #[.agg #[.string g, .int .i64 sy], .string nm, .string tx] w fun e w' => e = .returned (shopV (edR g sy nm tx).1 (edR g sy nm tx).2.1 (edR g sy nm tx).2.2) ∧ Below w.heap.size w w' := by
  have HS : Hid (g.size ≤ maxLen) := hs
  have HNM : Hid (nm.size ≤ maxLen) := hm
  have HTM : Hid (tx.size ≤ maxLen) := ht
  unfold maxLen at hs hm ht
  obtain ⟨X, hX⟩ : ∃ X, edR g sy nm tx = X := ⟨_, rfl⟩
  rw [hX]
  by_cases h1 : 8000 < nm.size
  · have HX : Hid (X = (⟨#[]⟩, 0, 2)) := by show _ = _; rw [← hX]; unfold edR; exact if_pos (.inl h1)
    have h1i : (8000 : Int) < (nm.size : Int) := by omega
    clear hX
    go_enter Tryz.func17, Tryz.ntmps17
    go_wp2
    exact bodyPost_ret (results_cell_row Tryz.results17 _ _ (w.heap.size + 1) 37 _ (0, 0) _ rfl (heap_new2 w _ _) Tryz.underlying37 rfl (by kernel_rfl)) rfl ⟨ret_shR HX.out, below_more (below_new _ _) _⟩
  have h1i : ¬ (8000 : Int) < (nm.size : Int) := by omega
  by_cases h2 : 8000 < tx.size
  · have HX : Hid (X = (⟨#[]⟩, 0, 2)) := by show _ = _; rw [← hX]; unfold edR; exact if_pos (.inr h2)
    have h2i : (8000 : Int) < (tx.size : Int) := by omega
    clear hX
    go_enter Tryz.func17, Tryz.ntmps17
    go_wp2
    exact bodyPost_ret (results_cell_row Tryz.results17 _ _ (w.heap.size + 1) 37 _ (0, 0) _ rfl (heap_new2 w _ _) Tryz.underlying37 rfl (by kernel_rfl)) rfl ⟨ret_shR HX.out, below_more (below_new _ _) _⟩
  have h2i : ¬ (8000 : Int) < (tx.size : Int) := by omega
  cases hok : okShop g sy
  · have HOK : Hid (okShop g sy = false) := hok
    have HX : Hid (X = (⟨#[]⟩, 0, 1)) := by show _ = _; rw [← hX]; unfold edR; rw [if_neg (by rintro (h | h) <;> omega)]; exact if_neg (fun h => by rw [hok] at h; cases h.1)
    clear hX hok
    go_enter Tryz.func17, Tryz.ntmps17
    go_wp2_with fail
    refine (shopRightS_is (b := false) HOK.out HS.out).mono ?_
    rintro e x ⟨rfl, hb⟩
    have HRx : Hid (x.heap[w.heap.size]? = some (.cells #[.string g, .int .i64 sy] 33 (0, 0))) := heap_keep (heap_more (heap_alloc_new w _) _) hb
    have HYx : Hid (x.heap[w.heap.size + 1]? = some (.cells #[.string ⟨#[]⟩, .int .i64 0, .string ⟨#[]⟩, .int .i64 0, .int .i64 0] 37 (0, 0))) := heap_keep (heap_new2 w _ _) hb
    have HBx : Hid (Below w.heap.size w x) := below_call (below_more (below_new w _) _) hb
    clear hb
    obtain ⟨c0, c1, c2, c3⟩ := two_cells HRx.out
    obtain ⟨⟨k0, k1, k2, k3, k4⟩, f0, f1, f2, f3, f4⟩ := five_cf HYx.out
    go_wp2
    exact bodyPost_ret (results_cell_row Tryz.results17 _ _ (w.heap.size + 1) 37 _ (0, 0) _ rfl (set_five HYx.out) Tryz.underlying37 rfl (by kernel_rfl)) rfl ⟨ret_shR HX.out, ((((HBx.out.setCell (by show _ ≤ w.heap.size + 1; omega) _).setCell (by show _ ≤ w.heap.size + 1; omega) _).setCell (by show _ ≤ w.heap.size + 1; omega) _).setCell (by show _ ≤ w.heap.size + 1; omega) _).setCell (by show _ ≤ w.heap.size + 1; omega) _⟩
  have HOK : Hid (okShop g sy = true) := hok
  have hg8 := ok_small hok
  cases hn : nameB nm
  · have HN : Hid (nameB nm = false) := hn
    have HX : Hid (X = (⟨#[]⟩, 0, 1)) := by show _ = _; rw [← hX]; unfold edR; rw [if_neg (by rintro (h | h) <;> omega)]; exact if_neg (fun h => by have := h.2.1; rw [hn] at this; cases this)
    clear hX hok hn
    go_enter Tryz.func17, Tryz.ntmps17
    go_wp2_with fail
    refine (shopRightS_is (b := true) HOK.out HS.out).mono ?_
    rintro e x ⟨rfl, hb⟩
    have HRx : Hid (x.heap[w.heap.size]? = some (.cells #[.string g, .int .i64 sy] 33 (0, 0))) := heap_keep (heap_more (heap_alloc_new w _) _) hb
    have HYx : Hid (x.heap[w.heap.size + 1]? = some (.cells #[.string ⟨#[]⟩, .int .i64 0, .string ⟨#[]⟩, .int .i64 0, .int .i64 0] 37 (0, 0))) := heap_keep (heap_new2 w _ _) hb
    have HBx : Hid (Below w.heap.size w x) := below_call (below_more (below_new w _) _) hb
    clear hb
    go_wp2_with fail
    refine (specName_is (b := false) _ HNM.out HN.out).mono ?_
    rintro e z ⟨rfl, hz⟩
    have hz2 := hz.symm
    clear hz
    subst hz2
    obtain ⟨c0, c1, c2, c3⟩ := two_cells HRx.out
    obtain ⟨⟨k0, k1, k2, k3, k4⟩, f0, f1, f2, f3, f4⟩ := five_cf HYx.out
    go_wp2
    exact bodyPost_ret (results_cell_row Tryz.results17 _ _ (w.heap.size + 1) 37 _ (0, 0) _ rfl (set_five HYx.out) Tryz.underlying37 rfl (by kernel_rfl)) rfl ⟨ret_shR HX.out, ((((HBx.out.setCell (by show _ ≤ w.heap.size + 1; omega) _).setCell (by show _ ≤ w.heap.size + 1; omega) _).setCell (by show _ ≤ w.heap.size + 1; omega) _).setCell (by show _ ≤ w.heap.size + 1; omega) _).setCell (by show _ ≤ w.heap.size + 1; omega) _⟩
  have HN : Hid (nameB nm = true) := hn
  have hnl := name_le hn
  by_cases h4 : tx.size ≤ 4000
  case neg =>
    have HX : Hid (X = (⟨#[]⟩, 0, 1)) := by show _ = _; rw [← hX]; unfold edR; rw [if_neg (by rintro (h | h) <;> omega)]; exact if_neg (fun h => h4 h.2.2)
    have h4i : (4000 : Int) < (tx.size : Int) := by omega
    clear hX hok hn h4
    go_enter Tryz.func17, Tryz.ntmps17
    go_wp2_with fail
    refine (shopRightS_is (b := true) HOK.out HS.out).mono ?_
    rintro e x ⟨rfl, hb⟩
    have HRx : Hid (x.heap[w.heap.size]? = some (.cells #[.string g, .int .i64 sy] 33 (0, 0))) := heap_keep (heap_more (heap_alloc_new w _) _) hb
    have HYx : Hid (x.heap[w.heap.size + 1]? = some (.cells #[.string ⟨#[]⟩, .int .i64 0, .string ⟨#[]⟩, .int .i64 0, .int .i64 0] 37 (0, 0))) := heap_keep (heap_new2 w _ _) hb
    have HBx : Hid (Below w.heap.size w x) := below_call (below_more (below_new w _) _) hb
    clear hb
    go_wp2_with fail
    refine (specName_is (b := true) _ HNM.out HN.out).mono ?_
    rintro e z ⟨rfl, hz⟩
    have hz2 := hz.symm
    clear hz
    subst hz2
    obtain ⟨c0, c1, c2, c3⟩ := two_cells HRx.out
    obtain ⟨⟨k0, k1, k2, k3, k4⟩, f0, f1, f2, f3, f4⟩ := five_cf HYx.out
    go_wp2
    exact bodyPost_ret (results_cell_row Tryz.results17 _ _ (w.heap.size + 1) 37 _ (0, 0) _ rfl (set_five HYx.out) Tryz.underlying37 rfl (by kernel_rfl)) rfl ⟨ret_shR HX.out, ((((HBx.out.setCell (by show _ ≤ w.heap.size + 1; omega) _).setCell (by show _ ≤ w.heap.size + 1; omega) _).setCell (by show _ ≤ w.heap.size + 1; omega) _).setCell (by show _ ≤ w.heap.size + 1; omega) _).setCell (by show _ ≤ w.heap.size + 1; omega) _⟩
  have h4i : ¬ (4000 : Int) < (tx.size : Int) := by omega
  obtain ⟨⟨⟨S, im, n⟩, p⟩, hst⟩ : ∃ st, stateL g = st := ⟨_, rfl⟩
  have HST : Hid (stateL g = ((S, im, n), p)) := hst
  have hrt := (stateL_right g).1
  rw [hst] at hrt
  have hSl : S.length ≤ 20 := hrt.2.1
  have hidx := idx_has hrt.1 nm
  obtain ⟨r, hrr⟩ : ∃ r, recT (edB nm tx) = r := ⟨_, rfl⟩
  have HRT : Hid (recT (edB nm tx) = r) := hrr
  by_cases h20 : S.length = 20
  · have h20i : (20 : Int) ≤ (S.length : Int) := by omega
    cases hh : hasL S nm
    · have HI : Hid (idxL S nm = -1) := by show _ = _; rw [hidx, hh]; rfl
      have HX : Hid (X = (⟨#[]⟩, 0, 9)) := by show _ = _; rw [← hX]; unfold edR; rw [if_neg (by rintro (h | h) <;> omega), if_pos ⟨hok, hn, h4⟩, hst]; exact if_pos ⟨hh, h20⟩
      clear hX hok hn hst hrt hidx hh h20 hrr
      go_enter Tryz.func17, Tryz.ntmps17
      go_wp2_with fail
      refine (shopRightS_is (b := true) HOK.out HS.out).mono ?_
      rintro e x ⟨rfl, hb⟩
      have HRx : Hid (x.heap[w.heap.size]? = some (.cells #[.string g, .int .i64 sy] 33 (0, 0))) := heap_keep (heap_more (heap_alloc_new w _) _) hb
      have HYx : Hid (x.heap[w.heap.size + 1]? = some (.cells #[.string ⟨#[]⟩, .int .i64 0, .string ⟨#[]⟩, .int .i64 0, .int .i64 0] 37 (0, 0))) := heap_keep (heap_new2 w _ _) hb
      have HBx : Hid (Below w.heap.size w x) := below_call (below_more (below_new w _) _) hb
      clear hb
      go_wp2_with fail
      refine (specName_is (b := true) _ HNM.out HN.out).mono ?_
      rintro e z ⟨rfl, hz⟩
      have hz2 := hz.symm
      clear hz
      subst hz2
      obtain ⟨c0, c1, c2, c3⟩ := two_cells HRx.out
      obtain ⟨⟨k0, k1, k2, k3, k4⟩, f0, f1, f2, f3, f4⟩ := five_cf HYx.out
      go_wp2_with fail
      refine (l08State_any g _ hg8).mono ?_
      rintro e y ⟨⟨v, rfl, ho⟩, hb⟩
      rw [HST.out] at ho ⊢
      obtain ⟨a, l, rfl, hRo, _⟩ := ho.rows srcC_len
      have HRo : Hid (RowIs 2 srcC y a S) := hRo
      have HRy : Hid (y.heap[w.heap.size]? = _) := heap_keep HRx.out hb
      have HYy : Hid (y.heap[w.heap.size + 1]? = _) := heap_keep HYx.out hb
      have HBy : Hid (Below w.heap.size w y) := below_call HBx.out hb
      clear hb
      have hfd := field_src im n p a S.length l
      unfold StR
      dsimp only
      clear ho hRo c0 c1 c2 c3 k0 k1 k2 k3 k4 f0 f1 f2 f3 f4
      go_wp2_with fail
      refine (l04_is HI.out HRo.out rfl (by omega)).mono ?_
      rintro e z ⟨rfl, hb⟩
      have HRz : Hid (z.heap[w.heap.size]? = _) := heap_keep HRy.out hb
      have HYz : Hid (z.heap[w.heap.size + 1]? = _) := heap_keep HYy.out hb
      have HBz : Hid (Below w.heap.size w z) := below_call HBy.out hb
      clear hb
      obtain ⟨c0, c1, c2, c3⟩ := two_cells HRz.out
      obtain ⟨⟨k0, k1, k2, k3, k4⟩, f0, f1, f2, f3, f4⟩ := five_cf HYz.out
      go_wp2
      exact bodyPost_ret (results_cell_row Tryz.results17 _ _ (w.heap.size + 1) 37 _ (0, 0) _ rfl (set_five HYz.out) Tryz.underlying37 rfl (by kernel_rfl)) rfl ⟨ret_shR HX.out, ((((HBz.out.setCell (by show _ ≤ w.heap.size + 1; omega) _).setCell (by show _ ≤ w.heap.size + 1; omega) _).setCell (by show _ ≤ w.heap.size + 1; omega) _).setCell (by show _ ≤ w.heap.size + 1; omega) _).setCell (by show _ ≤ w.heap.size + 1; omega) _⟩
    · have HI : Hid (idxL S nm = (plcL S nm : Int)) := by show _ = _; rw [hidx, hh]; rfl
      have hi0 : ¬ (plcL S nm : Int) < 0 := by omega
      have HX : Hid (X = (addG g r, addN g r sy, addC g r)) := by show _ = _; rw [← hX]; unfold edR; rw [if_neg (by rintro (h | h) <;> omega), if_pos ⟨hok, hn, h4⟩, hst]; show (if hasL S nm = false ∧ _ then _ else _) = _; rw [if_neg (by rw [hh]; simp), hrr]; rfl
      clear hh h20 hrr
      have hpl := putT_sm (t := nm) (by omega)
      have hpt := putT_sm (t := tx) h4
      have HBD : Hid ((edB nm tx).size ≤ 7996) := by show _ ≤ _; unfold edB; rw [ByteArray.size_append, ByteArray.size_append]; show 1 + _ + _ ≤ _; omega
      obtain ⟨pn, hpn⟩ : ∃ pn, putT nm = pn := ⟨_, rfl⟩
      obtain ⟨pt, hpp⟩ : ∃ pt, putT tx = pt := ⟨_, rfl⟩
      have HPN : Hid (putT nm = pn) := hpn
      have HPT : Hid (putT tx = pt) := hpp
      rw [hpn] at hpl
      rw [hpp] at hpt
      have HBE : Hid ((⟨#[69]⟩ ++ pn) ++ pt = edB nm tx) := by show _ = _; rw [← hpn, ← hpp]; rfl
      have hadd : ∀ W : World, _ := fun W : World => run_string_add_sum (P := Tryz.prog) W ⟨#[69]⟩ pn (by show 1 + _ ≤ _; omega)
      have hadd2 : ∀ W : World, _ := fun W : World => run_string_add_sum (P := Tryz.prog) W (⟨#[69]⟩ ++ pn) pt (by rw [ByteArray.size_append]; show 1 + _ + _ ≤ _; omega)
      clear hX hok hn hst hrt hidx hpn hpp h4
      go_enter Tryz.func17, Tryz.ntmps17
      go_wp2_with fail
      refine (shopRightS_is (b := true) HOK.out HS.out).mono ?_
      rintro e x ⟨rfl, hb⟩
      have HRx : Hid (x.heap[w.heap.size]? = some (.cells #[.string g, .int .i64 sy] 33 (0, 0))) := heap_keep (heap_more (heap_alloc_new w _) _) hb
      have HYx : Hid (x.heap[w.heap.size + 1]? = some (.cells #[.string ⟨#[]⟩, .int .i64 0, .string ⟨#[]⟩, .int .i64 0, .int .i64 0] 37 (0, 0))) := heap_keep (heap_new2 w _ _) hb
      have HBx : Hid (Below w.heap.size w x) := below_call (below_more (below_new w _) _) hb
      clear hb
      go_wp2_with fail
      refine (specName_is (b := true) _ HNM.out HN.out).mono ?_
      rintro e z ⟨rfl, hz⟩
      have hz2 := hz.symm
      clear hz
      subst hz2
      obtain ⟨c0, c1, c2, c3⟩ := two_cells HRx.out
      obtain ⟨⟨k0, k1, k2, k3, k4⟩, f0, f1, f2, f3, f4⟩ := five_cf HYx.out
      go_wp2_with fail
      refine (l08State_any g _ hg8).mono ?_
      rintro e y ⟨⟨v, rfl, ho⟩, hb⟩
      rw [HST.out] at ho ⊢
      obtain ⟨a, l, rfl, hRo, _⟩ := ho.rows srcC_len
      have HRo : Hid (RowIs 2 srcC y a S) := hRo
      have HRy : Hid (y.heap[w.heap.size]? = _) := heap_keep HRx.out hb
      have HYy : Hid (y.heap[w.heap.size + 1]? = _) := heap_keep HYx.out hb
      have HBy : Hid (Below w.heap.size w y) := below_call HBx.out hb
      clear hb
      have hfd := field_src im n p a S.length l
      unfold StR
      dsimp only
      clear ho hRo c0 c1 c2 c3 k0 k1 k2 k3 k4 f0 f1 f2 f3 f4
      go_wp2_with fail
      refine (l04_is HI.out HRo.out rfl (by omega)).mono ?_
      rintro e z ⟨rfl, hb⟩
      have HRz : Hid (z.heap[w.heap.size]? = _) := heap_keep HRy.out hb
      have HYz : Hid (z.heap[w.heap.size + 1]? = _) := heap_keep HYy.out hb
      have HBz : Hid (Below w.heap.size w z) := below_call HBy.out hb
      clear hb
      obtain ⟨c0, c1, c2, c3⟩ := two_cells HRz.out
      obtain ⟨⟨k0, k1, k2, k3, k4⟩, f0, f1, f2, f3, f4⟩ := five_cf HYz.out
      go_wp2_with fail
      have HRq : Hid (z.heap[w.heap.size]? = _) := HRz.out
      have HYq : Hid (z.heap[w.heap.size + 1]? = _) := HYz.out
      have HBq : Hid (Below w.heap.size w z) := HBz.out
      go_region_held3 (fun w' => w'.cell? ⟨w.heap.size, 0, none⟩ = some (.string g) ∧ w'.cell? ⟨w.heap.size, 1, none⟩ = some (.int .i64 sy)) (first | exact ⟨row20 (by repeat (first | with_reducible exact HRq.out | with_reducible apply heap_drewn)), row21 (by repeat (first | with_reducible exact HRq.out | with_reducible apply heap_drewn))⟩ | exact five_far HRq.out) (first
        | (go_at_call_of 36 (Value.string nm); refine (specPut_is HPN.out HNM.out).mono ?_; rintro e q ⟨rfl, hb⟩; have HRq : Hid (q.heap[w.heap.size]? = some (.cells #[.string g, .int .i64 sy] 33 (0, 0))) := heap_keep (by repeat (first | with_reducible exact HRq.out | with_reducible apply heap_drewn)) hb; have HYq : Hid (q.heap[w.heap.size + 1]? = some (.cells #[.string ⟨#[]⟩, .int .i64 0, .string ⟨#[]⟩, .int .i64 0, .int .i64 0] 37 (0, 0))) := heap_keep (by repeat (first | with_reducible exact HYq.out | with_reducible apply heap_drewn)) hb; have HBq : Hid (Below w.heap.size w q) := below_call (by repeat (first | with_reducible exact HBq.out | with_reducible refine Below.drew ?_)) hb; clear hb)
        | (go_at_call_of 36 (Value.string tx); refine (specPut_is HPT.out HTM.out).mono ?_; rintro e q ⟨rfl, hb⟩; have HRq : Hid (q.heap[w.heap.size]? = some (.cells #[.string g, .int .i64 sy] 33 (0, 0))) := heap_keep (by repeat (first | with_reducible exact HRq.out | with_reducible apply heap_drewn)) hb; have HYq : Hid (q.heap[w.heap.size + 1]? = some (.cells #[.string ⟨#[]⟩, .int .i64 0, .string ⟨#[]⟩, .int .i64 0, .int .i64 0] 37 (0, 0))) := heap_keep (by repeat (first | with_reducible exact HYq.out | with_reducible apply heap_drewn)) hb; have HBq : Hid (Below w.heap.size w q) := below_call (by repeat (first | with_reducible exact HBq.out | with_reducible refine Below.drew ?_)) hb; clear hb)
        | (go_at_call 35; rw [HBE.out]; refine (l08Add_is HRT.out hg8 HBD.out).mono ?_; unfold shopV; rintro e q ⟨rfl, hb⟩; have HRq : Hid (q.heap[w.heap.size]? = some (.cells #[.string g, .int .i64 sy] 33 (0, 0))) := heap_keep (by repeat (first | with_reducible exact HRq.out | with_reducible apply heap_drewn)) hb; have HYq : Hid (q.heap[w.heap.size + 1]? = some (.cells #[.string ⟨#[]⟩, .int .i64 0, .string ⟨#[]⟩, .int .i64 0, .int .i64 0] 37 (0, 0))) := heap_keep (by repeat (first | with_reducible exact HYq.out | with_reducible apply heap_drewn)) hb; have HBq : Hid (Below w.heap.size w q) := below_call (by repeat (first | with_reducible exact HBq.out | with_reducible refine Below.drew ?_)) hb; obtain ⟨⟨m0, m1, m2, m3, m4⟩, g0, g1, g2, g3, g4⟩ := five_cf HYq.out; clear hb))
      all_goals
        go_wp2
        exact bodyPost_ret (results_cell_row Tryz.results17 _ _ (w.heap.size + 1) 37 _ (0, 0) _ rfl (set_five HYq.out) Tryz.underlying37 rfl (by kernel_rfl)) rfl ⟨ret_shR HX.out, ((((HBq.out.setCell (by show _ ≤ w.heap.size + 1; omega) _).setCell (by show _ ≤ w.heap.size + 1; omega) _).setCell (by show _ ≤ w.heap.size + 1; omega) _).setCell (by show _ ≤ w.heap.size + 1; omega) _).setCell (by show _ ≤ w.heap.size + 1; omega) _⟩
  · have h20i : ¬ (20 : Int) ≤ (S.length : Int) := by omega
    have HX : Hid (X = (addG g r, addN g r sy, addC g r)) := by show _ = _; rw [← hX]; unfold edR; rw [if_neg (by rintro (h | h) <;> omega), if_pos ⟨hok, hn, h4⟩, hst]; show (if _ ∧ S.length = 20 then _ else _) = _; rw [if_neg (fun h => h20 h.2), hrr]; rfl
    clear h20 hrr
    have hpl := putT_sm (t := nm) (by omega)
    have hpt := putT_sm (t := tx) h4
    have HBD : Hid ((edB nm tx).size ≤ 7996) := by show _ ≤ _; unfold edB; rw [ByteArray.size_append, ByteArray.size_append]; show 1 + _ + _ ≤ _; omega
    obtain ⟨pn, hpn⟩ : ∃ pn, putT nm = pn := ⟨_, rfl⟩
    obtain ⟨pt, hpp⟩ : ∃ pt, putT tx = pt := ⟨_, rfl⟩
    have HPN : Hid (putT nm = pn) := hpn
    have HPT : Hid (putT tx = pt) := hpp
    rw [hpn] at hpl
    rw [hpp] at hpt
    have HBE : Hid ((⟨#[69]⟩ ++ pn) ++ pt = edB nm tx) := by show _ = _; rw [← hpn, ← hpp]; rfl
    have hadd : ∀ W : World, _ := fun W : World => run_string_add_sum (P := Tryz.prog) W ⟨#[69]⟩ pn (by show 1 + _ ≤ _; omega)
    have hadd2 : ∀ W : World, _ := fun W : World => run_string_add_sum (P := Tryz.prog) W (⟨#[69]⟩ ++ pn) pt (by rw [ByteArray.size_append]; show 1 + _ + _ ≤ _; omega)
    clear hX hok hn hst hrt hidx hpn hpp h4
    go_enter Tryz.func17, Tryz.ntmps17
    go_wp2_with fail
    refine (shopRightS_is (b := true) HOK.out HS.out).mono ?_
    rintro e x ⟨rfl, hb⟩
    have HRx : Hid (x.heap[w.heap.size]? = some (.cells #[.string g, .int .i64 sy] 33 (0, 0))) := heap_keep (heap_more (heap_alloc_new w _) _) hb
    have HYx : Hid (x.heap[w.heap.size + 1]? = some (.cells #[.string ⟨#[]⟩, .int .i64 0, .string ⟨#[]⟩, .int .i64 0, .int .i64 0] 37 (0, 0))) := heap_keep (heap_new2 w _ _) hb
    have HBx : Hid (Below w.heap.size w x) := below_call (below_more (below_new w _) _) hb
    clear hb
    go_wp2_with fail
    refine (specName_is (b := true) _ HNM.out HN.out).mono ?_
    rintro e z ⟨rfl, hz⟩
    have hz2 := hz.symm
    clear hz
    subst hz2
    obtain ⟨c0, c1, c2, c3⟩ := two_cells HRx.out
    obtain ⟨⟨k0, k1, k2, k3, k4⟩, f0, f1, f2, f3, f4⟩ := five_cf HYx.out
    go_wp2_with fail
    refine (l08State_any g _ hg8).mono ?_
    rintro e y ⟨⟨v, rfl, ho⟩, hb⟩
    rw [HST.out] at ho ⊢
    obtain ⟨a, l, rfl, hRo, _⟩ := ho.rows srcC_len
    have HRo : Hid (RowIs 2 srcC y a S) := hRo
    have HRy : Hid (y.heap[w.heap.size]? = _) := heap_keep HRx.out hb
    have HYy : Hid (y.heap[w.heap.size + 1]? = _) := heap_keep HYx.out hb
    have HBy : Hid (Below w.heap.size w y) := below_call HBx.out hb
    clear hb
    have hfd := field_src im n p a S.length l
    unfold StR
    dsimp only
    clear ho hRo c0 c1 c2 c3 k0 k1 k2 k3 k4 f0 f1 f2 f3 f4
    obtain ⟨c0, c1, c2, c3⟩ := two_cells HRy.out
    obtain ⟨⟨k0, k1, k2, k3, k4⟩, f0, f1, f2, f3, f4⟩ := five_cf HYy.out
    go_wp2_with fail
    have HRq : Hid (y.heap[w.heap.size]? = _) := HRy.out
    have HYq : Hid (y.heap[w.heap.size + 1]? = _) := HYy.out
    have HBq : Hid (Below w.heap.size w y) := HBy.out
    go_region_held3 (fun w' => w'.cell? ⟨w.heap.size, 0, none⟩ = some (.string g) ∧ w'.cell? ⟨w.heap.size, 1, none⟩ = some (.int .i64 sy)) (first | exact ⟨row20 (by repeat (first | with_reducible exact HRq.out | with_reducible apply heap_drewn)), row21 (by repeat (first | with_reducible exact HRq.out | with_reducible apply heap_drewn))⟩ | exact five_far HRq.out) (first
      | (go_at_call_of 36 (Value.string nm); refine (specPut_is HPN.out HNM.out).mono ?_; rintro e q ⟨rfl, hb⟩; have HRq : Hid (q.heap[w.heap.size]? = some (.cells #[.string g, .int .i64 sy] 33 (0, 0))) := heap_keep (by repeat (first | with_reducible exact HRq.out | with_reducible apply heap_drewn)) hb; have HYq : Hid (q.heap[w.heap.size + 1]? = some (.cells #[.string ⟨#[]⟩, .int .i64 0, .string ⟨#[]⟩, .int .i64 0, .int .i64 0] 37 (0, 0))) := heap_keep (by repeat (first | with_reducible exact HYq.out | with_reducible apply heap_drewn)) hb; have HBq : Hid (Below w.heap.size w q) := below_call (by repeat (first | with_reducible exact HBq.out | with_reducible refine Below.drew ?_)) hb; clear hb)
      | (go_at_call_of 36 (Value.string tx); refine (specPut_is HPT.out HTM.out).mono ?_; rintro e q ⟨rfl, hb⟩; have HRq : Hid (q.heap[w.heap.size]? = some (.cells #[.string g, .int .i64 sy] 33 (0, 0))) := heap_keep (by repeat (first | with_reducible exact HRq.out | with_reducible apply heap_drewn)) hb; have HYq : Hid (q.heap[w.heap.size + 1]? = some (.cells #[.string ⟨#[]⟩, .int .i64 0, .string ⟨#[]⟩, .int .i64 0, .int .i64 0] 37 (0, 0))) := heap_keep (by repeat (first | with_reducible exact HYq.out | with_reducible apply heap_drewn)) hb; have HBq : Hid (Below w.heap.size w q) := below_call (by repeat (first | with_reducible exact HBq.out | with_reducible refine Below.drew ?_)) hb; clear hb)
      | (go_at_call 35; rw [HBE.out]; refine (l08Add_is HRT.out hg8 HBD.out).mono ?_; unfold shopV; rintro e q ⟨rfl, hb⟩; have HRq : Hid (q.heap[w.heap.size]? = some (.cells #[.string g, .int .i64 sy] 33 (0, 0))) := heap_keep (by repeat (first | with_reducible exact HRq.out | with_reducible apply heap_drewn)) hb; have HYq : Hid (q.heap[w.heap.size + 1]? = some (.cells #[.string ⟨#[]⟩, .int .i64 0, .string ⟨#[]⟩, .int .i64 0, .int .i64 0] 37 (0, 0))) := heap_keep (by repeat (first | with_reducible exact HYq.out | with_reducible apply heap_drewn)) hb; have HBq : Hid (Below w.heap.size w q) := below_call (by repeat (first | with_reducible exact HBq.out | with_reducible refine Below.drew ?_)) hb; obtain ⟨⟨m0, m1, m2, m3, m4⟩, g0, g1, g2, g3, g4⟩ := five_cf HYq.out; clear hb))
    all_goals
      go_wp2
      exact bodyPost_ret (results_cell_row Tryz.results17 _ _ (w.heap.size + 1) 37 _ (0, 0) _ rfl (set_five HYq.out) Tryz.underlying37 rfl (by kernel_rfl)) rfl ⟨ret_shR HX.out, ((((HBq.out.setCell (by show _ ≤ w.heap.size + 1; omega) _).setCell (by show _ ≤ w.heap.size + 1; omega) _).setCell (by show _ ≤ w.heap.size + 1; omega) _).setCell (by show _ ≤ w.heap.size + 1; omega) _).setCell (by show _ ≤ w.heap.size + 1; omega) _⟩
end Go.Proofs.YtnhehdobpibgkaaGreatDoor
