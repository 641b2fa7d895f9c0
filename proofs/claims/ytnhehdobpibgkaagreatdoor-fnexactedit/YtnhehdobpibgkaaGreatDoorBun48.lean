/- A record is laid at a log's end: by the specification. -/
import Derived.Test.YtnhehdobpibgkaaGreatDoorRows
import Derived.WalkKit
import Derived.WalkSpells
import Derived.WalkLawsBesides
import Derived.Outline
import Derived.RegionTactic
import Derived.BigRegion
import Derived.Deep.RegionHeld3
import Derived.Test.YtnhehdobpibgkaaGreatDoorBun0
import Derived.Test.YtnhehdobpibgkaaGreatDoorBun7
import Derived.Test.YtnhehdobpibgkaaGreatDoorBun29
import Derived.Test.YtnhehdobpibgkaaGreatDoorBun1
import Derived.Test.YtnhehdobpibgkaaGreatDoorBun33
import Derived.Test.YtnhehdobpibgkaaGreatDoorBun40
import Derived.Deep.RegionWith
import Derived.Test.YtnhehdobpibgkaaGreatDoorRightSZq
import Derived.Test.YtnhehdobpibgkaaGreatDoorBun45
namespace Go.Proofs.YtnhehdobpibgkaaGreatDoor
open Go.RowKit
set_option linter.unusedVariables false

def shopV (g : ByteArray) (sy c : Int) : Value := .agg #[.string g, .int .i64 sy, .string ⟨#[]⟩, .int .i64 0, .int .i64 c]
def addG (g r : ByteArray) : ByteArray := if 8000 < (g ++ r).size then ⟨#[]⟩ else g ++ r
def addN (g r : ByteArray) (sy : Int) : Int := if 8000 < (g ++ r).size then 0 else sy
def addC (g r : ByteArray) : Int := if 8000 < (g ++ r).size then 9 else 0
def recT (bd : ByteArray) : ByteArray := putT (sealB bd)
theorem ret_shopV {g g' : ByteArray} {n n' c c' : Int} (h : g = g') (k : n = n') (j : c = c') : Ending.returned (shopV g n c) = .returned (shopV g' n' c') := by rw [h, k, j]
theorem set_five {W : World} {g : Nat} {t : TypeId} {z0 z1 z2 z3 z4 a b c d e : Value} (h : W.heap[g]? = some (.cells #[z0, z1, z2, z3, z4] t (0, 0))) : (((((W.setCell ⟨g, 0, none⟩ a).setCell ⟨g, 1, none⟩ b).setCell ⟨g, 2, none⟩ c).setCell ⟨g, 3, none⟩ d).setCell ⟨g, 4, none⟩ e).heap[g]? = some (.cells #[a, b, c, d, e] t (0, 0)) :=
  heap_set (heap_set (heap_set (heap_set (heap_set h 0 a) 1 b) 2 c) 3 d) 4 e
theorem five_cf {W : World} {B : Nat} {t : TypeId} {v0 v1 v2 v3 v4 : Value} (hR : W.heap[B]? = some (.cells #[v0, v1, v2, v3, v4] t (0, 0))) :
    (W.cell? ⟨B, 0, none⟩ = some v0 ∧ W.cell? ⟨B, 1, none⟩ = some v1 ∧ W.cell? ⟨B, 2, none⟩ = some v2 ∧ W.cell? ⟨B, 3, none⟩ = some v3 ∧ W.cell? ⟨B, 4, none⟩ = some v4) ∧ W.frozen? ⟨B, 0, none⟩ = false ∧ W.frozen? ⟨B, 1, none⟩ = false ∧ W.frozen? ⟨B, 2, none⟩ = false ∧ W.frozen? ⟨B, 3, none⟩ = false ∧ W.frozen? ⟨B, 4, none⟩ = false :=
  ⟨⟨cellH hR rfl, cellH hR rfl, cellH hR rfl, cellH hR rfl, cellH hR rfl⟩, frozen_of_row _ _ _ _ _ hR, frozen_of_row _ _ _ _ _ hR, frozen_of_row _ _ _ _ _ hR, frozen_of_row _ _ _ _ _ hR, frozen_of_row _ _ _ _ _ hR⟩
theorem specSeal_is {s u : ByteArray} {w : World} (h : sealB s = u) (hs : s.size ≤ maxLen) : Calls Tryz.prog 51 #[.string s] w fun e w' => e = .returned (.string u) ∧ Below w.heap.size w w' := h ▸ specSeal_any s w hs
theorem specPut_is {s u : ByteArray} {w : World} (h : putT s = u) (hs : s.size ≤ maxLen) : Calls Tryz.prog 36 #[.string s] w fun e w' => e = .returned (.string u) ∧ Below w.heap.size w w' := h ▸ specPutText_any s w hs
theorem seal_size {bd : ByteArray} (h : bd.size ≤ 7996) : (sealB bd).size = bd.size + 4 := by
  unfold sealB
  rw [if_neg (by omega), ByteArray.size_append, four_size]
set_option maxRecDepth 100000 in
set_option maxHeartbeats 3200000 in
theorem l08Add_any (g : ByteArray) (sy : Int) (bd : ByteArray) (w : World) (hg : g.size ≤ 8000) (hb : bd.size ≤ 7996) (hr : (recT bd).size ≤ 8010) : Calls Tryz.prog 35 #[.agg #[.string g, .int .i64 sy], .string bd] w fun e w' => e = .returned (shopV (addG g (recT bd)) (addN g (recT bd) sy) (addC g (recT bd))) ∧ Below w.heap.size w w' := by
  have HSL : Hid ((sealB bd).size = bd.size + 4) := seal_size hb
  have HE : Hid (putT (sealB bd) = recT bd) := rfl
  have hue := full_text (s := sealB bd) (by rw [HSL.out]; omega)
  have HSM : Hid ((sealB bd).size ≤ maxLen) := by show _ ≤ _; rw [HSL.out]; unfold maxLen; omega
  have HBM : Hid (bd.size ≤ maxLen) := by show _ ≤ _; unfold maxLen; omega
  obtain ⟨u, hu⟩ : ∃ u, sealB bd = u := ⟨_, rfl⟩
  obtain ⟨r, hrr⟩ : ∃ r, recT bd = r := ⟨_, rfl⟩
  have HU : Hid (sealB bd = u) := hu
  rw [hu] at hue HSM HE
  rw [hrr] at HE hr ⊢
  have hadd : ∀ W : World, _ := fun W : World => run_string_add_sum (P := Tryz.prog) W g r (by omega)
  clear hu hrr HSL
  by_cases hbig : 8000 < (g ++ r).size
  · have HG : Hid (addG g r = ⟨#[]⟩) := if_pos hbig
    have HN : Hid (addN g r sy = 0) := if_pos hbig
    have HC : Hid (addC g r = 9) := if_pos hbig
    have hbig2 : (8000 : Int) < (g.size : Int) + (r.size : Int) := by rw [ByteArray.size_append] at hbig; omega
    clear hbig
    go_enter Tryz.func35, Tryz.ntmps35
    go_wp2_with fail
    refine (specSeal_is HU.out HBM.out).mono ?_
    rintro e x ⟨rfl, hb⟩
    have HRc : Hid (x.heap[w.heap.size]? = some (.cells #[.string g, .int .i64 sy] 33 (0, 0))) := heap_keep (heap_more (heap_alloc_new w _) _) hb
    have HYc : Hid (x.heap[w.heap.size + 1]? = some (.cells #[.string ⟨#[]⟩, .int .i64 0, .string ⟨#[]⟩, .int .i64 0, .int .i64 0] 37 (0, 0))) := heap_keep (heap_new2 w _ _) hb
    have HBc : Hid (Below w.heap.size w x) := below_call (below_more (below_new w _) _) hb
    have c0 := row20 HRc.out
    clear hb
    go_wp2_with fail
    go_region_held3 (fun w' => w'.cell? ⟨w.heap.size, 0, none⟩ = some (.string g)) (exact row20 (by repeat (first | with_reducible exact HRc.out | with_reducible apply heap_drewn | with_reducible apply heap_more))) (first
      | (go_at_call 36; refine (specPut_is HE.out HSM.out).mono ?_; rintro e z ⟨rfl, hb⟩; have HRc : Hid (_ = _) := heap_keep (by repeat (first | with_reducible exact HRc.out | with_reducible apply heap_drewn | with_reducible apply heap_more)) hb; have HYc : Hid (_ = _) := heap_keep (by repeat (first | with_reducible exact HYc.out | with_reducible apply heap_drewn | with_reducible apply heap_more)) hb; have HBc : Hid (Below w.heap.size w z) := below_call (by repeat (first | with_reducible exact HBc.out | with_reducible refine Below.drew ?_)) hb; clear hb))
    obtain ⟨d0, d1, d2, d3⟩ := two_cells HRc.out
    obtain ⟨⟨k0, k1, k2, k3, k4⟩, f0, f1, f2, f3, f4⟩ := five_cf HYc.out
    go_wp2
    exact bodyPost_ret (results_cell_row Tryz.results35 _ _ (w.heap.size + 1) 37 _ (0, 0) _ rfl (set_five HYc.out) Tryz.underlying37 rfl (by kernel_rfl)) rfl ⟨ret_shopV HG.out.symm HN.out.symm HC.out.symm, ((((HBc.out.setCell (by show _ ≤ w.heap.size + 1; omega) _).setCell (by show _ ≤ w.heap.size + 1; omega) _).setCell (by show _ ≤ w.heap.size + 1; omega) _).setCell (by show _ ≤ w.heap.size + 1; omega) _).setCell (by show _ ≤ w.heap.size + 1; omega) _⟩
  · have HG : Hid (addG g r = g ++ r) := if_neg hbig
    have HN : Hid (addN g r sy = sy) := if_neg hbig
    have HC : Hid (addC g r = 0) := if_neg hbig
    have hbig2 : ¬ (8000 : Int) < (g.size : Int) + (r.size : Int) := by rw [ByteArray.size_append] at hbig; omega
    clear hbig
    go_enter Tryz.func35, Tryz.ntmps35
    go_wp2_with fail
    refine (specSeal_is HU.out HBM.out).mono ?_
    rintro e x ⟨rfl, hb⟩
    have HRc : Hid (x.heap[w.heap.size]? = some (.cells #[.string g, .int .i64 sy] 33 (0, 0))) := heap_keep (heap_more (heap_alloc_new w _) _) hb
    have HYc : Hid (x.heap[w.heap.size + 1]? = some (.cells #[.string ⟨#[]⟩, .int .i64 0, .string ⟨#[]⟩, .int .i64 0, .int .i64 0] 37 (0, 0))) := heap_keep (heap_new2 w _ _) hb
    have HBc : Hid (Below w.heap.size w x) := below_call (below_more (below_new w _) _) hb
    have c0 := row20 HRc.out
    clear hb
    go_wp2_with fail
    go_region_held3 (fun w' => w'.cell? ⟨w.heap.size, 0, none⟩ = some (.string g)) (exact row20 (by repeat (first | with_reducible exact HRc.out | with_reducible apply heap_drewn | with_reducible apply heap_more))) (first
      | (go_at_call 36; refine (specPut_is HE.out HSM.out).mono ?_; rintro e z ⟨rfl, hb⟩; have HRc : Hid (_ = _) := heap_keep (by repeat (first | with_reducible exact HRc.out | with_reducible apply heap_drewn | with_reducible apply heap_more)) hb; have HYc : Hid (_ = _) := heap_keep (by repeat (first | with_reducible exact HYc.out | with_reducible apply heap_drewn | with_reducible apply heap_more)) hb; have HBc : Hid (Below w.heap.size w z) := below_call (by repeat (first | with_reducible exact HBc.out | with_reducible refine Below.drew ?_)) hb; clear hb))
    obtain ⟨d0, d1, d2, d3⟩ := two_cells HRc.out
    obtain ⟨⟨k0, k1, k2, k3, k4⟩, f0, f1, f2, f3, f4⟩ := five_cf HYc.out
    go_wp2
    exact bodyPost_ret (results_cell_row Tryz.results35 _ _ (w.heap.size + 1) 37 _ (0, 0) _ rfl (set_five (set_far (by show w.heap.size + 1 ≠ w.heap.size; omega) HYc.out)) Tryz.underlying37 rfl (by kernel_rfl)) rfl ⟨ret_shopV HG.out.symm HN.out.symm HC.out.symm, (((((HBc.out.setCell (Nat.le_refl _) _).setCell (by show _ ≤ w.heap.size + 1; omega) _).setCell (by show _ ≤ w.heap.size + 1; omega) _).setCell (by show _ ≤ w.heap.size + 1; omega) _).setCell (by show _ ≤ w.heap.size + 1; omega) _).setCell (by show _ ≤ w.heap.size + 1; omega) _⟩
end Go.Proofs.YtnhehdobpibgkaaGreatDoor
namespace Go.Proofs.YtnhehdobpibgkaaGreatDoor
open Go.RowKit
set_option linter.unusedVariables false

def noG : ByteArray := ⟨#[]⟩
theorem field_src (im : ByteArray) (n p : Int) (a : Option Addr) (l k : Nat) (W : World) : (Instr.field 24 (.agg #[.slice a l k, .string im, .int .i64 n, .int .i64 p]) 0).run Tryz.prog W = .ok (.slice a l k) W := by kernel_rfl
theorem ok_small {g : ByteArray} {sy : Int} (h : okShop g sy = true) : g.size ≤ 8000 := by
  by_cases hb : 8000 < g.size
  · rw [ok_big hb] at h; cases h
  · omega
theorem shopRightS_is {g : ByteArray} {sy : Int} {b : Bool} {w : World} (h : okShop g sy = b) (hs : g.size ≤ maxLen) : Calls Tryz.prog 14 #[.agg #[.string g, .int .i64 sy]] w fun e w' => e = .returned (.bool b) ∧ Below w.heap.size w w' := h ▸ specShopRight_any g sy w hs
theorem l04_is {a : Option Addr} {L : List Src} {n cap : Nat} {nm : ByteArray} {w : World} {k : Int} (hk : idxL L nm = k) (hR : RowIs 2 srcC w a L) (hn : L.length = n) (hl : n ≤ 2000000) : Calls Tryz.prog 34 #[.slice a n cap, .string nm] w fun e w' => e = .returned (.int .i64 k) ∧ Below w.heap.size w w' := by
  subst hk; subst hn; exact l04Source_any a L cap nm w hR hl
theorem putT_sm {t : ByteArray} (h : t.size ≤ 4000) : (putT t).size ≤ t.size + 10 := by
  unfold putT
  rw [if_neg (by omega), ByteArray.size_append]
  have := putS_le (foldN (t.size : Int))
  omega
theorem recT_le {bd : ByteArray} (h : bd.size ≤ 7996) : (recT bd).size ≤ 8010 := by
  unfold recT putT
  have h1 := seal_size h
  rw [if_neg (by omega), ByteArray.size_append]
  have h2 := putS_le (foldN (((sealB bd).size : Nat) : Int))
  omega
theorem name_le {nm : ByteArray} (h : nameB nm = true) : nm.size ≤ 20 := (of_decide_eq_true h).2.1
def remB (nm : ByteArray) : ByteArray := ⟨#[82]⟩ ++ putT nm
def edB (nm tx : ByteArray) : ByteArray := (⟨#[69]⟩ ++ putT nm) ++ putT tx
theorem l08Add_is {g bd r : ByteArray} {sy : Int} {w : World} (h : recT bd = r) (hg : g.size ≤ 8000) (hb : bd.size ≤ 7996) : Calls Tryz.prog 35 #[.agg #[.string g, .int .i64 sy], .string bd] w fun e w' => e = .returned (shopV (addG g r) (addN g r sy) (addC g r)) ∧ Below w.heap.size w w' := by
  subst h; exact l08Add_any g sy bd w hg hb (recT_le hb)
/- What Remove tells, and Edit: the Log, Synced, the code. -/
abbrev ShR : Type := ByteArray × Int × Int
def addR (g r : ByteArray) (sy : Int) : ShR := (addG g r, addN g r sy, addC g r)
def badR (c : Int) : ShR := (⟨#[]⟩, 0, c)
def remR (g : ByteArray) (sy : Int) (nm : ByteArray) : ShR := if 8000 < nm.size then badR 2 else if okShop g sy = true ∧ nameB nm = true then (if hasL (stateL g).1.1 nm then addR g (recT (remB nm)) sy else badR 6) else badR 1
def edR (g : ByteArray) (sy : Int) (nm tx : ByteArray) : ShR := if 8000 < nm.size ∨ 8000 < tx.size then badR 2 else if okShop g sy = true ∧ nameB nm = true ∧ tx.size ≤ 4000 then (if hasL (stateL g).1.1 nm = false ∧ (stateL g).1.1.length = 20 then badR 9 else addR g (recT (edB nm tx)) sy) else badR 1
theorem ret_shR {g : ByteArray} {n c : Int} {x : ShR} (h : x = (g, n, c)) : Ending.returned (.agg #[.string g, .int .i64 n, .string ⟨#[]⟩, .int .i64 0, .int .i64 c]) = .returned (shopV x.1 x.2.1 x.2.2) := by rw [h]; rfl
theorem five_far {x : World} {B b : Nat} {t : TypeId} {u0 u1 a0 a1 a2 a3 a4 : Value} (h : x.heap[b]? = some (.cells #[u0, u1] t (0, 0))) (hne : b ≠ B := by omega) : (((((x.setCell ⟨B, 0, none⟩ a0).setCell ⟨B, 1, none⟩ a1).setCell ⟨B, 2, none⟩ a2).setCell ⟨B, 3, none⟩ a3).setCell ⟨B, 4, none⟩ a4).cell? ⟨b, 0, none⟩ = some u0 ∧ (((((x.setCell ⟨B, 0, none⟩ a0).setCell ⟨B, 1, none⟩ a1).setCell ⟨B, 2, none⟩ a2).setCell ⟨B, 3, none⟩ a3).setCell ⟨B, 4, none⟩ a4).cell? ⟨b, 1, none⟩ = some u1 := by
  have h2 := set_far (a := ⟨B, 4, none⟩) (v := a4) hne (set_far (a := ⟨B, 3, none⟩) (v := a3) hne (set_far (a := ⟨B, 2, none⟩) (v := a2) hne (set_far (a := ⟨B, 1, none⟩) (v := a1) hne (set_far (a := ⟨B, 0, none⟩) (v := a0) hne h))))
  exact ⟨row20 h2, row21 h2⟩
end Go.Proofs.YtnhehdobpibgkaaGreatDoor
namespace Go.Proofs.YtnhehdobpibgkaaGreatDoor
open Go.RowKit
set_option linter.unusedVariables false

set_option maxRecDepth 100000 in
set_option maxHeartbeats 1600000 in
theorem eqShopOut_any (g : ByteArray) (sy c : Int) (w : World) : Calls Tryz.prog 19 #[shopV g sy c, shopV g sy c] w fun e w' => e = .returned (.bool true) ∧ Below w.heap.size w w' := by
  unfold shopV
  go_enter Tryz.func19, Tryz.ntmps19
  go_wp2_with fail
  refine (eqShop_any g sy _).mono ?_
  rintro e x ⟨rfl, hb⟩
  have HX : Hid (x.heap[w.heap.size]? = _) := heap_keep (heap_more (heap_alloc_new w (.cells #[.string g, .int .i64 sy, .string ⟨#[]⟩, .int .i64 0, .int .i64 c] 37)) _) hb
  have HY : Hid (x.heap[w.heap.size + 1]? = _) := heap_keep (heap_new2 w (.cells #[.string g, .int .i64 sy, .string ⟨#[]⟩, .int .i64 0, .int .i64 c] 37) (.cells #[.string g, .int .i64 sy, .string ⟨#[]⟩, .int .i64 0, .int .i64 c] 37)) hb
  have HB : Hid (Below w.heap.size w x) := below_call (below_more (below_new w _) _) hb
  obtain ⟨⟨k0, k1, k2, k3, k4⟩, f0, f1, f2, f3, f4⟩ := five_cf HX.out
  obtain ⟨⟨m0, m1, m2, m3, m4⟩, g0, g1, g2, g3, g4⟩ := five_cf HY.out
  clear hb
  go_wp2
  go_ret
  exact ⟨rfl, HB.out⟩
end Go.Proofs.YtnhehdobpibgkaaGreatDoor
