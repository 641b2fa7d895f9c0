/- ShopSync answers as the specification at every Shop; its card ties the tables and errors that it lists to what their packages lay there. -/
import Derived.Test.YtnhehdobpibgkaaGreatDoorRows
import Derived.WalkKit
import Derived.WalkSpells
import Derived.WalkLawsBesides
import Derived.Test.YtnhehdobpibgkaaGreatDoorBun0
import Derived.Test.YtnhehdobpibgkaaGreatDoorBun29
import Derived.Test.YtnhehdobpibgkaaGreatDoorBun45
import Derived.Test.YtnhehdobpibgkaaGreatDoorRightPZq
import Derived.Test.YtnhehdobpibgkaaGreatDoorRightSZq
import Derived.Test.YtnhehdobpibgkaaGreatDoorCards
import Derived.Test.YtnhehdobpibgkaaGreatDoorTie
import Derived.ProofKit
import Derived.OpenShut
import Derived.OpenVars
import Derived.ShutString
import Derived.LaidLaws
import Derived.LaidHandle
import Derived.Lay
import Derived.MakeChecks
import Derived.SevenTiedAt
import Derived.ChangeOld
import Derived.ChangeVars
import Derived.Below
namespace Go.Proofs.YtnhehdobpibgkaaGreatDoor
open Go.RowKit
set_option linter.unusedVariables false

theorem catL_oneX (a : ByteArray) : catL [a] = a := catL_one a
theorem join_oneN (a : ByteArray) (N : Nat) (x : World) (hN : x.heap.size = N) (h : a.size ≤ 400000000) : Calls Tryz.prog 55 #[.slice (some ⟨N, 0, none⟩) 1 1] (x.alloc (.cells #[.string a] 9)) fun e w' => e = .returned (.string a) ∧ Below x.heap.size x w' := by
  subst hN
  have h2 := join_new [a] 1 x rfl (by omega) (by rw [catL_one]; exact h)
  rw [catL_one] at h2
  exact h2
theorem join_twoN (a b : ByteArray) (N : Nat) (x : World) (hN : x.heap.size = N) (h : (a ++ b).size ≤ 400000000) : Calls Tryz.prog 55 #[.slice (some ⟨N, 0, none⟩) 2 2] (x.alloc (.cells #[.string a, .string b] 9)) fun e w' => e = .returned (.string (a ++ b)) ∧ Below x.heap.size x w' := by
  subst hN
  have h2 := join_new [a, b] 2 x rfl (by omega) (by rw [catL_two]; exact h)
  rw [catL_two] at h2
  exact h2
theorem ret_shop {g g' : ByteArray} {n n' : Int} (h : g = g') (k : n = n') : Ending.returned (.agg #[.string g, .int .i64 n]) = .returned (.agg #[.string g', .int .i64 n']) := by rw [h, k]
set_option maxRecDepth 100000 in
set_option maxHeartbeats 1600000 in
theorem shopOf_any (g : ByteArray) (n : Int) (w : World) (h : g.size ≤ 400000000) : Calls Tryz.prog 41 #[.string g, .int .i64 n] w fun e w' => e = .returned (.agg #[.string g, .int .i64 n]) ∧ Below w.heap.size w w' := by
  go_enter Tryz.func41, Tryz.ntmps41
  go_wp2_with fail
  refine (join_oneN g _ _ (by simp) h).mono ?_
  rintro e x ⟨rfl, hb⟩
  have HX : Hid (x.heap[w.heap.size]? = _) := heap_keep (heap_alloc_new w (.cells #[.string ⟨#[]⟩, .int .i64 0] 33)) hb
  have HB : Hid (Below w.heap.size w x) := below_call (below_new w _) hb
  obtain ⟨c0, c1, f0, f1⟩ := two_cells HX.out
  clear hb
  go_wp2
  exact bodyPost_ret (results_cell_row Tryz.results41 _ _ w.heap.size 33 _ (0, 0) _ rfl (set_two HX.out) Tryz.underlying33 rfl (by kernel_rfl)) rfl ⟨rfl, (HB.out.setCell (Nat.le_refl _) _).setCell (Nat.le_refl _) _⟩
end Go.Proofs.YtnhehdobpibgkaaGreatDoor
namespace Go.Proofs.YtnhehdobpibgkaaGreatDoor
open Go.RowKit
set_option linter.unusedVariables false

def syncN (g : ByteArray) (sy : Int) : Int := if okShop g sy then (g.size : Int) else sy
theorem shopRightS_is {g : ByteArray} {sy : Int} {b : Bool} {w : World} (h : okShop g sy = b) (hs : g.size ≤ maxLen) : Calls Tryz.prog 14 #[.agg #[.string g, .int .i64 sy]] w fun e w' => e = .returned (.bool b) ∧ Below w.heap.size w w' := h ▸ specShopRight_any g sy w hs
theorem shopRightP_is {te : TypeId} {pe : Value} {g : ByteArray} {sy : Int} {b : Bool} {w : World} (h : okShop g sy = b) (hs : g.size ≤ maxLen) (hP : PanV te pe w) (hE : ErrV w) : Calls Tryz.prog 16 #[.agg #[.string g, .int .i64 sy]] w fun e w' => e = .returned (.bool b) ∧ Below w.heap.size w w' := h ▸ implShopRight_any te pe g sy w hs hP hE
set_option maxRecDepth 100000 in
set_option maxHeartbeats 1600000 in
theorem specSync_any (g : ByteArray) (sy : Int) (w : World) (hs : g.size ≤ maxLen) : Calls Tryz.prog 22 #[.agg #[.string g, .int .i64 sy]] w fun e w' => e = .returned (.agg #[.string g, .int .i64 (syncN g sy)]) ∧ Below w.heap.size w w' := by
  have HS : Hid (g.size ≤ maxLen) := hs
  unfold maxLen at hs
  cases hok : okShop g sy
  · have HOK : Hid (okShop g sy = false) := hok
    have HN : Hid (syncN g sy = sy) := by show _ = _; unfold syncN; rw [hok]; rfl
    clear hok
    go_enter Tryz.func22, Tryz.ntmps22
    go_wp2_with fail
    refine (shopRightS_is HOK.out HS.out).mono ?_
    rintro e x ⟨rfl, hb⟩
    have HX : Hid (x.heap[w.heap.size]? = _) := heap_keep (heap_more (heap_alloc_new w (.cells #[.string g, .int .i64 sy] 33)) _) hb
    have HY : Hid (x.heap[w.heap.size + 1]? = _) := heap_keep (heap_new2 w (.cells #[.string g, .int .i64 sy] 33) (.cells #[.string ⟨#[]⟩, .int .i64 0] 33)) hb
    have HB : Hid (Below w.heap.size w x) := below_call (below_more (below_new w _) _) hb
    obtain ⟨c0, c1, f0, f1⟩ := two_cells HX.out
    obtain ⟨d0, d1, h0, h1⟩ := two_cells HY.out
    clear hb
    go_wp2
    exact bodyPost_ret (results_cell_row Tryz.results22 _ _ (w.heap.size + 1) 33 _ (0, 0) _ rfl (set_two HY.out) Tryz.underlying33 rfl (by kernel_rfl)) rfl ⟨ret_shop rfl HN.out.symm, (HB.out.setCell (by show _ ≤ w.heap.size + 1; omega) _).setCell (by show _ ≤ w.heap.size + 1; omega) _⟩
  · have HOK : Hid (okShop g sy = true) := hok
    have HN : Hid (syncN g sy = (g.size : Int)) := by show _ = _; unfold syncN; rw [hok]; rfl
    clear hok
    go_enter Tryz.func22, Tryz.ntmps22
    go_wp2_with fail
    refine (shopRightS_is HOK.out HS.out).mono ?_
    rintro e x ⟨rfl, hb⟩
    have HX : Hid (x.heap[w.heap.size]? = _) := heap_keep (heap_more (heap_alloc_new w (.cells #[.string g, .int .i64 sy] 33)) _) hb
    have HY : Hid (x.heap[w.heap.size + 1]? = _) := heap_keep (heap_new2 w (.cells #[.string g, .int .i64 sy] 33) (.cells #[.string ⟨#[]⟩, .int .i64 0] 33)) hb
    have HB : Hid (Below w.heap.size w x) := below_call (below_more (below_new w _) _) hb
    obtain ⟨c0, c1, f0, f1⟩ := two_cells HX.out
    obtain ⟨d0, d1, h0, h1⟩ := two_cells HY.out
    clear hb
    go_wp2
    exact bodyPost_ret (results_cell_row Tryz.results22 _ _ (w.heap.size + 1) 33 _ (0, 0) _ rfl (set_two (set_far (by show w.heap.size + 1 ≠ w.heap.size; omega) HY.out)) Tryz.underlying33 rfl (by kernel_rfl)) rfl ⟨ret_shop rfl HN.out.symm, ((HB.out.setCell (Nat.le_refl _) _).setCell (by show _ ≤ w.heap.size + 1; omega) _).setCell (by show _ ≤ w.heap.size + 1; omega) _⟩
set_option maxRecDepth 100000 in
set_option maxHeartbeats 1600000 in
theorem implSync_any (te : TypeId) (pe : Value) (g : ByteArray) (sy : Int) (w : World) (hs : g.size ≤ 1048576) (hP : PanV te pe w) (hE : ErrV w) : Calls Tryz.prog 23 #[.agg #[.string g, .int .i64 sy]] w fun e w' => e = .returned (.agg #[.string g, .int .i64 (syncN g sy)]) ∧ Below w.heap.size w w' := by
  have HS : Hid (g.size ≤ maxLen) := by show _ ≤ _; unfold maxLen; omega
  have HP : Hid (PanV te pe w) := hP
  have HE : Hid (ErrV w) := hE
  clear hP hE
  cases hok : okShop g sy
  · have HOK : Hid (okShop g sy = false) := hok
    have HN : Hid (syncN g sy = sy) := by show _ = _; unfold syncN; rw [hok]; rfl
    clear hok
    go_enter Tryz.func23, Tryz.ntmps23
    go_wp2_with fail
    refine (shopRightP_is HOK.out HS.out ((HP.out.alloc _).alloc _) ((HE.out.alloc _).alloc _)).mono ?_
    rintro e x ⟨rfl, hb⟩
    have HX : Hid (x.heap[w.heap.size]? = _) := heap_keep (heap_more (heap_alloc_new w (.cells #[.string g, .int .i64 sy] 33)) _) hb
    have HY : Hid (x.heap[w.heap.size + 1]? = _) := heap_keep (heap_new2 w (.cells #[.string g, .int .i64 sy] 33) (.cells #[.string ⟨#[]⟩, .int .i64 0] 33)) hb
    have HB : Hid (Below w.heap.size w x) := below_call (below_more (below_new w _) _) hb
    obtain ⟨c0, c1, f0, f1⟩ := two_cells HX.out
    clear hb
    go_wp2_with fail
    refine (shopOf_any g sy _ (by omega)).mono ?_
    rintro e y ⟨rfl, hb⟩
    have HYy : Hid (y.heap[w.heap.size + 1]? = _) := heap_keep HY.out hb
    have HBy : Hid (Below w.heap.size w y) := below_call HB.out hb
    obtain ⟨d0, d1, h0, h1⟩ := two_cells HYy.out
    clear hb c0 c1 f0 f1
    go_wp2
    exact bodyPost_ret (results_cell_row Tryz.results23 _ _ (w.heap.size + 1) 33 _ (0, 0) _ rfl (set_two HYy.out) Tryz.underlying33 rfl (by kernel_rfl)) rfl ⟨ret_shop rfl HN.out.symm, (HBy.out.setCell (by show _ ≤ w.heap.size + 1; omega) _).setCell (by show _ ≤ w.heap.size + 1; omega) _⟩
  · have HOK : Hid (okShop g sy = true) := hok
    have HN : Hid (syncN g sy = (g.size : Int)) := by show _ = _; unfold syncN; rw [hok]; rfl
    clear hok
    go_enter Tryz.func23, Tryz.ntmps23
    go_wp2_with fail
    refine (shopRightP_is HOK.out HS.out ((HP.out.alloc _).alloc _) ((HE.out.alloc _).alloc _)).mono ?_
    rintro e x ⟨rfl, hb⟩
    have HX : Hid (x.heap[w.heap.size]? = _) := heap_keep (heap_more (heap_alloc_new w (.cells #[.string g, .int .i64 sy] 33)) _) hb
    have HY : Hid (x.heap[w.heap.size + 1]? = _) := heap_keep (heap_new2 w (.cells #[.string g, .int .i64 sy] 33) (.cells #[.string ⟨#[]⟩, .int .i64 0] 33)) hb
    have HB : Hid (Below w.heap.size w x) := below_call (below_more (below_new w _) _) hb
    obtain ⟨c0, c1, f0, f1⟩ := two_cells HX.out
    clear hb
    go_wp2_with fail
    refine (shopOf_any g _ _ (by omega)).mono ?_
    rintro e y ⟨rfl, hb⟩
    have HYy : Hid (y.heap[w.heap.size + 1]? = _) := heap_keep HY.out hb
    have HBy : Hid (Below w.heap.size w y) := below_call HB.out hb
    obtain ⟨d0, d1, h0, h1⟩ := two_cells HYy.out
    clear hb c0 c1 f0 f1
    go_wp2
    exact bodyPost_ret (results_cell_row Tryz.results23 _ _ (w.heap.size + 1) 33 _ (0, 0) _ rfl (set_two HYy.out) Tryz.underlying33 rfl (by kernel_rfl)) rfl ⟨ret_shop rfl HN.out.symm, (HBy.out.setCell (by show _ ≤ w.heap.size + 1; omega) _).setCell (by show _ ≤ w.heap.size + 1; omega) _⟩
set_option maxRecDepth 100000 in
set_option maxHeartbeats 3200000 in
theorem lawShopSync_walk (g : ByteArray) (sy : Int) (w : World) (hs : g.size ≤ maxLen) (hT : StV w) :
    Calls Tryz.prog 7 #[.agg #[.string g, .int .i64 sy]] w fun e w' => e = .returned (.bool true) ∧ Below w.heap.size w w' := by
  obtain ⟨hE, te, pe, hP⟩ := hT
  have HE : Hid (ErrV w) := hE
  have HP : Hid (PanV te pe w) := hP
  have HS : Hid (g.size ≤ maxLen) := hs
  clear hE hP hs
  go_enter Tryz.func7, Tryz.ntmps7
  go_wp2_with fail
  refine (szShop_any g sy _ _ HS.out (by omega) (by omega)).mono ?_
  rintro e x1 ⟨r, rfl, hr1, hr, hb⟩
  have HB1 : Hid (Below w.heap.size w x1) := below_call (below_new w _) hb
  have HG1 : Hid (x1.heap[w.heap.size]? = _) := heap_keep (heap_alloc_new w (.cells #[.string g, .int .i64 sy] 30)) hb
  obtain ⟨c0, c1, _⟩ := two_cells HG1.out
  have hz1 := heap_lt HG1.out
  have HRR : Hid (¬ r < 0 → g.size ≤ 1048576) := hr
  clear hb hr
  by_cases hneg : r < 0
  · go_wp2
    go_ret
    exact ⟨rfl, HB1.out⟩
  · have hgs := HRR.out hneg
    obtain ⟨m, hm⟩ : ∃ m, syncN g sy = m := ⟨_, rfl⟩
    have HM : Hid (syncN g sy = m) := hm
    clear hm
    go_wp2_with fail
    refine (toShop_any g sy _).mono ?_
    rintro e x2 ⟨rfl, hb⟩
    have HB2 : Hid (Below w.heap.size w x2) := below_call HB1.out hb
    have HG2 : Hid (_ = _) := heap_keep HG1.out hb
    clear hb
    go_wp2_with fail
    refine (specSync_any g sy _ HS.out).mono ?_
    rintro e x3 ⟨rfl, hb⟩
    rw [HM.out]
    have HB3 : Hid (Below w.heap.size w x3) := below_call HB2.out hb
    have HG3 : Hid (_ = _) := heap_keep HG2.out hb
    obtain ⟨d0, d1, _⟩ := two_cells HG3.out
    have hz3 := heap_lt HG3.out
    have HA3 : Hid ((x3.alloc (.cells #[.string g, .int .i64 m] 33)).heap[x3.heap.size]? = _) := heap_alloc_new x3 _
    clear hb c0 c1
    go_wp2_with fail
    refine (toShop_any g sy _).mono ?_
    rintro e x4 ⟨rfl, hb⟩
    have HB4 : Hid (Below w.heap.size w x4) := below_call (below_more HB3.out _) hb
    have HA4 : Hid (x4.heap[x3.heap.size]? = _) := heap_keep HA3.out hb
    clear hb d0 d1
    go_wp2_with fail
    refine (implSync_any te pe g sy _ hgs (HP.out.below HB4.out) (HE.out.below HB4.out)).mono ?_
    rintro e x5 ⟨rfl, hb⟩
    rw [HM.out]
    have HB5 : Hid (Below w.heap.size w x5) := below_call HB4.out hb
    have HA5 : Hid (x5.heap[x3.heap.size]? = _) := heap_keep HA4.out hb
    obtain ⟨d0, d1, _⟩ := two_cells HA5.out
    have hz5 := heap_lt HA5.out
    clear hb
    go_wp2_with fail
    refine (eqShop_any g m _).mono ?_
    rintro e x6 ⟨rfl, hb⟩
    have HB6 : Hid (Below w.heap.size w x6) := below_call (below_more HB5.out _) hb
    clear hb
    go_wp2
    go_ret
    exact ⟨rfl, HB6.out⟩
end Go.Proofs.YtnhehdobpibgkaaGreatDoor
namespace Go.Proofs.YtnhehdobpibgkaaGreatDoor.fnExactShopSync
open Go.ChangeShapes Go.WideShapes Go.ChangeAt Go.RowKit
open Go.ChangeMaps (open_string shut_string)
set_option linter.unusedVariables false

theorem own : ownKnob Tryz.prog.godebug = none := by kernel_rfl
theorem laidOut : laidOutB Tryz.prog = true := by kernel_rfl
set_option maxRecDepth 100000 in
set_option maxHeartbeats 1600000 in
theorem walk (a0 : ByteArray) (n0 : Int) (w : World) (w0 : a0.size ≤ maxLen ∧ (Lit.int .i64 n0).wf = true) (hT : StV w) :
    Calls Tryz.prog 7 #[.agg #[.string a0, .int .i64 n0]] w fun e w' => e = .returned (.bool true) ∧ Below w.heap.size w w' := by
  exact lawShopSync_walk a0 n0 w w0.1 hT

theorem laid_met (os : Os) (args : Array Value) : laidMetH Tryz.prog Rows.fnExactShopSyncRow.laid ((World.laidAll Tryz.prog os Rows.fnExactShopSyncRow.laid).forCall (fun _ _ => 0) ⟨#[], args, []⟩).memory := by
  rw [MakeChecks.laidMetH_plain _ _ _ (by kernel_rfl)]
  exact laidMet_laidAll _ (by kernel_rfl) (by kernel_rfl)

set_option maxRecDepth 100000 in
theorem lifted (os : Os) (started : os.Started) (H : Type) (enc : TypeId × Value → H) :
    ReturnsInHanded {} Tryz.checked os 7 .any (fun w args => (Rows.fnExactShopSyncSpec.pre enc Tryz.prog Tryz.f7 [] false w args ∧ laidMetH Tryz.prog Rows.fnExactShopSyncRow.laid w) ∧ sizedMet enc Tryz.prog Tryz.f7 (OpenSpec.ofChange Rows.fnExactShopSyncSpec) false w args)
      (Rows.fnExactShopSyncSpec.post enc Tryz.prog Tryz.f7 false true false false) := by
  refine returnsInHanded_of_change_and (C := Tryz.checked) (X := fun w _ => laidMetH Tryz.prog Rows.fnExactShopSyncRow.laid w) (fun _ _ _ hh h => h.of_heap hh) own started (by kernel_rfl) Tryz.func7
    (ChangeSpec.witness_shaped (enc := enc) (C := Tryz.checked) (os := os) (X := fun w _ => laidMetH Tryz.prog Rows.fnExactShopSyncRow.laid w) false (World.laidAll Tryz.prog os Rows.fnExactShopSyncRow.laid) #[.agg #[.string ByteArray.empty, .int .i64 0]] 8 (World.laidAll_os _ _ _) (World.shaped_of_ZipB (by kernel_rfl) (by kernel_rfl)) (by kernel_rfl) (by kernel_rfl) (by kernel_rfl) (laid_met os _)) ?_
  intro W base args ds gs before hval0 hW _ _ hL _
  have hval : ∀ (j : Nat) t v, Tryz.f7.params[j]? = some t → args[j]? = some v → Value.okWide Tryz.prog W .any base t v := hval0
  have hW' := hW
  obtain ⟨p, q, hA0, hV0, rfl, hfz, hnd⟩ := hW
  have hA : DataW.TrodAll enc Tryz.prog W 0 (fun _ => true) true Tryz.f7.params.toList args.toList ds p := hA0
  have hV : DataW.TrodVars enc Tryz.prog W (fun _ => true) ["loop.example/g00367/impl.errNoRecord"] gs q := hV0
  rw [Tryz.params7] at hA hval
  obtain ⟨v0, vs0, d0, ds0, p0, q0, hargs, rfl, rfl, h0, r0⟩ := trodAll_cons hA
  obtain ⟨rfl, rfl, rfl⟩ := trodAll_nil r0
  obtain rfl : args = #[v0] := by cases args; simp_all
  obtain ⟨_, _, _, _, dg, _, hgs, _⟩ := trodVars_one hV
  subst hgs
  have k0 := h0
  have lt0 : ∀ x ∈ p0, x.block < W.heap.size := by obtain ⟨m, hm⟩ := k0; exact DataW.trod_lt m _ _ _ hm
  obtain ⟨a0, n0, rfl, w0⟩ := open_shop (hval 0 30 v0 rfl rfl) h0
  rw [MakeChecks.laidMetH_plain _ _ _ (by kernel_rfl)] at hL
  have hT : StV W := stv_of_laid hL (by simp [Rows.fnExactShopSyncRow]) (by simp [Rows.fnExactShopSyncRow])
  clear hA0 hval0 hV0
  refine (walk a0 n0 W w0 hT).mono fun e W' ⟨he, hb⟩ => ?_
  subst he
  exact ⟨_, rfl, _, _, _, _, _, _, hW', trodAll_mk1 (shut_bool Tryz.underlying4 _), (trodAll_cons_mk (Below.trod laidOut (by kernel_rfl) (of_decide_eq_true (by kernel_rfl)) k0 hb lt0) trodAll_mk0), Below.trodVars laidOut hb (by kernel_rfl) hV, hb.frame _, fun h => by cases h⟩

theorem said : Rows.FnExactShopSyncSaid :=
  OpenClaim.holds_of_wide 7 Tryz.f7 rfl rfl rfl rfl rfl rfl rfl ⟨rfl, rfl, rfl, rfl, rfl⟩ rfl rfl rfl rfl rfl (by kernel_rfl) Tryz.func7 (by kernel_rfl)
    (of_decide_eq_true (by kernel_rfl)) (by unfold Func.isWrapper; first | (rw [if_pos (by decide +kernel)]; kernel_rfl) | (rw [if_neg (by decide +kernel)]; exact ⟨rfl, rfl⟩))
    (fun os started H enc _ => lifted os started H enc)
end Go.Proofs.YtnhehdobpibgkaaGreatDoor.fnExactShopSync
namespace Go.Proofs.YtnhehdobpibgkaaGreatDoor
theorem fnExactShopSync_holds : Rows.FnExactShopSyncCardSaid :=
  Claim7.holds_tied_plain_at .later [] _ _ _ _ fnExactShopSync.said (fun _ h => by cases h) (by kernel_rfl) (fun _ h => by cases h) fnExactShopSync_row_tie rfl ⟨rfl, rfl⟩ (by kernel_rfl) rfl
    (fun f fn hf hfn => by
      obtain rfl : f = 7 := Option.some.inj ((show Tryz.prog.funcNamed Rows.fnExactShopSyncRow.func = some 7 by kernel_rfl).symm.trans hf) |>.symm
      obtain rfl : fn = Tryz.f7 := (Option.some.inj (Tryz.func7.symm.trans hfn)).symm
      exact ⟨by kernel_rfl, fun j t ht => by
        rw [Tryz.params7] at ht
        have hm : t ∈ ([30] : List Nat) := by simpa using Array.mem_of_getElem? ht
        have hall : (([30] : List Nat).all fun u => !Tryz.prog.wantsStandIn u) = true := by kernel_rfl
        exact (show Tryz.prog.wantsStandIn t = false by simpa using List.all_eq_true.1 hall t hm)⟩)
    (by kernel_rfl)
#print axioms fnExactShopSync_holds
end Go.Proofs.YtnhehdobpibgkaaGreatDoor
