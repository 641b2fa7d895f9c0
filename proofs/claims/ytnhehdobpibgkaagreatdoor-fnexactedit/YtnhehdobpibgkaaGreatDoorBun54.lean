/- Edit answers as the specification at every Shop and two texts; its card ties the tables and errors that it lists to what their packages lay there. -/
import Derived.Test.YtnhehdobpibgkaaGreatDoorRows
import Derived.WalkKit
import Derived.WalkSpells
import Derived.WalkLawsBesides
import Derived.Test.YtnhehdobpibgkaaGreatDoorBun0
import Derived.Test.YtnhehdobpibgkaaGreatDoorBun45
import Derived.Test.YtnhehdobpibgkaaGreatDoorBun48
import Derived.Test.YtnhehdobpibgkaaGreatDoorEdSZq
import Derived.Test.YtnhehdobpibgkaaGreatDoorEdPZq
import Derived.Test.YtnhehdobpibgkaaGreatDoorCards
import Derived.Test.YtnhehdobpibgkaaGreatDoorTie
import Derived.ProofKit
import Derived.OpenShut
import Derived.OpenVars
import Derived.ShutString
import Derived.LaidLaws
import Derived.LaidHandle
import Derived.Lay
import Derived.MakeChecks
import Derived.SevenTiedAt
import Derived.ChangeOld
import Derived.ChangeVars
import Derived.Below
namespace Go.Proofs.YtnhehdobpibgkaaGreatDoor
open Go.RowKit
set_option linter.unusedVariables false

theorem eqShopOutEdit_any (g : ByteArray) (sy c : Int) (w : World) : Calls Tryz.prog 19 #[.agg #[.string g, .int .i64 sy, .string ⟨#[]⟩, .int .i64 0, .int .i64 c], .agg #[.string g, .int .i64 sy, .string ⟨#[]⟩, .int .i64 0, .int .i64 c]] w fun e w' => e = .returned (.bool true) ∧ Below w.heap.size w w' := eqShopOut_any g sy c w
set_option maxRecDepth 100000 in
set_option maxHeartbeats 3200000 in
theorem lawEdit_walk (g : ByteArray) (sy : Int) (nm tx : ByteArray) (w : World) (hs : g.size ≤ maxLen) (hnm : nm.size ≤ maxLen) (htx : tx.size ≤ maxLen) (hT : ErrV w ∧ ∃ te pe, PanV te pe w) :
    Calls Tryz.prog 5 #[.agg #[.string g, .int .i64 sy], .string nm, .string tx] w fun e w' => e = .returned (.bool true) ∧ Below w.heap.size w w' := by
  obtain ⟨hE, te, pe, hP⟩ := hT
  have HE : Hid (ErrV w) := hE
  have HP : Hid (PanV te pe w) := hP
  have HS : Hid (g.size ≤ maxLen) := hs
  have Hnm : Hid (nm.size ≤ maxLen) := hnm
  have Htx : Hid (tx.size ≤ maxLen) := htx
  clear hE hP hs hnm htx
  by_cases hbnm : (1048576 : Int) < (nm.size : Int)
  · go_enter Tryz.func5, Tryz.ntmps5
    go_wp2
    go_ret
    exact ⟨rfl, below_new _ _⟩
  by_cases hbtx : (1048576 : Int) < (tx.size : Int)
  · go_enter Tryz.func5, Tryz.ntmps5
    go_wp2
    go_ret
    exact ⟨rfl, below_new _ _⟩
  go_enter Tryz.func5, Tryz.ntmps5
  go_wp2_with fail
  refine (szShop_any g sy _ _ HS.out (by omega) (by omega)).mono ?_
  rintro e x1 ⟨r, rfl, hr1, hr, hb⟩
  have HB1 : Hid (Below w.heap.size w x1) := below_call (below_new w _) hb
  have HG1 : Hid (x1.heap[w.heap.size]? = _) := heap_keep (heap_alloc_new w (.cells #[.string g, .int .i64 sy] 30)) hb
  obtain ⟨c0, c1, _⟩ := two_cells HG1.out
  have hz1 := heap_lt HG1.out
  have HRR : Hid (¬ r < 0 → g.size ≤ 1048576) := hr
  clear hb hr
  by_cases hneg : r < 0
  · go_wp2
    go_ret
    exact ⟨rfl, HB1.out⟩
  · have hgs := HRR.out hneg
    obtain ⟨⟨q, m, c⟩, hm⟩ : ∃ X, edR g sy nm tx = X := ⟨_, rfl⟩
    have HM : Hid (edR g sy nm tx = (q, m, c)) := hm
    clear hm
    go_wp2_with fail
    refine (toShop_any g sy _).mono ?_
    rintro e x2 ⟨rfl, hb⟩
    have HB2 : Hid (Below w.heap.size w x2) := below_call HB1.out hb
    have HG2 : Hid (_ = _) := heap_keep HG1.out hb
    clear hb
    go_wp2_with fail
    refine (specEdit_any g sy nm tx _ HS.out Hnm.out Htx.out).mono ?_
    rw [HM.out]
    unfold shopV
    dsimp only
    rintro e x3 ⟨rfl, hb⟩
    have HB3 : Hid (Below w.heap.size w x3) := below_call HB2.out hb
    have HG3 : Hid (_ = _) := heap_keep HG2.out hb
    obtain ⟨d0, d1, _⟩ := two_cells HG3.out
    have hz3 := heap_lt HG3.out
    have HA3 : Hid ((x3.alloc (.cells #[.string q, .int .i64 m, .string ⟨#[]⟩, .int .i64 0, .int .i64 c] 37)).heap[x3.heap.size]? = _) := heap_alloc_new x3 _
    clear hb c0 c1
    go_wp2_with fail
    refine (toShop_any g sy _).mono ?_
    rintro e x4 ⟨rfl, hb⟩
    have HB4 : Hid (Below w.heap.size w x4) := below_call (below_more HB3.out _) hb
    have HA4 : Hid (x4.heap[x3.heap.size]? = _) := heap_keep HA3.out hb
    clear hb d0 d1
    go_wp2_with fail
    refine (implEdit_any te pe g sy nm tx _ HS.out Hnm.out Htx.out (HP.out.below HB4.out) (HE.out.below HB4.out)).mono ?_
    rw [HM.out]
    unfold shopV
    dsimp only
    rintro e x5 ⟨rfl, hb⟩
    have HB5 : Hid (Below w.heap.size w x5) := below_call HB4.out hb
    have HA5 : Hid (x5.heap[x3.heap.size]? = _) := heap_keep HA4.out hb
    obtain ⟨⟨d0, d1, d2, d3, d4⟩, _⟩ := five_cf HA5.out
    have hz5 := heap_lt HA5.out
    clear hb
    go_wp2_with fail
    refine (eqShopOutEdit_any q m c _).mono ?_
    rintro e x6 ⟨rfl, hb⟩
    have HB6 : Hid (Below w.heap.size w x6) := below_call (below_more HB5.out _) hb
    clear hb
    go_wp2
    go_ret
    exact ⟨rfl, HB6.out⟩
end Go.Proofs.YtnhehdobpibgkaaGreatDoor
namespace Go.Proofs.YtnhehdobpibgkaaGreatDoor.fnExactEdit
open Go.ChangeShapes Go.WideShapes Go.ChangeAt Go.RowKit
open Go.ChangeMaps (open_string shut_string)
set_option linter.unusedVariables false

theorem own : ownKnob Tryz.prog.godebug = none := by kernel_rfl
theorem laidOut : laidOutB Tryz.prog = true := by kernel_rfl
set_option maxRecDepth 100000 in
set_option maxHeartbeats 1600000 in
theorem walk (a0 : ByteArray) (n0 : Int) (a1 : ByteArray) (a2 : ByteArray) (w : World) (w0 : a0.size ≤ maxLen ∧ (Lit.int .i64 n0).wf = true) (w1 : a1.size ≤ maxLen) (w2 : a2.size ≤ maxLen) (hT : StV w) :
    Calls Tryz.prog 5 #[.agg #[.string a0, .int .i64 n0], .string a1, .string a2] w fun e w' => e = .returned (.bool true) ∧ Below w.heap.size w w' := by
  exact lawEdit_walk a0 n0 a1 a2 w w0.1 w1 w2 hT

theorem laid_met (os : Os) (args : Array Value) : laidMetH Tryz.prog Rows.fnExactEditRow.laid ((World.laidAll Tryz.prog os Rows.fnExactEditRow.laid).forCall (fun _ _ => 0) ⟨#[], args, []⟩).memory := by
  rw [MakeChecks.laidMetH_plain _ _ _ (by kernel_rfl)]
  exact laidMet_laidAll _ (by kernel_rfl) (by kernel_rfl)

set_option maxRecDepth 100000 in
theorem lifted (os : Os) (started : os.Started) (H : Type) (enc : TypeId × Value → H) :
    ReturnsInHanded {} Tryz.checked os 5 .any (fun w args => (Rows.fnExactEditSpec.pre enc Tryz.prog Tryz.f5 [] false w args ∧ laidMetH Tryz.prog Rows.fnExactEditRow.laid w) ∧ sizedMet enc Tryz.prog Tryz.f5 (OpenSpec.ofChange Rows.fnExactEditSpec) false w args)
      (Rows.fnExactEditSpec.post enc Tryz.prog Tryz.f5 false true false false) := by
  refine returnsInHanded_of_change_and (C := Tryz.checked) (X := fun w _ => laidMetH Tryz.prog Rows.fnExactEditRow.laid w) (fun _ _ _ hh h => h.of_heap hh) own started (by kernel_rfl) Tryz.func5
    (ChangeSpec.witness_shaped (enc := enc) (C := Tryz.checked) (os := os) (X := fun w _ => laidMetH Tryz.prog Rows.fnExactEditRow.laid w) false (World.laidAll Tryz.prog os Rows.fnExactEditRow.laid) #[.agg #[.string ByteArray.empty, .int .i64 0], .string ByteArray.empty, .string ByteArray.empty] 8 (World.laidAll_os _ _ _) (World.shaped_of_ZipB (by kernel_rfl) (by kernel_rfl)) (by kernel_rfl) (by kernel_rfl) (by kernel_rfl) (laid_met os _)) ?_
  intro W base args ds gs before hval0 hW _ _ hL _
  have hval : ∀ (j : Nat) t v, Tryz.f5.params[j]? = some t → args[j]? = some v → Value.okWide Tryz.prog W .any base t v := hval0
  have hW' := hW
  obtain ⟨p, q, hA0, hV0, rfl, hfz, hnd⟩ := hW
  have hA : DataW.TrodAll enc Tryz.prog W 0 (fun _ => true) true Tryz.f5.params.toList args.toList ds p := hA0
  have hV : DataW.TrodVars enc Tryz.prog W (fun _ => true) ["loop.example/g00367/impl.errNoRecord"] gs q := hV0
  rw [Tryz.params5] at hA hval
  obtain ⟨v0, vs0, d0, ds0, p0, q0, hargs, rfl, rfl, h0, r0⟩ := trodAll_cons hA
  obtain ⟨v1, vs1, d1, ds1, p1, q1, rfl, rfl, rfl, h1, r1⟩ := trodAll_cons r0
  obtain ⟨v2, vs2, d2, ds2, p2, q2, rfl, rfl, rfl, h2, r2⟩ := trodAll_cons r1
  obtain ⟨rfl, rfl, rfl⟩ := trodAll_nil r2
  obtain rfl : args = #[v0, v1, v2] := by cases args; simp_all
  obtain ⟨_, _, _, _, dg, _, hgs, _⟩ := trodVars_one hV
  subst hgs
  have k0 := h0
  have lt0 : ∀ x ∈ p0, x.block < W.heap.size := by obtain ⟨m, hm⟩ := k0; exact DataW.trod_lt m _ _ _ hm
  obtain ⟨a0, n0, rfl, w0⟩ := open_shop (hval 0 30 v0 rfl rfl) h0
  have k1 := h1
  have lt1 : ∀ x ∈ p1, x.block < W.heap.size := by obtain ⟨m, hm⟩ := k1; exact DataW.trod_lt m _ _ _ hm
  obtain ⟨a1, rfl, -, -, w1⟩ := open_string Tryz.underlying9 (hval 1 9 v1 rfl rfl) h1
  have k2 := h2
  have lt2 : ∀ x ∈ p2, x.block < W.heap.size := by obtain ⟨m, hm⟩ := k2; exact DataW.trod_lt m _ _ _ hm
  obtain ⟨a2, rfl, -, -, w2⟩ := open_string Tryz.underlying9 (hval 2 9 v2 rfl rfl) h2
  rw [MakeChecks.laidMetH_plain _ _ _ (by kernel_rfl)] at hL
  have hT : StV W := stv_of_laid hL (by simp [Rows.fnExactEditRow]) (by simp [Rows.fnExactEditRow])
  clear hA0 hval0 hV0
  refine (walk a0 n0 a1 a2 W w0 w1 w2 hT).mono fun e W' ⟨he, hb⟩ => ?_
  subst he
  exact ⟨_, rfl, _, _, _, _, _, _, hW', trodAll_mk1 (shut_bool Tryz.underlying4 _), (trodAll_cons_mk (Below.trod laidOut (by kernel_rfl) (of_decide_eq_true (by kernel_rfl)) k0 hb lt0) (trodAll_cons_mk (Below.trod laidOut (by kernel_rfl) (of_decide_eq_true (by kernel_rfl)) k1 hb lt1) (trodAll_cons_mk (Below.trod laidOut (by kernel_rfl) (of_decide_eq_true (by kernel_rfl)) k2 hb lt2) trodAll_mk0))), Below.trodVars laidOut hb (by kernel_rfl) hV, hb.frame _, fun h => by cases h⟩

theorem said : Rows.FnExactEditSaid :=
  OpenClaim.holds_of_wide 5 Tryz.f5 rfl rfl rfl rfl rfl rfl rfl ⟨rfl, rfl, rfl, rfl, rfl⟩ rfl rfl rfl rfl rfl (by kernel_rfl) Tryz.func5 (by kernel_rfl)
    (of_decide_eq_true (by kernel_rfl)) (by unfold Func.isWrapper; first | (rw [if_pos (by decide +kernel)]; kernel_rfl) | (rw [if_neg (by decide +kernel)]; exact ⟨rfl, rfl⟩))
    (fun os started H enc _ => lifted os started H enc)
end Go.Proofs.YtnhehdobpibgkaaGreatDoor.fnExactEdit
namespace Go.Proofs.YtnhehdobpibgkaaGreatDoor
theorem fnExactEdit_holds : Rows.FnExactEditCardSaid :=
  Claim7.holds_tied_plain_at .later [] _ _ _ _ fnExactEdit.said (fun _ h => by cases h) (by kernel_rfl) (fun _ h => by cases h) fnExactEdit_row_tie rfl ⟨rfl, rfl⟩ (by kernel_rfl) rfl
    (fun f fn hf hfn => by
      obtain rfl : f = 5 := Option.some.inj ((show Tryz.prog.funcNamed Rows.fnExactEditRow.func = some 5 by kernel_rfl).symm.trans hf) |>.symm
      obtain rfl : fn = Tryz.f5 := (Option.some.inj (Tryz.func5.symm.trans hfn)).symm
      exact ⟨by kernel_rfl, fun j t ht => by
        rw [Tryz.params5] at ht
        have hm : t ∈ ([30, 9, 9] : List Nat) := by simpa using Array.mem_of_getElem? ht
        have hall : (([30, 9, 9] : List Nat).all fun u => !Tryz.prog.wantsStandIn u) = true := by kernel_rfl
        exact (show Tryz.prog.wantsStandIn t = false by simpa using List.all_eq_true.1 hall t hm)⟩)
    (by kernel_rfl)
#print axioms fnExactEdit_holds
end Go.Proofs.YtnhehdobpibgkaaGreatDoor
