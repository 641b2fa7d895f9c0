/- The law of ShopRecover, laid on the walk of LawRec. -/
import Derived.Test.YtnhehdobpibgkabGreatDoorRows
import Derived.WalkKit
import Derived.ProofKit
import Derived.LaidLaws
import Derived.LaidHandle
import Derived.Lib.LaidU8
import Derived.FnData
import Derived.Test.YtnhehdobpibgkabGreatDoorNumHZq
import Derived.Test.YtnhehdobpibgkabGreatDoorBun44
import Derived.OpenShut
import Derived.ChangeArms
import Derived.Test.YtnhehdobpibgkabGreatDoorBun0
import Derived.Test.YtnhehdobpibgkabGreatDoorCards
import Derived.Test.YtnhehdobpibgkabGreatDoorTie
import Derived.OpenVars
import Derived.ShutString
import Derived.WalkSpells
import Derived.WalkLawsBesides
import Derived.Lay
import Derived.MakeChecks
import Derived.SevenTiedAt
import Derived.ChangeOld
import Derived.ChangeVars
import Derived.Below
namespace Go.Proofs.YtnhehdobpibgkabGreatDoor
open Go.RowKit Go.Lib

theorem error_reads {P : Program} {W : World} {n : String} {g t : Nat} {ms : Array (String × TypeId)} {name : String} {d : DataW Unit} (hg : P.globalNamed n = some g) (ht : (P.globals[g]?).map (·.type) = some t) (hi : P.underlying t = some (.interface ms)) (h : VarReads P W n (.iface name d)) : ∃ te pe, W.cell? ⟨g, 0, none⟩ = some (.iface te pe) := by
  obtain ⟨g', t', cs, fuel, p, e1, e2, e3, e4⟩ := h
  obtain rfl := Option.some.inj (hg.symm.trans e1)
  obtain rfl := Option.some.inj (ht.symm.trans e2)
  obtain ⟨_, u, v, hc, _⟩ := iface_of_trod hi e4
  refine ⟨u, v, ?_⟩
  have h0 := World.var?_cell hg e3 0
  rw [h0]
  have : cs = #[.iface u v] := Array.toList_inj.1 hc
  rw [this]; rfl
theorem errv_of_laid {l : List (String × DataW Unit)} {W : World} (h : laidMet Tryz.prog l W) (hm : ("strconv.ErrSyntax", Rows.laid_strconv_ErrSyntax) ∈ l) : ErrV W :=
  error_reads (by kernel_rfl) (by kernel_rfl) Tryz.underlying64 (laidMet.reads h hm)
end Go.Proofs.YtnhehdobpibgkabGreatDoor
namespace Go.Proofs.YtnhehdobpibgkabGreatDoor
open Go.RowKit Go.Lib

theorem stv_of_laid {l : List (String × DataW Unit)} {W : World} (h : laidMet Tryz.prog l W) (hm : ("strconv.ErrSyntax", Rows.laid_strconv_ErrSyntax) ∈ l) (hm2 : ("loop.example/g00367/impl.errNoRecord", Rows.laid_loop_example_g00367_impl_errNoRecord) ∈ l) : StV W :=
  ⟨errv_of_laid h hm, error_reads (by kernel_rfl) (by kernel_rfl) Tryz.underlying64 (laidMet.reads h hm2)⟩
end Go.Proofs.YtnhehdobpibgkabGreatDoor
namespace Go.Proofs.YtnhehdobpibgkabGreatDoor
open Go.RowKit Go.WideShapes

set_option maxRecDepth 100000 in
theorem open_shop {H : Type} {enc : TypeId × Value → H} {w : World} {b0 : Nat} {sp : Nat → Bool} {held : Bool} {v : Value} {d : DataW H} {p : List MemPlace} (hv : Value.okWide Tryz.prog w .any b0 23 v) (h : DataW.Trod enc Tryz.prog w 0 sp held 23 v d p) :
    ∃ (g : ByteArray) (n : Int), v = .agg #[.string g, .int .i64 n] ∧ g.size ≤ maxLen ∧ (Lit.int .i64 n).wf = true := by
  obtain ⟨cs, rfl, hsz⟩ := okWide_struct Tryz.underlying23 hv
  obtain ⟨l⟩ := cs
  have hsz2 : l.length = 2 := hsz.trans (by kernel_rfl)
  match l, hsz2 with
  | [c0, c1], _ =>
    obtain ⟨fuel, hf⟩ := h
    obtain ⟨xs, k, _, hx, hl, hn, hf⟩ := DataW.trod_struct Tryz.underlying23 hf
    have k1 : Tryz.prog.cellsOf 2 = 1 := by kernel_rfl
    have k3 : Tryz.prog.cellsOf 9 = 1 := by kernel_rfl
    match xs, hn with
    | [x0, x1], _ =>
      have h0 := hf 0 _ rfl
      have h1 := hf 1 _ rfl
      simp [k1, k3, Value.cells] at h0 h1
      obtain ⟨nm, e0, _, w0⟩ := DataW.trod_string Tryz.underlying9 h0
      obtain ⟨n, e1, _, w1⟩ := DataW.trod_int Tryz.underlying2 h1
      simp at e0 e1
      subst e0 e1
      exact ⟨nm, n, rfl, w0, w1⟩
end Go.Proofs.YtnhehdobpibgkabGreatDoor
namespace Go.Proofs.YtnhehdobpibgkabGreatDoor.fnExactShopRecover
open Go.ChangeShapes Go.WideShapes Go.ChangeAt Go.RowKit
open Go.ChangeMaps (open_string shut_string)
set_option linter.unusedVariables false

theorem own : ownKnob Tryz.prog.godebug = none := by kernel_rfl
theorem laidOut : laidOutB Tryz.prog = true := by kernel_rfl
set_option maxRecDepth 100000 in
set_option maxHeartbeats 1600000 in
theorem walk (a0 : ByteArray) (n0 : Int) (w : World) (w0 : a0.size ≤ maxLen ∧ (Lit.int .i64 n0).wf = true) (hT : StV w) :
    Calls Tryz.prog 3 #[.agg #[.string a0, .int .i64 n0]] w fun e w' => e = .returned (.bool true) ∧ Below w.heap.size w w' := by
  exact lawShopRecover_walk a0 n0 w w0.1 hT

theorem laid_met (os : Os) (args : Array Value) : laidMetH Tryz.prog Rows.fnExactShopRecoverRow.laid ((World.laidAll Tryz.prog os Rows.fnExactShopRecoverRow.laid).forCall (fun _ _ => 0) ⟨#[], args, []⟩).memory := by
  rw [MakeChecks.laidMetH_plain _ _ _ (by kernel_rfl)]
  exact laidMet_laidAll _ (by kernel_rfl) (by kernel_rfl)

set_option maxRecDepth 100000 in
theorem lifted (os : Os) (started : os.Started) (H : Type) (enc : TypeId × Value → H) :
    ReturnsInHanded {} Tryz.checked os 3 .any (fun w args => (Rows.fnExactShopRecoverSpec.pre enc Tryz.prog Tryz.f3 [] false w args ∧ laidMetH Tryz.prog Rows.fnExactShopRecoverRow.laid w) ∧ sizedMet enc Tryz.prog Tryz.f3 (OpenSpec.ofChange Rows.fnExactShopRecoverSpec) false w args)
      (Rows.fnExactShopRecoverSpec.post enc Tryz.prog Tryz.f3 false true false false) := by
  refine returnsInHanded_of_change_and (C := Tryz.checked) (X := fun w _ => laidMetH Tryz.prog Rows.fnExactShopRecoverRow.laid w) (fun _ _ _ hh h => h.of_heap hh) own started (by kernel_rfl) Tryz.func3
    (ChangeSpec.witness_shaped (enc := enc) (C := Tryz.checked) (os := os) (X := fun w _ => laidMetH Tryz.prog Rows.fnExactShopRecoverRow.laid w) false (World.laidAll Tryz.prog os Rows.fnExactShopRecoverRow.laid) #[.agg #[.string ByteArray.empty, .int .i64 0]] 8 (World.laidAll_os _ _ _) (World.shaped_of_ZipB (by kernel_rfl) (by kernel_rfl)) (by kernel_rfl) (by kernel_rfl) (by kernel_rfl) (laid_met os _)) ?_
  intro W base args ds gs before hval0 hW _ _ hL _
  have hval : ∀ (j : Nat) t v, Tryz.f3.params[j]? = some t → args[j]? = some v → Value.okWide Tryz.prog W .any base t v := hval0
  have hW' := hW
  obtain ⟨p, q, hA0, hV0, rfl, hfz, hnd⟩ := hW
  have hA : DataW.TrodAll enc Tryz.prog W 0 (fun _ => true) true Tryz.f3.params.toList args.toList ds p := hA0
  have hV : DataW.TrodVars enc Tryz.prog W (fun _ => true) ["loop.example/g00367/impl.errNoRecord"] gs q := hV0
  rw [Tryz.params3] at hA hval
  obtain ⟨v0, vs0, d0, ds0, p0, q0, hargs, rfl, rfl, h0, r0⟩ := trodAll_cons hA
  obtain ⟨rfl, rfl, rfl⟩ := trodAll_nil r0
  obtain rfl : args = #[v0] := by cases args; simp_all
  obtain ⟨_, _, _, _, dg, _, hgs, _⟩ := trodVars_one hV
  subst hgs
  have k0 := h0
  have lt0 : ∀ x ∈ p0, x.block < W.heap.size := by obtain ⟨m, hm⟩ := k0; exact DataW.trod_lt m _ _ _ hm
  obtain ⟨a0, n0, rfl, w0⟩ := open_shop (hval 0 23 v0 rfl rfl) h0
  rw [MakeChecks.laidMetH_plain _ _ _ (by kernel_rfl)] at hL
  have hT : StV W := stv_of_laid hL (by simp [Rows.fnExactShopRecoverRow]) (by simp [Rows.fnExactShopRecoverRow])
  clear hA0 hval0 hV0
  refine (walk a0 n0 W w0 hT).mono fun e W' ⟨he, hb⟩ => ?_
  subst he
  exact ⟨_, rfl, _, _, _, _, _, _, hW', trodAll_mk1 (shut_bool Tryz.underlying4 _), (trodAll_cons_mk (Below.trod laidOut (by kernel_rfl) (of_decide_eq_true (by kernel_rfl)) k0 hb lt0) trodAll_mk0), Below.trodVars laidOut hb (by kernel_rfl) hV, hb.frame _, fun h => by cases h⟩

theorem said : Rows.FnExactShopRecoverSaid :=
  OpenClaim.holds_of_wide 3 Tryz.f3 rfl rfl rfl rfl rfl rfl rfl ⟨rfl, rfl, rfl, rfl, rfl⟩ rfl rfl rfl rfl rfl (by kernel_rfl) Tryz.func3 (by kernel_rfl)
    (of_decide_eq_true (by kernel_rfl)) (by unfold Func.isWrapper; first | (rw [if_pos (by decide +kernel)]; kernel_rfl) | (rw [if_neg (by decide +kernel)]; exact ⟨rfl, rfl⟩))
    (fun os started H enc _ => lifted os started H enc)
end Go.Proofs.YtnhehdobpibgkabGreatDoor.fnExactShopRecover
namespace Go.Proofs.YtnhehdobpibgkabGreatDoor
theorem fnExactShopRecover_holds : Rows.FnExactShopRecoverCardSaid :=
  Claim7.holds_tied_plain_at .later [] _ _ _ _ fnExactShopRecover.said (fun _ h => by cases h) (by kernel_rfl) (fun _ h => by cases h) fnExactShopRecover_row_tie rfl ⟨rfl, rfl⟩ (by kernel_rfl) rfl
    (fun f fn hf hfn => by
      obtain rfl : f = 3 := Option.some.inj ((show Tryz.prog.funcNamed Rows.fnExactShopRecoverRow.func = some 3 by kernel_rfl).symm.trans hf) |>.symm
      obtain rfl : fn = Tryz.f3 := (Option.some.inj (Tryz.func3.symm.trans hfn)).symm
      exact ⟨by kernel_rfl, fun j t ht => by
        rw [Tryz.params3] at ht
        have hm : t ∈ ([23] : List Nat) := by simpa using Array.mem_of_getElem? ht
        have hall : (([23] : List Nat).all fun u => !Tryz.prog.wantsStandIn u) = true := by kernel_rfl
        exact (show Tryz.prog.wantsStandIn t = false by simpa using List.all_eq_true.1 hall t hm)⟩)
    (by kernel_rfl)
#print axioms fnExactShopRecover_holds
end Go.Proofs.YtnhehdobpibgkabGreatDoor
