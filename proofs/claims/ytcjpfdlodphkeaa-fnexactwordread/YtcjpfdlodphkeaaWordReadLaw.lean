/- WordRead answers as the specification at every text of at most 1048576 bytes, and is not asked of longer ones; no condition besides. -/
import Derived.Test.YtcjpfdlodphkeaaRows
import Derived.WalkKit
import Derived.ProofKit
import Derived.OpenShut
import Derived.ShutString
import Derived.WalkSpells
import Derived.WalkLawsBesides
import Derived.Test.YtcjpfdlodphkeaaBase
import Derived.Test.YtcjpfdlodphkeaaRes
import Derived.Test.YtcjpfdlodphkeaaRes2
import Derived.Test.YtcjpfdlodphkeaaRow
import Derived.Test.YtcjpfdlodphkeaaOwnS
import Derived.Test.YtcjpfdlodphkeaaIsa
import Derived.Test.YtcjpfdlodphkeaaIsa2
import Derived.Test.YtcjpfdlodphkeaaIsa3
import Derived.Test.YtcjpfdlodphkeaaName
import Derived.Test.YtcjpfdlodphkeaaNumS
import Derived.Test.YtcjpfdlodphkeaaReadN
import Derived.Test.YtcjpfdlodphkeaaPieces
import Derived.Test.YtcjpfdlodphkeaaWordR
import Derived.Test.YtcjpfdlodphkeaaWordRS
import Derived.Test.YtcjpfdlodphkeaaWordRT
import Derived.Test.YtcjpfdlodphkeaaCopy
import Derived.Test.YtcjpfdlodphkeaaJoin
import Derived.Test.YtcjpfdlodphkeaaIdxB
import Derived.Test.YtcjpfdlodphkeaaGoto
import Derived.Test.YtcjpfdlodphkeaaIdxR
import Derived.Test.YtcjpfdlodphkeaaNumP
import Derived.Test.YtcjpfdlodphkeaaRdB
import Derived.Test.YtcjpfdlodphkeaaPieceM
import Derived.Test.YtcjpfdlodphkeaaRdM
import Derived.Test.YtcjpfdlodphkeaaRdN
import Derived.Test.YtcjpfdlodphkeaaRdW
import Derived.Test.YtcjpfdlodphkeaaWordRI
import Derived.Test.YtcjpfdlodphkeaaEqWord
namespace Go.Proofs.Ytcjpfdlodphkeaa.fnExactWordRead
open Go.ChangeShapes Go.WideShapes Go.ChangeAt Go.RowKit
open Go.ChangeMaps (open_string shut_string)
set_option linter.unusedVariables false

theorem own : ownKnob Try.prog.godebug = none := by kernel_rfl

set_option maxRecDepth 100000 in
set_option maxHeartbeats 1600000 in
theorem walk (a0 : ByteArray) (w0 : a0.size ≤ maxLen) (w : World) :
    Calls Try.prog 3 #[.string a0] w fun e w' => e = .returned (.bool true) ∧ Below w.heap.size w w' := by
  have w1 := w0
  unfold maxLen at w1
  by_cases hb : 1048576 < a0.size
  · go_enter Try.func3, Try.ntmps3
    go_wp2
    go_ret
    exact ⟨rfl, Below.refl _ _⟩
  · obtain ⟨nm, n, c, he⟩ := outW_form a0
    go_enter Try.func3, Try.ntmps3
    go_wp2_with fail
    refine (specWordRead_any a0 _ w0).mono ?_
    rintro e x1 ⟨rfl, hb1⟩
    rw [he]
    go_wp2_with fail
    refine (implWordRead_any a0 _ w0).mono ?_
    rintro e x2 ⟨rfl, hb2⟩
    rw [he]
    have HB1 : Hid (Below _ _ _) := hb1
    have HB2 : Hid (Below _ _ _) := hb2
    have HV : Hid (_ = _) := heap_keep (heap_alloc_new x1 _) hb2
    clear hb1 hb2 he
    obtain ⟨c0, c1, c2⟩ := cells3h HV.out
    have hz := heap_lt HV.out
    go_wp2_with fail
    refine (eqWordOut_any nm n c _).mono ?_
    rintro e x3 ⟨rfl, hb3⟩
    go_wp2
    go_ret
    exact ⟨rfl, below_call (below_more (below_call (below_more HB1.out _) HB2.out) _) hb3⟩

set_option maxRecDepth 100000 in
theorem lifted (os : Os) (started : os.Started) (H : Type) (enc : TypeId × Value → H) :
    ReturnsInHanded {} Try.checked os 3 .any (Rows.fnExactWordReadSpec.pre6 enc Try.prog Try.f3 Rows.fnExactWordReadRow.domain false) (Rows.fnExactWordReadSpec.post enc Try.prog Try.f3 false true false false) := by
  refine returnsInHanded_of_change (C := Try.checked) own started (by kernel_rfl) Try.func3
    (ChangeSpec.witness6 (enc := enc) (C := Try.checked) false ⟨#[], #[.string ByteArray.empty], []⟩ 8 (by kernel_rfl) (by kernel_rfl) (by kernel_rfl) (by kernel_rfl)) ?_
  intro W base args ds gs before hval0 hW hcnd _
  have hval : ∀ (j : Nat) t v, Try.f3.params[j]? = some t → args[j]? = some v → Value.okWide Try.prog W .any base t v := hval0
  have hW' := hW
  obtain ⟨p, q, hA0, hV, rfl, hfz, hnd⟩ := hW
  have hA : DataW.TrodAll enc Try.prog W 0 (fun _ => true) true Try.f3.params.toList args.toList ds p := hA0
  rw [Try.params3] at hA hval
  obtain ⟨v0, vs0, d0, ds0, p0, q0, hargs, rfl, rfl, h0, r0⟩ := trodAll_cons hA
  obtain ⟨rfl, rfl, rfl⟩ := trodAll_nil r0
  obtain rfl : args = #[v0] := by cases args; simp_all
  obtain ⟨rfl, rfl⟩ := trodVars_none hV
  obtain ⟨a0, rfl, rfl, rfl, w0⟩ := open_string Try.underlying9 (hval 0 9 v0 rfl rfl) h0
  clear hA0 hval0
  refine (walk a0 w0 W).mono fun e W' ⟨he, hg⟩ => ?_
  subst he
  exact ⟨_, rfl, _, _, _, [], _, [], hW', trodAll_mk1 (shut_bool Try.underlying4 _), (trodAll_cons_mk (shut_string Try.underlying9 w0) trodAll_mk0), rfl, hg.frame _, fun h => by cases h⟩

theorem over : Rows.fnExactWordReadRow.holds Try.pinned (OpenSpec.ofChange Rows.fnExactWordReadSpec) :=
  OpenClaim.holds_of_wide 3 Try.f3 rfl rfl rfl rfl rfl rfl rfl ⟨rfl, rfl, rfl, rfl, rfl⟩ rfl rfl rfl rfl rfl (by kernel_rfl) Try.func3 (by kernel_rfl)
    (of_decide_eq_true (by kernel_rfl)) (by unfold Func.isWrapper; first | (rw [if_pos (by decide +kernel)]; kernel_rfl) | (rw [if_neg (by decide +kernel)]; exact ⟨rfl, rfl⟩))
    (fun os started H enc _ => lifted os started H enc)

theorem proved : Rows.FnExactWordReadSaid :=
  over
end Go.Proofs.Ytcjpfdlodphkeaa.fnExactWordRead
namespace Go.Proofs.Ytcjpfdlodphkeaa
theorem fnExactWordRead_holds : Rows.FnExactWordReadSaid := fnExactWordRead.proved
#print axioms fnExactWordRead_holds
end Go.Proofs.Ytcjpfdlodphkeaa
