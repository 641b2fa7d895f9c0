/- ObjectRight answers as the specification at every object of at most 1048576 values and letters, and leaves it as it was; larger ones are not asked; no condition besides. -/
import Derived.Test.YtcjpfdlodphkeaaRows
import Derived.WalkKit
import Derived.ProofKit
import Derived.OpenShut
import Derived.ShutString
import Derived.ChangeOld
import Derived.Below
import Derived.WalkSpells
import Derived.WalkLawsBesides
import Derived.Test.YtcjpfdlodphkeaaBase
import Derived.Test.YtcjpfdlodphkeaaRes
import Derived.Test.YtcjpfdlodphkeaaRes2
import Derived.Test.YtcjpfdlodphkeaaOwn
import Derived.Test.YtcjpfdlodphkeaaIsa
import Derived.Test.YtcjpfdlodphkeaaWordsR
import Derived.Test.YtcjpfdlodphkeaaToWords
import Derived.Test.YtcjpfdlodphkeaaName
import Derived.Test.YtcjpfdlodphkeaaRow
import Derived.Test.YtcjpfdlodphkeaaOwnS
import Derived.Test.YtcjpfdlodphkeaaIsa2
import Derived.Test.YtcjpfdlodphkeaaIsa3
import Derived.Test.YtcjpfdlodphkeaaRowX
import Derived.Test.YtcjpfdlodphkeaaSrcA
import Derived.Test.YtcjpfdlodphkeaaSrcR
import Derived.Test.YtcjpfdlodphkeaaRowY
import Derived.Test.YtcjpfdlodphkeaaOpenX
import Derived.Test.YtcjpfdlodphkeaaSymA
import Derived.Test.YtcjpfdlodphkeaaRefA
import Derived.Test.YtcjpfdlodphkeaaObjB
import Derived.Test.YtcjpfdlodphkeaaObjI
import Derived.Test.YtcjpfdlodphkeaaObjP
import Derived.Test.YtcjpfdlodphkeaaObjS
import Derived.Test.YtcjpfdlodphkeaaObjT
import Derived.Test.YtcjpfdlodphkeaaOpenObj
import Derived.Test.YtcjpfdlodphkeaaLawObj
namespace Go.Proofs.Ytcjpfdlodphkeaa.fnExactObjectRight
open Go.ChangeShapes Go.WideShapes Go.ChangeAt Go.RowKit
open Go.ChangeMaps (open_string shut_string)
set_option linter.unusedVariables false

theorem own : ownKnob Try.prog.godebug = none := by kernel_rfl
theorem laidOut : laidOutB Try.prog = true := by kernel_rfl
set_option maxRecDepth 100000 in
set_option maxHeartbeats 1600000 in
theorem walk (a0 b0 c0 : Option Addr) (W0 : List Int) (S0 : List symE) (R0 : List refE) (ka0 kb0 kc0 : Nat) (w : World) (w0 : ObjIs w a0 b0 c0 W0 S0 R0 ∧ ObjRaw W0 S0 R0) :
    Calls Try.prog 5 #[.agg #[.slice a0 W0.length ka0, .slice b0 S0.length kb0, .slice c0 R0.length kc0]] w fun e w' => e = .returned (.bool true) ∧ Below w.heap.size w w' := by
  exact lawObject_walk a0 b0 c0 W0 S0 R0 ka0 kb0 kc0 w w0.1 w0.2

set_option maxRecDepth 100000 in
theorem lifted (os : Os) (started : os.Started) (H : Type) (enc : TypeId × Value → H) :
    ReturnsInHanded {} Try.checked os 5 .any (Rows.fnExactObjectRightSpec.pre6 enc Try.prog Try.f5 Rows.fnExactObjectRightRow.domain false) (Rows.fnExactObjectRightSpec.post enc Try.prog Try.f5 false true false false) := by
  refine returnsInHanded_of_change (C := Try.checked) own started (by kernel_rfl) Try.func5
    (ChangeSpec.witness6 (enc := enc) (C := Try.checked) false ⟨#[], #[.agg #[.slice none 0 0, .slice none 0 0, .slice none 0 0]], []⟩ 8 (by kernel_rfl) (by kernel_rfl) (by kernel_rfl) (by kernel_rfl)) ?_
  intro W base args ds gs before hval0 hW hcnd _
  have hval : ∀ (j : Nat) t v, Try.f5.params[j]? = some t → args[j]? = some v → Value.okWide Try.prog W .any base t v := hval0
  have hW' := hW
  obtain ⟨p, q, hA0, hV, rfl, hfz, hnd⟩ := hW
  have hA : DataW.TrodAll enc Try.prog W 0 (fun _ => true) true Try.f5.params.toList args.toList ds p := hA0
  rw [Try.params5] at hA hval
  obtain ⟨v0, vs0, d0, ds0, p0, q0, hargs, rfl, rfl, h0, r0⟩ := trodAll_cons hA
  obtain ⟨rfl, rfl, rfl⟩ := trodAll_nil r0
  obtain rfl : args = #[v0] := by cases args; simp_all
  obtain ⟨rfl, rfl⟩ := trodVars_none hV
  have k0 := h0
  have lt0 : ∀ x ∈ p0, x.block < W.heap.size := by obtain ⟨m, hm⟩ := k0; exact DataW.trod_lt m _ _ _ hm
  obtain ⟨a0, b0, c0, W0, S0, R0, ka0, kb0, kc0, rfl, w0⟩ := open_obj (hval 0 40 v0 rfl rfl) h0
  clear hA0 hval0
  refine (walk a0 b0 c0 W0 S0 R0 ka0 kb0 kc0 W w0).mono fun e W' ⟨he, hg⟩ => ?_
  subst he
  exact ⟨_, rfl, _, _, _, [], _, [], hW', trodAll_mk1 (shut_bool Try.underlying4 _), (trodAll_cons_mk (Below.trod laidOut (by kernel_rfl) (of_decide_eq_true (by kernel_rfl)) k0 hg lt0) trodAll_mk0), rfl, hg.frame _, fun h => by cases h⟩

theorem over : Rows.fnExactObjectRightRow.holds Try.pinned (OpenSpec.ofChange Rows.fnExactObjectRightSpec) :=
  OpenClaim.holds_of_wide 5 Try.f5 rfl rfl rfl rfl rfl rfl rfl ⟨rfl, rfl, rfl, rfl, rfl⟩ rfl rfl rfl rfl rfl (by kernel_rfl) Try.func5 (by kernel_rfl)
    (of_decide_eq_true (by kernel_rfl)) (by unfold Func.isWrapper; first | (rw [if_pos (by decide +kernel)]; kernel_rfl) | (rw [if_neg (by decide +kernel)]; exact ⟨rfl, rfl⟩))
    (fun os started H enc _ => lifted os started H enc)

theorem proved : Rows.FnExactObjectRightSaid :=
  over
end Go.Proofs.Ytcjpfdlodphkeaa.fnExactObjectRight
namespace Go.Proofs.Ytcjpfdlodphkeaa
theorem fnExactObjectRight_holds : Rows.FnExactObjectRightSaid := fnExactObjectRight.proved
#print axioms fnExactObjectRight_holds
end Go.Proofs.Ytcjpfdlodphkeaa
