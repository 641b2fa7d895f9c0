/- SourcesRight answers as the specification at every list of sources of at most 1048576 values and letters, and leaves the list as it was; larger ones are not asked; no condition besides. -/
import Derived.Test.YtcjpfdlodphkeaaRows
import Derived.WalkKit
import Derived.ProofKit
import Derived.OpenShut
import Derived.ShutString
import Derived.ChangeOld
import Derived.Below
import Derived.WalkSpells
import Derived.WalkLawsBesides
import Derived.Test.YtcjpfdlodphkeaaBase
import Derived.Test.YtcjpfdlodphkeaaRes
import Derived.Test.YtcjpfdlodphkeaaRes2
import Derived.Test.YtcjpfdlodphkeaaName
import Derived.Test.YtcjpfdlodphkeaaRow
import Derived.Test.YtcjpfdlodphkeaaOwnS
import Derived.Test.YtcjpfdlodphkeaaIsa
import Derived.Test.YtcjpfdlodphkeaaIsa2
import Derived.Test.YtcjpfdlodphkeaaIsa3
import Derived.Test.YtcjpfdlodphkeaaRowX
import Derived.Test.YtcjpfdlodphkeaaSrcA
import Derived.Test.YtcjpfdlodphkeaaSrcR
import Derived.Test.YtcjpfdlodphkeaaOpenX
import Derived.Test.YtcjpfdlodphkeaaOpenSrc
import Derived.Test.YtcjpfdlodphkeaaLawSrc
namespace Go.Proofs.Ytcjpfdlodphkeaa.fnExactSourcesRight
open Go.ChangeShapes Go.WideShapes Go.ChangeAt Go.RowKit
open Go.ChangeMaps (open_string shut_string)
set_option linter.unusedVariables false

theorem own : ownKnob Try.prog.godebug = none := by kernel_rfl
theorem laidOut : laidOutB Try.prog = true := by kernel_rfl
set_option maxRecDepth 100000 in
set_option maxHeartbeats 1600000 in
theorem walk (a0 : Option Addr) (L0 : List Src) (cap0 : Nat) (w : World) (w0 : RowIs 2 srcC w a0 L0 ∧ L0.length ≤ maxLen ∧ ∀ s ∈ L0, textsFit s) :
    Calls Try.prog 4 #[.slice a0 L0.length cap0] w fun e w' => e = .returned (.bool true) ∧ Below w.heap.size w w' := by
  exact lawSources_walk a0 L0 cap0 w w0.1 w0.2.1 w0.2.2

set_option maxRecDepth 100000 in
theorem lifted (os : Os) (started : os.Started) (H : Type) (enc : TypeId × Value → H) :
    ReturnsInHanded {} Try.checked os 4 .any (Rows.fnExactSourcesRightSpec.pre6 enc Try.prog Try.f4 Rows.fnExactSourcesRightRow.domain false) (Rows.fnExactSourcesRightSpec.post enc Try.prog Try.f4 false true false false) := by
  refine returnsInHanded_of_change (C := Try.checked) own started (by kernel_rfl) Try.func4
    (ChangeSpec.witness6 (enc := enc) (C := Try.checked) false ⟨#[], #[.slice none 0 0], []⟩ 8 (by kernel_rfl) (by kernel_rfl) (by kernel_rfl) (by kernel_rfl)) ?_
  intro W base args ds gs before hval0 hW hcnd _
  have hval : ∀ (j : Nat) t v, Try.f4.params[j]? = some t → args[j]? = some v → Value.okWide Try.prog W .any base t v := hval0
  have hW' := hW
  obtain ⟨p, q, hA0, hV, rfl, hfz, hnd⟩ := hW
  have hA : DataW.TrodAll enc Try.prog W 0 (fun _ => true) true Try.f4.params.toList args.toList ds p := hA0
  rw [Try.params4] at hA hval
  obtain ⟨v0, vs0, d0, ds0, p0, q0, hargs, rfl, rfl, h0, r0⟩ := trodAll_cons hA
  obtain ⟨rfl, rfl, rfl⟩ := trodAll_nil r0
  obtain rfl : args = #[v0] := by cases args; simp_all
  obtain ⟨rfl, rfl⟩ := trodVars_none hV
  have k0 := h0
  have lt0 : ∀ x ∈ p0, x.block < W.heap.size := by obtain ⟨m, hm⟩ := k0; exact DataW.trod_lt m _ _ _ hm
  obtain ⟨a0, L0, cap0, rfl, w0⟩ := open_srcs (hval 0 29 v0 rfl rfl) h0
  clear hA0 hval0
  refine (walk a0 L0 cap0 W w0).mono fun e W' ⟨he, hg⟩ => ?_
  subst he
  exact ⟨_, rfl, _, _, _, [], _, [], hW', trodAll_mk1 (shut_bool Try.underlying4 _), (trodAll_cons_mk (Below.trod laidOut (by kernel_rfl) (of_decide_eq_true (by kernel_rfl)) k0 hg lt0) trodAll_mk0), rfl, hg.frame _, fun h => by cases h⟩

theorem over : Rows.fnExactSourcesRightRow.holds Try.pinned (OpenSpec.ofChange Rows.fnExactSourcesRightSpec) :=
  OpenClaim.holds_of_wide 4 Try.f4 rfl rfl rfl rfl rfl rfl rfl ⟨rfl, rfl, rfl, rfl, rfl⟩ rfl rfl rfl rfl rfl (by kernel_rfl) Try.func4 (by kernel_rfl)
    (of_decide_eq_true (by kernel_rfl)) (by unfold Func.isWrapper; first | (rw [if_pos (by decide +kernel)]; kernel_rfl) | (rw [if_neg (by decide +kernel)]; exact ⟨rfl, rfl⟩))
    (fun os started H enc _ => lifted os started H enc)

theorem proved : Rows.FnExactSourcesRightSaid :=
  over
end Go.Proofs.Ytcjpfdlodphkeaa.fnExactSourcesRight
namespace Go.Proofs.Ytcjpfdlodphkeaa
theorem fnExactSourcesRight_holds : Rows.FnExactSourcesRightSaid := fnExactSourcesRight.proved
#print axioms fnExactSourcesRight_holds
end Go.Proofs.Ytcjpfdlodphkeaa
