/- Entries that are handed to a law, opened. -/
import Derived.Test.YtcnjeeckkpiilaaRows
import Derived.WalkKit
import Derived.ProofKit
import Derived.OpenShut
import Derived.ChangeArms
import Derived.Deep.Slices
import Derived.Test.YtcnjeeckkpiilaaOpenX
import Derived.Test.YtcnjeeckkpiilaaSrcA
namespace Go.Proofs.Ytcnjeeckkpiilaa
open Go.RowKit Go.WideShapes

def textsFitE (s : Src) : Prop := s.1.size ≤ maxLen ∧ s.2.size ≤ maxLen
set_option maxRecDepth 100000 in
theorem open_ent {H : Type} {enc : TypeId × Value → H} {w : World} {base : Nat} {sp : Nat → Bool} {held : Bool} (fuel : Nat) (cs : List Value) (x : DataW H × List MemPlace) (hcs : cs.length = 2) (h : DataW.trod enc Try.prog w base sp held fuel 92 cs = some x) : ∃ s : Src, cs = srcC s ∧ textsFitE s := by
  obtain ⟨xs, k, _, hx, hl, hn, hf⟩ := DataW.trod_struct Try.underlying92 h
  have k1 : Try.prog.cellsOf 9 = 1 := by kernel_rfl
  match xs, hn, cs, hcs with
  | [x0, x1], _, [c0, c1], _ =>
    have h0 := hf 0 _ rfl
    have h1 := hf 1 _ rfl
    simp [k1] at h0 h1
    obtain ⟨nm, e0, _, w0⟩ := DataW.trod_string Try.underlying9 h0
    obtain ⟨tx, e1, _, w1⟩ := DataW.trod_string Try.underlying9 h1
    simp at e0 e1
    subst e0 e1
    exact ⟨(nm, tx), rfl, w0, w1⟩
set_option maxRecDepth 100000 in
theorem open_ents {H : Type} {enc : TypeId × Value → H} {w : World} {base b0 : Nat} {sp : Nat → Bool} {held : Bool} {v : Value} {d : DataW H} {p : List MemPlace} (hv : Value.okWide Try.prog w .any b0 43 v) (h : DataW.Trod enc Try.prog w base sp held 43 v d p) :
    ∃ (a : Option Addr) (L : List Src) (cap : Nat), v = .slice a L.length cap ∧ RowIs 2 srcC w a L ∧ L.length ≤ maxLen ∧ ∀ s ∈ L, textsFitE s := by
  obtain ⟨a, len, cap, rfl⟩ := okWide_slice Try.underlying43 hv
  obtain ⟨fuel, hf⟩ := h
  obtain ⟨L, rfl, hR, hl, hG⟩ := open_elems 2 srcC textsFitE Try.underlying43 (by kernel_rfl) (by omega) open_ent hf
  exact ⟨a, L, cap, rfl, hR, hl, hG⟩
end Go.Proofs.Ytcnjeeckkpiilaa
