/- A row of numbers that is handed to a law, opened. -/
import Derived.Test.YtdkkhkpehefnoaaRows
import Derived.WalkKit
import Derived.ProofKit
import Derived.OpenShut
import Derived.ChangeArms
import Derived.Deep.Slices
import Derived.Test.YtdkkhkpehefnoaaOpenX
import Derived.Test.YtdkkhkpehefnoaaWordsR
namespace Go.Proofs.Ytdkkhkpehefnoaa
open Go.RowKit Go.WideShapes

def intW (z : Int) : List Value := [.int .i64 z]
theorem open_intw {H : Type} {enc : TypeId × Value → H} {w : World} {base : Nat} {sp : Nat → Bool} {held : Bool} (fuel : Nat) (cs : List Value) (x : DataW H × List MemPlace) (hcs : cs.length = 1) (h : DataW.trod enc Try.prog w base sp held fuel 2 cs = some x) : ∃ z : Int, cs = intW z ∧ (Lit.int .i64 z).wf = true := by
  match cs, hcs with
  | [c0], _ =>
    obtain ⟨z, e, _, w0⟩ := DataW.trod_int Try.underlying2 h
    simp at e
    subst e
    exact ⟨z, rfl, w0⟩
theorem row_readW {w : World} {a : Option Addr} {L : List Int} (h : RowIs 1 intW w a L) : ReadI w a L := fun hl => by
  obtain ⟨x, rfl, hx, hc⟩ := h hl
  refine ⟨x, rfl, hx, fun i hi => ?_⟩
  have := hc i hi 0 _ rfl
  rwa [Nat.mul_one, Nat.add_zero] at this
set_option maxRecDepth 100000 in
theorem open_intsW {H : Type} {enc : TypeId × Value → H} {w : World} {base b0 : Nat} {sp : Nat → Bool} {held : Bool} {v : Value} {d : DataW H} {p : List MemPlace} (hv : Value.okWide Try.prog w .any b0 22 v) (h : DataW.Trod enc Try.prog w base sp held 22 v d p) :
    ∃ (a : Option Addr) (L : List Int) (cap : Nat), v = .slice a L.length cap ∧ ReadI w a L ∧ L.length ≤ maxLen := by
  obtain ⟨a, len, cap, rfl⟩ := okWide_slice Try.underlying22 hv
  obtain ⟨fuel, hf⟩ := h
  obtain ⟨L, rfl, hR, hl, _⟩ := open_elems 1 intW (fun z => (Lit.int .i64 z).wf = true) Try.underlying22 (by kernel_rfl) (by omega) open_intw hf
  exact ⟨a, L, cap, rfl, row_readW hR, hl⟩
end Go.Proofs.Ytdkkhkpehefnoaa
