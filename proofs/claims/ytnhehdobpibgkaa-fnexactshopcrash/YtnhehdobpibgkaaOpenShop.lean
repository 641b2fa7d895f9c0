/- A Shop that is handed to a law, opened. -/
import Derived.Test.YtnhehdobpibgkaaRows
import Derived.WalkKit
import Derived.ProofKit
import Derived.OpenShut
import Derived.ChangeArms
import Derived.Test.YtnhehdobpibgkaaBase
namespace Go.Proofs.Ytnhehdobpibgkaa
open Go.RowKit Go.WideShapes

set_option maxRecDepth 100000 in
theorem open_shop {H : Type} {enc : TypeId × Value → H} {w : World} {b0 : Nat} {sp : Nat → Bool} {held : Bool} {v : Value} {d : DataW H} {p : List MemPlace} (hv : Value.okWide Try.prog w .any b0 23 v) (h : DataW.Trod enc Try.prog w 0 sp held 23 v d p) :
    ∃ (g : ByteArray) (n : Int), v = .agg #[.string g, .int .i64 n] ∧ g.size ≤ maxLen ∧ (Lit.int .i64 n).wf = true := by
  obtain ⟨cs, rfl, hsz⟩ := okWide_struct Try.underlying23 hv
  obtain ⟨l⟩ := cs
  have hsz2 : l.length = 2 := hsz.trans (by kernel_rfl)
  match l, hsz2 with
  | [c0, c1], _ =>
    obtain ⟨fuel, hf⟩ := h
    obtain ⟨xs, k, _, hx, hl, hn, hf⟩ := DataW.trod_struct Try.underlying23 hf
    have k1 : Try.prog.cellsOf 2 = 1 := by kernel_rfl
    have k3 : Try.prog.cellsOf 9 = 1 := by kernel_rfl
    match xs, hn with
    | [x0, x1], _ =>
      have h0 := hf 0 _ rfl
      have h1 := hf 1 _ rfl
      simp [k1, k3, Value.cells] at h0 h1
      obtain ⟨nm, e0, _, w0⟩ := DataW.trod_string Try.underlying9 h0
      obtain ⟨n, e1, _, w1⟩ := DataW.trod_int Try.underlying2 h1
      simp at e0 e1
      subst e0 e1
      exact ⟨nm, n, rfl, w0, w1⟩
end Go.Proofs.Ytnhehdobpibgkaa
