/- An Insn that is handed to a law, opened. -/
import Derived.Test.YtdokiccfjbieiaeDoorRows
import Derived.WalkKit
import Derived.ProofKit
import Derived.OpenShut
import Derived.ChangeArms
namespace Go.Proofs.YtdokiccfjbieiaeDoor
open Go.RowKit Go.WideShapes

set_option maxRecDepth 100000 in
theorem open_operand {H : Type} {enc : TypeId × Value → H} {w : World} {sp : Nat → Bool} {held : Bool} {fuel : Nat} {c0 c1 c2 c3 : Value} {x : DataW H × List MemPlace} (h : DataW.trod enc Tryd.prog w 0 sp held fuel 23 [c0, c1, c2, c3] = some x) :
    ∃ (m r n : Int) (l : Bool), c0 = .int .i64 m ∧ c1 = .int .i64 r ∧ c2 = .int .i64 n ∧ c3 = .bool l ∧ (Lit.int .i64 m).wf = true ∧ (Lit.int .i64 r).wf = true ∧ (Lit.int .i64 n).wf = true := by
  obtain ⟨xs, k, _, hx, hl, hn, hf⟩ := DataW.trod_struct Tryd.underlying23 h
  have k1 : Tryd.prog.cellsOf 2 = 1 := by kernel_rfl
  have k2 : Tryd.prog.cellsOf 4 = 1 := by kernel_rfl
  match xs, hn with
  | [x0, x1, x2, x3], _ =>
    have h0 := hf 0 _ rfl
    have h1 := hf 1 _ rfl
    have h2 := hf 2 _ rfl
    have h3 := hf 3 _ rfl
    simp [k1, k2] at h0 h1 h2 h3
    obtain ⟨m, e0, _, w0⟩ := DataW.trod_int Tryd.underlying2 h0
    obtain ⟨r, e1, _, w1⟩ := DataW.trod_int Tryd.underlying2 h1
    obtain ⟨n, e2, _, w2⟩ := DataW.trod_int Tryd.underlying2 h2
    obtain ⟨l, e3, _⟩ := DataW.trod_bool Tryd.underlying4 h3
    simp at e0 e1 e2 e3
    exact ⟨m, r, n, l, e0, e1, e2, e3, w0, w1, w2⟩
set_option maxRecDepth 100000 in
theorem array11 {cs : Array Value} (h : cs.size = 11) : ∃ c0 c1 c2 c3 c4 c5 c6 c7 c8 c9 c10, cs = #[c0, c1, c2, c3, c4, c5, c6, c7, c8, c9, c10] := by
  obtain ⟨l⟩ := cs
  match l, h with
  | [c0, c1, c2, c3, c4, c5, c6, c7, c8, c9, c10], _ => exact ⟨c0, c1, c2, c3, c4, c5, c6, c7, c8, c9, c10, rfl⟩
set_option maxRecDepth 100000 in
theorem open_insn {H : Type} {enc : TypeId × Value → H} {w : World} {b0 : Nat} {sp : Nat → Bool} {held : Bool} {v : Value} {d : DataW H} {p : List MemPlace} (hv : Value.okWide Tryd.prog w .any b0 25 v) (h : DataW.Trod enc Tryd.prog w 0 sp held 25 v d p) :
    ∃ (op : ByteArray) (b : Bool) (m r n : Int) (l : Bool) (m2 r2 n2 : Int) (l2 : Bool) (j : Int), v = .agg #[.string op, .bool b, .int .i64 m, .int .i64 r, .int .i64 n, .bool l, .int .i64 m2, .int .i64 r2, .int .i64 n2, .bool l2, .int .i64 j] ∧ op.size ≤ maxLen ∧
      (((Lit.int .i64 m).wf = true ∧ (Lit.int .i64 r).wf = true ∧ (Lit.int .i64 n).wf = true) ∧ ((Lit.int .i64 m2).wf = true ∧ (Lit.int .i64 r2).wf = true ∧ (Lit.int .i64 n2).wf = true) ∧ (Lit.int .i64 j).wf = true) := by
  obtain ⟨cs, rfl, hsz⟩ := okWide_struct Tryd.underlying25 hv
  obtain ⟨c0, c1, c2, c3, c4, c5, c6, c7, c8, c9, c10, rfl⟩ := array11 (hsz.trans (by kernel_rfl))
  obtain ⟨fuel, hf⟩ := h
  obtain ⟨xs, k, _, hx, hl, hn, hf⟩ := DataW.trod_struct Tryd.underlying25 hf
  have k1 : Tryd.prog.cellsOf 2 = 1 := by kernel_rfl
  have k2 : Tryd.prog.cellsOf 4 = 1 := by kernel_rfl
  have k3 : Tryd.prog.cellsOf 9 = 1 := by kernel_rfl
  have k4 : Tryd.prog.cellsOf 23 = 4 := by kernel_rfl
  match xs, hn with
  | [x0, x1, x2, x3, x4], _ =>
    have h0 := hf 0 _ rfl
    have h1 := hf 1 _ rfl
    have h2 := hf 2 _ rfl
    have h3 := hf 3 _ rfl
    have h4 := hf 4 _ rfl
    simp [k1, k2, k3, k4, Value.cells] at h0 h1 h2 h3 h4
    obtain ⟨op, e0, _, w0⟩ := DataW.trod_string Tryd.underlying9 h0
    obtain ⟨b, e1, _⟩ := DataW.trod_bool Tryd.underlying4 h1
    obtain ⟨m, r, n, l, rfl, rfl, rfl, rfl, w2⟩ := open_operand h2
    obtain ⟨m2, r2, n2, l2, rfl, rfl, rfl, rfl, w3⟩ := open_operand h3
    obtain ⟨j, e4, _, w4⟩ := DataW.trod_int Tryd.underlying2 h4
    simp at e0 e1 e4
    subst e0 e1 e4
    exact ⟨op, b, m, r, n, l, m2, r2, n2, l2, j, rfl, w0, w2, w3, w4⟩
end Go.Proofs.YtdokiccfjbieiaeDoor
