/- An object that is handed to a law, opened. -/
import Derived.Test.YtcnjeeckkpiilaaRows
import Derived.WalkKit
import Derived.ProofKit
import Derived.OpenShut
import Derived.ChangeArms
import Derived.Deep.Slices
import Derived.Test.YtcnjeeckkpiilaaOpenX
import Derived.Test.YtcnjeeckkpiilaaObjP
namespace Go.Proofs.Ytcnjeeckkpiilaa
open Go.RowKit Go.WideShapes

theorem is_slice {H : Type} {enc : TypeId × Value → H} {W : World} {base : Nat} {sp : Nat → Bool} {held : Bool} {t e : TypeId} (ht : Try.prog.underlying t = some (.slice e)) {fuel : Nat} {v : Value} {x : DataW H × List MemPlace} (h : DataW.trod enc Try.prog W base sp held fuel t [v] = some x) : ∃ a len cap, v = .slice a len cap := by
  rcases Go.Deep.open_slice ht h with ⟨h0, _⟩ | ⟨b, len2, cap2, m, k, D, Pl, hcs, _⟩
  · simp at h0; exact ⟨_, _, _, h0⟩
  · simp at hcs; exact ⟨_, _, _, hcs⟩
def intC (z : Int) : List Value := [.int .i64 z]
theorem open_intc {H : Type} {enc : TypeId × Value → H} {w : World} {base : Nat} {sp : Nat → Bool} {held : Bool} (fuel : Nat) (cs : List Value) (x : DataW H × List MemPlace) (hcs : cs.length = 1) (h : DataW.trod enc Try.prog w base sp held fuel 2 cs = some x) : ∃ z : Int, cs = intC z ∧ (Lit.int .i64 z).wf = true := by
  match cs, hcs with
  | [c0], _ =>
    obtain ⟨z, e, _, w0⟩ := DataW.trod_int Try.underlying2 h
    simp at e
    subst e
    exact ⟨z, rfl, w0⟩
theorem row_read {w : World} {a : Option Addr} {L : List Int} (h : RowIs 1 intC w a L) : ReadI w a L := fun hl => by
  obtain ⟨x, rfl, hx, hc⟩ := h hl
  refine ⟨x, rfl, hx, fun i hi => ?_⟩
  have := hc i hi 0 _ rfl
  rwa [Nat.mul_one, Nat.add_zero] at this
theorem array3 {cs : Array Value} (h : cs.size = 3) : ∃ c0 c1 c2, cs = #[c0, c1, c2] := by
  obtain ⟨l⟩ := cs
  match l, h with
  | [c0, c1, c2], _ => exact ⟨c0, c1, c2, rfl⟩
set_option maxRecDepth 100000 in
theorem open_obj {H : Type} {enc : TypeId × Value → H} {w : World} {base b0 : Nat} {sp : Nat → Bool} {held : Bool} {v : Value} {d : DataW H} {p : List MemPlace} (hv : Value.okWide Try.prog w .any b0 28 v) (h : DataW.Trod enc Try.prog w base sp held 28 v d p) :
    ∃ (a b c : Option Addr) (W : List Int) (S : List symE) (R : List refE) (ka kb kc : Nat), v = .agg #[.slice a W.length ka, .slice b S.length kb, .slice c R.length kc] ∧ ObjIs w a b c W S R ∧ ObjRaw W S R := by
  obtain ⟨cs, rfl, hsz⟩ := okWide_struct Try.underlying28 hv
  obtain ⟨c0, c1, c2, rfl⟩ := array3 (hsz.trans (by kernel_rfl))
  obtain ⟨fuel, hf⟩ := h
  obtain ⟨xs, k, _, hx, hl, hn, hf⟩ := DataW.trod_struct Try.underlying28 hf
  have k1 : Try.prog.cellsOf 24 = 1 := by kernel_rfl
  have k2 : Try.prog.cellsOf 25 = 1 := by kernel_rfl
  have k3 : Try.prog.cellsOf 26 = 1 := by kernel_rfl
  match xs, hn with
  | [z0, z1, z2], _ =>
    have h0 := hf 0 _ rfl
    have h1 := hf 1 _ rfl
    have h2 := hf 2 _ rfl
    simp [k1, k2, k3, Value.cells] at h0 h1 h2
    obtain ⟨a, la, ka, rfl⟩ := is_slice Try.underlying24 h0
    obtain ⟨b, lb, kb, rfl⟩ := is_slice Try.underlying25 h1
    obtain ⟨c, lc, kc, rfl⟩ := is_slice Try.underlying26 h2
    obtain ⟨W, rfl, hW, hWl, hWt⟩ := open_elems 1 intC (fun z => (Lit.int .i64 z).wf = true) Try.underlying24 (by kernel_rfl) (by omega) open_intc h0
    obtain ⟨S, rfl, hS, hSl, hSt⟩ := open_elems 3 symC textssym Try.underlying25 (by kernel_rfl) (by omega) open_sym h1
    obtain ⟨R, rfl, hR, hRl, hRt⟩ := open_elems 4 refC textsref Try.underlying26 (by kernel_rfl) (by omega) open_ref h2
    exact ⟨a, b, c, W, S, R, ka, kb, kc, rfl, ⟨row_read hW, hS, hR⟩, ⟨hWl, hSl, hRl, hSt, hRt⟩⟩
end Go.Proofs.Ytcnjeeckkpiilaa
