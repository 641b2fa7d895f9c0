/- A slice of structs that is handed to a law, opened. -/
import Derived.Test.YtcnjeeckkpiilaaRows
import Derived.WalkKit
import Derived.ProofKit
import Derived.OpenShut
import Derived.ChangeArms
import Derived.Deep.Slices
import Derived.Test.YtcnjeeckkpiilaaRowX
namespace Go.Proofs.Ytcnjeeckkpiilaa
open Go.RowKit Go.WideShapes

theorem open_elems {α : Type} [Inhabited α] {H : Type} {enc : TypeId × Value → H} {W : World} {base : Nat} {sp : Nat → Bool} {held : Bool} {t e : TypeId} (n : Nat) (c : α → List Value) (G : α → Prop) (ht : Try.prog.underlying t = some (.slice e)) (hn : Try.prog.cellsOf e = n) (hp : 0 < n)
    (hel : ∀ fuel cs x, cs.length = n → DataW.trod enc Try.prog W base sp held fuel e cs = some x → ∃ s : α, cs = c s ∧ G s) {fuel : Nat} {a : Option Addr} {len cap : Nat} {x : DataW H × List MemPlace} (h : DataW.trod enc Try.prog W base sp held fuel t [.slice a len cap] = some x) :
    ∃ L : List α, L.length = len ∧ RowIs n c W a L ∧ len ≤ maxLen ∧ ∀ s ∈ L, G s := by
  rcases Go.Deep.open_slice ht h with ⟨h0, _⟩ | ⟨b, len2, cap2, m, k, D, Pl, hcs, hb, hl, hm, hmm, _, hx⟩
  · simp at h0
    obtain ⟨rfl, rfl, rfl⟩ := h0
    exact ⟨[], rfl, fun h => by simp at h, by unfold maxLen; omega, by simp⟩
  · simp at hcs
    obtain ⟨rfl, rfl, rfl⟩ := hcs
    have hlm : len ≤ m := by rw [hmm]; split <;> omega
    rw [hn] at hx
    obtain ⟨f, hf⟩ := Go.Deep.choose_lt (α := α) (p := fun i s => W.cells? base (b.add (i * n)) n = some (c s) ∧ G s) (fun i hi => by
      obtain ⟨cs', h1, h2⟩ := hx i hi
      obtain ⟨_, hlen, _⟩ := World.cells?_some h1
      obtain ⟨s, rfl, hG⟩ := hel _ _ _ hlen h2
      exact ⟨s, h1, hG⟩)
    refine ⟨(List.range len).map f, by simp, fun hpos => ?_, by omega, fun s hs => ?_⟩
    · have hcell : ∀ i, i < len → ∀ j v, (c (f i))[j]? = some v → W.cell? (b.add (i * n + j)) = some v := fun i hi j v hv => by
        obtain ⟨_, hlen, hc⟩ := World.cells?_some (hf i (by omega)).1
        have hj := (List.getElem?_eq_some_iff.1 hv).1
        have := hc j (by omega)
        rw [Go.Deep.add_add] at this
        rw [this]
        exact hv
      have hlen : 0 < len := by simpa using hpos
      have hc0 := (World.cells?_some (hf 0 (by omega)).1).2.1
      have h00 := hcell 0 hlen 0 _ (List.getElem?_eq_getElem (by omega))
      have hblk := World.block_lt_of_cell? _ _ h00
      rw [add_blockX] at hblk
      refine ⟨b, rfl, hblk, fun i hi j v hv => ?_⟩
      have hi2 : i < len := by simpa using hi
      refine hcell i hi2 j v ?_
      simpa using hv
    · obtain ⟨i, hi, rfl⟩ := List.mem_map.1 hs
      exact (hf i (by have := List.mem_range.1 hi; omega)).2
end Go.Proofs.Ytcnjeeckkpiilaa
