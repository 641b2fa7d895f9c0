/- More on rows of structs: stores of three and four cells; what sizes tell. -/
import Derived.Test.YtnhehdobpibgkaaGreatDoorRows
import Derived.WalkKit
import Derived.WalkSpells
import Derived.WalkLawsBesides
import Derived.Test.YtnhehdobpibgkaaGreatDoorBun0
import Derived.Test.YtnhehdobpibgkaaGreatDoorBun2
import Derived.Test.YtnhehdobpibgkaaGreatDoorBun3
import Derived.ProofKit
import Derived.OpenShut
import Derived.ChangeArms
import Derived.Deep.Slices
import Derived.Outline
import Derived.RegionTactic
import Derived.BigRegion
import Derived.Deep.QuietTactic
import Derived.BigQuiet
import Derived.Deep.RegionHeld3
namespace Go.Proofs.YtnhehdobpibgkaaGreatDoor
open Go.RowKit
set_option linter.unusedVariables false

theorem ElemAt.keep {w w' : World} {x : Addr} {m : Nat} {l : List Value} (h : ElemAt w x m l) (hx : x.block < w.heap.size) (hb : Below w.heap.size w w') : ElemAt w' x m l := by
  cases l with
  | nil => trivial
  | cons v l => exact ⟨(hb.cell (by rw [add_blockX]; exact hx)).trans h.1, fun j u hu => (hb.cell (p := ⟨(x.add m).block, (x.add m).off + (j + 1), none⟩) (by show (x.add m).block < _; rw [add_blockX]; exact hx)).trans (h.2 j u hu)⟩
theorem RowTo.set3 {α : Type} {c : α → List Value} {cur : Array Value} {L : List α} {k : Nat} (h : RowTo 3 c cur L k) (hk : k < L.length) {u v z : Value} (hu : c L[k] = [u, v, z]) : RowTo 3 c (((cur.setIfInBounds (k * 3) u).setIfInBounds (k * 3 + 1) v).setIfInBounds (k * 3 + 2) z) L (k + 1) := by
  obtain ⟨h1, h2⟩ := h
  refine ⟨by simp [h1], fun i hi hik j hj => ?_⟩
  have hsz : k * 3 + 2 < cur.size := by omega
  rw [Array.getElem?_setIfInBounds, Array.getElem?_setIfInBounds, Array.getElem?_setIfInBounds]
  by_cases e : i = k
  · subst e
    rw [hu]
    obtain rfl | rfl | rfl : j = 0 ∨ j = 1 ∨ j = 2 := by omega
    · rw [if_neg (by omega), if_neg (by omega), if_pos (by omega), if_pos (by omega)]; rfl
    · rw [if_neg (by omega), if_pos (by omega), if_pos (by simp; omega)]; rfl
    · rw [if_pos (by omega), if_pos (by simp; omega)]; rfl
  · rw [if_neg (by omega), if_neg (by omega), if_neg (by omega)]
    exact h2 i hi (by omega) j hj
theorem RowTo.set4 {α : Type} {c : α → List Value} {cur : Array Value} {L : List α} {k : Nat} (h : RowTo 4 c cur L k) (hk : k < L.length) {u v z y : Value} (hu : c L[k] = [u, v, z, y]) : RowTo 4 c ((((cur.setIfInBounds (k * 4) u).setIfInBounds (k * 4 + 1) v).setIfInBounds (k * 4 + 2) z).setIfInBounds (k * 4 + 3) y) L (k + 1) := by
  obtain ⟨h1, h2⟩ := h
  refine ⟨by simp [h1], fun i hi hik j hj => ?_⟩
  have hsz : k * 4 + 3 < cur.size := by omega
  rw [Array.getElem?_setIfInBounds, Array.getElem?_setIfInBounds, Array.getElem?_setIfInBounds, Array.getElem?_setIfInBounds]
  by_cases e : i = k
  · subst e
    rw [hu]
    obtain rfl | rfl | rfl | rfl : j = 0 ∨ j = 1 ∨ j = 2 ∨ j = 3 := by omega
    · rw [if_neg (by omega), if_neg (by omega), if_neg (by omega), if_pos (by omega), if_pos (by omega)]; rfl
    · rw [if_neg (by omega), if_neg (by omega), if_pos (by omega), if_pos (by simp; omega)]; rfl
    · rw [if_neg (by omega), if_pos (by omega), if_pos (by simp; omega)]; rfl
    · rw [if_pos (by omega), if_pos (by simp; omega)]; rfl
  · rw [if_neg (by omega), if_neg (by omega), if_neg (by omega), if_neg (by omega)]
    exact h2 i hi (by omega) j hj
end Go.Proofs.YtnhehdobpibgkaaGreatDoor
namespace Go.Proofs.YtnhehdobpibgkaaGreatDoor
open Go.RowKit Go.WideShapes

theorem open_elems {α : Type} [Inhabited α] {H : Type} {enc : TypeId × Value → H} {W : World} {base : Nat} {sp : Nat → Bool} {held : Bool} {t e : TypeId} (n : Nat) (c : α → List Value) (G : α → Prop) (ht : Tryz.prog.underlying t = some (.slice e)) (hn : Tryz.prog.cellsOf e = n) (hp : 0 < n)
    (hel : ∀ fuel cs x, cs.length = n → DataW.trod enc Tryz.prog W base sp held fuel e cs = some x → ∃ s : α, cs = c s ∧ G s) {fuel : Nat} {a : Option Addr} {len cap : Nat} {x : DataW H × List MemPlace} (h : DataW.trod enc Tryz.prog W base sp held fuel t [.slice a len cap] = some x) :
    ∃ L : List α, L.length = len ∧ RowIs n c W a L ∧ len ≤ maxLen ∧ ∀ s ∈ L, G s := by
  rcases Go.Deep.open_slice ht h with ⟨h0, _⟩ | ⟨b, len2, cap2, m, k, D, Pl, hcs, hb, hl, hm, hmm, _, hx⟩
  · simp at h0
    obtain ⟨rfl, rfl, rfl⟩ := h0
    exact ⟨[], rfl, fun h => by simp at h, by unfold maxLen; omega, by simp⟩
  · simp at hcs
    obtain ⟨rfl, rfl, rfl⟩ := hcs
    have hlm : len ≤ m := by rw [hmm]; split <;> omega
    rw [hn] at hx
    obtain ⟨f, hf⟩ := Go.Deep.choose_lt (α := α) (p := fun i s => W.cells? base (b.add (i * n)) n = some (c s) ∧ G s) (fun i hi => by
      obtain ⟨cs', h1, h2⟩ := hx i hi
      obtain ⟨_, hlen, _⟩ := World.cells?_some h1
      obtain ⟨s, rfl, hG⟩ := hel _ _ _ hlen h2
      exact ⟨s, h1, hG⟩)
    refine ⟨(List.range len).map f, by simp, fun hpos => ?_, by omega, fun s hs => ?_⟩
    · have hcell : ∀ i, i < len → ∀ j v, (c (f i))[j]? = some v → W.cell? (b.add (i * n + j)) = some v := fun i hi j v hv => by
        obtain ⟨_, hlen, hc⟩ := World.cells?_some (hf i (by omega)).1
        have hj := (List.getElem?_eq_some_iff.1 hv).1
        have := hc j (by omega)
        rw [Go.Deep.add_add] at this
        rw [this]
        exact hv
      have hlen : 0 < len := by simpa using hpos
      have hc0 := (World.cells?_some (hf 0 (by omega)).1).2.1
      have h00 := hcell 0 hlen 0 _ (List.getElem?_eq_getElem (by omega))
      have hblk := World.block_lt_of_cell? _ _ h00
      rw [add_blockX] at hblk
      refine ⟨b, rfl, hblk, fun i hi j v hv => ?_⟩
      have hi2 : i < len := by simpa using hi
      refine hcell i hi2 j v ?_
      simpa using hv
    · obtain ⟨i, hi, rfl⟩ := List.mem_map.1 hs
      exact (hf i (by have := List.mem_range.1 hi; omega)).2
end Go.Proofs.YtnhehdobpibgkaaGreatDoor
namespace Go.Proofs.YtnhehdobpibgkaaGreatDoor
open Go.RowKit Go.WideShapes
set_option linter.unusedVariables false

abbrev symE : Type := ByteArray × Int × Bool
def symC (s : symE) : List Value := [.string s.1, .int .i64 s.2.1, .bool s.2.2]
theorem symC_len (s : symE) : (symC s).length = 3 := rfl
def fitssym (s : symE) : Prop := s.1.size ≤ 1048576
def textssym (s : symE) : Prop := s.1.size ≤ maxLen ∧ (Lit.int .i64 s.2.1).wf = true
theorem textssym_s {L : List symE} (h : ∀ s ∈ L, textssym s) : ∀ s ∈ L, s.1.size ≤ maxLen := fun s hs => (h s hs).1
end Go.Proofs.YtnhehdobpibgkaaGreatDoor
namespace Go.Proofs.YtnhehdobpibgkaaGreatDoor
open Go.RowKit Go.WideShapes
set_option linter.unusedVariables false

abbrev refE : Type := Int × ByteArray × Int × Bool
def refC (s : refE) : List Value := [.int .i64 s.1, .string s.2.1, .int .i64 s.2.2.1, .bool s.2.2.2]
theorem refC_len (s : refE) : (refC s).length = 4 := rfl
def fitsref (s : refE) : Prop := s.2.1.size ≤ 1048576
def textsref (s : refE) : Prop := s.2.1.size ≤ maxLen ∧ (Lit.int .i64 s.1).wf = true ∧ (Lit.int .i64 s.2.2.1).wf = true
theorem textsref_s {L : List refE} (h : ∀ s ∈ L, textsref s) : ∀ s ∈ L, s.2.1.size ≤ maxLen := fun s hs => (h s hs).1
end Go.Proofs.YtnhehdobpibgkaaGreatDoor
