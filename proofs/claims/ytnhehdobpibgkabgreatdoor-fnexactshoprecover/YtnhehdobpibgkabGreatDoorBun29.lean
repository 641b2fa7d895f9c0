/- The walks of PutNum, in both ways. -/
import Derived.Test.YtnhehdobpibgkabGreatDoorRows
import Derived.WalkKit
import Derived.WalkSpells
import Derived.WalkLawsBesides
import Derived.Test.YtnhehdobpibgkabGreatDoorBun0
import Derived.Laws.BytesArg
import Derived.Test.YtnhehdobpibgkabGreatDoorBun3
import Derived.Test.YtnhehdobpibgkabGreatDoorBun28
import Derived.Test.YtnhehdobpibgkabGreatDoorBun2
import Derived.Test.YtnhehdobpibgkabGreatDoorBun1
import Derived.ProofKit
import Derived.OpenShut
import Derived.ChangeArms
import Derived.Deep.Slices
import Derived.Outline
import Derived.RegionTactic
import Derived.BigRegion
import Derived.Deep.QuietTactic
import Derived.BigQuiet
import Derived.Deep.RegionHeld3
import Derived.Test.YtnhehdobpibgkabGreatDoorBun4
import Derived.Test.YtnhehdobpibgkabGreatDoorBun10
namespace Go.Proofs.YtnhehdobpibgkabGreatDoor
open Go.RowKit

theorem last_conv {W : World} {B k c : Nat} {v : Value} {L : List UInt8} (h : W.ownsRow B 5 1 v (k + 1) (cellsU L ++ [.int .u8 (c : Int)])) (hv : (c : Int) = ((UInt8.ofNat c).toNat : Int)) :
    (convert 61 9 v).run Tryz.prog W = .ok (.string ⟨(L ++ [UInt8.ofNat c]).toArray⟩) W := by
  have e : cellsU (L ++ [UInt8.ofNat c]) = cellsU L ++ [.int .u8 (c : Int)] := by rw [hv]; simp [cellsU]
  rw [← e] at h
  exact own_conv W B v (k + 1) (L ++ [UInt8.ofNat c]) h (by omega)
theorem small_len (k : Nat) (h : k ≤ 9) : k + 1 ≤ maxLen := by unfold maxLen; omega
end Go.Proofs.YtnhehdobpibgkabGreatDoor
namespace Go.Proofs.YtnhehdobpibgkabGreatDoor
open Go.RowKit

def putT (s : ByteArray) : ByteArray := if 8000 < s.size then ⟨#[]⟩ else putS (foldN (s.size : Int)) ++ s
end Go.Proofs.YtnhehdobpibgkabGreatDoor
namespace Go.Proofs.YtnhehdobpibgkabGreatDoor
open Go.RowKit
set_option linter.unusedVariables false

theorem ElemAt.keep {w w' : World} {x : Addr} {m : Nat} {l : List Value} (h : ElemAt w x m l) (hx : x.block < w.heap.size) (hb : Below w.heap.size w w') : ElemAt w' x m l := by
  cases l with
  | nil => trivial
  | cons v l => exact ⟨(hb.cell (by rw [add_blockX]; exact hx)).trans h.1, fun j u hu => (hb.cell (p := ⟨(x.add m).block, (x.add m).off + (j + 1), none⟩) (by show (x.add m).block < _; rw [add_blockX]; exact hx)).trans (h.2 j u hu)⟩
theorem RowTo.set3 {α : Type} {c : α → List Value} {cur : Array Value} {L : List α} {k : Nat} (h : RowTo 3 c cur L k) (hk : k < L.length) {u v z : Value} (hu : c L[k] = [u, v, z]) : RowTo 3 c (((cur.setIfInBounds (k * 3) u).setIfInBounds (k * 3 + 1) v).setIfInBounds (k * 3 + 2) z) L (k + 1) := by
  obtain ⟨h1, h2⟩ := h
  refine ⟨by simp [h1], fun i hi hik j hj => ?_⟩
  have hsz : k * 3 + 2 < cur.size := by omega
  rw [Array.getElem?_setIfInBounds, Array.getElem?_setIfInBounds, Array.getElem?_setIfInBounds]
  by_cases e : i = k
  · subst e
    rw [hu]
    obtain rfl | rfl | rfl : j = 0 ∨ j = 1 ∨ j = 2 := by omega
    · rw [if_neg (by omega), if_neg (by omega), if_pos (by omega), if_pos (by omega)]; rfl
    · rw [if_neg (by omega), if_pos (by omega), if_pos (by simp; omega)]; rfl
    · rw [if_pos (by omega), if_pos (by simp; omega)]; rfl
  · rw [if_neg (by omega), if_neg (by omega), if_neg (by omega)]
    exact h2 i hi (by omega) j hj
theorem RowTo.set4 {α : Type} {c : α → List Value} {cur : Array Value} {L : List α} {k : Nat} (h : RowTo 4 c cur L k) (hk : k < L.length) {u v z y : Value} (hu : c L[k] = [u, v, z, y]) : RowTo 4 c ((((cur.setIfInBounds (k * 4) u).setIfInBounds (k * 4 + 1) v).setIfInBounds (k * 4 + 2) z).setIfInBounds (k * 4 + 3) y) L (k + 1) := by
  obtain ⟨h1, h2⟩ := h
  refine ⟨by simp [h1], fun i hi hik j hj => ?_⟩
  have hsz : k * 4 + 3 < cur.size := by omega
  rw [Array.getElem?_setIfInBounds, Array.getElem?_setIfInBounds, Array.getElem?_setIfInBounds, Array.getElem?_setIfInBounds]
  by_cases e : i = k
  · subst e
    rw [hu]
    obtain rfl | rfl | rfl | rfl : j = 0 ∨ j = 1 ∨ j = 2 ∨ j = 3 := by omega
    · rw [if_neg (by omega), if_neg (by omega), if_neg (by omega), if_pos (by omega), if_pos (by omega)]; rfl
    · rw [if_neg (by omega), if_neg (by omega), if_pos (by omega), if_pos (by simp; omega)]; rfl
    · rw [if_neg (by omega), if_pos (by omega), if_pos (by simp; omega)]; rfl
    · rw [if_pos (by omega), if_pos (by simp; omega)]; rfl
  · rw [if_neg (by omega), if_neg (by omega), if_neg (by omega), if_neg (by omega)]
    exact h2 i hi (by omega) j hj
end Go.Proofs.YtnhehdobpibgkabGreatDoor
namespace Go.Proofs.YtnhehdobpibgkabGreatDoor
open Go.RowKit Go.WideShapes

theorem open_elems {α : Type} [Inhabited α] {H : Type} {enc : TypeId × Value → H} {W : World} {base : Nat} {sp : Nat → Bool} {held : Bool} {t e : TypeId} (n : Nat) (c : α → List Value) (G : α → Prop) (ht : Tryz.prog.underlying t = some (.slice e)) (hn : Tryz.prog.cellsOf e = n) (hp : 0 < n)
    (hel : ∀ fuel cs x, cs.length = n → DataW.trod enc Tryz.prog W base sp held fuel e cs = some x → ∃ s : α, cs = c s ∧ G s) {fuel : Nat} {a : Option Addr} {len cap : Nat} {x : DataW H × List MemPlace} (h : DataW.trod enc Tryz.prog W base sp held fuel t [.slice a len cap] = some x) :
    ∃ L : List α, L.length = len ∧ RowIs n c W a L ∧ len ≤ maxLen ∧ ∀ s ∈ L, G s := by
  rcases Go.Deep.open_slice ht h with ⟨h0, _⟩ | ⟨b, len2, cap2, m, k, D, Pl, hcs, hb, hl, hm, hmm, _, hx⟩
  · simp at h0
    obtain ⟨rfl, rfl, rfl⟩ := h0
    exact ⟨[], rfl, fun h => by simp at h, by unfold maxLen; omega, by simp⟩
  · simp at hcs
    obtain ⟨rfl, rfl, rfl⟩ := hcs
    have hlm : len ≤ m := by rw [hmm]; split <;> omega
    rw [hn] at hx
    obtain ⟨f, hf⟩ := Go.Deep.choose_lt (α := α) (p := fun i s => W.cells? base (b.add (i * n)) n = some (c s) ∧ G s) (fun i hi => by
      obtain ⟨cs', h1, h2⟩ := hx i hi
      obtain ⟨_, hlen, _⟩ := World.cells?_some h1
      obtain ⟨s, rfl, hG⟩ := hel _ _ _ hlen h2
      exact ⟨s, h1, hG⟩)
    refine ⟨(List.range len).map f, by simp, fun hpos => ?_, by omega, fun s hs => ?_⟩
    · have hcell : ∀ i, i < len → ∀ j v, (c (f i))[j]? = some v → W.cell? (b.add (i * n + j)) = some v := fun i hi j v hv => by
        obtain ⟨_, hlen, hc⟩ := World.cells?_some (hf i (by omega)).1
        have hj := (List.getElem?_eq_some_iff.1 hv).1
        have := hc j (by omega)
        rw [Go.Deep.add_add] at this
        rw [this]
        exact hv
      have hlen : 0 < len := by simpa using hpos
      have hc0 := (World.cells?_some (hf 0 (by omega)).1).2.1
      have h00 := hcell 0 hlen 0 _ (List.getElem?_eq_getElem (by omega))
      have hblk := World.block_lt_of_cell? _ _ h00
      rw [add_blockX] at hblk
      refine ⟨b, rfl, hblk, fun i hi j v hv => ?_⟩
      have hi2 : i < len := by simpa using hi
      refine hcell i hi2 j v ?_
      simpa using hv
    · obtain ⟨i, hi, rfl⟩ := List.mem_map.1 hs
      exact (hf i (by have := List.mem_range.1 hi; omega)).2
end Go.Proofs.YtnhehdobpibgkabGreatDoor
namespace Go.Proofs.YtnhehdobpibgkabGreatDoor
open Go.RowKit Go.WideShapes
set_option linter.unusedVariables false

abbrev symE : Type := ByteArray × Int × Bool
def symC (s : symE) : List Value := [.string s.1, .int .i64 s.2.1, .bool s.2.2]
theorem symC_len (s : symE) : (symC s).length = 3 := rfl
def fitssym (s : symE) : Prop := s.1.size ≤ 1048576
def textssym (s : symE) : Prop := s.1.size ≤ maxLen ∧ (Lit.int .i64 s.2.1).wf = true
theorem textssym_s {L : List symE} (h : ∀ s ∈ L, textssym s) : ∀ s ∈ L, s.1.size ≤ maxLen := fun s hs => (h s hs).1
end Go.Proofs.YtnhehdobpibgkabGreatDoor
namespace Go.Proofs.YtnhehdobpibgkabGreatDoor
open Go.RowKit Go.WideShapes
set_option linter.unusedVariables false

abbrev refE : Type := Int × ByteArray × Int × Bool
def refC (s : refE) : List Value := [.int .i64 s.1, .string s.2.1, .int .i64 s.2.2.1, .bool s.2.2.2]
theorem refC_len (s : refE) : (refC s).length = 4 := rfl
def fitsref (s : refE) : Prop := s.2.1.size ≤ 1048576
def textsref (s : refE) : Prop := s.2.1.size ≤ maxLen ∧ (Lit.int .i64 s.1).wf = true ∧ (Lit.int .i64 s.2.2.1).wf = true
theorem textsref_s {L : List refE} (h : ∀ s ∈ L, textsref s) : ∀ s ∈ L, s.2.1.size ≤ maxLen := fun s hs => (h s hs).1
end Go.Proofs.YtnhehdobpibgkabGreatDoor
namespace Go.Proofs.YtnhehdobpibgkabGreatDoor
open Go.RowKit
set_option linter.unusedVariables false

def numT (n : Int) : ByteArray := putS (foldN n)
def flagT (b : Bool) : ByteArray := putS (foldN (if b then 1 else 0))
theorem numT_le (n : Int) : (numT n).size ≤ 10 := putS_le _
theorem flagT_le (b : Bool) : (flagT b).size ≤ 10 := putS_le _
theorem putT_le (s : ByteArray) : (putT s).size ≤ 8010 := by
  unfold putT
  by_cases h : 8000 < s.size
  · rw [if_pos h]; show 0 ≤ _; omega
  · rw [if_neg h, ByteArray.size_append]
    have := putS_le (foldN (s.size : Int))
    omega
def symT (s : symE) : ByteArray := catL [putT s.1, numT s.2.1, flagT s.2.2]
def refT (r : refE) : ByteArray := catL [numT r.1, putT r.2.1, numT r.2.2.1, flagT r.2.2.2]
theorem join3X (a b c : ByteArray) (w : World) (h : a.size + b.size + c.size ≤ 400000000) :
    Calls Tryz.prog 15 #[.slice (some ⟨w.heap.size, 0, none⟩) 3 3] (w.alloc (.cells #[.string a, .string b, .string c] 9)) fun e w' => e = .returned (.string (catL [a, b, c])) ∧ Below w.heap.size w w' :=
  join_new [a, b, c] 3 w rfl (by omega) (by simp [catL]; omega)
theorem join4X (a b c d : ByteArray) (w : World) (h : a.size + b.size + c.size + d.size ≤ 400000000) :
    Calls Tryz.prog 15 #[.slice (some ⟨w.heap.size, 0, none⟩) 4 4] (w.alloc (.cells #[.string a, .string b, .string c, .string d] 9)) fun e w' => e = .returned (.string (catL [a, b, c, d])) ∧ Below w.heap.size w w' :=
  join_new [a, b, c, d] 4 w rfl (by omega) (by simp [catL]; omega)
theorem join2X (a b : ByteArray) (w : World) (h : a.size + b.size ≤ 400000000) :
    Calls Tryz.prog 15 #[.slice (some ⟨w.heap.size, 0, none⟩) 2 2] (w.alloc (.cells #[.string a, .string b] 9)) fun e w' => e = .returned (.string (catL [a, b])) ∧ Below w.heap.size w w' :=
  join_new [a, b] 2 w rfl (by omega) (by simp [catL]; omega)
theorem cells3L {W : World} {B : Nat} {t : TypeId} {v0 v1 v2 : Value} (hR : W.heap[B]? = some (.cells #[v0, v1, v2] t (0, 0))) : W.cell? ⟨B, 0, none⟩ = some v0 ∧ W.cell? ⟨B, 1, none⟩ = some v1 ∧ W.cell? ⟨B, 2, none⟩ = some v2 := ⟨cell_of_row _ _ 0 _ _ _ hR, cell_of_row _ _ 1 _ _ _ hR, cell_of_row _ _ 2 _ _ _ hR⟩
theorem cells4L {W : World} {B : Nat} {t : TypeId} {v0 v1 v2 v3 : Value} (hR : W.heap[B]? = some (.cells #[v0, v1, v2, v3] t (0, 0))) : W.cell? ⟨B, 0, none⟩ = some v0 ∧ W.cell? ⟨B, 1, none⟩ = some v1 ∧ W.cell? ⟨B, 2, none⟩ = some v2 ∧ W.cell? ⟨B, 3, none⟩ = some v3 := ⟨cell_of_row _ _ 0 _ _ _ hR, cell_of_row _ _ 1 _ _ _ hR, cell_of_row _ _ 2 _ _ _ hR, cell_of_row _ _ 3 _ _ _ hR⟩
def is64 (n : Int) : Prop := -9223372036854775808 ≤ n ∧ n ≤ 9223372036854775807
end Go.Proofs.YtnhehdobpibgkabGreatDoor
namespace Go.Proofs.YtnhehdobpibgkabGreatDoor
open Go.RowKit
set_option linter.unusedVariables false

def zrowI (n : Nat) : Array Value := (List.replicate n (.int .i64 0)).toArray
theorem makeI (n : Nat) (hn : n ≤ 2000000) (w : World) : (Instr.makeSlice 56 (.int .i64 (n : Int)) (.int .i64 (n : Int))).run Tryz.prog w = .ok (.slice (some ⟨w.heap.size, 0, none⟩) n n) (w.alloc (.cells (zrowI n) 2)) := by
  obtain ⟨i0, hi, hz0, hz1, hz2⟩ := info_parts infoI
  rw [run_make (P := Tryz.prog) w 56 2 i0 (.int .i64 0) Tryz.underlying56 hi hz0 .i64 .i64 n n (by omega) (by omega) (by rw [hz2]; omega) (by omega)]
  have e : madeCells (Value.int .i64 0).cells (n * i0.size) = zrowI n := by
    rw [hz1]
    apply Array.ext
    · simp [madeCells, zrowI]
    · intro i h1 h2
      simp [madeCells, zrowI, Value.cells]
      rw [show i % 1 = 0 by omega]; rfl
  rw [Int.toNat_natCast, e]
/- What it made, as a row that is read and as one that is owned. -/
theorem made_read {w : World} {g : Nat} {L : List Int} (h : w.heap[g]? = some (.cells (L.map (Value.int .i64)).toArray 2 (0, 0))) : ReadI w (some ⟨g, 0, none⟩) L := fun hl => by
  refine ⟨_, rfl, heap_lt h, fun i hi => ?_⟩
  have e : (⟨g, 0, none⟩ : Addr).add i = ⟨g, i, none⟩ := by
    cases i with
    | zero => rfl
    | succ i => simp [Addr.add]
  rw [e, cell_of_row w g i _ _ _ h]
  simp [hi]
theorem made_own {w : World} {g B : Nat} {L : List Int} (h : w.heap[g]? = some (.cells (L.map (Value.int .i64)).toArray 2 (0, 0))) (hB : B ≤ g) (hl : L.length ≤ 2000000) : OwnI w B (.slice (some ⟨g, 0, none⟩) L.length L.length) L :=
  OwnI.mk hB h (Nat.le_refl _) (by unfold maxLen; omega) (by simp) (fun i hi => by simp [hi])
end Go.Proofs.YtnhehdobpibgkabGreatDoor
