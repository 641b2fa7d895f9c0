/- Rows of bytes that a call itself makes: read, written, turned into a text. -/
import Derived.Test.YtnhehdobpibgkaaRows
import Derived.WalkKit
import Derived.WalkSpells
import Derived.WalkLawsBesides
import Derived.Laws.BytesArg
import Derived.Test.YtnhehdobpibgkaaBase
namespace Go.Proofs.Ytnhehdobpibgkaa
open Go.RowKit

def cellsU (L : List UInt8) : List Value := L.map fun b => Value.int .u8 (b.toNat : Int)
theorem strOf (L : List UInt8) : strOfNums (L.map fun b => (b.toNat : Int)) = ⟨L.toArray⟩ := by
  unfold strOfNums
  have h : (L.map fun b : UInt8 => (b.toNat : Int)).map (fun n => UInt8.ofNat n.toNat) = L := by
    rw [List.map_map]
    conv => rhs; rw [← List.map_id L]
    apply List.map_congr_left
    intro b _
    simp
  rw [h]
theorem conv_row (W : World) (B n cap : Nat) (t : TypeId) (R : List Value) (L : List UInt8) (hR : W.heap[B]? = some (.cells R.toArray t (0, 0))) (hl : L.length = n) (hT : R.take n = cellsU L) :
    (convert 35 9 (.slice (some ⟨B, 0, none⟩) n cap)).run Try.prog W = .ok (.string ⟨L.toArray⟩) W := by
  have h := run_convert_bytes_arg (P := Try.prog) W 35 5 Try.underlying35 Try.underlying5 B 0 n cap (L.map fun b => (b.toNat : Int)) (by simp [hl]) (fun i hi => ?_) 9 Try.underlying9
  · rw [h, strOf]
  · have e : R[i]? = (R.take n)[i]? := by rw [List.getElem?_take, if_pos hi]
    have hi2 : i < L.length := by omega
    simp [World.cell?, hR, e, hT, cellsU, List.getD, List.getElem?_eq_getElem hi2]
theorem row_cell {W : World} {B k : Nat} {t : TypeId} {R : List Value} (hR : W.heap[B]? = some (.cells R.toArray t (0, 0))) (h : k < R.length) : W.cell? ⟨B, k, none⟩ = some R[k] ∧ W.frozen? ⟨B, k, none⟩ = false := by
  constructor
  · simp [World.cell?, hR, h]
  · simp [World.frozen?, hR]
theorem row_set {W : World} {B k : Nat} {t : TypeId} {R : List Value} (hR : W.heap[B]? = some (.cells R.toArray t (0, 0))) (v : Value) : (W.setCell ⟨B, k, none⟩ v).heap[B]? = some (.cells (R.set k v).toArray t (0, 0)) := by
  rw [setCell_eq_setRow W B k R.toArray t (0, 0) v hR]
  rw [setRow_heap W B R.toArray _ t _ hR]
  simp
theorem set_take {R : List Value} {k : Nat} {L : List UInt8} (h : k < R.length) (hT : R.take k = cellsU L) (b : UInt8) : (R.set k (.int .u8 (b.toNat : Int))).take (k + 1) = cellsU (L ++ [b]) := by
  have hl : L.length = k := by have := congrArg List.length hT; simp [cellsU] at this; omega
  apply List.ext_getElem?
  intro j
  rw [List.getElem?_take]
  have e := congrArg (fun l => l[j]?) hT
  simp only [List.getElem?_take, cellsU] at e
  simp only [cellsU, List.map_append, List.getElem?_append, List.length_map, List.getElem?_set, hl]
  by_cases h1 : j < k
  · rw [if_pos (by omega), if_neg (by omega), if_pos h1]; rw [if_pos h1] at e; exact e
  · by_cases h2 : j = k
    · subst h2; simp [h]
    · rw [if_neg (by omega), if_neg h1]
      have : ¬ j - k < 1 := by omega
      simp; omega

theorem own_conv (W : World) (B : Nat) (v : Value) (n : Nat) (L : List UInt8) (h : W.ownsRow B 5 1 v n (cellsU L)) (hn : 0 < n) :
    (convert 35 9 v).run Try.prog W = .ok (.string ⟨L.toArray⟩) W := by
  obtain ⟨hl, h2⟩ := h
  rcases h2 with ⟨_, h0⟩ | ⟨g, cap, cur, rfl, _, hg, _, _, _, hT⟩
  · omega
  · exact conv_row W g n cap 5 cur.toList L (by simpa using hg) (by simp [cellsU] at hl; omega) (by simpa using hT)

theorem one_cell (x : Int) : ∀ u ∈ [Value.int .u8 x], u.oneCell' = true := by intro u hu; simp at hu; subst hu; rfl
end Go.Proofs.Ytnhehdobpibgkaa
