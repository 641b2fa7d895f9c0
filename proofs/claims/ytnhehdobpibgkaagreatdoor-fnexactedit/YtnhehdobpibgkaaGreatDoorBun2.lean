/- Rows of structs of a fixed number of cells: read, made, kept. -/
import Derived.Test.YtnhehdobpibgkaaGreatDoorRows
import Derived.WalkKit
import Derived.WalkSpells
import Derived.WalkLawsBesides
import Derived.Test.YtnhehdobpibgkaaGreatDoorBun0
import Derived.Outline
import Derived.RegionTactic
import Derived.BigRegion
import Derived.Deep.QuietTactic
import Derived.BigQuiet
namespace Go.Proofs.YtnhehdobpibgkaaGreatDoor
open Go.RowKit
set_option linter.unusedVariables false

/- Each element of the row as its cells. -/
def RowIs {α : Type} (n : Nat) (c : α → List Value) (w : World) (a : Option Addr) (L : List α) : Prop :=
  0 < L.length → ∃ x : Addr, a = some x ∧ x.block < w.heap.size ∧ ∀ i (h : i < L.length) j v, (c L[i])[j]? = some v → w.cell? (x.add (i * n + j)) = some v
theorem add_blockX (x : Addr) (i : Nat) : (x.add i).block = x.block := by unfold Addr.add; split <;> rfl
theorem RowIs.below {α : Type} {n : Nat} {c : α → List Value} {w w' : World} {a : Option Addr} {L : List α} (h : RowIs n c w a L) (hb : Below w.heap.size w w') : RowIs n c w' a L := fun hl => by
  obtain ⟨x, rfl, hx, hc⟩ := h hl
  exact ⟨x, rfl, Nat.lt_of_lt_of_le hx hb.size, fun i hi j v hv => (hb.cell (by rw [add_blockX]; exact hx)).trans (hc i hi j v hv)⟩
theorem RowIs.alloc {α : Type} {n : Nat} {c : α → List Value} {w : World} {a : Option Addr} {L : List α} (h : RowIs n c w a L) (o : Obj) : RowIs n c (w.alloc o) a L := h.below (below_new w o)
theorem flat_get {α : Type} (n : Nat) (c : α → List Value) (hc : ∀ a, (c a).length = n) : ∀ (L : List α) (i j : Nat) (h : i < L.length), j < n → (L.flatMap c)[i * n + j]? = (c L[i])[j]?
  | [], i, j, h, hj => by simp at h
  | a :: L, 0, j, h, hj => by
    rw [List.flatMap_cons, Nat.zero_mul, Nat.zero_add, List.getElem?_append_left (by rw [hc]; exact hj)]
    rfl
  | a :: L, i + 1, j, h, hj => by
    rw [List.flatMap_cons, List.getElem?_append_right (by rw [hc, Nat.succ_mul]; omega)]
    have e : (i + 1) * n + j - (c a).length = i * n + j := by rw [hc, Nat.succ_mul]; omega
    rw [e, flat_get n c hc L i j (by simpa using h) hj]
    rfl
theorem flat_len {α : Type} (n : Nat) (c : α → List Value) (hc : ∀ a, (c a).length = n) : ∀ (L : List α), (L.flatMap c).length = L.length * n
  | [] => by simp
  | a :: L => by rw [List.flatMap_cons, List.length_append, hc, flat_len n c hc L, List.length_cons, Nat.succ_mul]; omega
theorem add_zero_block (g i : Nat) : (⟨g, 0, none⟩ : Addr).add i = ⟨g, i, none⟩ := by
  cases i with
  | zero => rfl
  | succ i => simp [Addr.add]
theorem made_rowIs {α : Type} {n : Nat} {c : α → List Value} {w : World} {g : Nat} {t : TypeId} {L : List α} (hc : ∀ a, (c a).length = n) (h : w.heap[g]? = some (.cells (L.flatMap c).toArray t (0, 0))) : RowIs n c w (some ⟨g, 0, none⟩) L := fun hl => by
  refine ⟨_, rfl, heap_lt h, fun i hi j v hv => ?_⟩
  have hj : j < n := by
    have := (List.getElem?_eq_some_iff.1 hv).1
    rw [hc] at this
    exact this
  rw [add_zero_block, cell_of_row w g _ _ _ _ h, List.getElem?_toArray, flat_get n c hc L i j hi hj, hv]
/- A row under way: the first k elements stand. -/
def RowTo {α : Type} (n : Nat) (c : α → List Value) (cur : Array Value) (L : List α) (k : Nat) : Prop := cur.size = L.length * n ∧ ∀ i (h : i < L.length), i < k → ∀ j, j < n → cur[i * n + j]? = (c L[i])[j]?
theorem RowTo.done {α : Type} {n : Nat} {c : α → List Value} {cur : Array Value} {L : List α} (hc : ∀ a, (c a).length = n) (h : RowTo n c cur L L.length) : cur = (L.flatMap c).toArray := by
  obtain ⟨hs, hv⟩ := h
  apply Array.ext
  · rw [hs]; simp [flat_len n c hc]
  · intro i h1 h2
    have hn : 0 < n := by
      rcases Nat.eq_zero_or_pos n with h0 | h0
      · rw [h0] at hs; omega
      · exact h0
    have hd : i / n < L.length := Nat.div_lt_of_lt_mul (by rw [Nat.mul_comm]; omega)
    have hm := Nat.mod_lt i hn
    have e : i = i / n * n + i % n := by rw [Nat.mul_comm]; exact (Nat.div_add_mod i n).symm
    have h3 := hv (i / n) hd hd (i % n) hm
    have h4 := flat_get n c hc L (i / n) (i % n) hd hm
    rw [← e] at h3 h4
    rw [Array.getElem?_eq_getElem h1] at h3
    rw [← h3] at h4
    have h5 : ((L.flatMap c).toArray)[i]? = some cur[i] := by rw [List.getElem?_toArray]; exact h4
    rw [Array.getElem?_eq_getElem h2] at h5
    exact (Option.some.inj h5).symm
theorem add_next (x : Addr) (m j : Nat) : x.add (m + (j + 1)) = ⟨(x.add m).block, (x.add m).off + (j + 1), none⟩ := by
  unfold Addr.add
  cases m with
  | zero => simp
  | succ m => simp; omega
/- The cells of one element, as a walk spells their places. -/
def ElemAt (w : World) (x : Addr) (m : Nat) : List Value → Prop
  | [] => True
  | v :: l => w.cell? (x.add m) = some v ∧ ∀ j u, l[j]? = some u → w.cell? ⟨(x.add m).block, (x.add m).off + (j + 1), none⟩ = some u
theorem RowIs.elem {α : Type} {n : Nat} {c : α → List Value} {w : World} {a : Option Addr} {L : List α} (h : RowIs n c w a L) (k : Nat) (hk : k < L.length) : ∃ x : Addr, a = some x ∧ x.block < w.heap.size ∧ ElemAt w x (k * n) (c L[k]) := by
  obtain ⟨x, rfl, hx, hc⟩ := h (by omega)
  refine ⟨x, rfl, hx, ?_⟩
  have h2 := hc k hk
  generalize c L[k] = l at h2
  cases l with
  | nil => trivial
  | cons v l =>
    refine ⟨h2 0 v rfl, fun j u hu => ?_⟩
    rw [← add_next]
    exact h2 (j + 1) u (by simpa using hu)
theorem ElemAt.two {w : World} {x : Addr} {m : Nat} {u v : Value} (h : ElemAt w x m [u, v]) : w.cell? (x.add m) = some u ∧ w.cell? ⟨(x.add m).block, (x.add m).off + 1, none⟩ = some v := ⟨h.1, h.2 0 v rfl⟩
theorem ElemAt.three {w : World} {x : Addr} {m : Nat} {u v z : Value} (h : ElemAt w x m [u, v, z]) : w.cell? (x.add m) = some u ∧ w.cell? ⟨(x.add m).block, (x.add m).off + 1, none⟩ = some v ∧ w.cell? ⟨(x.add m).block, (x.add m).off + 2, none⟩ = some z := ⟨h.1, h.2 0 v rfl, h.2 1 z rfl⟩
theorem ElemAt.four {w : World} {x : Addr} {m : Nat} {u v z y : Value} (h : ElemAt w x m [u, v, z, y]) : w.cell? (x.add m) = some u ∧ w.cell? ⟨(x.add m).block, (x.add m).off + 1, none⟩ = some v ∧ w.cell? ⟨(x.add m).block, (x.add m).off + 2, none⟩ = some z ∧ w.cell? ⟨(x.add m).block, (x.add m).off + 3, none⟩ = some y := ⟨h.1, h.2 0 v rfl, h.2 1 z rfl, h.2 2 y rfl⟩
end Go.Proofs.YtnhehdobpibgkaaGreatDoor
namespace Go.Proofs.YtnhehdobpibgkaaGreatDoor
open Go.RowKit

theorem below_drewN {B : Nat} {a w : World} (h : Below B a w) (n : Nat) : Below B a (w.drewN n) := ⟨h.os, h.tape, h.output, h.size, h.block⟩
def cellsI (L : List Int) : List Value := L.map (Value.int .i64)
def OwnI (w : World) (B : Nat) (v : Value) (L : List Int) : Prop := w.ownsRow B 2 1 v L.length (cellsI L)
theorem infoI : (Tryz.prog.info? 2).map (fun i => (i.zero, i.size, i.bytes)) = some (some (.int .i64 0), 1, 8) := by kernel_rfl
theorem one_cellI (x : Int) : ∀ u ∈ [Value.int .i64 x], u.oneCell' = true := by intro u hu; simp at hu; subst hu; rfl
theorem OwnI.stays {w w' : World} {B : Nat} {v : Value} {L : List Int} (h : OwnI w B v L) (hb : Below w.heap.size w w') : OwnI w' B v L := by
  obtain ⟨h1, h2⟩ := h
  refine ⟨h1, ?_⟩
  rcases h2 with h2 | ⟨g, cap, cur, hv, hB, hg, rest⟩
  · exact .inl h2
  · exact .inr ⟨g, cap, cur, hv, hB, heap_keep hg hb, rest⟩
theorem OwnI.alloc {w : World} {B : Nat} {v : Value} {L : List Int} (h : OwnI w B v L) (o : Obj) : OwnI (w.alloc o) B v L := h.stays (below_new w o)
theorem OwnI.low {w : World} {B B' : Nat} {v : Value} {L : List Int} (h : OwnI w B v L) (hB : B' ≤ B) : OwnI w B' v L := by
  obtain ⟨h1, h2⟩ := h
  refine ⟨h1, ?_⟩
  rcases h2 with h2 | ⟨g, cap, cur, hv, hg, rest⟩
  · exact .inl h2
  · exact .inr ⟨g, cap, cur, hv, by omega, rest⟩
theorem OwnI.nil (w : World) (B : Nat) : OwnI w B (.slice none 0 0) [] := ⟨rfl, .inl ⟨rfl, rfl⟩⟩
/- What such a row is: nothing, or a block whose first cells are the numbers. -/
theorem OwnI.form {w : World} {B : Nat} {v : Value} {L : List Int} (h : OwnI w B v L) :
    (v = .slice none 0 0 ∧ L = []) ∨ ∃ g cap cur, v = .slice (some ⟨g, 0, none⟩) L.length cap ∧ B ≤ g ∧ w.heap[g]? = some (.cells cur 2 (0, 0)) ∧ L.length ≤ cap ∧ cap ≤ maxLen ∧ cur.size = cap ∧ (∀ i (hi : i < L.length), cur[i]? = some (.int .i64 L[i])) := by
  obtain ⟨h1, h2⟩ := h
  rcases h2 with ⟨h2, h3⟩ | ⟨g, cap, cur, hv, hB, hg, h4, h5, h6, h7⟩
  · exact .inl ⟨h2, List.eq_nil_of_length_eq_zero h3⟩
  · refine .inr ⟨g, cap, cur, hv, hB, hg, h4, h5, by omega, fun i hi => ?_⟩
    have e := congrArg (fun l => l[i]?) h7
    simp only [Nat.mul_one, List.getElem?_take, if_pos hi, cellsI, List.getElem?_map, List.getElem?_eq_getElem hi] at e
    simpa using e
theorem OwnI.mk {w : World} {B g cap : Nat} {cur : Array Value} {L : List Int} (hB : B ≤ g) (hg : w.heap[g]? = some (.cells cur 2 (0, 0))) (h4 : L.length ≤ cap) (h5 : cap ≤ maxLen) (h6 : cur.size = cap) (h7 : ∀ i (hi : i < L.length), cur[i]? = some (.int .i64 L[i])) : OwnI w B (.slice (some ⟨g, 0, none⟩) L.length cap) L := by
  refine ⟨by simp [cellsI], .inr ⟨g, cap, cur, rfl, hB, hg, h4, h5, by omega, ?_⟩⟩
  apply List.ext_getElem?
  intro i
  rw [List.getElem?_take, Nat.mul_one]
  by_cases hi : i < L.length
  · rw [if_pos hi]
    have := h7 i hi
    simp [cellsI, hi]
    simpa using this
  · rw [if_neg hi, List.getElem?_eq_none (by simp [cellsI]; omega)]
theorem eq_step {A B : List Int} (hl : A.length = B.length) (k : Nat) (hk : k < A.length) (he : A[k] = B[k]'(by omega)) : (A.drop k = B.drop k ↔ A.drop (k + 1) = B.drop (k + 1)) := by
  have e1 := List.drop_eq_getElem_cons hk
  have e2 := List.drop_eq_getElem_cons (show k < B.length by omega)
  constructor
  · intro h; rw [e1, e2] at h; exact (List.cons.inj h).2
  · intro h; rw [e1, e2, h, he]
theorem eq_stop {A B : List Int} (k : Nat) (hk : k < A.length) (hk2 : k < B.length) (he : ¬ A[k] = B[k]) : ¬ A = B := fun e => by subst e; exact he rfl
def marksI (k : Int) (n : Nat) : List Int := (List.range n).map fun (i : Nat) => k + (i : Int)
theorem marksI_len (k : Int) (n : Nat) : (marksI k n).length = n := by simp [marksI]
theorem marksI_at (k : Int) (n i : Nat) (h : i < (marksI k n).length) : (marksI k n)[i] = k + i := by simp [marksI]
end Go.Proofs.YtnhehdobpibgkaaGreatDoor
