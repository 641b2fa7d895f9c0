/- Taking apart: what the rows of words are. -/
import Derived.Test.YtknielpkmablkaaDoorRows
import Derived.WalkKit
import Derived.WalkSpells
import Derived.WalkLawsBesides
import Derived.Test.YtknielpkmablkaaDoorBun0
import Derived.Test.YtknielpkmablkaaDoorBun3
import Derived.Test.YtknielpkmablkaaDoorBun15
import Derived.Test.YtknielpkmablkaaDoorIsaD16X
import Derived.Test.YtknielpkmablkaaDoorIsaZ1X
import Derived.Test.YtknielpkmablkaaDoorTextOX
import Derived.Test.YtknielpkmablkaaDoorTextTX
import Derived.Test.YtknielpkmablkaaDoorBun42
import Derived.Test.YtknielpkmablkaaDoorBun1
namespace Go.Proofs.YtknielpkmablkaaDoor
open Go.RowKit
set_option linter.unusedVariables false

abbrev rowE : Type := Int × ByteArray
def rowC (r : rowE) : List Value := [.int .i64 r.1, .string r.2]
theorem rowC_len (r : rowE) : (rowC r).length = 2 := rfl
def Ins.text (i : Ins) : ByteArray := insT i.op i.b i.m i.r i.n i.l i.m2 i.r2 i.n2 i.l2 i.j
def wordP : ByteArray := ⟨#[46, 119, 111, 114, 100, 32]⟩
/- The text of the first row of words, and of how many words it is. -/
def RowOf (L : List Int) (t : ByteArray) (k : Nat) : Prop :=
  (∃ i : Ins, decAll L = outV i.vals k 0 ∧ i.right = true ∧ 1 ≤ k ∧ k ≤ L.length ∧ t = i.text) ∨ (k = 1 ∧ (∃ c : Int, c ≠ 0 ∧ decAll L = outV zeroIns.vals 0 c) ∧ ∃ x, L[0]? = some x ∧ t = wordP ++ dg x)
def IsDis : Int → List Int → List rowE → Prop
  | _, L, [] => L = []
  | at_, L, r :: rs => ∃ k, RowOf L r.2 k ∧ r.1 = at_ ∧ IsDis ((at_ + 2 * (k : Int)) % 65536) (L.drop k) rs
theorem vals_inj {i j : Ins} (h : i.vals = j.vals) : i = j := by
  cases i; cases j
  simp [Ins.vals] at h
  simp_all
theorem outV_inj {i j : Ins} {a b c d : Int} (h : outV i.vals a c = outV j.vals b d) : i = j ∧ a = b ∧ c = d := by
  cases i; cases j
  simp [outV, Ins.vals] at h
  simp_all
theorem RowOf.one {L : List Int} {t t2 : ByteArray} {k k2 : Nat} (h : RowOf L t k) (h2 : RowOf L t2 k2) : t = t2 ∧ k = k2 := by
  rcases h with ⟨i, h, _, _, _, rfl⟩ | ⟨rfl, ⟨c, hc, h⟩, x, hx, rfl⟩ <;> rcases h2 with ⟨j, g, _, _, _, rfl⟩ | ⟨rfl, ⟨d, hd, g⟩, y, hy, rfl⟩
  · rw [h] at g
    obtain ⟨rfl, e, _⟩ := outV_inj g
    exact ⟨rfl, by omega⟩
  · rw [h] at g
    exact absurd (outV_inj g).2.2.symm hd
  · rw [h] at g
    exact absurd (outV_inj g).2.2 hc
  · rw [hx] at hy
    cases hy
    exact ⟨rfl, rfl⟩
theorem RowOf.ne {L : List Int} {t : ByteArray} {k : Nat} (h : RowOf L t k) : 1 ≤ k ∧ k ≤ L.length := by
  rcases h with ⟨i, _, _, h1, h2, _⟩ | ⟨rfl, _, x, hx, _⟩
  · exact ⟨h1, h2⟩
  · have := (List.getElem?_eq_some_iff.1 hx).1
    omega
theorem IsDis.one : ∀ (rs rs2 : List rowE) (at_ : Int) (L : List Int), IsDis at_ L rs → IsDis at_ L rs2 → rs = rs2
  | [], [], _, _, _, _ => rfl
  | [], r :: rs, at_, L, h, h2 => by
    obtain ⟨k, hk, _⟩ := h2
    have := hk.ne
    have h' : L = [] := h
    subst h'
    simp at this
    omega
  | r :: rs, [], at_, L, h2, h => by
    obtain ⟨k, hk, _⟩ := h2
    have := hk.ne
    have h' : L = [] := h
    subst h'
    simp at this
    omega
  | r :: rs, q :: qs, at_, L, h, h2 => by
    obtain ⟨k, hk, e, hr⟩ := h
    obtain ⟨k2, hk2, e2, hr2⟩ := h2
    obtain ⟨ht, rfl⟩ := hk.one hk2
    have := IsDis.one rs qs _ _ hr hr2
    subst this
    obtain ⟨r1, r2⟩ := r
    obtain ⟨q1, q2⟩ := q
    dsimp only at *
    subst e e2 ht
    rfl
theorem IsDis.len : ∀ (rs : List rowE) (at_ : Int) (L : List Int), IsDis at_ L rs → rs.length ≤ L.length
  | [], _, _, _ => by simp
  | r :: rs, at_, L, h => by
    obtain ⟨k, hk, _, hr⟩ := h
    have := hk.ne
    have := IsDis.len rs _ _ hr
    simp at this ⊢
    omega
/- Some rows stand: what is left makes the rest. -/
def DisTo (base : Int) (L : List Int) (rs : List rowE) (i : Nat) : Prop := ∀ rest, IsDis ((base + 2 * (i : Int)) % 65536) (L.drop i) rest → IsDis base L (rs ++ rest)
theorem DisTo.start {base : Int} (h0 : 0 ≤ base) (h1 : base ≤ 65534) (L : List Int) : DisTo base L [] 0 := fun rest h => by
  have e : (base + 2 * ((0 : Nat) : Int)) % 65536 = base := by omega
  rw [e] at h
  simpa using h
theorem DisTo.more {base : Int} {L : List Int} {rs : List rowE} {i k : Nat} {t : ByteArray} (h : DisTo base L rs i) (hr : RowOf (L.drop i) t k) : DisTo base L (rs ++ [((base + 2 * (i : Int)) % 65536, t)]) (i + k) := fun rest hrest => by
  rw [List.append_assoc]
  refine h _ ⟨k, hr, rfl, ?_⟩
  have e : ((base + 2 * (i : Int)) % 65536 + 2 * (k : Int)) % 65536 = (base + 2 * ((i + k : Nat) : Int)) % 65536 := by omega
  rw [e, List.drop_drop]
  exact hrest
theorem DisTo.done {base : Int} {L : List Int} {rs : List rowE} {i : Nat} (h : DisTo base L rs i) (hi : L.length ≤ i) : IsDis base L rs := by
  have := h [] (List.drop_of_length_le hi)
  rwa [List.append_nil] at this
def disB (base : Int) (L : List Int) : Bool := wordsB L && (decide (L.length ≤ 400) && baseB base)
/- What Decode tells of words that are not none. -/
theorem row_of (L : List Int) (h : L ≠ []) : (∃ (i : Ins) (k : Nat), decAll L = outV i.vals k 0 ∧ i.right = true ∧ 1 ≤ k ∧ k ≤ L.length ∧ RowOf L i.text k) ∨ (∃ c : Int, c ≠ 0 ∧ decAll L = outV zeroIns.vals 0 c ∧ ∀ x, L[0]? = some x → RowOf L (wordP ++ dg x) 1) := by
  rcases decAll_back L with ⟨c, hc, hd⟩ | ⟨i, k, hd, hk, h1, hr, _⟩
  · have hc0 : c ≠ 0 := by omega
    exact .inr ⟨c, hc0, hd, fun x hx => .inr ⟨rfl, ⟨c, hc0, hd⟩, x, hx, rfl⟩⟩
  · exact .inl ⟨i, k, hd, hr, h1, hk, .inl ⟨i, hd, hr, h1, hk, rfl⟩⟩
end Go.Proofs.YtknielpkmablkaaDoor
namespace Go.Proofs.YtknielpkmablkaaDoor
open Go.RowKit
set_option linter.unusedVariables false

/- Each element of the row as its cells. -/
def RowIs {α : Type} (n : Nat) (c : α → List Value) (w : World) (a : Option Addr) (L : List α) : Prop :=
  0 < L.length → ∃ x : Addr, a = some x ∧ x.block < w.heap.size ∧ ∀ i (h : i < L.length) j v, (c L[i])[j]? = some v → w.cell? (x.add (i * n + j)) = some v
theorem add_blockX (x : Addr) (i : Nat) : (x.add i).block = x.block := by unfold Addr.add; split <;> rfl
theorem RowIs.below {α : Type} {n : Nat} {c : α → List Value} {w w' : World} {a : Option Addr} {L : List α} (h : RowIs n c w a L) (hb : Below w.heap.size w w') : RowIs n c w' a L := fun hl => by
  obtain ⟨x, rfl, hx, hc⟩ := h hl
  exact ⟨x, rfl, Nat.lt_of_lt_of_le hx hb.size, fun i hi j v hv => (hb.cell (by rw [add_blockX]; exact hx)).trans (hc i hi j v hv)⟩
theorem RowIs.alloc {α : Type} {n : Nat} {c : α → List Value} {w : World} {a : Option Addr} {L : List α} (h : RowIs n c w a L) (o : Obj) : RowIs n c (w.alloc o) a L := h.below (below_new w o)
theorem flat_get {α : Type} (n : Nat) (c : α → List Value) (hc : ∀ a, (c a).length = n) : ∀ (L : List α) (i j : Nat) (h : i < L.length), j < n → (L.flatMap c)[i * n + j]? = (c L[i])[j]?
  | [], i, j, h, hj => by simp at h
  | a :: L, 0, j, h, hj => by
    rw [List.flatMap_cons, Nat.zero_mul, Nat.zero_add, List.getElem?_append_left (by rw [hc]; exact hj)]
    rfl
  | a :: L, i + 1, j, h, hj => by
    rw [List.flatMap_cons, List.getElem?_append_right (by rw [hc, Nat.succ_mul]; omega)]
    have e : (i + 1) * n + j - (c a).length = i * n + j := by rw [hc, Nat.succ_mul]; omega
    rw [e, flat_get n c hc L i j (by simpa using h) hj]
    rfl
theorem flat_len {α : Type} (n : Nat) (c : α → List Value) (hc : ∀ a, (c a).length = n) : ∀ (L : List α), (L.flatMap c).length = L.length * n
  | [] => by simp
  | a :: L => by rw [List.flatMap_cons, List.length_append, hc, flat_len n c hc L, List.length_cons, Nat.succ_mul]; omega
theorem add_zero_block (g i : Nat) : (⟨g, 0, none⟩ : Addr).add i = ⟨g, i, none⟩ := by
  cases i with
  | zero => rfl
  | succ i => simp [Addr.add]
theorem made_rowIs {α : Type} {n : Nat} {c : α → List Value} {w : World} {g : Nat} {t : TypeId} {L : List α} (hc : ∀ a, (c a).length = n) (h : w.heap[g]? = some (.cells (L.flatMap c).toArray t (0, 0))) : RowIs n c w (some ⟨g, 0, none⟩) L := fun hl => by
  refine ⟨_, rfl, heap_lt h, fun i hi j v hv => ?_⟩
  have hj : j < n := by
    have := (List.getElem?_eq_some_iff.1 hv).1
    rw [hc] at this
    exact this
  rw [add_zero_block, cell_of_row w g _ _ _ _ h, List.getElem?_toArray, flat_get n c hc L i j hi hj, hv]
/- A row under way: the first k elements stand. -/
def RowTo {α : Type} (n : Nat) (c : α → List Value) (cur : Array Value) (L : List α) (k : Nat) : Prop := cur.size = L.length * n ∧ ∀ i (h : i < L.length), i < k → ∀ j, j < n → cur[i * n + j]? = (c L[i])[j]?
theorem RowTo.done {α : Type} {n : Nat} {c : α → List Value} {cur : Array Value} {L : List α} (hc : ∀ a, (c a).length = n) (h : RowTo n c cur L L.length) : cur = (L.flatMap c).toArray := by
  obtain ⟨hs, hv⟩ := h
  apply Array.ext
  · rw [hs]; simp [flat_len n c hc]
  · intro i h1 h2
    have hn : 0 < n := by
      rcases Nat.eq_zero_or_pos n with h0 | h0
      · rw [h0] at hs; omega
      · exact h0
    have hd : i / n < L.length := Nat.div_lt_of_lt_mul (by rw [Nat.mul_comm]; omega)
    have hm := Nat.mod_lt i hn
    have e : i = i / n * n + i % n := by rw [Nat.mul_comm]; exact (Nat.div_add_mod i n).symm
    have h3 := hv (i / n) hd hd (i % n) hm
    have h4 := flat_get n c hc L (i / n) (i % n) hd hm
    rw [← e] at h3 h4
    rw [Array.getElem?_eq_getElem h1] at h3
    rw [← h3] at h4
    have h5 : ((L.flatMap c).toArray)[i]? = some cur[i] := by rw [List.getElem?_toArray]; exact h4
    rw [Array.getElem?_eq_getElem h2] at h5
    exact (Option.some.inj h5).symm
theorem add_next (x : Addr) (m j : Nat) : x.add (m + (j + 1)) = ⟨(x.add m).block, (x.add m).off + (j + 1), none⟩ := by
  unfold Addr.add
  cases m with
  | zero => simp
  | succ m => simp; omega
/- The cells of one element, as a walk spells their places. -/
def ElemAt (w : World) (x : Addr) (m : Nat) : List Value → Prop
  | [] => True
  | v :: l => w.cell? (x.add m) = some v ∧ ∀ j u, l[j]? = some u → w.cell? ⟨(x.add m).block, (x.add m).off + (j + 1), none⟩ = some u
theorem RowIs.elem {α : Type} {n : Nat} {c : α → List Value} {w : World} {a : Option Addr} {L : List α} (h : RowIs n c w a L) (k : Nat) (hk : k < L.length) : ∃ x : Addr, a = some x ∧ x.block < w.heap.size ∧ ElemAt w x (k * n) (c L[k]) := by
  obtain ⟨x, rfl, hx, hc⟩ := h (by omega)
  refine ⟨x, rfl, hx, ?_⟩
  have h2 := hc k hk
  generalize c L[k] = l at h2
  cases l with
  | nil => trivial
  | cons v l =>
    refine ⟨h2 0 v rfl, fun j u hu => ?_⟩
    rw [← add_next]
    exact h2 (j + 1) u (by simpa using hu)
theorem ElemAt.two {w : World} {x : Addr} {m : Nat} {u v : Value} (h : ElemAt w x m [u, v]) : w.cell? (x.add m) = some u ∧ w.cell? ⟨(x.add m).block, (x.add m).off + 1, none⟩ = some v := ⟨h.1, h.2 0 v rfl⟩
theorem ElemAt.three {w : World} {x : Addr} {m : Nat} {u v z : Value} (h : ElemAt w x m [u, v, z]) : w.cell? (x.add m) = some u ∧ w.cell? ⟨(x.add m).block, (x.add m).off + 1, none⟩ = some v ∧ w.cell? ⟨(x.add m).block, (x.add m).off + 2, none⟩ = some z := ⟨h.1, h.2 0 v rfl, h.2 1 z rfl⟩
theorem ElemAt.four {w : World} {x : Addr} {m : Nat} {u v z y : Value} (h : ElemAt w x m [u, v, z, y]) : w.cell? (x.add m) = some u ∧ w.cell? ⟨(x.add m).block, (x.add m).off + 1, none⟩ = some v ∧ w.cell? ⟨(x.add m).block, (x.add m).off + 2, none⟩ = some z ∧ w.cell? ⟨(x.add m).block, (x.add m).off + 3, none⟩ = some y := ⟨h.1, h.2 0 v rfl, h.2 1 z rfl, h.2 2 y rfl⟩
end Go.Proofs.YtknielpkmablkaaDoor
