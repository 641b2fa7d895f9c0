/- Rows of structs that a call itself makes. -/
import Derived.Test.YtcnjeeckkpiilaaRows
import Derived.WalkKit
import Derived.WalkSpells
import Derived.WalkLawsBesides
import Derived.Outline
import Derived.Test.YtcnjeeckkpiilaaBun0
import Derived.Test.YtcnjeeckkpiilaaBun1
import Derived.Test.YtcnjeeckkpiilaaOwnX
import Derived.Test.YtcnjeeckkpiilaaRowXX
namespace Go.Proofs.Ytcnjeeckkpiilaa
open Go.RowKit
set_option linter.unusedVariables false

def OwnX {α : Type} (T : TypeId) (n : Nat) (c : α → List Value) (w : World) (B : Nat) (v : Value) (L : List α) : Prop := w.ownsRow B T n v L.length (L.flatMap c)
variable {α : Type} {T : TypeId} {n : Nat} {c : α → List Value}
theorem OwnX.stays {w w' : World} {B : Nat} {v : Value} {L : List α} (h : OwnX T n c w B v L) (hb : ∀ q, q < w.heap.size → v.ownBlock = some q → w'.heap[q]? = w.heap[q]?) : OwnX T n c w' B v L := by
  obtain ⟨h1, h2⟩ := h
  refine ⟨h1, ?_⟩
  rcases h2 with h2 | ⟨g, cap, cur, rfl, hB, hg, rest⟩
  · exact .inl h2
  · exact .inr ⟨g, cap, cur, rfl, hB, (hb g (heap_lt hg) rfl).trans hg, rest⟩
theorem OwnX.call {w w' : World} {B : Nat} {v : Value} {L : List α} (h : OwnX T n c w B v L) (hb : Below w.heap.size w w') : OwnX T n c w' B v L := h.stays fun q hq _ => hb.block q hq
theorem OwnX.alloc {w : World} {B : Nat} {v : Value} {L : List α} (h : OwnX T n c w B v L) (o : Obj) : OwnX T n c (w.alloc o) B v L := h.call (below_new w o)
theorem OwnX.low {w : World} {B B' : Nat} {v : Value} {L : List α} (h : OwnX T n c w B v L) (hB : B' ≤ B) : OwnX T n c w B' v L := by
  obtain ⟨h1, h2⟩ := h
  refine ⟨h1, ?_⟩
  rcases h2 with h2 | ⟨g, cap, cur, hv, hg, rest⟩
  · exact .inl h2
  · exact .inr ⟨g, cap, cur, hv, by omega, rest⟩
theorem OwnX.nil (w : World) (B : Nat) : OwnX T n c w B (.slice none 0 0) ([] : List α) := ⟨by simp, .inl ⟨rfl, rfl⟩⟩
theorem OwnX.form {w : World} {B : Nat} {v : Value} {L : List α} (h : OwnX T n c w B v L) :
    (v = .slice none 0 0 ∧ L = []) ∨ ∃ g cap cur, v = .slice (some ⟨g, 0, none⟩) L.length cap ∧ B ≤ g ∧ w.heap[g]? = some (.cells cur T (0, 0)) ∧ L.length ≤ cap ∧ cap ≤ maxLen ∧ cur.size = cap * n ∧ cur.toList.take (L.length * n) = L.flatMap c := by
  obtain ⟨h1, h2⟩ := h
  rcases h2 with ⟨h2, h3⟩ | ⟨g, cap, cur, hv, hB, hg, h4, h5, h6, h7⟩
  · exact .inl ⟨h2, List.eq_nil_of_length_eq_zero h3⟩
  · exact .inr ⟨g, cap, cur, hv, hB, hg, h4, h5, h6, h7⟩
theorem OwnX.more {w : World} {B : Nat} {v : Value} {L : List α} {a : α} (h : w.ownsRow B T n v (L.length + 1) (L.flatMap c ++ c a)) : OwnX T n c w B v (L ++ [a]) := by
  unfold OwnX
  rw [List.length_append, List.flatMap_append]
  simpa using h
def lenV : Value → Nat
  | .slice _ k _ => k
  | _ => 0
theorem OwnX.len {w : World} {B : Nat} {v : Value} {L : List α} (h : OwnX T n c w B v L) : lenV v = L.length := by
  rcases h.form with ⟨rfl, rfl⟩ | ⟨g, cap, cur, rfl, _⟩ <;> rfl
theorem OwnX.is {w : World} {B : Nat} {v : Value} {L : List α} (hc : ∀ a, (c a).length = n) (h : OwnX T n c w B v L) : ∃ a cap, v = .slice a L.length cap ∧ RowIs n c w a L := by
  rcases h.form with ⟨rfl, rfl⟩ | ⟨g, cap, cur, rfl, hB, hg, h4, h5, h6, h7⟩
  · exact ⟨none, 0, rfl, fun h => absurd h (by simp)⟩
  · refine ⟨_, cap, rfl, fun hl => ⟨_, rfl, heap_lt hg, fun i hi j v hv => ?_⟩⟩
    have hj : j < n := by
      have := (List.getElem?_eq_some_iff.1 hv).1
      rwa [hc] at this
    have hlt : i * n + j < L.length * n := by
      have : (i + 1) * n ≤ L.length * n := Nat.mul_le_mul_right n hi
      rw [Nat.succ_mul] at this; omega
    have e := congrArg (fun l => l[i * n + j]?) h7
    simp only [List.getElem?_take, if_pos hlt] at e
    rw [flat_get n c hc L i j hi hj, hv] at e
    rw [add_zero_block, cell_of_row w g _ _ _ _ hg]
    simpa using e
theorem OwnX.mk {w : World} {B g cap : Nat} {cur : Array Value} {L : List α} (hc : ∀ a, (c a).length = n) (hB : B ≤ g) (hg : w.heap[g]? = some (.cells cur T (0, 0))) (h4 : L.length ≤ cap) (h5 : cap ≤ maxLen) (h6 : cur.size = cap * n) (h7 : ∀ i (hi : i < L.length) j, j < n → cur[i * n + j]? = (c L[i])[j]?) : OwnX T n c w B (.slice (some ⟨g, 0, none⟩) L.length cap) L := by
  refine ⟨flat_len n c hc L, .inr ⟨g, cap, cur, rfl, hB, hg, h4, h5, h6, ?_⟩⟩
  apply List.ext_getElem?
  intro q
  rw [List.getElem?_take]
  by_cases hq : q < L.length * n
  · rw [if_pos hq]
    have hn : 0 < n := by
      rcases Nat.eq_zero_or_pos n with h0 | h0
      · subst h0; omega
      · exact h0
    have e : q = q / n * n + q % n := by rw [Nat.mul_comm]; exact (Nat.div_add_mod q n).symm
    have hi : q / n < L.length := (Nat.div_lt_iff_lt_mul hn).2 hq
    have hj : q % n < n := Nat.mod_lt _ hn
    have := h7 (q / n) hi (q % n) hj
    rw [← flat_get n c hc L (q / n) (q % n) hi hj, ← e] at this
    simpa using this
  · rw [if_neg hq, List.getElem?_eq_none (by rw [flat_len n c hc]; omega)]
theorem newsX (w : World) (l : List Value) (t : TypeId) : ∀ j u, l[j]? = some u → (w.alloc (.cells l.toArray t)).cell? ((⟨w.heap.size, 0, none⟩ : Addr).add j) = some u := by
  intro j u hj
  rw [add_zero_block, cell_of_row _ _ _ _ _ _ (heap_alloc_new w _)]
  simpa using hj
theorem newsY {w : World} {N : Nat} (h : w.heap.size = N) (l : List Value) (t : TypeId) : ∀ j u, l[j]? = some u → (w.alloc (.cells l.toArray t)).cell? ((⟨N, 0, none⟩ : Addr).add j) = some u := by
  subst h; exact newsX w l t
theorem set_size (w : World) (p : Addr) (v : Value) : (w.setCell p v).heap.size = w.heap.size := by simp [World.setCell]
def intC (x : Int) : List Value := [.int .i64 x]
theorem intC_flat (L : List Int) : L.flatMap intC = cellsI L := by
  induction L with
  | nil => rfl
  | cons x L ih => rw [List.flatMap_cons, ih]; rfl
theorem OwnX.ints {w : World} {B : Nat} {v : Value} {L : List Int} (h : OwnX 2 1 intC w B v L) : OwnI w B v L := by
  unfold OwnX at h
  rwa [intC_flat] at h
theorem OwnI.x {w : World} {B : Nat} {v : Value} {L : List Int} (h : OwnI w B v L) : OwnX 2 1 intC w B v L := by
  unfold OwnX
  rwa [intC_flat]
theorem OwnX.blk {w : World} {B : Nat} {v : Value} {L : List α} (h : OwnX T n c w B v L) : ∀ q, v.ownBlock = some q → B ≤ q ∧ q < w.heap.size := fun q hq => by
  rcases h.form with ⟨rfl, _⟩ | ⟨g, cap, cur, rfl, hB, hg, _⟩
  · cases hq
  · have : g = q := by simpa [Value.ownBlock] using hq
    subst this
    exact ⟨hB, heap_lt hg⟩
end Go.Proofs.Ytcnjeeckkpiilaa
