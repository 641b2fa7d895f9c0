/- More on blocks of the call's own. -/
import Derived.Test.YtnhehdobpibgkaaRows
import Derived.WalkKit
import Derived.Test.YtnhehdobpibgkaaRes
namespace Go.Proofs.Ytnhehdobpibgkaa
open Go.RowKit

theorem alloc_at {W : World} {g : Nat} (h : W.heap.size = g) (o : Obj) : (W.alloc o).heap[g]? = some o := by subst h; exact heap_alloc_new W o
theorem set_two {W : World} {g : Nat} {z0 z1 a b : Value} {t : TypeId} (h : W.heap[g]? = some (.cells #[z0, z1] t (0, 0))) : ((W.setCell ⟨g, 0, none⟩ a).setCell ⟨g, 1, none⟩ b).heap[g]? = some (.cells #[a, b] t (0, 0)) :=
  heap_set (heap_set h 0 a) 1 b
theorem set_far {W : World} {B : Nat} {o : Obj} {a : Addr} {v : Value} (hne : B ≠ a.block) (h : W.heap[B]? = some o) : (W.setCell a v).heap[B]? = some o := heap_set_other h a hne v
theorem below_set {a w : World} {p : Addr} {v : Value} (hp : a.heap.size ≤ p.block) (h : Below a.heap.size a w) : Below a.heap.size a (w.setCell p v) := h.setCell hp v
end Go.Proofs.Ytnhehdobpibgkaa
