/- A source of draws behind calls, allocations and stores. -/
import Derived.Test.YtfmeickglipimaaDoorRows
import Derived.WalkKit
import Derived.WalkSpells
import Derived.WalkLawsBesides
import Derived.Test.YtfmeickglipimaaDoorBase
import Derived.Test.YtfmeickglipimaaDoorRes2
import Derived.Test.YtfmeickglipimaaDoorDraw
namespace Go.Proofs.YtfmeickglipimaaDoor
open Go.RowKit
set_option linter.unusedVariables false

structure DrI (w0 w : World) (g : Nat) (a : Option Addr) (len cap : Nat) : Prop where
  d : Dr w g a len cap
  d0 : Dr w0 g a len cap
  gr : w0.grownBy w (some g)
theorem DrI.start {w : World} {g : Nat} {a : Option Addr} {len cap : Nat} (h : Dr w g a len cap) : DrI w w g a len cap := ⟨h, h, grownBy_refl _ _⟩
theorem DrI.size {w0 w : World} {g : Nat} {a : Option Addr} {len cap : Nat} (h : DrI w0 w g a len cap) : w0.heap.size ≤ w.heap.size := h.gr.size
theorem DrI.alloc {w0 w : World} {g : Nat} {a : Option Addr} {len cap : Nat} (h : DrI w0 w g a len cap) (o : Obj) : DrI w0 (w.alloc o) g a len cap :=
  ⟨h.d.alloc o, h.d0, grownBy_more h.gr (World.grownBy_alloc w o none) (fun j hj => by cases hj)⟩
theorem DrI.call {w0 w w' : World} {g : Nat} {a : Option Addr} {len cap : Nat} (h : DrI w0 w g a len cap) (hD : Dr w' g a len cap) (hG : w.grownBy w' (some g)) : DrI w0 w' g a len cap := ⟨hD, h.d0, grownBy_trans h.gr hG⟩
theorem below_grown {w w' : World} (hb : Below w.heap.size w w') : w.grownBy w' none := ⟨hb.os, hb.tape, hb.output, hb.size, fun i hi _ => hb.block i hi⟩
theorem DrI.below {w0 w w' : World} {g : Nat} {a : Option Addr} {len cap : Nat} (h : DrI w0 w g a len cap) (hb : Below w.heap.size w w') : DrI w0 w' g a len cap :=
  ⟨h.d.kept (below_grown hb) (by simp) (fun _ _ _ => by simp), h.d0, grownBy_more h.gr (below_grown hb) (fun j hj => by cases hj)⟩
theorem grownBy_setAny (w : World) (B k : Nat) (v : Value) : w.grownBy (w.setCell ⟨B, k, none⟩ v) (some B) :=
  let hb := (Below.refl B w).setCell (p := ⟨B, k, none⟩) (Nat.le_refl _) v
  ⟨hb.os, hb.tape, hb.output, hb.size, fun i hi hne => Go.heap_setCell_other w ⟨B, k, none⟩ i v (by simpa using hne)⟩
theorem DrI.set {w0 w : World} {g : Nat} {a : Option Addr} {len cap : Nat} (h : DrI w0 w g a len cap) {B : Nat} (hB : w0.heap.size ≤ B) (k : Nat) (v : Value) : DrI w0 (w.setCell ⟨B, k, none⟩ v) g a len cap :=
  ⟨h.d.kept (grownBy_setAny w B k v) (by have := h.d0.lt; simp; omega) (fun hl x hx => by have := h.d0.argLt hl hx; simp; omega), h.d0, grownBy_more h.gr (grownBy_setAny w B k v) (fun j hj => by cases hj; exact hB)⟩
theorem DrI.drew {w0 w : World} {g : Nat} {a : Option Addr} {len cap : Nat} (h : DrI w0 w g a len cap) : DrI w0 w.drew g a len cap := ⟨⟨h.d.src, h.d.small, h.d.arg⟩, h.d0, grownBy_drew h.gr⟩
theorem DrI.lt {w0 w : World} {g : Nat} {a : Option Addr} {len cap : Nat} (h : DrI w0 w g a len cap) : g < w0.heap.size := h.d0.lt
theorem heap_grown {W W' : World} {g B : Nat} {o : Obj} (h : W.heap[B]? = some o) (hG : W.grownBy W' (some g)) (hne : B ≠ g) : W'.heap[B]? = some o := (hG.block B (heap_lt h) (by simpa using hne)).trans h
theorem set_four {W : World} {g : Nat} {z0 z1 z2 z3 a b c d : Value} {t : TypeId} (h : W.heap[g]? = some (.cells #[z0, z1, z2, z3] t (0, 0))) : ((((W.setCell ⟨g, 0, none⟩ a).setCell ⟨g, 1, none⟩ b).setCell ⟨g, 2, none⟩ c).setCell ⟨g, 3, none⟩ d).heap[g]? = some (.cells #[a, b, c, d] t (0, 0)) :=
  heap_set (heap_set (heap_set (heap_set h 0 a) 1 b) 2 c) 3 d
theorem DrI.set4 {w0 w : World} {g : Nat} {a : Option Addr} {len cap : Nat} (h : DrI w0 w g a len cap) {B : Nat} (hB : w0.heap.size ≤ B) {v0 v1 v2 v3 : Value} : DrI w0 ((((w.setCell ⟨B, 0, none⟩ v0).setCell ⟨B, 1, none⟩ v1).setCell ⟨B, 2, none⟩ v2).setCell ⟨B, 3, none⟩ v3) g a len cap :=
  (((h.set hB 0 v0).set hB 1 v1).set hB 2 v2).set hB 3 v3
end Go.Proofs.YtfmeickglipimaaDoor
