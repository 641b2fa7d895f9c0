/- shopOf, withRecord's like: a Shop of a text in new memory. -/
import Derived.Test.YtnhehdobpibgkabGreatDoorRows
import Derived.WalkKit
import Derived.WalkSpells
import Derived.WalkLawsBesides
import Derived.Test.YtnhehdobpibgkabGreatDoorBun0
import Derived.Test.YtnhehdobpibgkabGreatDoorBun1
import Derived.Test.YtnhehdobpibgkabGreatDoorBun3
import Derived.Outline
import Derived.RegionTactic
import Derived.BigRegion
import Derived.Deep.QuietTactic
import Derived.BigQuiet
namespace Go.Proofs.YtnhehdobpibgkabGreatDoor
open Go.RowKit
set_option linter.unusedVariables false

theorem catL_oneX (a : ByteArray) : catL [a] = a := catL_one a
theorem join_oneN (a : ByteArray) (N : Nat) (x : World) (hN : x.heap.size = N) (h : a.size ≤ 400000000) : Calls Tryz.prog 15 #[.slice (some ⟨N, 0, none⟩) 1 1] (x.alloc (.cells #[.string a] 9)) fun e w' => e = .returned (.string a) ∧ Below x.heap.size x w' := by
  subst hN
  have h2 := join_new [a] 1 x rfl (by omega) (by rw [catL_one]; exact h)
  rw [catL_one] at h2
  exact h2
theorem join_twoN (a b : ByteArray) (N : Nat) (x : World) (hN : x.heap.size = N) (h : (a ++ b).size ≤ 400000000) : Calls Tryz.prog 15 #[.slice (some ⟨N, 0, none⟩) 2 2] (x.alloc (.cells #[.string a, .string b] 9)) fun e w' => e = .returned (.string (a ++ b)) ∧ Below x.heap.size x w' := by
  subst hN
  have h2 := join_new [a, b] 2 x rfl (by omega) (by rw [catL_two]; exact h)
  rw [catL_two] at h2
  exact h2
theorem ret_shop {g g' : ByteArray} {n n' : Int} (h : g = g') (k : n = n') : Ending.returned (.agg #[.string g, .int .i64 n]) = .returned (.agg #[.string g', .int .i64 n']) := by rw [h, k]
set_option maxRecDepth 100000 in
set_option maxHeartbeats 1600000 in
theorem shopOf_any (g : ByteArray) (n : Int) (w : World) (h : g.size ≤ 400000000) : Calls Tryz.prog 10 #[.string g, .int .i64 n] w fun e w' => e = .returned (.agg #[.string g, .int .i64 n]) ∧ Below w.heap.size w w' := by
  go_enter Tryz.func10, Tryz.ntmps10
  go_wp2_with fail
  refine (join_oneN g _ _ (by simp) h).mono ?_
  rintro e x ⟨rfl, hb⟩
  have HX : Hid (x.heap[w.heap.size]? = _) := heap_keep (heap_alloc_new w (.cells #[.string ⟨#[]⟩, .int .i64 0] 25)) hb
  have HB : Hid (Below w.heap.size w x) := below_call (below_new w _) hb
  obtain ⟨c0, c1, f0, f1⟩ := two_cells HX.out
  clear hb
  go_wp2
  exact bodyPost_ret (results_cell_row Tryz.results10 _ _ w.heap.size 25 _ (0, 0) _ rfl (set_two HX.out) Tryz.underlying25 rfl (by kernel_rfl)) rfl ⟨rfl, (HB.out.setCell (Nat.le_refl _) _).setCell (Nat.le_refl _) _⟩
end Go.Proofs.YtnhehdobpibgkabGreatDoor
namespace Go.Proofs.YtnhehdobpibgkabGreatDoor
open Go.RowKit
set_option linter.unusedVariables false

structure But (b : Nat) (w w' : World) : Prop where
  os : w'.os = w.os
  tape : w'.tape = w.tape
  output : w'.output = w.output
  size : w.heap.size ≤ w'.heap.size
  block : ∀ k, k < w.heap.size → k ≠ b → w'.heap[k]? = w.heap[k]?
theorem But.refl (b : Nat) (w : World) : But b w w := ⟨rfl, rfl, rfl, Nat.le_refl _, fun _ _ _ => rfl⟩
theorem But.trans {b : Nat} {x y z : World} (h : But b x y) (k : But b y z) : But b x z :=
  ⟨k.os.trans h.os, k.tape.trans h.tape, k.output.trans h.output, Nat.le_trans h.size k.size, fun i hi hb => (k.block i (Nat.lt_of_lt_of_le hi h.size) hb).trans (h.block i hi hb)⟩
theorem But.of {b : Nat} {w w' : World} (h : Below w.heap.size w w') : But b w w' := ⟨h.os, h.tape, h.output, h.size, fun k hk _ => h.block k hk⟩
theorem But.call {b : Nat} {x y z : World} (h : But b x y) (hb : Below y.heap.size y z) : But b x z := h.trans (But.of hb)
theorem But.alloc {b : Nat} {x y : World} (h : But b x y) (o : Obj) : But b x (y.alloc o) := h.call (below_new y o)
theorem But.drew {b : Nat} {x y : World} (h : But b x y) : But b x y.drew := ⟨h.os, h.tape, h.output, h.size, h.block⟩
theorem But.setB {b : Nat} {x y : World} (h : But b x y) {p : Addr} (hp : p.block = b) (v : Value) : But b x (y.setCell p v) :=
  h.trans ⟨rfl, rfl, rfl, by simp [World.setCell], fun k _ hk => Below.heap_setCell _ _ _ _ (by rw [hp]; exact hk)⟩
theorem But.setN {b : Nat} {x y : World} (h : But b x y) {p : Addr} (hp : x.heap.size ≤ p.block) (v : Value) : But b x (y.setCell p v) :=
  ⟨h.os, h.tape, h.output, by simpa [World.setCell] using h.size, fun k hk hb => (Below.heap_setCell _ _ _ _ (by omega)).trans (h.block k hk hb)⟩
theorem But.keep {b B : Nat} {w w' : World} {o : Obj} (h : w.heap[B]? = some o) (hb : But b w w') (hne : B ≠ b) : w'.heap[B]? = some o := (hb.block B (heap_lt h) hne).trans h
theorem But.below {b B : Nat} {W w w' : World} (h : Below B W w) (hb : But b w w') (hB : B ≤ b) (hs : B ≤ w.heap.size) : Below B W w' :=
  h.trans ⟨hb.os, hb.tape, hb.output, hb.size, fun k hk => hb.block k (by omega) (by omega)⟩
theorem But.cell {b : Nat} {w w' : World} (h : But b w w') {p : Addr} (hp : p.block < w.heap.size) (hne : p.block ≠ b) : w'.cell? p = w.cell? p := World.cell?_of_block (w := w) (h.block p.block hp hne)
theorem But.frozen {b : Nat} {w w' : World} (h : But b w w') {p : Addr} (hp : p.block < w.heap.size) (hne : p.block ≠ b) : w'.frozen? p = w.frozen? p := World.frozen?_of_block (w := w) (h.block p.block hp hne)
end Go.Proofs.YtnhehdobpibgkabGreatDoor
namespace Go.Proofs.YtnhehdobpibgkabGreatDoor
open Go.RowKit

theorem below_drewN {B : Nat} {a w : World} (h : Below B a w) (n : Nat) : Below B a (w.drewN n) := ⟨h.os, h.tape, h.output, h.size, h.block⟩
def cellsI (L : List Int) : List Value := L.map (Value.int .i64)
def OwnI (w : World) (B : Nat) (v : Value) (L : List Int) : Prop := w.ownsRow B 2 1 v L.length (cellsI L)
theorem infoI : (Tryz.prog.info? 2).map (fun i => (i.zero, i.size, i.bytes)) = some (some (.int .i64 0), 1, 8) := by kernel_rfl
theorem one_cellI (x : Int) : ∀ u ∈ [Value.int .i64 x], u.oneCell' = true := by intro u hu; simp at hu; subst hu; rfl
theorem OwnI.stays {w w' : World} {B : Nat} {v : Value} {L : List Int} (h : OwnI w B v L) (hb : Below w.heap.size w w') : OwnI w' B v L := by
  obtain ⟨h1, h2⟩ := h
  refine ⟨h1, ?_⟩
  rcases h2 with h2 | ⟨g, cap, cur, hv, hB, hg, rest⟩
  · exact .inl h2
  · exact .inr ⟨g, cap, cur, hv, hB, heap_keep hg hb, rest⟩
theorem OwnI.alloc {w : World} {B : Nat} {v : Value} {L : List Int} (h : OwnI w B v L) (o : Obj) : OwnI (w.alloc o) B v L := h.stays (below_new w o)
theorem OwnI.low {w : World} {B B' : Nat} {v : Value} {L : List Int} (h : OwnI w B v L) (hB : B' ≤ B) : OwnI w B' v L := by
  obtain ⟨h1, h2⟩ := h
  refine ⟨h1, ?_⟩
  rcases h2 with h2 | ⟨g, cap, cur, hv, hg, rest⟩
  · exact .inl h2
  · exact .inr ⟨g, cap, cur, hv, by omega, rest⟩
theorem OwnI.nil (w : World) (B : Nat) : OwnI w B (.slice none 0 0) [] := ⟨rfl, .inl ⟨rfl, rfl⟩⟩
/- What such a row is: nothing, or a block whose first cells are the numbers. -/
theorem OwnI.form {w : World} {B : Nat} {v : Value} {L : List Int} (h : OwnI w B v L) :
    (v = .slice none 0 0 ∧ L = []) ∨ ∃ g cap cur, v = .slice (some ⟨g, 0, none⟩) L.length cap ∧ B ≤ g ∧ w.heap[g]? = some (.cells cur 2 (0, 0)) ∧ L.length ≤ cap ∧ cap ≤ maxLen ∧ cur.size = cap ∧ (∀ i (hi : i < L.length), cur[i]? = some (.int .i64 L[i])) := by
  obtain ⟨h1, h2⟩ := h
  rcases h2 with ⟨h2, h3⟩ | ⟨g, cap, cur, hv, hB, hg, h4, h5, h6, h7⟩
  · exact .inl ⟨h2, List.eq_nil_of_length_eq_zero h3⟩
  · refine .inr ⟨g, cap, cur, hv, hB, hg, h4, h5, by omega, fun i hi => ?_⟩
    have e := congrArg (fun l => l[i]?) h7
    simp only [Nat.mul_one, List.getElem?_take, if_pos hi, cellsI, List.getElem?_map, List.getElem?_eq_getElem hi] at e
    simpa using e
theorem OwnI.mk {w : World} {B g cap : Nat} {cur : Array Value} {L : List Int} (hB : B ≤ g) (hg : w.heap[g]? = some (.cells cur 2 (0, 0))) (h4 : L.length ≤ cap) (h5 : cap ≤ maxLen) (h6 : cur.size = cap) (h7 : ∀ i (hi : i < L.length), cur[i]? = some (.int .i64 L[i])) : OwnI w B (.slice (some ⟨g, 0, none⟩) L.length cap) L := by
  refine ⟨by simp [cellsI], .inr ⟨g, cap, cur, rfl, hB, hg, h4, h5, by omega, ?_⟩⟩
  apply List.ext_getElem?
  intro i
  rw [List.getElem?_take, Nat.mul_one]
  by_cases hi : i < L.length
  · rw [if_pos hi]
    have := h7 i hi
    simp [cellsI, hi]
    simpa using this
  · rw [if_neg hi, List.getElem?_eq_none (by simp [cellsI]; omega)]
theorem eq_step {A B : List Int} (hl : A.length = B.length) (k : Nat) (hk : k < A.length) (he : A[k] = B[k]'(by omega)) : (A.drop k = B.drop k ↔ A.drop (k + 1) = B.drop (k + 1)) := by
  have e1 := List.drop_eq_getElem_cons hk
  have e2 := List.drop_eq_getElem_cons (show k < B.length by omega)
  constructor
  · intro h; rw [e1, e2] at h; exact (List.cons.inj h).2
  · intro h; rw [e1, e2, h, he]
theorem eq_stop {A B : List Int} (k : Nat) (hk : k < A.length) (hk2 : k < B.length) (he : ¬ A[k] = B[k]) : ¬ A = B := fun e => by subst e; exact he rfl
def marksI (k : Int) (n : Nat) : List Int := (List.range n).map fun (i : Nat) => k + (i : Int)
theorem marksI_len (k : Int) (n : Nat) : (marksI k n).length = n := by simp [marksI]
theorem marksI_at (k : Int) (n i : Nat) (h : i < (marksI k n).length) : (marksI k n)[i] = k + i := by simp [marksI]
end Go.Proofs.YtnhehdobpibgkabGreatDoor
