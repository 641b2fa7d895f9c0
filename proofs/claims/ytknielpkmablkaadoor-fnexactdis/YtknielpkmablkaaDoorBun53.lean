/- markInt64S of the laws: it turns no block but the row's own. -/
import Derived.Test.YtknielpkmablkaaDoorRows
import Derived.WalkKit
import Derived.WalkSpells
import Derived.WalkLawsBesides
import Derived.Outline
import Derived.Test.YtknielpkmablkaaDoorBun0
import Derived.Test.YtknielpkmablkaaDoorBun1
import Derived.Test.YtknielpkmablkaaDoorOwnSX
import Derived.Test.YtknielpkmablkaaDoorBun4
import Derived.RegionTactic
import Derived.BigRegion
import Derived.Deep.RegionHeld3
import Derived.Test.YtknielpkmablkaaDoorBun44
import Derived.Test.YtknielpkmablkaaDoorBun45
import Derived.RangeFuncNested
import Derived.RangeFuncBound
import Derived.RangeFuncCalls
import Derived.RangeFuncLeaves
import Derived.RangeFuncBox
import Derived.Maps.AppendAt
import Derived.Shelf.Abstract
import Derived.Shelf.RegionOpen
import Derived.OwnWalkIn
import Derived.TacticsInMore
import Derived.LoopNIn
import Derived.LoopIn
import Derived.Test.YtknielpkmablkaaDoorDisSX
import Derived.Test.YtknielpkmablkaaDoorDisLX
import Derived.Test.YtknielpkmablkaaDoorDisQX
import Derived.Test.YtknielpkmablkaaDoorDisVX
import Derived.Test.YtknielpkmablkaaDoorBun3
import Derived.Test.YtknielpkmablkaaDoorBun25
import Derived.Test.YtknielpkmablkaaDoorLawInsnTX
import Derived.Test.YtknielpkmablkaaDoorBun42
import Derived.Test.YtknielpkmablkaaDoorBun52
namespace Go.Proofs.YtknielpkmablkaaDoor
open Go.RowKit
set_option linter.unusedVariables false

set_option maxRecDepth 100000 in
set_option maxHeartbeats 1600000 in
theorem markInt64S_but (v : Value) (B : Nat) (L : List Int) (k : Int) (w : World) (h1 : OwnI w B v L) (hs : L.length ≤ 2000000) (hk0 : 0 ≤ k) (hk1 : k ≤ 1000000) :
    Calls Tryd.prog 10 #[v, .int .i64 k] w fun e w' => e = .returned (.int .i64 (k + L.length)) ∧ OwnI w' B v (marksI k L.length) ∧ Below B w w' ∧ (∀ q, q < w.heap.size → v.ownBlock ≠ some q → w'.heap[q]? = w.heap[q]?) := by
  rcases h1.form with ⟨rfl, rfl⟩ | ⟨g, cap, cur, rfl, hB, hg, h4, h5, h6, h7⟩
  · clear h1
    go_enter Tryd.func10, Tryd.ntmps10
    go_wp2
    refine wp_loop_rounds 1 ?_
    rw [rounds_succ]
    go_wp2
    go_ret
    exact ⟨ret_int (by simp), OwnI.nil _ _, Below.refl _ _, fun _ _ _ => rfl⟩
  · have HG : Hid (_ = _) := hg
    have HC : Hid (cur.size = cap) := h6
    clear h1 h7 hg h6
    unfold maxLen at h5
    go_enter Tryd.func10, Tryd.ntmps10
    go_wp2
    go_loopw [1, 5] (fun q i wr => ∃ (j : Nat), j ≤ L.length ∧ i = .int .i64 j ∧ q = .int .i64 (k + j) ∧ Hid (∃ c : Array Value, wr.heap[g]? = some (.cells c 2 (0, 0)) ∧ c.size = cap ∧ ∀ t, t < j → c[t]? = some (.int .i64 (k + t))) ∧ Hid (Below B w wr) ∧ Hid (∀ q, q < w.heap.size → g ≠ q → wr.heap[q]? = w.heap[q]?)) (fun _ i _ => L.length - (intOf i).toNat)
    case atStart => exact ⟨0, by omega, rfl, by simp, ⟨cur, HG.out, HC.out, fun t ht => by omega⟩, Below.refl _ _, fun _ _ _ => rfl⟩
    case round =>
      obtain ⟨j, hj, rfl, rfl, HX, HB, HK⟩ := hrel
      by_cases hlt : j < L.length
      · obtain ⟨c, hc, hcs, hct⟩ := HX.out
        obtain ⟨y, hy⟩ : ∃ y, c[j]? = some y := ⟨c[j]'(by omega), by simp [show j < c.size by omega]⟩
        have q0 : wr.cell? ⟨g, j, none⟩ = some y := by simp [World.cell?, hc, hy]
        have q1 : wr.frozen? ⟨g, j, none⟩ = false := by simp [World.frozen?, hc]
        have HC1 : Hid (_ = _) := hc
        have HC2 : Hid (c.size = cap) := hcs
        have HC3 : Hid (∀ t, t < j → c[t]? = some (.int .i64 (k + t))) := hct
        clear hc hcs hct HX hy
        have hi0 : (0 : Int) ≤ (j : Int) := by omega
        have hi1 : (j : Int) < (L.length : Int) := by omega
        go_wp2
        go_roundw
        case rel =>
          refine ⟨j + 1, by omega, by go_num, by go_num, ⟨_, heap_set HC1.out j _, by simp [HC2.out], fun t ht => ?_⟩, HB.out.setCell hB _, fun q hq hne => (Go.heap_setCell_other wr ⟨g, j, none⟩ q _ (fun e => hne e.symm)).trans (HK.out q hq hne)⟩
          rw [Array.getElem?_setIfInBounds]
          by_cases e : j = t
          · subst e; simp [HC2.out]; omega
          · rw [if_neg e]; exact HC3.out t (by omega)
        case measure => simp [intOf]; omega
      · obtain rfl : j = L.length := by omega
        go_wp2
        go_ret
        obtain ⟨c, hc, hcs, hct⟩ := HX.out
        refine ⟨rfl, ?_, HB.out, fun q hq hne => HK.out q hq (fun e => hne (by rw [← e]; rfl))⟩
        have := OwnI.mk (L := marksI k L.length) hB hc (by rw [marksI_len]; exact h4) (by unfold maxLen; exact h5) hcs (fun i hi => by rw [marksI_at]; exact hct i (by rwa [marksI_len] at hi))
        rwa [marksI_len] at this
end Go.Proofs.YtknielpkmablkaaDoor
namespace Go.Proofs.YtknielpkmablkaaDoor
open Go.RowKit
set_option linter.unusedVariables false

structure But (b : Nat) (w w' : World) : Prop where
  os : w'.os = w.os
  tape : w'.tape = w.tape
  output : w'.output = w.output
  size : w.heap.size ≤ w'.heap.size
  block : ∀ k, k < w.heap.size → k ≠ b → w'.heap[k]? = w.heap[k]?
theorem But.refl (b : Nat) (w : World) : But b w w := ⟨rfl, rfl, rfl, Nat.le_refl _, fun _ _ _ => rfl⟩
theorem But.trans {b : Nat} {x y z : World} (h : But b x y) (k : But b y z) : But b x z :=
  ⟨k.os.trans h.os, k.tape.trans h.tape, k.output.trans h.output, Nat.le_trans h.size k.size, fun i hi hb => (k.block i (Nat.lt_of_lt_of_le hi h.size) hb).trans (h.block i hi hb)⟩
theorem But.of {b : Nat} {w w' : World} (h : Below w.heap.size w w') : But b w w' := ⟨h.os, h.tape, h.output, h.size, fun k hk _ => h.block k hk⟩
theorem But.call {b : Nat} {x y z : World} (h : But b x y) (hb : Below y.heap.size y z) : But b x z := h.trans (But.of hb)
theorem But.alloc {b : Nat} {x y : World} (h : But b x y) (o : Obj) : But b x (y.alloc o) := h.call (below_new y o)
theorem But.drew {b : Nat} {x y : World} (h : But b x y) : But b x y.drew := ⟨h.os, h.tape, h.output, h.size, h.block⟩
theorem But.setB {b : Nat} {x y : World} (h : But b x y) {p : Addr} (hp : p.block = b) (v : Value) : But b x (y.setCell p v) :=
  h.trans ⟨rfl, rfl, rfl, by simp [World.setCell], fun k _ hk => Below.heap_setCell _ _ _ _ (by rw [hp]; exact hk)⟩
theorem But.setN {b : Nat} {x y : World} (h : But b x y) {p : Addr} (hp : x.heap.size ≤ p.block) (v : Value) : But b x (y.setCell p v) :=
  ⟨h.os, h.tape, h.output, by simpa [World.setCell] using h.size, fun k hk hb => (Below.heap_setCell _ _ _ _ (by omega)).trans (h.block k hk hb)⟩
theorem But.keep {b B : Nat} {w w' : World} {o : Obj} (h : w.heap[B]? = some o) (hb : But b w w') (hne : B ≠ b) : w'.heap[B]? = some o := (hb.block B (heap_lt h) hne).trans h
theorem But.below {b B : Nat} {W w w' : World} (h : Below B W w) (hb : But b w w') (hB : B ≤ b) (hs : B ≤ w.heap.size) : Below B W w' :=
  h.trans ⟨hb.os, hb.tape, hb.output, hb.size, fun k hk => hb.block k (by omega) (by omega)⟩
theorem But.cell {b : Nat} {w w' : World} (h : But b w w') {p : Addr} (hp : p.block < w.heap.size) (hne : p.block ≠ b) : w'.cell? p = w.cell? p := World.cell?_of_block (w := w) (h.block p.block hp hne)
theorem But.frozen {b : Nat} {w w' : World} (h : But b w w') {p : Addr} (hp : p.block < w.heap.size) (hne : p.block ≠ b) : w'.frozen? p = w.frozen? p := World.frozen?_of_block (w := w) (h.block p.block hp hne)
end Go.Proofs.YtknielpkmablkaaDoor
namespace Go.Proofs.YtknielpkmablkaaDoor
open Go.RowKit
set_option linter.unusedVariables false

structure KW (v : Value) (w w' : World) : Prop where
  os : w'.os = w.os
  tape : w'.tape = w.tape
  output : w'.output = w.output
  size : w.heap.size ≤ w'.heap.size
  block : ∀ q, q < w.heap.size → v.ownBlock ≠ some q → w'.heap[q]? = w.heap[q]?
theorem KW.refl (v : Value) (w : World) : KW v w w := ⟨rfl, rfl, rfl, Nat.le_refl _, fun _ _ _ => rfl⟩
theorem KW.of {v : Value} {g : Nat} {w w' : World} (hv : v.ownBlock = some g) (h : But g w w') : KW v w w' := ⟨h.os, h.tape, h.output, h.size, fun q hq hne => h.block q hq (fun e => hne (by rw [hv, e]))⟩
def PW {α : Type} (n : Nat) (c : α → List Value) (cur : Array Value) (L : List α) (k : Nat) : Prop := ∀ i (h : i < L.length), i < k → ∀ j, j < n → cur[i * n + j]? = (c L[i])[j]?
theorem PW.set2 {α : Type} {c : α → List Value} {cur : Array Value} {L : List α} {k cap : Nat} (h : PW 2 c cur L k) (hs : cur.size = cap * 2) (hc : L.length ≤ cap) (hk : k < L.length) {u v : Value} (hu : c L[k] = [u, v]) : PW 2 c ((cur.setIfInBounds (k * 2) u).setIfInBounds (k * 2 + 1) v) L (k + 1) := fun i hi hik j hj => by
  have hsz : k * 2 + 1 < cur.size := by omega
  rw [Array.getElem?_setIfInBounds, Array.getElem?_setIfInBounds]
  by_cases e : i = k
  · subst e
    rw [hu]
    obtain rfl | rfl : j = 0 ∨ j = 1 := by omega
    · rw [if_neg (by omega), if_pos (by omega), if_pos (by omega)]; rfl
    · rw [if_pos (by omega), if_pos (by simp; omega)]; rfl
  · rw [if_neg (by omega), if_neg (by omega)]
    exact h i hi (by omega) j hj
theorem markText_at {n : Int} {k : Nat} (h : n = (k : Int)) (w : World) (hk0 : 0 < k) (hk1 : k ≤ 1000000000) :
    Calls Tryd.prog 20 #[.int .i64 n] w fun e w' => e = .returned (.string (markT k)) ∧ Below w.heap.size w w' := by
  subst h; exact markText_any k w hk0 hk1
def rowMark (k : Nat) : rowE := ((k : Int), markT (k + 1))
def rowMarks (k n : Nat) : List rowE := (List.range n).map fun (i : Nat) => rowMark (k + 2 * i)
theorem rowMarks_len (k n : Nat) : (rowMarks k n).length = n := by simp [rowMarks]
theorem rowMarks_at (k n i : Nat) (h : i < (rowMarks k n).length) : (rowMarks k n)[i] = rowMark (k + 2 * i) := by simp [rowMarks]
set_option maxRecDepth 100000 in
set_option maxHeartbeats 3200000 in
theorem markRowS_any (v : Value) (B : Nat) (L : List rowE) (k : Nat) (w : World) (h1 : OwnX 34 2 rowC w B v L) (hs : L.length ≤ 100000) (hk0 : 0 < k) (hk1 : k ≤ 1000000) :
    Calls Tryd.prog 11 #[v, .int .i64 (k : Int)] w fun e w' => e = .returned (.int .i64 ((k + 2 * L.length : Nat) : Int)) ∧ OwnX 34 2 rowC w' B v (rowMarks k L.length) ∧ KW v w w' := by
  rcases h1.form with ⟨rfl, rfl⟩ | ⟨g, cap, cur, rfl, hB, hg, h4, h5, h6, h7⟩
  · clear h1
    go_enter Tryd.func11, Tryd.ntmps11
    go_wp2
    refine wp_loop_rounds 1 ?_
    rw [rounds_succ]
    go_wp2
    go_ret
    exact ⟨ret_int (by simp), OwnX.nil _ _, KW.refl _ _⟩
  · have HG : Hid (_ = _) := hg
    have HC : Hid (cur.size = cap * 2) := h6
    clear h1 h7 hg h6
    have hcap := h5
    unfold maxLen at h5
    go_enter Tryd.func11, Tryd.ntmps11
    go_wp2
    go_loopw [1, 5] (fun q i wr => ∃ (j : Nat), j ≤ L.length ∧ i = .int .i64 j ∧ q = .int .i64 ((k + 2 * j : Nat) : Int) ∧ Hid (∃ c : Array Value, wr.heap[g]? = some (.cells c 34 (0, 0)) ∧ c.size = cap * 2 ∧ PW 2 rowC c (rowMarks k L.length) j) ∧ Hid (But g w wr)) (fun _ i _ => L.length - (intOf i).toNat)
    case atStart => exact ⟨0, by omega, rfl, by simp, ⟨cur, HG.out, HC.out, fun i _ h => by omega⟩, But.refl _ _⟩
    case round =>
      obtain ⟨j, hj, rfl, rfl, HX, HB⟩ := hrel
      by_cases hlt : j < L.length
      · have hkj : k + 2 * j ≤ 3000000 := by omega
        have hi0 : (0 : Int) ≤ (j : Int) := by omega
        have hi1 : (j : Int) < (L.length : Int) := by omega
        obtain ⟨c, hc0, hcs, hpx⟩ := HX.out
        obtain ⟨p0, q0⟩ : ∃ v, wr.cell? ⟨g, j * 2, none⟩ = some v := ⟨c[j * 2]'(by omega), by rw [cell_of_row _ _ _ _ _ _ hc0]; exact Array.getElem?_eq_getElem _⟩
        have z0 : wr.frozen? ⟨g, j * 2, none⟩ = false := frozen_of_row _ _ _ _ _ hc0
        have HC0 : Hid (_ = _) := heap_set hc0 (j * 2) (.int .i64 ((k + 2 * j : Nat) : Int))
        have HB1 : Hid (But g w _) := HB.out.setB (p := ⟨g, j * 2, none⟩) rfl (.int .i64 ((k + 2 * j : Nat) : Int))
        have HC2 : Hid (c.size = cap * 2) := hcs
        have HC3 : Hid (PW 2 rowC c (rowMarks k L.length) j) := hpx
        clear hc0 hpx HX HB
        go_wp2_with fail
        refine (markText_at (k := k + 2 * j + 1) (by omega) _ (by omega) (by omega)).mono ?_
        rintro e y ⟨rfl, hb⟩
        have hc := heap_keep HC0.out hb
        have HB2 : Hid (But g w y) := HB1.out.call hb
        have HC1 : Hid (_ = _) := hc
        have hcs2 : (c.setIfInBounds (j * 2) (.int .i64 ((k + 2 * j : Nat) : Int))).size = cap * 2 := by simp [hcs]
        obtain ⟨p1, q1⟩ : ∃ v, y.cell? ⟨g, j * 2 + 1, none⟩ = some v := ⟨(c.setIfInBounds (j * 2) (.int .i64 ((k + 2 * j : Nat) : Int)))[j * 2 + 1]'(by omega), by rw [cell_of_row _ _ _ _ _ _ hc]; exact Array.getElem?_eq_getElem _⟩
        have z1 : y.frozen? ⟨g, j * 2 + 1, none⟩ = false := frozen_of_row _ _ _ _ _ hc
        clear hcs hcs2 hc hb q0 z0 HC0 HB1
        go_wp2
        go_roundw
        case rel => exact ⟨j + 1, by omega, by go_num, by go_num, ⟨_, heap_set HC1.out (j * 2 + 1) _, by simp [HC2.out], HC3.out.set2 HC2.out (by rw [rowMarks_len]; omega) (by rw [rowMarks_len]; exact hlt) (by rw [rowMarks_at]; rfl)⟩, But.setB HB2.out (p := ⟨g, j * 2 + 1, none⟩) rfl _⟩
        case measure => simp [intOf]; omega
      · obtain rfl : j = L.length := by omega
        go_wp2
        go_ret
        obtain ⟨c, hc, hcs, hpx⟩ := HX.out
        refine ⟨rfl, ?_, KW.of rfl HB.out⟩
        have := OwnX.mk (L := rowMarks k L.length) rowC_len hB hc (by rw [rowMarks_len]; exact h4) hcap hcs (fun i hi m hm => hpx i hi (by rwa [rowMarks_len] at hi) m hm)
        rwa [rowMarks_len] at this
set_option maxRecDepth 100000 in
set_option maxHeartbeats 3200000 in
theorem heldRowS_any (v : Value) (B : Nat) (n k : Nat) (w : World) (h1 : OwnX 34 2 rowC w B v (rowMarks k n)) (hs : n ≤ 100000) (hk0 : 0 < k) (hk1 : k ≤ 1000000) :
    Calls Tryd.prog 12 #[v, .int .i64 (k : Int)] w fun e w' => e = .returned (.int .i64 ((k + 2 * n : Nat) : Int)) ∧ Below w.heap.size w w' := by
  rcases h1.form with ⟨rfl, e⟩ | ⟨g, cap, cur, rfl, hB, hg, h4, h5, h6, h7⟩
  · clear h1
    obtain rfl : n = 0 := by have := congrArg List.length e; simpa [rowMarks] using this
    go_enter Tryd.func12, Tryd.ntmps12
    go_wp2
    refine wp_loop_rounds 1 ?_
    rw [rounds_succ]
    go_wp2
    go_ret
    exact ⟨ret_int (by simp), Below.refl _ _⟩
  · have HLt : Hid (g < w.heap.size) := heap_lt hg
    have HC : Hid (∀ j, j < n → ∀ W, Below w.heap.size w W → W.cell? ⟨g, j * 2, none⟩ = some (.int .i64 ((k + 2 * j : Nat) : Int)) ∧ W.cell? ⟨g, j * 2 + 1, none⟩ = some (.string (markT (k + 2 * j + 1)))) := fun j hj W hW => by
      have hgW : W.heap[g]? = some (.cells cur 34 (0, 0)) := heap_keep hg hW
      have hjl : j < (rowMarks k n).length := by rwa [rowMarks_len]
      have hx : ∀ m, m < 2 → cur[j * 2 + m]? = (rowC (rowMark (k + 2 * j)))[m]? := fun m hm => by
        have hlt : j * 2 + m < (rowMarks k n).length * 2 := by rw [rowMarks_len]; omega
        have e := congrArg (fun l => l[j * 2 + m]?) h7
        simp only [List.getElem?_take, if_pos hlt] at e
        rw [flat_get 2 rowC rowC_len _ j m hjl hm, rowMarks_at] at e
        simpa using e
      refine ⟨?_, ?_⟩
      · rw [cell_of_row _ _ _ _ _ _ hgW]; exact hx 0 (by omega)
      · rw [cell_of_row _ _ _ _ _ _ hgW]; exact hx 1 (by omega)
    rw [rowMarks_len]
    rw [rowMarks_len] at h4
    clear h1 h7 hg h6
    unfold maxLen at h5
    go_enter Tryd.func12, Tryd.ntmps12
    go_wp2
    go_loopw [1, 5] (fun q i wr => ∃ (j : Nat), j ≤ n ∧ i = .int .i64 j ∧ q = .int .i64 ((k + 2 * j : Nat) : Int) ∧ Hid (Below w.heap.size w wr)) (fun _ i _ => n - (intOf i).toNat)
    case atStart => exact ⟨0, by omega, rfl, by simp, Below.refl _ _⟩
    case round =>
      obtain ⟨j, hj, rfl, rfl, HB⟩ := hrel
      by_cases hlt : j < n
      · obtain ⟨q0, q1⟩ := HC.out j hlt wr HB.out
        obtain ⟨N, hN⟩ : ∃ N, k + 2 * j = N := ⟨_, rfl⟩
        rw [hN]
        rw [hN] at q0; rw [hN] at q1; skip
        have hi0 : (0 : Int) ≤ (j : Int) := by omega
        have hi1 : (j : Int) < (n : Int) := by omega
        have hkj : N ≤ 3000000 := by omega
        have HN : Hid (k + 2 * j = N) := hN
        have hN0 : 0 < N := by omega
        clear hN
        have hne : ((markT (N + 1)).toList == (markT (N + 1)).toList) = true := by simp
        go_wp2_with fail
        go_region_held3 (fun w' => w'.cell? ⟨g, j * 2 + 1, none⟩ = some (.string (markT (N + 1)))) (go_keep) (first
          | (go_at_call 20; refine (markText_at (k := N + 1) (by first | rfl | omega) _ (by omega) (by omega)).mono ?_; rintro e y ⟨rfl, hb⟩; have HB2 : Hid (Below w.heap.size w y) := below_call (by exact HB.out.drew) hb; obtain ⟨r0, r1⟩ := HC.out j hlt y HB2.out; rw [HN.out] at r0; rw [HN.out] at r1; clear hb))
        go_wp2
        go_roundw
        case rel => exact ⟨j + 1, by omega, by go_num, by have := HN.out; congr 1; omega, HB2.out⟩
        case measure => simp [intOf]; omega
      · obtain rfl : j = n := by omega
        go_wp2
        go_ret
        exact ⟨rfl, HB.out⟩
end Go.Proofs.YtknielpkmablkaaDoor
namespace Go.Proofs.YtknielpkmablkaaDoor
open Go.RowKit Go.Shelf
attribute [local go_sem] Oper.semAt_some
set_option linter.unusedVariables false

def CI (n₀ : Nat) (w : World) (pre : List RowS) (W : World) : Prop :=
  (∃ v, Boxed W n₀ 23 v ∧ W.ownsRow n₀ 34 2 v pre.length ((rowsOf pre).flatMap rowC) ∧ True) ∧ Below n₀ w W
set_option maxRecDepth 100000 in
set_option maxHeartbeats 3200000 in
theorem appendSeq_any (Bw Bb : Nat) (p : Option Addr) (L : List Int) (cap : Nat) (base : Int) (w0 w : World) (hR : ReadI w0 p L) (hT : Tabs w0) (hP : Pow w0) (hl : L.length ≤ 2000000) (hcap : L.length ≤ cap) (hW : Below w0.heap.size w0 w) (hBw : Bw < w.heap.size) (hBb : Bb < w.heap.size) (hcw : w.cell? ⟨Bw, 0, none⟩ = some (.slice p L.length cap)) (hcb : w.cell? ⟨Bb, 0, none⟩ = some (.int .i64 base)) :
    Calls Tryd.prog 26 #[.slice none 0 0, .func (.func 27) #[] #[.pointer (some ⟨Bw, 0, none⟩), .pointer (some ⟨Bb, 0, none⟩)]] w fun e w' => ∃ v rs, e = .returned v ∧ OwnX 34 2 rowC w' w.heap.size v rs ∧ DisRes base L rs ∧ Below w.heap.size w w' := by
  have HR : Hid (ReadI w0 p L) := hR
  have HT : Hid (Tabs w0) := hT
  have HP : Hid (Pow w0) := hP
  have hcw2 := ((below_new w (.cells #[.slice none 0 0] 23)).cell (p := ⟨Bw, 0, none⟩) hBw).trans hcw
  have hcb2 := ((below_new w (.cells #[.slice none 0 0] 23)).cell (p := ⟨Bb, 0, none⟩) hBb).trans hcb
  clear hR hT hP hcw hcb
  refine (callsIn_wide (n := 3)).1 ?_
  refine callsIn_of_wp_marks Tryd.func26 rfl trivial ?_ rfl
  simp only [Tryd.ntmps26, List.size_toArray, List.length_cons, List.length_nil, Nat.reduceAdd, Nat.reduceSub, Array.replicate_succ, Array.replicate_zero, List.push_toArray, List.append_toArray, List.nil_append, List.cons_append]
  gi_wp2
  obtain ⟨W0, hW0⟩ : ∃ W0, (w.alloc (.cells #[.slice none 0 0] 23)) = W0 := ⟨_, rfl⟩
  have hsz : W0.heap.size = w.heap.size + 1 := by rw [← hW0]; simp
  have hB0 : Below w.heap.size w W0 := by rw [← hW0]; exact below_new _ _
  have bL : Boxed W0 w.heap.size 23 (.slice none 0 0) := by rw [← hW0]; exact Boxed.new w _ _
  rw [hW0] at hcw2 hcb2 ⊢
  clear hW0
  refine wpIn_rangeFunc_ownH rfl (by omega) (gf := 27) (lb := #[.pointer (some ⟨Bw, 0, none⟩), .pointer (some ⟨Bb, 0, none⟩)]) rfl trivial (enters_of Tryd.func27 (by kernel_rfl) rfl)
    (eachRow_stops (3 - 1) (by omega) Bw Bb cap p L base w0 HR.out HT.out HP.out hl hcap W0 (hW.trans (hB0.mono hW.size)) (by omega) (by omega) hcw2 hcb2) belowK_t (belowK_b (by have := hW.size; omega)) (Below.refl _ _) (fun _ => rfl)
    (CI w.heap.size w) (fun _ _ _ => False)
    (OwnFrom.and (Own.from (holdsRow_own _ _ _ _ _ _ _ (fun _ _ => True)) _) (ownFrom_below (Nat.le_refl _) (by omega)))
    (fun _ _ _ _ _ hs _ _ => hs)
    ⟨⟨_, bL, World.ownsRow_nil _ _ _ _, trivial⟩, hB0⟩
    (fun x a' W => ∃ Bx, w.heap.size < Bx ∧ W.heap[Bx]? = some (.cells #[.int .i64 x.1.1, .string x.1.2] 34 (0, 0)) ∧ a' = { tmps := #[.slice none 0 0, .func (.func 27) #[] #[.pointer (some ⟨Bw, 0, none⟩), .pointer (some ⟨Bb, 0, none⟩)], .pointer (some ⟨w.heap.size, 0, none⟩), undef, .slice none 0 0, .pointer (some ⟨Bx, 0, none⟩), .func (.func 27) #[] #[.pointer (some ⟨Bw, 0, none⟩), .pointer (some ⟨Bb, 0, none⟩)], .agg #[.int .i64 x.1.1, .string x.1.2], undef, undef, undef, undef, undef], defers := [] })
    (fun x a' _ X Y row hs hg hr => by
      obtain ⟨Bx, e1, e2, e3⟩ := hs
      refine ⟨Bx, e1, (hg.block Bx (heap_lt e2) (fun e => ?_)).trans e2, e3⟩
      obtain ⟨_, o, ho, hc⟩ := hr Bx e.symm
      rw [e2] at ho
      cases ho
      cases hc)
    ?assign ?body ?done ?stop
  case assign =>
    rintro l pre x W K ⟨⟨v, hv, hrow, _⟩, hB⟩ hK
    gi_wp2
    exact hK _ _ ((KeepsOthers.alloc _ _).from _) ((Below.refl _ W).alloc (Nat.le_trans hW.size hB.size) _) ⟨⟨v, hv.alloc _, hrow.kept (World.grownBy_alloc W _ none) (by cases v.ownBlock <;> simp), trivial⟩, hB.alloc hB.size _⟩ ⟨W.heap.size, hv.lt, heap_alloc_new _ _, rfl⟩
  case body =>
    rintro l pre ⟨⟨xn, xt⟩, hxs⟩ a' W hl2 ⟨r, hr⟩ ⟨⟨v, hv, hrow, _⟩, hB⟩ ⟨Bx, hBx, hX, rfl⟩ hlt
    dsimp only at hxs hX
    obtain ⟨q, m, c, rfl⟩ := ownsB_form hrow
    obtain ⟨i0, hi, hz0, hz1, hz2⟩ := info_parts infoRow
    have cv := hv.cell
    have x0 : W.cell? ⟨Bx, 0, none⟩ = some (.int .i64 xn) := cell_of_row _ _ 0 _ _ _ hX
    have x1 : W.cell? ⟨Bx, 1, none⟩ = some (.string xt) := cell_of_row _ _ 1 _ _ _ hX
    have hsW := hB.size
    gi_wp2_with (gi_at_builtin; refine wpListIn_append_own _ rfl (.tmp 8) (.tmp 10) 23 rfl w.heap.size 34 i0 (.agg #[.int .i64 0, .string ⟨#[]⟩]) 2 24 Tryd.underlying23 hi hz0 hz1 hz2 rfl (by decide) _ _ _ rfl (hrow.kept (World.grownBy_alloc W (.cells #[.int .i64 xn, .string xt] 34) none) (by cases (Value.slice q m c).ownBlock <;> simp)) ⟨W.heap.size, 0, none⟩ 1 1 (rowC (xn, xt)) rfl rfl (newsX _ _ _) (row_one _) (by unfold maxLen; omega) (by omega) (Nat.le_trans hsW (by simp)) ?_; intro v3 w3 hown3 hgrow3 _; obtain ⟨g3, cap3, rfl⟩ := ownsRow_succ hown3; obtain ⟨hv3, hv4, hr4, hk4, hb4⟩ := hv.appended (by decide) hrow hsW (Nat.le_refl _) hown3 hgrow3; have k3 := hv3.cell; have f3 := hv3.frozen)
    have hn : (pre ++ [(⟨(xn, xt), hxs⟩ : RowS)]).length = pre.length + 1 := by simp
    have hf : (rowsOf (pre ++ [(⟨(xn, xt), hxs⟩ : RowS)])).flatMap rowC = (rowsOf pre).flatMap rowC ++ rowC (xn, xt) := by rw [rowsOf_more]; simp
    exact ⟨hk4.from _, hb4.mono hW.size, ⟨_, hv4, by rw [hn, hf]; exact hr4, trivial⟩, hB.trans hb4⟩
  case done =>
    rintro D xs W hD hS ⟨⟨v, hv, hrow, _⟩, hB⟩ hK
    have cv := hv.cell
    gi_wp2
    refine ⟨by simp, .inl ⟨_, _, rfl, run_takeDeferred hK, ?_⟩⟩
    have hlen : (rowsOf xs).length = xs.length := by simp [rowsOf]
    refine ⟨_, results_tmp rfl _ _ _, v, rowsOf xs, rfl, ?_, hS, hB.trans (belowK_b (w := w) (Nat.le_refl _) W D _ _ (by omega) hK rfl rfl)⟩
    unfold OwnX
    rw [hlen]
    exact ownsRow_putObj hrow _ hK rfl
  case stop =>
    rintro D c pre W hD hpre h hK
    exact h.elim
set_option maxRecDepth 100000 in
set_option maxHeartbeats 1600000 in
theorem collect_any (Bw Bb : Nat) (p : Option Addr) (L : List Int) (cap : Nat) (base : Int) (w0 w : World) (hR : ReadI w0 p L) (hT : Tabs w0) (hP : Pow w0) (hl : L.length ≤ 2000000) (hcap : L.length ≤ cap) (hW : Below w0.heap.size w0 w) (hBw : Bw < w.heap.size) (hBb : Bb < w.heap.size) (hcw : w.cell? ⟨Bw, 0, none⟩ = some (.slice p L.length cap)) (hcb : w.cell? ⟨Bb, 0, none⟩ = some (.int .i64 base)) :
    Calls Tryd.prog 17 #[.func (.func 27) #[] #[.pointer (some ⟨Bw, 0, none⟩), .pointer (some ⟨Bb, 0, none⟩)]] w fun e w' => ∃ v rs, e = .returned v ∧ OwnX 34 2 rowC w' w.heap.size v rs ∧ DisRes base L rs ∧ Below w.heap.size w w' := by
  have HC : Hid (Calls Tryd.prog _ _ _ _) := appendSeq_any Bw Bb p L cap base w0 w hR hT hP hl hcap hW hBw hBb hcw hcb
  clear hR hT hP hW hcw hcb
  go_enter Tryd.func17, Tryd.ntmps17
  go_wp2_with fail
  refine HC.out.mono ?_
  rintro e w' ⟨v, rs, rfl, ho, hd, hb⟩
  have HO : Hid (OwnX _ _ _ _ _ _ _) := ho
  have HD : Hid (DisRes base L rs) := hd
  have HB : Hid (Below _ _ _) := hb
  clear ho hd hb
  go_wp2
  go_ret
  exact ⟨v, rs, rfl, HO.out, HD.out, HB.out⟩
set_option maxRecDepth 100000 in
set_option maxHeartbeats 1600000 in
theorem implDis_any (p : Option Addr) (L : List Int) (cap : Nat) (base : Int) (w : World) (hR : ReadI w p L) (hT : Tabs w) (hP : Pow w) (hl : L.length ≤ 2000000) (hcap : L.length ≤ cap) :
    Calls Tryd.prog 7 #[.slice p L.length cap, .int .i64 base] w fun e w' => ∃ v rs, e = .returned v ∧ OwnX 34 2 rowC w' w.heap.size v rs ∧ DisRes base L rs ∧ Below w.heap.size w w' := by
  have hcw : ((w.alloc (.cells #[.slice p L.length cap] 22)).alloc (.cells #[.int .i64 base] 2)).cell? ⟨w.heap.size, 0, none⟩ = some (.slice p L.length cap) := cell_of_row _ _ 0 _ _ _ (heap_more (heap_alloc_new w _) _)
  have hcb : ((w.alloc (.cells #[.slice p L.length cap] 22)).alloc (.cells #[.int .i64 base] 2)).cell? ⟨w.heap.size + 1, 0, none⟩ = some (.int .i64 base) := by
    have h := heap_alloc_new (w.alloc (.cells #[.slice p L.length cap] 22)) (.cells #[.int .i64 base] 2)
    rw [World.size_alloc] at h
    exact cell_of_row _ _ 0 _ _ _ h
  have HB0 : Hid (Below w.heap.size w ((w.alloc (.cells #[.slice p L.length cap] 22)).alloc (.cells #[.int .i64 base] 2))) := below_more (below_new _ _) _
  have HC : Hid (Calls Tryd.prog _ _ _ _) := collect_any w.heap.size (w.heap.size + 1) p L cap base w _ hR hT hP hl hcap HB0.out (by simp; omega) (by simp) hcw hcb
  clear hR hT hP hcw hcb
  go_enter Tryd.func7, Tryd.ntmps7
  go_wp2_with fail
  refine (eachRow_any p L.length cap base _).mono ?_
  rintro e w' ⟨rfl, rfl⟩
  go_wp2_with fail
  refine HC.out.mono ?_
  rintro e w' ⟨v, rs, rfl, ho, hd, hb⟩
  have HO : Hid (OwnX 34 2 rowC w' w.heap.size v rs) := ho.low (by simp; omega)
  have HD : Hid (DisRes base L rs) := hd
  have HB : Hid (Below w.heap.size w w') := below_call HB0.out hb
  clear ho hd hb
  go_wp2
  go_ret
  exact ⟨v, rs, rfl, HO.out, HD.out, HB.out⟩
end Go.Proofs.YtknielpkmablkaaDoor
namespace Go.Proofs.YtknielpkmablkaaDoor
open Go.RowKit
set_option linter.unusedVariables false

theorem kw_below {B : Nat} {a w w' : World} {v : Value} (h : Below B a w) (hk : KW v w w') (hl : ∀ q, v.ownBlock = some q → B ≤ q) (hB : B ≤ w.heap.size) : Below B a w' :=
  ⟨hk.os.trans h.os, hk.tape.trans h.tape, hk.output.trans h.output, Nat.le_trans h.size hk.size, fun q hq => (hk.block q (by omega) (fun e => by have := hl q e; omega)).trans (h.block q hq)⟩
theorem eqRows_any {a b : Option Addr} {L : List rowE} {cap cap2 n n2 : Nat} {w : World} (hn : n = L.length) (hn2 : n2 = L.length) (hR : RowIs 2 rowC w a L) (hS : RowIs 2 rowC w b L) (hl : L.length ≤ 2000000) :
    Calls Tryd.prog 8 #[.slice a n cap, .slice b n2 cap2] w fun e w' => e = .returned (.bool true) ∧ Below w.heap.size w w' := by
  subst hn hn2
  exact eqRowS_any a b L cap cap2 w hR hS hl
set_option maxRecDepth 100000 in
set_option maxHeartbeats 3200000 in
theorem lawDis_walk (a : Option Addr) (L : List Int) (cap : Nat) (base : Int) (w : World) (hR : ReadI w a L) (hm : L.length ≤ maxLen) (hT : PowTabs w) :
    Calls Tryd.prog 3 #[.slice a L.length cap, .int .i64 base] w fun e w' => e = .returned (.bool true) ∧ Below w.heap.size w w' := by
  have HT : Hid (Tabs w) := hT.tabs
  have HP : Hid (Pow w) := hT.pow
  have HR : Hid (ReadI w a L) := hR
  unfold maxLen at hm
  clear hT hR
  by_cases hbig : 1048576 < L.length
  · have hb' : (1048576 : Int) < (L.length : Int) := by omega
    go_enter Tryd.func3, Tryd.ntmps3
    go_wp2
    go_ret
    exact ⟨rfl, Below.refl _ _⟩
  · have hb' : ¬ (1048576 : Int) < (L.length : Int) := by omega
    go_enter Tryd.func3, Tryd.ntmps3
    go_wp2_with fail
    refine (toInt64S_any a L cap _ HR.out (by omega)).mono ?_
    rintro e x1 ⟨rfl, h1, hb⟩
    have HG1 : Hid (_ = _) := h1
    have HB1 : Hid (Below w.heap.size w x1) := hb
    clear h1 hb
    go_wp2_with fail
    refine (specDis_any _ L _ base _ (made_read HG1.out) (by omega) (Nat.le_refl _)).mono ?_
    rintro e x2 ⟨v0, rs, rfl, ho, hres, hb⟩
    obtain ⟨sa, sc, rfl, hrow⟩ := ho.is rowC_len
    have HRS : Hid (DisRes base L rs) := hres
    have hlen := hres.len
    have HS : Hid (RowIs 2 rowC x2 sa rs) := hrow
    have HB2 : Hid (Below w.heap.size w x2) := below_call HB1.out hb
    clear hb hres ho hrow
    go_wp2_with fail
    refine (toInt64S_any a L cap _ (HR.out.below HB2.out) (by omega)).mono ?_
    rintro e x3 ⟨rfl, h1, hb⟩
    have HG3 : Hid (_ = _) := h1
    have HB3 : Hid (Below w.heap.size w x3) := below_call HB2.out hb
    have HX3 : Hid (Below x2.heap.size x2 x3) := hb
    have hs3 := heap_lt h1
    clear h1 hb
    go_wp2_with fail
    refine (implDis_any _ L _ base _ (made_read HG3.out) (HT.out.below HB3.out) (HP.out.below HB3.out) (by omega) (Nat.le_refl _)).mono ?_
    rintro e x4 ⟨v4, rs4, rfl, ho, hres, hb⟩
    have hrs : rs4 = rs := hres.one HRS.out
    subst hrs
    obtain ⟨ga, gc, rfl, _⟩ := ho.is rowC_len
    have HO4 : Hid (OwnX 34 2 rowC x4 x3.heap.size (.slice ga rs4.length gc) rs4) := ho
    have HG4 : Hid (_ = _) := heap_keep HG3.out hb
    have HB4 : Hid (Below w.heap.size w x4) := below_call HB3.out hb
    have HX4 : Hid (Below x2.heap.size x2 x4) := below_call HX3.out hb
    clear hb hres ho
    go_wp2_with fail
    obtain ⟨_, _, e4, hrow4⟩ := HO4.out.is rowC_len
    cases e4
    refine (eqRows_any (L := rs4) rfl rfl hrow4 (HS.out.below HX4.out) (by omega)).mono ?_
    rintro e x5 ⟨rfl, hb⟩
    have HO5 : Hid (OwnX 34 2 rowC x5 x3.heap.size (.slice ga rs4.length gc) rs4) := HO4.out.call hb
    have HG5 : Hid (_ = _) := heap_keep HG4.out hb
    have HB5 : Hid (Below w.heap.size w x5) := below_call HB4.out hb
    have HX5 : Hid (Below x2.heap.size x2 x5) := below_call HX4.out hb
    clear hb hrow4
    go_wp2_with fail
    refine (toInt64S_any a L cap _ (HR.out.below HB5.out) (by omega)).mono ?_
    rintro e x6 ⟨rfl, h1, hb⟩
    have HH6 : Hid (_ = _) := h1
    have HO6 : Hid (OwnX 34 2 rowC x6 x3.heap.size (.slice ga rs4.length gc) rs4) := HO5.out.call hb
    have HG6 : Hid (_ = _) := heap_keep HG5.out hb
    have HB6 : Hid (Below w.heap.size w x6) := below_call HB5.out hb
    have HX6 : Hid (Below x2.heap.size x2 x6) := below_call HX5.out hb
    clear h1 hb
    go_wp2_with fail
    refine (eqInt64S_any _ _ 0 0 L L _ (made_own HG6.out (Nat.zero_le _) (by omega)) (made_own HH6.out (Nat.zero_le _) (by omega)) (by omega) (by omega)).mono ?_
    rintro e x7 ⟨rfl, hb⟩
    rw [decide_eq_true rfl]
    have HO7 : Hid (OwnX 34 2 rowC x7 x3.heap.size (.slice ga rs4.length gc) rs4) := HO6.out.call hb
    have HG7 : Hid (_ = _) := heap_keep HG6.out hb
    have HB7 : Hid (Below w.heap.size w x7) := below_call HB6.out hb
    have HX7 : Hid (Below x2.heap.size x2 x7) := below_call HX6.out hb
    clear hb HH6
    go_wp2_with fail
    refine (markInt64S_but _ x2.heap.size L 1 _ (made_own HG7.out (Nat.le_refl _) (by omega)) (by omega) (by omega) (by omega)).mono ?_
    rintro e x8 ⟨rfl, _, hb, hoth⟩
    have HO8 : Hid (OwnX 34 2 rowC x8 x3.heap.size (.slice ga rs4.length gc) rs4) := HO7.out.stays fun q hq e => hoth q hq (fun e2 => by have := (HO7.out.blk q e).1; simp [Value.ownBlock] at e2; omega)
    have HB8 : Hid (Below w.heap.size w x8) := HB7.out.trans (hb.mono HB2.out.size)
    have HX8 : Hid (Below x2.heap.size x2 x8) := HX7.out.trans hb
    clear hb hoth
    have hl0 : ¬ (1 : Int) + (L.length : Int) < 0 := by omega
    go_wp2_with fail
    obtain ⟨_, _, e8, hrow8⟩ := HO8.out.is rowC_len
    cases e8
    refine (eqRows_any (L := rs4) rfl rfl hrow8 (HS.out.below HX8.out) (by omega)).mono ?_
    rintro e x9 ⟨rfl, hb⟩
    have HO9 : Hid (OwnX 34 2 rowC x9 x3.heap.size (.slice ga rs4.length gc) rs4) := HO8.out.call hb
    have HB9 : Hid (Below w.heap.size w x9) := below_call HB8.out hb
    have HX9 : Hid (Below x2.heap.size x2 x9) := below_call HX8.out hb
    clear hb hrow8
    go_wp2_with fail
    refine (markRowS_any _ x3.heap.size rs4 1 _ HO9.out (by omega) (by omega) (by omega)).mono ?_
    rintro e x10 ⟨rfl, ho, hk⟩
    have HO10 : Hid (OwnX 34 2 rowC x10 x3.heap.size (.slice ga rs4.length gc) (rowMarks 1 rs4.length)) := ho
    have HB10 : Hid (Below w.heap.size w x10) := kw_below HB9.out hk (fun q e => Nat.le_trans HB3.out.size (HO9.out.blk q e).1) HB9.out.size
    have HX10 : Hid (Below x2.heap.size x2 x10) := kw_below HX9.out hk (fun q e => Nat.le_trans HX3.out.size (HO9.out.blk q e).1) HX9.out.size
    clear ho hk
    obtain ⟨M, hM⟩ : ∃ M : Nat, 1 + 2 * rs4.length = M := ⟨_, rfl⟩
    rw [hM]
    have HMM : Hid (1 + 2 * rs4.length = M) := hM
    clear hM
    have hM0 : ¬ (M : Int) < 0 := by omega
    go_wp2_with fail
    refine (heldRowS_any _ x3.heap.size rs4.length 1 _ HO10.out (by omega) (by omega) (by omega)).mono ?_
    rintro e x11 ⟨rfl, hb⟩
    rw [HMM.out]
    have HO11 : Hid (OwnX 34 2 rowC x11 x3.heap.size (.slice ga rs4.length gc) (rowMarks 1 rs4.length)) := HO10.out.call hb
    have HB11 : Hid (Below w.heap.size w x11) := below_call HB10.out hb
    have HX11 : Hid (Below x2.heap.size x2 x11) := below_call HX10.out hb
    clear hb
    go_wp2_with fail
    refine (toInt64S_any a L cap _ (HR.out.below HB11.out) (by omega)).mono ?_
    rintro e x12 ⟨rfl, h1, hb⟩
    have HG12 : Hid (_ = _) := h1
    have HO12 : Hid (OwnX 34 2 rowC x12 x3.heap.size (.slice ga rs4.length gc) (rowMarks 1 rs4.length)) := HO11.out.call hb
    have HB12 : Hid (Below w.heap.size w x12) := below_call HB11.out hb
    have HX12 : Hid (Below x2.heap.size x2 x12) := below_call HX11.out hb
    clear h1 hb
    go_wp2_with fail
    refine (implDis_any _ L _ base _ (made_read HG12.out) (HT.out.below HB12.out) (HP.out.below HB12.out) (by omega) (Nat.le_refl _)).mono ?_
    rintro e x13 ⟨v13, rs5, rfl, ho, hres, hb⟩
    have hrs : rs5 = rs4 := hres.one HRS.out
    subst hrs
    obtain ⟨ha, hc, rfl, hrow13⟩ := ho.is rowC_len
    have HO13 : Hid (OwnX 34 2 rowC x13 x3.heap.size (.slice ga rs5.length gc) (rowMarks 1 rs5.length)) := HO12.out.call hb
    have HB13 : Hid (Below w.heap.size w x13) := below_call HB12.out hb
    have HX13 : Hid (Below x2.heap.size x2 x13) := below_call HX12.out hb
    have HH13 : Hid (RowIs 2 rowC x13 ha rs5) := hrow13
    clear hb hres ho hrow13
    go_wp2_with fail
    refine (eqRows_any (L := rs5) rfl rfl HH13.out (HS.out.below HX13.out) (by omega)).mono ?_
    rintro e x14 ⟨rfl, hb⟩
    have HO14 : Hid (OwnX 34 2 rowC x14 x3.heap.size (.slice ga rs5.length gc) (rowMarks 1 rs5.length)) := HO13.out.call hb
    have HB14 : Hid (Below w.heap.size w x14) := below_call HB13.out hb
    clear hb
    go_wp2_with fail
    refine (heldRowS_any _ x3.heap.size rs5.length 1 _ HO14.out (by omega) (by omega) (by omega)).mono ?_
    rintro e x15 ⟨rfl, hb⟩
    rw [HMM.out]
    go_wp2
    go_ret
    exact ⟨rfl, below_call HB14.out hb⟩
end Go.Proofs.YtknielpkmablkaaDoor
