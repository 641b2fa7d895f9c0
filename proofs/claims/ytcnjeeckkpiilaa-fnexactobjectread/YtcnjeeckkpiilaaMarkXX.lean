/- Rows of Syms and Refs of a call's own: marked, and asked for their marks. -/
import Derived.Test.YtcnjeeckkpiilaaRows
import Derived.WalkKit
import Derived.WalkSpells
import Derived.WalkLawsBesides
import Derived.Outline
import Derived.RegionTactic
import Derived.BigRegion
import Derived.Deep.RegionHeld3
import Derived.Test.YtcnjeeckkpiilaaBun0
import Derived.Test.YtcnjeeckkpiilaaBun1
import Derived.Test.YtcnjeeckkpiilaaOwnSX
import Derived.Test.YtcnjeeckkpiilaaBun3
import Derived.Test.YtcnjeeckkpiilaaRowXX
import Derived.Test.YtcnjeeckkpiilaaOwnRowsX
import Derived.Test.YtcnjeeckkpiilaaSymAX
import Derived.Test.YtcnjeeckkpiilaaRefAX
namespace Go.Proofs.Ytcnjeeckkpiilaa
open Go.RowKit
set_option linter.unusedVariables false

structure KO (v : Value) (w w' : World) : Prop where
  os : w'.os = w.os
  tape : w'.tape = w.tape
  output : w'.output = w.output
  size : w.heap.size ≤ w'.heap.size
  block : ∀ q, q < w.heap.size → v.ownBlock ≠ some q → w'.heap[q]? = w.heap[q]?
theorem KO.refl (v : Value) (w : World) : KO v w w := ⟨rfl, rfl, rfl, Nat.le_refl _, fun _ _ _ => rfl⟩
theorem KO.of {v : Value} {g : Nat} {w w' : World} (hv : v.ownBlock = some g) (h : But g w w') : KO v w w' := ⟨h.os, h.tape, h.output, h.size, fun q hq hne => h.block q hq (fun e => hne (by rw [hv, e]))⟩
def PX {α : Type} (n : Nat) (c : α → List Value) (cur : Array Value) (L : List α) (k : Nat) : Prop := ∀ i (h : i < L.length), i < k → ∀ j, j < n → cur[i * n + j]? = (c L[i])[j]?
theorem PX.set3 {α : Type} {c : α → List Value} {cur : Array Value} {L : List α} {k cap : Nat} (h : PX 3 c cur L k) (hs : cur.size = cap * 3) (hc : L.length ≤ cap) (hk : k < L.length) {u v z : Value} (hu : c L[k] = [u, v, z]) : PX 3 c (((cur.setIfInBounds (k * 3) u).setIfInBounds (k * 3 + 1) v).setIfInBounds (k * 3 + 2) z) L (k + 1) := fun i hi hik j hj => by
  have hsz : k * 3 + 2 < cur.size := by omega
  rw [Array.getElem?_setIfInBounds, Array.getElem?_setIfInBounds, Array.getElem?_setIfInBounds]
  by_cases e : i = k
  · subst e
    rw [hu]
    obtain rfl | rfl | rfl : j = 0 ∨ j = 1 ∨ j = 2 := by omega
    · rw [if_neg (by omega), if_neg (by omega), if_pos (by omega), if_pos (by omega)]; rfl
    · rw [if_neg (by omega), if_pos (by omega), if_pos (by simp; omega)]; rfl
    · rw [if_pos (by omega), if_pos (by simp; omega)]; rfl
  · rw [if_neg (by omega), if_neg (by omega), if_neg (by omega)]
    exact h i hi (by omega) j hj
theorem PX.set4 {α : Type} {c : α → List Value} {cur : Array Value} {L : List α} {k cap : Nat} (h : PX 4 c cur L k) (hs : cur.size = cap * 4) (hc : L.length ≤ cap) (hk : k < L.length) {u v z y : Value} (hu : c L[k] = [u, v, z, y]) : PX 4 c ((((cur.setIfInBounds (k * 4) u).setIfInBounds (k * 4 + 1) v).setIfInBounds (k * 4 + 2) z).setIfInBounds (k * 4 + 3) y) L (k + 1) := fun i hi hik j hj => by
  have hsz : k * 4 + 3 < cur.size := by omega
  rw [Array.getElem?_setIfInBounds, Array.getElem?_setIfInBounds, Array.getElem?_setIfInBounds, Array.getElem?_setIfInBounds]
  by_cases e : i = k
  · subst e
    rw [hu]
    obtain rfl | rfl | rfl | rfl : j = 0 ∨ j = 1 ∨ j = 2 ∨ j = 3 := by omega
    · rw [if_neg (by omega), if_neg (by omega), if_neg (by omega), if_pos (by omega), if_pos (by omega)]; rfl
    · rw [if_neg (by omega), if_neg (by omega), if_pos (by omega), if_pos (by simp; omega)]; rfl
    · rw [if_neg (by omega), if_pos (by omega), if_pos (by simp; omega)]; rfl
    · rw [if_pos (by omega), if_pos (by simp; omega)]; rfl
  · rw [if_neg (by omega), if_neg (by omega), if_neg (by omega), if_neg (by omega)]
    exact h i hi (by omega) j hj
theorem markText_is {n : Int} {k : Nat} (h : n = (k : Int)) (w : World) (hk0 : 0 < k) (hk1 : k ≤ 1000000000) :
    Calls Try.prog 103 #[.int .i64 n] w fun e w' => e = .returned (.string (markT k)) ∧ Below w.heap.size w w' := by
  subst h; exact markText_any k w hk0 hk1
def symMark (k : Nat) : symE := (markT k, (k : Int) + 1, ((k : Int) + 2).tmod 3 == 0)
def refMark (k : Nat) : refE := ((k : Int), markT (k + 1), (k : Int) + 2, ((k : Int) + 3).tmod 3 == 0)
def symMarks (k n : Nat) : List symE := (List.range n).map fun (i : Nat) => symMark (k + 3 * i)
def refMarks (k n : Nat) : List refE := (List.range n).map fun (i : Nat) => refMark (k + 4 * i)
theorem symMarks_len (k n : Nat) : (symMarks k n).length = n := by simp [symMarks]
theorem refMarks_len (k n : Nat) : (refMarks k n).length = n := by simp [refMarks]
theorem symMarks_at (k n i : Nat) (h : i < (symMarks k n).length) : (symMarks k n)[i] = symMark (k + 3 * i) := by simp [symMarks]
theorem refMarks_at (k n i : Nat) (h : i < (refMarks k n).length) : (refMarks k n)[i] = refMark (k + 4 * i) := by simp [refMarks]
set_option maxRecDepth 100000 in
set_option maxHeartbeats 3200000 in
theorem markSymS_any (v : Value) (B : Nat) (L : List symE) (k : Nat) (w : World) (h1 : OwnX 65 3 symC w B v L) (hs : L.length ≤ 100000) (hk0 : 0 < k) (hk1 : k ≤ 1000000) :
    Calls Try.prog 90 #[v, .int .i64 (k : Int)] w fun e w' => e = .returned (.int .i64 ((k + 3 * L.length : Nat) : Int)) ∧ OwnX 65 3 symC w' B v (symMarks k L.length) ∧ KO v w w' := by
  rcases h1.form with ⟨rfl, rfl⟩ | ⟨g, cap, cur, rfl, hB, hg, h4, h5, h6, h7⟩
  · clear h1
    go_enter Try.func90, Try.ntmps90
    go_wp2
    refine wp_loop_rounds 1 ?_
    rw [rounds_succ]
    go_wp2
    go_ret
    exact ⟨ret_int (by simp), OwnX.nil _ _, KO.refl _ _⟩
  · have HG : Hid (_ = _) := hg
    have HC : Hid (cur.size = cap * 3) := h6
    clear h1 h7 hg h6
    have hcap := h5
    unfold maxLen at h5
    go_enter Try.func90, Try.ntmps90
    go_wp2
    go_loopw [1, 5] (fun q i wr => ∃ (j : Nat), j ≤ L.length ∧ i = .int .i64 j ∧ q = .int .i64 ((k + 3 * j : Nat) : Int) ∧ Hid (∃ c : Array Value, wr.heap[g]? = some (.cells c 65 (0, 0)) ∧ c.size = cap * 3 ∧ PX 3 symC c (symMarks k L.length) j) ∧ Hid (But g w wr)) (fun _ i _ => L.length - (intOf i).toNat)
    case atStart => exact ⟨0, by omega, rfl, by simp, ⟨cur, HG.out, HC.out, fun i _ h => by omega⟩, But.refl _ _⟩
    case round =>
      obtain ⟨j, hj, rfl, rfl, HX, HB⟩ := hrel
      by_cases hlt : j < L.length
      · have hkj : k + 3 * j ≤ 3000000 := by omega
        have hi0 : (0 : Int) ≤ (j : Int) := by omega
        have hi1 : (j : Int) < (L.length : Int) := by omega
        go_wp2_with fail
        refine (markText_any (k + 3 * j) _ (by omega) (by omega)).mono ?_
        rintro e y ⟨rfl, hb⟩
        obtain ⟨c, hc0, hcs, hpx⟩ := HX.out
        have hc := heap_keep hc0 hb
        have HB2 : Hid (But g w y) := HB.out.call hb
        have HC1 : Hid (_ = _) := hc
        have HC2 : Hid (c.size = cap * 3) := hcs
        have HC3 : Hid (PX 3 symC c (symMarks k L.length) j) := hpx
        obtain ⟨p0, q0⟩ : ∃ v, y.cell? ⟨g, j * 3, none⟩ = some v := ⟨c[j * 3]'(by omega), by rw [cell_of_row _ _ _ _ _ _ hc]; exact Array.getElem?_eq_getElem _⟩
        have z0 : y.frozen? ⟨g, j * 3, none⟩ = false := frozen_of_row _ _ _ _ _ hc
        obtain ⟨p1, q1⟩ : ∃ v, y.cell? ⟨g, j * 3 + 1, none⟩ = some v := ⟨c[j * 3 + 1]'(by omega), by rw [cell_of_row _ _ _ _ _ _ hc]; exact Array.getElem?_eq_getElem _⟩
        have z1 : y.frozen? ⟨g, j * 3 + 1, none⟩ = false := frozen_of_row _ _ _ _ _ hc
        obtain ⟨p2, q2⟩ : ∃ v, y.cell? ⟨g, j * 3 + 2, none⟩ = some v := ⟨c[j * 3 + 2]'(by omega), by rw [cell_of_row _ _ _ _ _ _ hc]; exact Array.getElem?_eq_getElem _⟩
        have z2 : y.frozen? ⟨g, j * 3 + 2, none⟩ = false := frozen_of_row _ _ _ _ _ hc
        clear hc0 hcs hpx hc hb HX HB
        go_wp2
        go_roundw
        case rel => exact ⟨j + 1, by omega, by go_num, by go_num, ⟨_, heap_set (heap_set (heap_set HC1.out (j * 3) _) (j * 3 + 1) _) (j * 3 + 2) _, by simp [HC2.out], HC3.out.set3 HC2.out (by rw [symMarks_len]; omega) (by rw [symMarks_len]; exact hlt) (by rw [symMarks_at]; rfl)⟩, But.setB (But.setB (But.setB HB2.out (p := ⟨g, j * 3, none⟩) rfl _) (p := ⟨g, j * 3 + 1, none⟩) rfl _) (p := ⟨g, j * 3 + 2, none⟩) rfl _⟩
        case measure => simp [intOf]; omega
      · obtain rfl : j = L.length := by omega
        go_wp2
        go_ret
        obtain ⟨c, hc, hcs, hpx⟩ := HX.out
        refine ⟨rfl, ?_, KO.of rfl HB.out⟩
        have := OwnX.mk (L := symMarks k L.length) symC_len hB hc (by rw [symMarks_len]; exact h4) hcap hcs (fun i hi m hm => hpx i hi (by rwa [symMarks_len] at hi) m hm)
        rwa [symMarks_len] at this
set_option maxRecDepth 100000 in
set_option maxHeartbeats 3200000 in
theorem markRefS_any (v : Value) (B : Nat) (L : List refE) (k : Nat) (w : World) (h1 : OwnX 70 4 refC w B v L) (hs : L.length ≤ 100000) (hk0 : 0 < k) (hk1 : k ≤ 1000000) :
    Calls Try.prog 91 #[v, .int .i64 (k : Int)] w fun e w' => e = .returned (.int .i64 ((k + 4 * L.length : Nat) : Int)) ∧ OwnX 70 4 refC w' B v (refMarks k L.length) ∧ KO v w w' := by
  rcases h1.form with ⟨rfl, rfl⟩ | ⟨g, cap, cur, rfl, hB, hg, h4, h5, h6, h7⟩
  · clear h1
    go_enter Try.func91, Try.ntmps91
    go_wp2
    refine wp_loop_rounds 1 ?_
    rw [rounds_succ]
    go_wp2
    go_ret
    exact ⟨ret_int (by simp), OwnX.nil _ _, KO.refl _ _⟩
  · have HG : Hid (_ = _) := hg
    have HC : Hid (cur.size = cap * 4) := h6
    clear h1 h7 hg h6
    have hcap := h5
    unfold maxLen at h5
    go_enter Try.func91, Try.ntmps91
    go_wp2
    go_loopw [1, 5] (fun q i wr => ∃ (j : Nat), j ≤ L.length ∧ i = .int .i64 j ∧ q = .int .i64 ((k + 4 * j : Nat) : Int) ∧ Hid (∃ c : Array Value, wr.heap[g]? = some (.cells c 70 (0, 0)) ∧ c.size = cap * 4 ∧ PX 4 refC c (refMarks k L.length) j) ∧ Hid (But g w wr)) (fun _ i _ => L.length - (intOf i).toNat)
    case atStart => exact ⟨0, by omega, rfl, by simp, ⟨cur, HG.out, HC.out, fun i _ h => by omega⟩, But.refl _ _⟩
    case round =>
      obtain ⟨j, hj, rfl, rfl, HX, HB⟩ := hrel
      by_cases hlt : j < L.length
      · have hkj : k + 4 * j ≤ 3000000 := by omega
        have hi0 : (0 : Int) ≤ (j : Int) := by omega
        have hi1 : (j : Int) < (L.length : Int) := by omega
        obtain ⟨c, hc0, hcs, hpx⟩ := HX.out
        obtain ⟨p0, q0⟩ : ∃ v, wr.cell? ⟨g, j * 4, none⟩ = some v := ⟨c[j * 4]'(by omega), by rw [cell_of_row _ _ _ _ _ _ hc0]; exact Array.getElem?_eq_getElem _⟩
        have z0 : wr.frozen? ⟨g, j * 4, none⟩ = false := frozen_of_row _ _ _ _ _ hc0
        have HC0 : Hid (_ = _) := heap_set hc0 (j * 4) (.int .i64 ((k + 4 * j : Nat) : Int))
        have HB1 : Hid (But g w _) := HB.out.setB (p := ⟨g, j * 4, none⟩) rfl (.int .i64 ((k + 4 * j : Nat) : Int))
        have HC2 : Hid (c.size = cap * 4) := hcs
        have HC3 : Hid (PX 4 refC c (refMarks k L.length) j) := hpx
        clear hc0 hpx HX HB
        go_wp2_with fail
        refine (markText_is (k := k + 4 * j + 1) (by omega) _ (by omega) (by omega)).mono ?_
        rintro e y ⟨rfl, hb⟩
        have hc := heap_keep HC0.out hb
        have HB2 : Hid (But g w y) := HB1.out.call hb
        have HC1 : Hid (_ = _) := hc
        have hcs2 : (c.setIfInBounds (j * 4) (.int .i64 ((k + 4 * j : Nat) : Int))).size = cap * 4 := by simp [hcs]
        obtain ⟨p1, q1⟩ : ∃ v, y.cell? ⟨g, j * 4 + 1, none⟩ = some v := ⟨(c.setIfInBounds (j * 4) (.int .i64 ((k + 4 * j : Nat) : Int)))[j * 4 + 1]'(by omega), by rw [cell_of_row _ _ _ _ _ _ hc]; exact Array.getElem?_eq_getElem _⟩
        have z1 : y.frozen? ⟨g, j * 4 + 1, none⟩ = false := frozen_of_row _ _ _ _ _ hc
        obtain ⟨p2, q2⟩ : ∃ v, y.cell? ⟨g, j * 4 + 2, none⟩ = some v := ⟨(c.setIfInBounds (j * 4) (.int .i64 ((k + 4 * j : Nat) : Int)))[j * 4 + 2]'(by omega), by rw [cell_of_row _ _ _ _ _ _ hc]; exact Array.getElem?_eq_getElem _⟩
        have z2 : y.frozen? ⟨g, j * 4 + 2, none⟩ = false := frozen_of_row _ _ _ _ _ hc
        obtain ⟨p3, q3⟩ : ∃ v, y.cell? ⟨g, j * 4 + 3, none⟩ = some v := ⟨(c.setIfInBounds (j * 4) (.int .i64 ((k + 4 * j : Nat) : Int)))[j * 4 + 3]'(by omega), by rw [cell_of_row _ _ _ _ _ _ hc]; exact Array.getElem?_eq_getElem _⟩
        have z3 : y.frozen? ⟨g, j * 4 + 3, none⟩ = false := frozen_of_row _ _ _ _ _ hc
        clear hcs hcs2 hc hb q0 z0 HC0 HB1
        go_wp2
        go_roundw
        case rel => exact ⟨j + 1, by omega, by go_num, by go_num, ⟨_, heap_set (heap_set (heap_set HC1.out (j * 4 + 1) _) (j * 4 + 2) _) (j * 4 + 3) _, by simp [HC2.out], HC3.out.set4 HC2.out (by rw [refMarks_len]; omega) (by rw [refMarks_len]; exact hlt) (by rw [refMarks_at]; rfl)⟩, But.setB (But.setB (But.setB HB2.out (p := ⟨g, j * 4 + 1, none⟩) rfl _) (p := ⟨g, j * 4 + 2, none⟩) rfl _) (p := ⟨g, j * 4 + 3, none⟩) rfl _⟩
        case measure => simp [intOf]; omega
      · obtain rfl : j = L.length := by omega
        go_wp2
        go_ret
        obtain ⟨c, hc, hcs, hpx⟩ := HX.out
        refine ⟨rfl, ?_, KO.of rfl HB.out⟩
        have := OwnX.mk (L := refMarks k L.length) refC_len hB hc (by rw [refMarks_len]; exact h4) hcap hcs (fun i hi m hm => hpx i hi (by rwa [refMarks_len] at hi) m hm)
        rwa [refMarks_len] at this
set_option maxRecDepth 100000 in
set_option maxHeartbeats 3200000 in
theorem heldSymS_any (v : Value) (B : Nat) (n k : Nat) (w : World) (h1 : OwnX 65 3 symC w B v (symMarks k n)) (hs : n ≤ 100000) (hk0 : 0 < k) (hk1 : k ≤ 1000000) :
    Calls Try.prog 93 #[v, .int .i64 (k : Int)] w fun e w' => e = .returned (.int .i64 ((k + 3 * n : Nat) : Int)) ∧ Below w.heap.size w w' := by
  rcases h1.form with ⟨rfl, e⟩ | ⟨g, cap, cur, rfl, hB, hg, h4, h5, h6, h7⟩
  · clear h1
    obtain rfl : n = 0 := by have := congrArg List.length e; simpa [symMarks] using this
    go_enter Try.func93, Try.ntmps93
    go_wp2
    refine wp_loop_rounds 1 ?_
    rw [rounds_succ]
    go_wp2
    go_ret
    exact ⟨ret_int (by simp), Below.refl _ _⟩
  · have HLt : Hid (g < w.heap.size) := heap_lt hg
    have HC : Hid (∀ j, j < n → ∀ W, Below w.heap.size w W → W.cell? ⟨g, j * 3, none⟩ = some (.string (markT (k + 3 * j))) ∧ W.cell? ⟨g, j * 3 + 1, none⟩ = some (.int .i64 (((k + 3 * j : Nat) : Int) + 1)) ∧ W.cell? ⟨g, j * 3 + 2, none⟩ = some (.bool ((((k + 3 * j : Nat) : Int) + 1 + 1).tmod 3 == 0))) := fun j hj W hW => by
      have hgW : W.heap[g]? = some (.cells cur 65 (0, 0)) := heap_keep hg hW
      have hjl : j < (symMarks k n).length := by rwa [symMarks_len]
      have hx : ∀ m, m < 3 → cur[j * 3 + m]? = (symC (symMark (k + 3 * j)))[m]? := fun m hm => by
        have hlt : j * 3 + m < (symMarks k n).length * 3 := by rw [symMarks_len]; omega
        have e := congrArg (fun l => l[j * 3 + m]?) h7
        simp only [List.getElem?_take, if_pos hlt] at e
        rw [flat_get 3 symC symC_len _ j m hjl hm, symMarks_at] at e
        simpa using e
      refine ⟨?_, ?_, ?_⟩
      · rw [cell_of_row _ _ _ _ _ _ hgW]; exact hx 0 (by omega)
      · rw [cell_of_row _ _ _ _ _ _ hgW]; exact hx 1 (by omega)
      · rw [cell_of_row _ _ _ _ _ _ hgW]; exact hx 2 (by omega)
    rw [symMarks_len]
    rw [symMarks_len] at h4
    clear h1 h7 hg h6
    unfold maxLen at h5
    go_enter Try.func93, Try.ntmps93
    go_wp2
    go_loopw [1, 5] (fun q i wr => ∃ (j : Nat), j ≤ n ∧ i = .int .i64 j ∧ q = .int .i64 ((k + 3 * j : Nat) : Int) ∧ Hid (Below w.heap.size w wr)) (fun _ i _ => n - (intOf i).toNat)
    case atStart => exact ⟨0, by omega, rfl, by simp, Below.refl _ _⟩
    case round =>
      obtain ⟨j, hj, rfl, rfl, HB⟩ := hrel
      by_cases hlt : j < n
      · obtain ⟨q0, q1, q2⟩ := HC.out j hlt wr HB.out
        obtain ⟨N, hN⟩ : ∃ N, k + 3 * j = N := ⟨_, rfl⟩
        rw [hN]
        rw [hN] at q0; rw [hN] at q1; rw [hN] at q2; skip
        have hi0 : (0 : Int) ≤ (j : Int) := by omega
        have hi1 : (j : Int) < (n : Int) := by omega
        have hkj : N ≤ 3000000 := by omega
        have HN : Hid (k + 3 * j = N) := hN
        have hN0 : 0 < N := by omega
        clear hN
        have hne : ((markT (N)).toList == (markT (N)).toList) = true := by simp
        go_wp2_with fail
        go_region_held3 (fun w' => w'.cell? ⟨g, j * 3, none⟩ = some (.string (markT (N)))) (go_keep) (first
          | (go_at_call 103; refine (markText_is (k := N) (by first | rfl | omega) _ (by omega) (by omega)).mono ?_; rintro e y ⟨rfl, hb⟩; have HB2 : Hid (Below w.heap.size w y) := below_call (by exact HB.out.drew) hb; obtain ⟨r0, r1, r2⟩ := HC.out j hlt y HB2.out; rw [HN.out] at r0; rw [HN.out] at r1; rw [HN.out] at r2; clear hb))
        go_wp2
        go_roundw
        case rel => exact ⟨j + 1, by omega, by go_num, by have := HN.out; congr 1; omega, HB2.out⟩
        case measure => simp [intOf]; omega
      · obtain rfl : j = n := by omega
        go_wp2
        go_ret
        exact ⟨rfl, HB.out⟩
set_option maxRecDepth 100000 in
set_option maxHeartbeats 3200000 in
theorem heldRefS_any (v : Value) (B : Nat) (n k : Nat) (w : World) (h1 : OwnX 70 4 refC w B v (refMarks k n)) (hs : n ≤ 100000) (hk0 : 0 < k) (hk1 : k ≤ 1000000) :
    Calls Try.prog 94 #[v, .int .i64 (k : Int)] w fun e w' => e = .returned (.int .i64 ((k + 4 * n : Nat) : Int)) ∧ Below w.heap.size w w' := by
  rcases h1.form with ⟨rfl, e⟩ | ⟨g, cap, cur, rfl, hB, hg, h4, h5, h6, h7⟩
  · clear h1
    obtain rfl : n = 0 := by have := congrArg List.length e; simpa [refMarks] using this
    go_enter Try.func94, Try.ntmps94
    go_wp2
    refine wp_loop_rounds 1 ?_
    rw [rounds_succ]
    go_wp2
    go_ret
    exact ⟨ret_int (by simp), Below.refl _ _⟩
  · have HLt : Hid (g < w.heap.size) := heap_lt hg
    have HC : Hid (∀ j, j < n → ∀ W, Below w.heap.size w W → W.cell? ⟨g, j * 4, none⟩ = some (.int .i64 ((k + 4 * j : Nat) : Int)) ∧ W.cell? ⟨g, j * 4 + 1, none⟩ = some (.string (markT (k + 4 * j + 1))) ∧ W.cell? ⟨g, j * 4 + 2, none⟩ = some (.int .i64 (((k + 4 * j : Nat) : Int) + 1 + 1)) ∧ W.cell? ⟨g, j * 4 + 3, none⟩ = some (.bool ((((k + 4 * j : Nat) : Int) + 1 + 1 + 1).tmod 3 == 0))) := fun j hj W hW => by
      have hgW : W.heap[g]? = some (.cells cur 70 (0, 0)) := heap_keep hg hW
      have hjl : j < (refMarks k n).length := by rwa [refMarks_len]
      have hx : ∀ m, m < 4 → cur[j * 4 + m]? = (refC (refMark (k + 4 * j)))[m]? := fun m hm => by
        have hlt : j * 4 + m < (refMarks k n).length * 4 := by rw [refMarks_len]; omega
        have e := congrArg (fun l => l[j * 4 + m]?) h7
        simp only [List.getElem?_take, if_pos hlt] at e
        rw [flat_get 4 refC refC_len _ j m hjl hm, refMarks_at] at e
        simpa using e
      refine ⟨?_, ?_, ?_, ?_⟩
      · rw [cell_of_row _ _ _ _ _ _ hgW]; exact hx 0 (by omega)
      · rw [cell_of_row _ _ _ _ _ _ hgW]; exact hx 1 (by omega)
      · rw [cell_of_row _ _ _ _ _ _ hgW]; exact hx 2 (by omega)
      · rw [cell_of_row _ _ _ _ _ _ hgW]; exact hx 3 (by omega)
    rw [refMarks_len]
    rw [refMarks_len] at h4
    clear h1 h7 hg h6
    unfold maxLen at h5
    go_enter Try.func94, Try.ntmps94
    go_wp2
    go_loopw [1, 5] (fun q i wr => ∃ (j : Nat), j ≤ n ∧ i = .int .i64 j ∧ q = .int .i64 ((k + 4 * j : Nat) : Int) ∧ Hid (Below w.heap.size w wr)) (fun _ i _ => n - (intOf i).toNat)
    case atStart => exact ⟨0, by omega, rfl, by simp, Below.refl _ _⟩
    case round =>
      obtain ⟨j, hj, rfl, rfl, HB⟩ := hrel
      by_cases hlt : j < n
      · obtain ⟨q0, q1, q2, q3⟩ := HC.out j hlt wr HB.out
        obtain ⟨N, hN⟩ : ∃ N, k + 4 * j = N := ⟨_, rfl⟩
        rw [hN]
        rw [hN] at q0; rw [hN] at q1; rw [hN] at q2; rw [hN] at q3; skip
        have hi0 : (0 : Int) ≤ (j : Int) := by omega
        have hi1 : (j : Int) < (n : Int) := by omega
        have hkj : N ≤ 3000000 := by omega
        have HN : Hid (k + 4 * j = N) := hN
        have hN0 : 0 < N := by omega
        clear hN
        have hne : ((markT (N + 1)).toList == (markT (N + 1)).toList) = true := by simp
        go_wp2_with fail
        go_region_held3 (fun w' => w'.cell? ⟨g, j * 4 + 1, none⟩ = some (.string (markT (N + 1)))) (go_keep) (first
          | (go_at_call 103; refine (markText_is (k := N + 1) (by first | rfl | omega) _ (by omega) (by omega)).mono ?_; rintro e y ⟨rfl, hb⟩; have HB2 : Hid (Below w.heap.size w y) := below_call (by exact HB.out.drew) hb; obtain ⟨r0, r1, r2, r3⟩ := HC.out j hlt y HB2.out; rw [HN.out] at r0; rw [HN.out] at r1; rw [HN.out] at r2; rw [HN.out] at r3; clear hb))
        go_wp2
        go_roundw
        case rel => exact ⟨j + 1, by omega, by go_num, by have := HN.out; congr 1; omega, HB2.out⟩
        case measure => simp [intOf]; omega
      · obtain rfl : j = n := by omega
        go_wp2
        go_ret
        exact ⟨rfl, HB.out⟩
end Go.Proofs.Ytcnjeeckkpiilaa
