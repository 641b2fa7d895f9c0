/- Rows of numbers, Syms and Refs as bytes, by the program. -/
import Derived.Test.YtnhehdobpibgkaaGreatDoorRows
import Derived.WalkKit
import Derived.WalkSpells
import Derived.WalkLawsBesides
import Derived.Outline
import Derived.RegionTactic
import Derived.BigRegion
import Derived.Deep.RegionHeld3
import Derived.Test.YtnhehdobpibgkaaGreatDoorBun0
import Derived.Test.YtnhehdobpibgkaaGreatDoorBun1
import Derived.Test.YtnhehdobpibgkaaGreatDoorBun2
import Derived.Test.YtnhehdobpibgkaaGreatDoorBun29
import Derived.Test.YtnhehdobpibgkaaGreatDoorBun30
import Derived.Test.YtnhehdobpibgkaaGreatDoorBun11
import Derived.Test.YtnhehdobpibgkaaGreatDoorBun22
import Derived.Test.YtnhehdobpibgkaaGreatDoorSrcRZq
import Derived.Laws.Cover1
import Derived.Deep.QuietTactic
import Derived.BigQuiet
namespace Go.Proofs.YtnhehdobpibgkaaGreatDoor
open Go.RowKit
set_option linter.unusedVariables false

def numT (n : Int) : ByteArray := putS (foldN n)
def flagT (b : Bool) : ByteArray := putS (foldN (if b then 1 else 0))
theorem numT_le (n : Int) : (numT n).size ≤ 10 := putS_le _
theorem flagT_le (b : Bool) : (flagT b).size ≤ 10 := putS_le _
theorem putT_le (s : ByteArray) : (putT s).size ≤ 8010 := by
  unfold putT
  by_cases h : 8000 < s.size
  · rw [if_pos h]; show 0 ≤ _; omega
  · rw [if_neg h, ByteArray.size_append]
    have := putS_le (foldN (s.size : Int))
    omega
def symT (s : symE) : ByteArray := catL [putT s.1, numT s.2.1, flagT s.2.2]
def refT (r : refE) : ByteArray := catL [numT r.1, putT r.2.1, numT r.2.2.1, flagT r.2.2.2]
theorem implNum_any (n : Int) (w : World) (h0 : -9223372036854775808 ≤ n) (h1 : n ≤ 9223372036854775807) :
    Calls Tryz.prog 72 #[.int .i64 n] w fun e w' => e = .returned (.string (numT n)) ∧ Below w.heap.size w w' := implPutNum_any n w h0 h1
theorem join3X (a b c : ByteArray) (w : World) (h : a.size + b.size + c.size ≤ 400000000) :
    Calls Tryz.prog 55 #[.slice (some ⟨w.heap.size, 0, none⟩) 3 3] (w.alloc (.cells #[.string a, .string b, .string c] 9)) fun e w' => e = .returned (.string (catL [a, b, c])) ∧ Below w.heap.size w w' :=
  join_new [a, b, c] 3 w rfl (by omega) (by simp [catL]; omega)
theorem join4X (a b c d : ByteArray) (w : World) (h : a.size + b.size + c.size + d.size ≤ 400000000) :
    Calls Tryz.prog 55 #[.slice (some ⟨w.heap.size, 0, none⟩) 4 4] (w.alloc (.cells #[.string a, .string b, .string c, .string d] 9)) fun e w' => e = .returned (.string (catL [a, b, c, d])) ∧ Below w.heap.size w w' :=
  join_new [a, b, c, d] 4 w rfl (by omega) (by simp [catL]; omega)
theorem join2X (a b : ByteArray) (w : World) (h : a.size + b.size ≤ 400000000) :
    Calls Tryz.prog 55 #[.slice (some ⟨w.heap.size, 0, none⟩) 2 2] (w.alloc (.cells #[.string a, .string b] 9)) fun e w' => e = .returned (.string (catL [a, b])) ∧ Below w.heap.size w w' :=
  join_new [a, b] 2 w rfl (by omega) (by simp [catL]; omega)
theorem cells3L {W : World} {B : Nat} {t : TypeId} {v0 v1 v2 : Value} (hR : W.heap[B]? = some (.cells #[v0, v1, v2] t (0, 0))) : W.cell? ⟨B, 0, none⟩ = some v0 ∧ W.cell? ⟨B, 1, none⟩ = some v1 ∧ W.cell? ⟨B, 2, none⟩ = some v2 := ⟨cell_of_row _ _ 0 _ _ _ hR, cell_of_row _ _ 1 _ _ _ hR, cell_of_row _ _ 2 _ _ _ hR⟩
theorem cells4L {W : World} {B : Nat} {t : TypeId} {v0 v1 v2 v3 : Value} (hR : W.heap[B]? = some (.cells #[v0, v1, v2, v3] t (0, 0))) : W.cell? ⟨B, 0, none⟩ = some v0 ∧ W.cell? ⟨B, 1, none⟩ = some v1 ∧ W.cell? ⟨B, 2, none⟩ = some v2 ∧ W.cell? ⟨B, 3, none⟩ = some v3 := ⟨cell_of_row _ _ 0 _ _ _ hR, cell_of_row _ _ 1 _ _ _ hR, cell_of_row _ _ 2 _ _ _ hR, cell_of_row _ _ 3 _ _ _ hR⟩
def is64 (n : Int) : Prop := -9223372036854775808 ≤ n ∧ n ≤ 9223372036854775807
end Go.Proofs.YtnhehdobpibgkaaGreatDoor
namespace Go.Proofs.YtnhehdobpibgkaaGreatDoor
open Go.RowKit
set_option linter.unusedVariables false

def zrowI (n : Nat) : Array Value := (List.replicate n (.int .i64 0)).toArray
theorem makeI (n : Nat) (hn : n ≤ 2000000) (w : World) : (Instr.makeSlice 88 (.int .i64 (n : Int)) (.int .i64 (n : Int))).run Tryz.prog w = .ok (.slice (some ⟨w.heap.size, 0, none⟩) n n) (w.alloc (.cells (zrowI n) 2)) := by
  obtain ⟨i0, hi, hz0, hz1, hz2⟩ := info_parts infoI
  rw [run_make (P := Tryz.prog) w 88 2 i0 (.int .i64 0) Tryz.underlying88 hi hz0 .i64 .i64 n n (by omega) (by omega) (by rw [hz2]; omega) (by omega)]
  have e : madeCells (Value.int .i64 0).cells (n * i0.size) = zrowI n := by
    rw [hz1]
    apply Array.ext
    · simp [madeCells, zrowI]
    · intro i h1 h2
      simp [madeCells, zrowI, Value.cells]
      rw [show i % 1 = 0 by omega]; rfl
  rw [Int.toNat_natCast, e]
/- What it made, as a row that is read and as one that is owned. -/
theorem made_read {w : World} {g : Nat} {L : List Int} (h : w.heap[g]? = some (.cells (L.map (Value.int .i64)).toArray 2 (0, 0))) : ReadI w (some ⟨g, 0, none⟩) L := fun hl => by
  refine ⟨_, rfl, heap_lt h, fun i hi => ?_⟩
  have e : (⟨g, 0, none⟩ : Addr).add i = ⟨g, i, none⟩ := by
    cases i with
    | zero => rfl
    | succ i => simp [Addr.add]
  rw [e, cell_of_row w g i _ _ _ h]
  simp [hi]
theorem made_own {w : World} {g B : Nat} {L : List Int} (h : w.heap[g]? = some (.cells (L.map (Value.int .i64)).toArray 2 (0, 0))) (hB : B ≤ g) (hl : L.length ≤ 2000000) : OwnI w B (.slice (some ⟨g, 0, none⟩) L.length L.length) L :=
  OwnI.mk hB h (Nat.le_refl _) (by unfold maxLen; omega) (by simp) (fun i hi => by simp [hi])
end Go.Proofs.YtnhehdobpibgkaaGreatDoor
namespace Go.Proofs.YtnhehdobpibgkaaGreatDoor
open Go.RowKit
set_option linter.unusedVariables false

def symOk (n : Nat) (S : List symE) (k : Nat) : Bool := match S[k]? with | none => true | some s => nameB s.1 && (isB s.2.1 0 n && (match k with | 0 => true | j + 1 => match S[j]? with | none => true | some p => upB p.1 s.1))
def refOk (n : Nat) (R : List refE) (k : Nat) : Bool := match R[k]? with | none => true | some r => nameB r.2.1 && (isB r.1 0 ((n : Int) - 1) && (isB r.2.2.1 (-32767) 32767 && (match k with | 0 => true | j + 1 => match R[j]? with | none => true | some p => decide (p.1 < r.1))))
def symsB (n : Nat) (S : List symE) : Bool := decide (∀ k, k < S.length → symOk n S k = true)
def refsB (n : Nat) (R : List refE) : Bool := decide (∀ k, k < R.length → refOk n R k = true)
def objB (W : List Int) (S : List symE) (R : List refE) : Bool := decide (W.length ≤ 300) && (wordsB W && (symsB W.length S && refsB W.length R))
theorem symsB_no {n : Nat} {S : List symE} {k : Nat} (hk : k < S.length) (h : symOk n S k = false) : symsB n S = false := decide_eq_false (fun x => by rw [x k hk] at h; cases h)
theorem refsB_no {n : Nat} {R : List refE} {k : Nat} (hk : k < R.length) (h : refOk n R k = false) : refsB n R = false := decide_eq_false (fun x => by rw [x k hk] at h; cases h)
theorem sym0 {n : Nat} {S : List symE} (h : 0 < S.length) : symOk n S 0 = (nameB S[0].1 && isB S[0].2.1 0 n) := by
  unfold symOk
  rw [List.getElem?_eq_getElem h]
  simp
theorem symS {n : Nat} {S : List symE} {k : Nat} (h : k + 1 < S.length) : symOk n S (k + 1) = (nameB S[k + 1].1 && (isB S[k + 1].2.1 0 n && upB S[k].1 S[k + 1].1)) := by
  unfold symOk
  rw [List.getElem?_eq_getElem h]
  dsimp only
  rw [List.getElem?_eq_getElem (show k < S.length by omega)]
theorem ref0 {n : Nat} {R : List refE} (h : 0 < R.length) : refOk n R 0 = (nameB R[0].2.1 && (isB R[0].1 0 ((n : Int) - 1) && isB R[0].2.2.1 (-32767) 32767)) := by
  unfold refOk
  rw [List.getElem?_eq_getElem h]
  simp
theorem refS {n : Nat} {R : List refE} {k : Nat} (h : k + 1 < R.length) : refOk n R (k + 1) = (nameB R[k + 1].2.1 && (isB R[k + 1].1 0 ((n : Int) - 1) && (isB R[k + 1].2.2.1 (-32767) 32767 && decide (R[k].1 < R[k + 1].1)))) := by
  unfold refOk
  rw [List.getElem?_eq_getElem h]
  dsimp only
  rw [List.getElem?_eq_getElem (show k < R.length by omega)]
theorem isB_no {n lo hi : Int} (h : isB n lo hi = false) : n < lo ∨ (¬ n < lo ∧ hi < n) := by
  by_cases h1 : n < lo
  · exact .inl h1
  · refine .inr ⟨h1, ?_⟩
    unfold isB at h
    rw [decide_eq_true (show lo ≤ n by omega), Bool.true_and] at h
    have := of_decide_eq_false h
    omega
theorem isB_yes {n lo hi : Int} (h : isB n lo hi = true) : ¬ n < lo ∧ ¬ hi < n := by
  unfold isB at h
  rw [Bool.and_eq_true, decide_eq_true_iff, decide_eq_true_iff] at h
  omega
theorem l02Is_is {n lo hi : Int} {b : Bool} (w : World) (h : isB n lo hi = b) : Calls Tryz.prog 31 #[.int .i64 n, .int .i64 lo, .int .i64 hi] w fun e w' => e = .returned (.bool b) ∧ w' = w := h ▸ l02Is_any n lo hi w
end Go.Proofs.YtnhehdobpibgkaaGreatDoor
namespace Go.Proofs.YtnhehdobpibgkaaGreatDoor
open Go.RowKit
set_option linter.unusedVariables false

end Go.Proofs.YtnhehdobpibgkaaGreatDoor
namespace Go.Proofs.YtnhehdobpibgkaaGreatDoor
open Go.RowKit
set_option linter.unusedVariables false

theorem cells3o {W : World} {B : Nat} {t : TypeId} {fr : Nat × Nat} {v0 v1 v2 : Value} (h : W.heap[B]? = some (.cells #[v0, v1, v2] t fr)) : W.cell? ⟨B, 0, none⟩ = some v0 ∧ W.cell? ⟨B, 1, none⟩ = some v1 ∧ W.cell? ⟨B, 2, none⟩ = some v2 := by
  refine ⟨?_, ?_, ?_⟩ <;> simp [World.cell?, h]
theorem objB_300 {W : List Int} {S : List symE} {R : List refE} (h : 300 < W.length) : objB W S R = false := by
  unfold objB; rw [decide_eq_false (by omega)]; rfl
theorem objB_is {W : List Int} {S : List symE} {R : List refE} (h : ¬ 300 < W.length) : objB W S R = (wordsB W && (symsB W.length S && refsB W.length R)) := by
  unfold objB; rw [decide_eq_true (by omega)]; rfl
/- What an object's three slices read as. -/
structure ObjIs (w : World) (a b c : Option Addr) (W : List Int) (S : List symE) (R : List refE) : Prop where
  ws : ReadI w a W
  ss : RowIs 3 symC w b S
  rs : RowIs 4 refC w c R
theorem ObjIs.below {w w' : World} {a b c : Option Addr} {W : List Int} {S : List symE} {R : List refE} (h : ObjIs w a b c W S R) (hb : Below w.heap.size w w') : ObjIs w' a b c W S R := ⟨h.ws.below hb, h.ss.below hb, h.rs.below hb⟩
structure ObjFits (W : List Int) (S : List symE) (R : List refE) : Prop where
  wl : W.length ≤ 1048576
  sl : S.length ≤ 1048576
  rl : R.length ≤ 1048576
  st : ∀ s ∈ S, fitssym s
  rt : ∀ s ∈ R, fitsref s
/- What an object's lists are, before their sizes are known. -/
structure ObjRaw (W : List Int) (S : List symE) (R : List refE) : Prop where
  wl : W.length ≤ maxLen
  sl : S.length ≤ maxLen
  rl : R.length ≤ maxLen
  st : ∀ s ∈ S, textssym s
  rt : ∀ s ∈ R, textsref s
end Go.Proofs.YtnhehdobpibgkaaGreatDoor
namespace Go.Proofs.YtnhehdobpibgkaaGreatDoor
open Go.RowKit
set_option linter.unusedVariables false

theorem OwnS.moreX {w : World} {B : Nat} {v : Value} {L : List ByteArray} {t : ByteArray} (h : w.ownsRow B 9 1 v (L.length + 1) (cellsS L ++ [.string t])) : OwnS w B v (L ++ [t]) := by
  unfold OwnS
  rw [List.length_append]
  simpa [cellsS] using h
theorem catL_bound {ts : List ByteArray} {c : Nat} (h : ∀ t ∈ ts, t.size ≤ c) : (catL ts).size ≤ ts.length * c := by
  induction ts with
  | nil => simp [catL]
  | cons t ts ih =>
    have h1 := h t (List.mem_cons_self ..)
    have h2 := ih (fun u hu => h u (List.mem_cons_of_mem _ hu))
    simp only [catL, ByteArray.size_append, List.length_cons, Nat.succ_mul]
    omega
theorem take_map_succ {α : Type} (f : α → ByteArray) (L : List α) (k : Nat) (h : k < L.length) : (L.take (k + 1)).map f = (L.take k).map f ++ [f L[k]] := by
  rw [List.take_succ_eq_append_getElem h, List.map_append]; rfl
theorem putT_small {s : ByteArray} (h : s.size ≤ 20) : (putT s).size ≤ 30 := by
  unfold putT
  rw [if_neg (by omega), ByteArray.size_append]
  have := putS_le (foldN (s.size : Int))
  omega
theorem symT_le {s : symE} (h : s.1.size ≤ 20) : (symT s).size ≤ 60 := by
  have h1 := putT_small h
  have h2 := numT_le s.2.1
  have h3 := flagT_le s.2.2
  unfold symT
  simp only [catL, ByteArray.size_append]
  show _ + (_ + (_ + 0)) ≤ 60
  omega
theorem refT_le {s : refE} (h : s.2.1.size ≤ 20) : (refT s).size ≤ 70 := by
  have h1 := putT_small h
  have h2 := numT_le s.1
  have h4 := numT_le s.2.2.1
  have h3 := flagT_le s.2.2.2
  unfold refT
  simp only [catL, ByteArray.size_append]
  show _ + (_ + (_ + (_ + 0))) ≤ 70
  omega
def layN (W : List Int) : ByteArray := catL [numT (W.length : Int), catL (W.map numT)]
def layS (S : List symE) : ByteArray := catL [numT (S.length : Int), catL (S.map symT)]
def layR (R : List refE) : ByteArray := catL [numT (R.length : Int), catL (R.map refT)]
def objT (W : List Int) (S : List symE) (R : List refE) : ByteArray := catL [layN W, layS S, layR R]
def objU (W : List Int) (S : List symE) (R : List refE) : ByteArray := if 8000 < (objT W S R).size then ⟨#[]⟩ else objT W S R
def objO (W : List Int) (S : List symE) (R : List refE) : ByteArray := if objB W S R = true then objU W S R else ⟨#[]⟩
theorem lay_le {α : Type} (f : α → ByteArray) (L : List α) (c : Nat) (h : ∀ a ∈ L, (f a).size ≤ c) (hl : L.length ≤ 1048576) : (catL [numT (L.length : Int), catL (L.map f)]).size ≤ 10 + 1048576 * c := by
  have h1 := numT_le (L.length : Int)
  have h2 : (catL (L.map f)).size ≤ L.length * c := by
    have := catL_bound (ts := L.map f) (c := c) (fun t ht => by obtain ⟨n, hn, rfl⟩ := List.mem_map.1 ht; exact h n hn)
    rwa [List.length_map] at this
  have h3 : L.length * c ≤ 1048576 * c := Nat.mul_le_mul_right c hl
  simp only [catL, ByteArray.size_append]
  show _ + (_ + 0) ≤ _
  omega
theorem nameB_size {s : ByteArray} (h : nameB s = true) : s.size ≤ 20 := by
  by_cases h2 : s.size ≤ 20
  · exact h2
  · rw [nameB_f (.inr (by omega))] at h; cases h
/- What a right object holds. -/
theorem obj_nums {W : List Int} {S : List symE} {R : List refE} (h : objB W S R = true) : (∀ n ∈ W, is64 n) ∧ (∀ s ∈ S, s.1.size ≤ 20 ∧ is64 s.2.1) ∧ (∀ s ∈ R, s.2.1.size ≤ 20 ∧ is64 s.1 ∧ is64 s.2.2.1) := by
  unfold objB at h
  simp only [Bool.and_eq_true, decide_eq_true_iff] at h
  obtain ⟨hl, hw, hs, hr⟩ := h
  have hs' := of_decide_eq_true hs
  have hr' := of_decide_eq_true hr
  refine ⟨fun n hn => ?_, fun s hs1 => ?_, fun s hs1 => ?_⟩
  · have := isB_yes (List.all_eq_true.1 hw n hn)
    unfold is64; omega
  · obtain ⟨k, hk, rfl⟩ := List.getElem_of_mem hs1
    have := hs' k hk
    unfold symOk at this
    rw [List.getElem?_eq_getElem hk] at this
    simp only [Bool.and_eq_true] at this
    obtain ⟨h1, h2, _⟩ := this
    have h3 := isB_yes h2
    refine ⟨nameB_size h1, ?_⟩
    unfold is64; omega
  · obtain ⟨k, hk, rfl⟩ := List.getElem_of_mem hs1
    have := hr' k hk
    unfold refOk at this
    rw [List.getElem?_eq_getElem hk] at this
    simp only [Bool.and_eq_true] at this
    obtain ⟨h1, h2, h4, _⟩ := this
    have h3 := isB_yes h2
    have h5 := isB_yes h4
    refine ⟨nameB_size h1, ?_, ?_⟩ <;> (unfold is64; omega)
end Go.Proofs.YtnhehdobpibgkaaGreatDoor
