/- Rows of numbers that a call itself makes; the laws' own helpers over them. -/
import Derived.Test.YtknielpkmablkaaDoorRows
import Derived.WalkKit
import Derived.WalkSpells
import Derived.WalkLawsBesides
import Derived.Outline
import Derived.RegionTactic
import Derived.BigRegion
import Derived.Deep.QuietTactic
import Derived.BigQuiet
import Derived.Test.YtknielpkmablkaaDoorBun0
namespace Go.Proofs.YtknielpkmablkaaDoor
open Go.RowKit

theorem below_drewN {B : Nat} {a w : World} (h : Below B a w) (n : Nat) : Below B a (w.drewN n) := ⟨h.os, h.tape, h.output, h.size, h.block⟩
def cellsI (L : List Int) : List Value := L.map (Value.int .i64)
def OwnI (w : World) (B : Nat) (v : Value) (L : List Int) : Prop := w.ownsRow B 2 1 v L.length (cellsI L)
theorem infoI : (Tryd.prog.info? 2).map (fun i => (i.zero, i.size, i.bytes)) = some (some (.int .i64 0), 1, 8) := by kernel_rfl
theorem one_cellI (x : Int) : ∀ u ∈ [Value.int .i64 x], u.oneCell' = true := by intro u hu; simp at hu; subst hu; rfl
theorem OwnI.stays {w w' : World} {B : Nat} {v : Value} {L : List Int} (h : OwnI w B v L) (hb : Below w.heap.size w w') : OwnI w' B v L := by
  obtain ⟨h1, h2⟩ := h
  refine ⟨h1, ?_⟩
  rcases h2 with h2 | ⟨g, cap, cur, hv, hB, hg, rest⟩
  · exact .inl h2
  · exact .inr ⟨g, cap, cur, hv, hB, heap_keep hg hb, rest⟩
theorem OwnI.alloc {w : World} {B : Nat} {v : Value} {L : List Int} (h : OwnI w B v L) (o : Obj) : OwnI (w.alloc o) B v L := h.stays (below_new w o)
theorem OwnI.low {w : World} {B B' : Nat} {v : Value} {L : List Int} (h : OwnI w B v L) (hB : B' ≤ B) : OwnI w B' v L := by
  obtain ⟨h1, h2⟩ := h
  refine ⟨h1, ?_⟩
  rcases h2 with h2 | ⟨g, cap, cur, hv, hg, rest⟩
  · exact .inl h2
  · exact .inr ⟨g, cap, cur, hv, by omega, rest⟩
theorem OwnI.nil (w : World) (B : Nat) : OwnI w B (.slice none 0 0) [] := ⟨rfl, .inl ⟨rfl, rfl⟩⟩
/- What such a row is: nothing, or a block whose first cells are the numbers. -/
theorem OwnI.form {w : World} {B : Nat} {v : Value} {L : List Int} (h : OwnI w B v L) :
    (v = .slice none 0 0 ∧ L = []) ∨ ∃ g cap cur, v = .slice (some ⟨g, 0, none⟩) L.length cap ∧ B ≤ g ∧ w.heap[g]? = some (.cells cur 2 (0, 0)) ∧ L.length ≤ cap ∧ cap ≤ maxLen ∧ cur.size = cap ∧ (∀ i (hi : i < L.length), cur[i]? = some (.int .i64 L[i])) := by
  obtain ⟨h1, h2⟩ := h
  rcases h2 with ⟨h2, h3⟩ | ⟨g, cap, cur, hv, hB, hg, h4, h5, h6, h7⟩
  · exact .inl ⟨h2, List.eq_nil_of_length_eq_zero h3⟩
  · refine .inr ⟨g, cap, cur, hv, hB, hg, h4, h5, by omega, fun i hi => ?_⟩
    have e := congrArg (fun l => l[i]?) h7
    simp only [Nat.mul_one, List.getElem?_take, if_pos hi, cellsI, List.getElem?_map, List.getElem?_eq_getElem hi] at e
    simpa using e
theorem OwnI.mk {w : World} {B g cap : Nat} {cur : Array Value} {L : List Int} (hB : B ≤ g) (hg : w.heap[g]? = some (.cells cur 2 (0, 0))) (h4 : L.length ≤ cap) (h5 : cap ≤ maxLen) (h6 : cur.size = cap) (h7 : ∀ i (hi : i < L.length), cur[i]? = some (.int .i64 L[i])) : OwnI w B (.slice (some ⟨g, 0, none⟩) L.length cap) L := by
  refine ⟨by simp [cellsI], .inr ⟨g, cap, cur, rfl, hB, hg, h4, h5, by omega, ?_⟩⟩
  apply List.ext_getElem?
  intro i
  rw [List.getElem?_take, Nat.mul_one]
  by_cases hi : i < L.length
  · rw [if_pos hi]
    have := h7 i hi
    simp [cellsI, hi]
    simpa using this
  · rw [if_neg hi, List.getElem?_eq_none (by simp [cellsI]; omega)]
theorem eq_step {A B : List Int} (hl : A.length = B.length) (k : Nat) (hk : k < A.length) (he : A[k] = B[k]'(by omega)) : (A.drop k = B.drop k ↔ A.drop (k + 1) = B.drop (k + 1)) := by
  have e1 := List.drop_eq_getElem_cons hk
  have e2 := List.drop_eq_getElem_cons (show k < B.length by omega)
  constructor
  · intro h; rw [e1, e2] at h; exact (List.cons.inj h).2
  · intro h; rw [e1, e2, h, he]
theorem eq_stop {A B : List Int} (k : Nat) (hk : k < A.length) (hk2 : k < B.length) (he : ¬ A[k] = B[k]) : ¬ A = B := fun e => by subst e; exact he rfl
set_option maxRecDepth 100000 in
set_option maxHeartbeats 1600000 in
theorem eqInt64S_any (v1 v2 : Value) (B1 B2 : Nat) (L1 L2 : List Int) (w : World) (h1 : OwnI w B1 v1 L1) (h2 : OwnI w B2 v2 L2) (hs : L1.length ≤ 2000000) (hs2 : L2.length ≤ 2000000) :
    Calls Tryd.prog 9 #[v1, v2] w fun e w' => e = .returned (.bool (decide (L1 = L2))) ∧ Below w.heap.size w w' := by
  have HF1 : Hid (_) := h1.form
  have HF2 : Hid (_) := h2.form
  clear h1 h2
  obtain ⟨a1, c1, rfl⟩ : ∃ a c, v1 = .slice a L1.length c := by
    rcases HF1.out with ⟨h, e⟩ | ⟨g, cap, _, h, _⟩
    · subst e; exact ⟨_, _, h⟩
    · exact ⟨_, _, h⟩
  obtain ⟨a2, c2, rfl⟩ : ∃ a c, v2 = .slice a L2.length c := by
    rcases HF2.out with ⟨h, e⟩ | ⟨g, cap, _, h, _⟩
    · subst e; exact ⟨_, _, h⟩
    · exact ⟨_, _, h⟩
  by_cases hl : L1.length = L2.length
  · have HL : Hid (_ = _) := hl
    have hlb : ((L1.length : Int) != (L2.length : Int)) = false := by simp [hl]
    clear hl
    go_enter Tryd.func9, Tryd.ntmps9
    go_wp2
    go_loopw [5] (fun i wr => ∃ k : Nat, k ≤ L1.length ∧ i = .int .i64 k ∧ Hid (Below w.heap.size w wr) ∧ Hid (L1 = L2 ↔ L1.drop k = L2.drop k)) (fun i _ => L1.length - (intOf i).toNat)
    case atStart => exact ⟨0, by omega, rfl, Below.refl _ _, Iff.rfl⟩
    case round =>
      obtain ⟨k, hk, rfl, HB, HE⟩ := hrel
      by_cases hlt : k < L1.length
      · have hlt2 : k < L2.length := by have := HL.out; omega
        obtain ⟨g1, rfl, hc1⟩ : ∃ g, a1 = some ⟨g, 0, none⟩ ∧ w.cell? ⟨g, k, none⟩ = some (.int .i64 L1[k]) := by
          rcases HF1.out with ⟨_, e⟩ | ⟨g, cap, cur, h, _, hg, _, _, _, hh⟩
          · subst e; simp at hlt
          · exact ⟨g, by cases h; rfl, by simp [World.cell?, hg, hh k hlt]⟩
        obtain ⟨g2, rfl, hc2⟩ : ∃ g, a2 = some ⟨g, 0, none⟩ ∧ w.cell? ⟨g, k, none⟩ = some (.int .i64 L2[k]) := by
          rcases HF2.out with ⟨_, e⟩ | ⟨g, cap, cur, h, _, hg, _, _, _, hh⟩
          · subst e; simp at hlt2
          · exact ⟨g, by cases h; rfl, by simp [World.cell?, hg, hh k hlt2]⟩
        have hw1 : wr.cell? ⟨g1, k, none⟩ = some (.int .i64 L1[k]) := (HB.out.cell (p := ⟨g1, k, none⟩) (World.block_lt_of_cell? w _ hc1)).trans hc1
        have hw2 : wr.cell? ⟨g2, k, none⟩ = some (.int .i64 L2[k]) := (HB.out.cell (p := ⟨g2, k, none⟩) (World.block_lt_of_cell? w _ hc2)).trans hc2
        clear hc1 hc2
        have hi0 : (0 : Int) ≤ (k : Int) := by omega
        have hi1 : (k : Int) < (L1.length : Int) := by omega
        have hi2 : (k : Int) < (L2.length : Int) := by omega
        have HS : Hid (∀ he : L1[k] = L2[k], (L1.drop k = L2.drop k ↔ L1.drop (k + 1) = L2.drop (k + 1))) := fun he => eq_step HL.out k hlt he
        have HN : Hid (¬ L1[k] = L2[k] → ¬ L1 = L2) := fun he => eq_stop k hlt hlt2 he
        generalize hx : L1[k] = x at *
        generalize hy : L2[k] = y at *
        clear hx hy
        by_cases he : x = y
        · subst he
          have hne : (x != x) = false := by simp
          go_wp2
          go_quiet (fail)
          go_wp2
          go_roundw
          case rel => exact ⟨k + 1, by omega, by go_num, below_drewN HB.out _, HE.out.trans (HS.out trivial)⟩
          case measure => simp [intOf]; omega
        · have hne : (x != y) = true := by simpa using he
          go_wp2
          go_quiet (fail)
          go_wp2
          go_ret
          exact ⟨ret_bool (by simp [HN.out he]), below_drewN HB.out _⟩
      · have HD : Hid (L1 = L2) := HE.out.2 (by rw [List.drop_of_length_le (by omega), List.drop_of_length_le (by have := HL.out; omega)])
        go_wp2
        go_ret
        exact ⟨ret_bool (by simp [HD.out]), HB.out⟩
  · have HD : Hid (¬ L1 = L2) := fun e => hl (by rw [e])
    have hlb : ((L1.length : Int) != (L2.length : Int)) = true := by simpa using (fun e => hl (by omega) : ¬ (L1.length : Int) = L2.length)
    clear hl
    go_enter Tryd.func9, Tryd.ntmps9
    go_wp2
    go_ret
    exact ⟨ret_bool (by simp [HD.out]), Below.refl _ _⟩
def marksI (k : Int) (n : Nat) : List Int := (List.range n).map fun (i : Nat) => k + (i : Int)
theorem marksI_len (k : Int) (n : Nat) : (marksI k n).length = n := by simp [marksI]
theorem marksI_at (k : Int) (n i : Nat) (h : i < (marksI k n).length) : (marksI k n)[i] = k + i := by simp [marksI]
set_option maxRecDepth 100000 in
set_option maxHeartbeats 1600000 in
theorem markInt64S_any (v : Value) (B : Nat) (L : List Int) (k : Int) (w : World) (h1 : OwnI w B v L) (hs : L.length ≤ 1000000) (hk0 : 0 ≤ k) (hk1 : k ≤ 1000000) :
    Calls Tryd.prog 10 #[v, .int .i64 k] w fun e w' => e = .returned (.int .i64 (k + L.length)) ∧ OwnI w' B v (marksI k L.length) ∧ Below B w w' := by
  rcases h1.form with ⟨rfl, rfl⟩ | ⟨g, cap, cur, rfl, hB, hg, h4, h5, h6, h7⟩
  · clear h1
    go_enter Tryd.func10, Tryd.ntmps10
    go_wp2
    refine wp_loop_rounds 1 ?_
    rw [rounds_succ]
    go_wp2
    go_ret
    exact ⟨ret_int (by simp), OwnI.nil _ _, Below.refl _ _⟩
  · have HG : Hid (_ = _) := hg
    have HC : Hid (cur.size = cap) := h6
    clear h1 h7 hg h6
    unfold maxLen at h5
    go_enter Tryd.func10, Tryd.ntmps10
    go_wp2
    go_loopw [1, 5] (fun q i wr => ∃ (j : Nat), j ≤ L.length ∧ i = .int .i64 j ∧ q = .int .i64 (k + j) ∧ Hid (∃ c : Array Value, wr.heap[g]? = some (.cells c 2 (0, 0)) ∧ c.size = cap ∧ ∀ t, t < j → c[t]? = some (.int .i64 (k + t))) ∧ Hid (Below B w wr)) (fun _ i _ => L.length - (intOf i).toNat)
    case atStart => exact ⟨0, by omega, rfl, by simp, ⟨cur, HG.out, HC.out, fun t ht => by omega⟩, Below.refl _ _⟩
    case round =>
      obtain ⟨j, hj, rfl, rfl, HX, HB⟩ := hrel
      by_cases hlt : j < L.length
      · obtain ⟨c, hc, hcs, hct⟩ := HX.out
        obtain ⟨y, hy⟩ : ∃ y, c[j]? = some y := ⟨c[j]'(by omega), by simp [show j < c.size by omega]⟩
        have q0 : wr.cell? ⟨g, j, none⟩ = some y := by simp [World.cell?, hc, hy]
        have q1 : wr.frozen? ⟨g, j, none⟩ = false := by simp [World.frozen?, hc]
        have HC1 : Hid (_ = _) := hc
        have HC2 : Hid (c.size = cap) := hcs
        have HC3 : Hid (∀ t, t < j → c[t]? = some (.int .i64 (k + t))) := hct
        clear hc hcs hct HX hy
        have hi0 : (0 : Int) ≤ (j : Int) := by omega
        have hi1 : (j : Int) < (L.length : Int) := by omega
        go_wp2
        go_roundw
        case rel =>
          refine ⟨j + 1, by omega, by go_num, by go_num, ⟨_, heap_set HC1.out j _, by simp [HC2.out], fun t ht => ?_⟩, HB.out.setCell hB _⟩
          rw [Array.getElem?_setIfInBounds]
          by_cases e : j = t
          · subst e; simp [HC2.out]; omega
          · rw [if_neg e]; exact HC3.out t (by omega)
        case measure => simp [intOf]; omega
      · obtain rfl : j = L.length := by omega
        go_wp2
        go_ret
        obtain ⟨c, hc, hcs, hct⟩ := HX.out
        refine ⟨rfl, ?_, HB.out⟩
        have := OwnI.mk (L := marksI k L.length) hB hc (by rw [marksI_len]; exact h4) (by unfold maxLen; exact h5) hcs (fun i hi => by rw [marksI_at]; exact hct i (by rwa [marksI_len] at hi))
        rwa [marksI_len] at this
end Go.Proofs.YtknielpkmablkaaDoor
namespace Go.Proofs.YtknielpkmablkaaDoor
open Go.RowKit

theorem alloc_at {W : World} {g : Nat} (h : W.heap.size = g) (o : Obj) : (W.alloc o).heap[g]? = some o := by subst h; exact heap_alloc_new W o
theorem set_two {W : World} {g : Nat} {z0 z1 a b : Value} {t : TypeId} (h : W.heap[g]? = some (.cells #[z0, z1] t (0, 0))) : ((W.setCell ⟨g, 0, none⟩ a).setCell ⟨g, 1, none⟩ b).heap[g]? = some (.cells #[a, b] t (0, 0)) :=
  heap_set (heap_set h 0 a) 1 b
theorem set_far {W : World} {B : Nat} {o : Obj} {a : Addr} {v : Value} (hne : B ≠ a.block) (h : W.heap[B]? = some o) : (W.setCell a v).heap[B]? = some o := heap_set_other h a hne v
theorem below_set {a w : World} {p : Addr} {v : Value} (hp : a.heap.size ≤ p.block) (h : Below a.heap.size a w) : Below a.heap.size a (w.setCell p v) := h.setCell hp v
end Go.Proofs.YtknielpkmablkaaDoor
