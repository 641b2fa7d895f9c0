/- Instructions: words that are words; a word of its own that is taken. -/
import Derived.Test.YtdokiccfjbieiaaDoorRows
import Derived.WalkKit
import Derived.WalkSpells
import Derived.WalkLawsBesides
import Derived.Outline
import Derived.RegionTactic
import Derived.BigRegion
import Derived.Test.YtdokiccfjbieiaaDoorBun0
import Derived.Test.YtdokiccfjbieiaaDoorBun6
import Derived.Test.YtdokiccfjbieiaaDoorIsaRX
namespace Go.Proofs.YtdokiccfjbieiaaDoor
open Go.RowKit
set_option linter.unusedVariables false

/- A list of numbers that a slice reads as. -/
def ReadI (w : World) (a : Option Addr) (L : List Int) : Prop := 0 < L.length → ∃ x : Addr, a = some x ∧ x.block < w.heap.size ∧ ∀ i (h : i < L.length), w.cell? (x.add i) = some (.int .i64 L[i])
theorem add_blockI (x : Addr) (i : Nat) : (x.add i).block = x.block := by unfold Addr.add; split <;> rfl
theorem ReadI.below {w w' : World} {a : Option Addr} {L : List Int} (h : ReadI w a L) (hb : Below w.heap.size w w') : ReadI w' a L := fun hl => by
  obtain ⟨x, rfl, hx, hc⟩ := h hl
  exact ⟨x, rfl, Nat.lt_of_lt_of_le hx hb.size, fun i hi => (hb.cell (by rw [add_blockI]; exact hx)).trans (hc i hi)⟩
theorem ReadI.alloc {w : World} {a : Option Addr} {L : List Int} (h : ReadI w a L) (o : Obj) : ReadI (w.alloc o) a L := h.below (below_new w o)
def wordsB (L : List Int) : Bool := L.all fun n => isB n 0 65535
theorem wordsB_step (L : List Int) (k : Nat) (h : k < L.length) : wordsB (L.drop k) = (isB L[k] 0 65535 && wordsB (L.drop (k + 1))) := by
  rw [List.drop_eq_getElem_cons h]; rfl
set_option maxRecDepth 100000 in
set_option maxHeartbeats 1600000 in
theorem areWords_any (a : Option Addr) (L : List Int) (cap : Nat) (w : World) (hR : ReadI w a L) (hl : L.length ≤ 1000000) :
    Calls Tryd.prog 53 #[.slice a L.length cap] w fun e w' => e = .returned (.bool (wordsB L)) ∧ w' = w := by
  have HR : Hid (_) := hR
  clear hR
  go_enter Tryd.func53, Tryd.ntmps53
  go_wp2
  go_loopw [7] (fun i wr => ∃ k : Nat, k ≤ L.length ∧ i = .int .i64 k ∧ Hid (wr = w) ∧ Hid (wordsB L = wordsB (L.drop k))) (fun i _ => L.length - (intOf i).toNat)
  case atStart => exact ⟨0, by omega, rfl, rfl, rfl⟩
  case round =>
    obtain ⟨k, hk, rfl, HW, HD⟩ := hrel
    have hw := HW.out
    subst hw
    by_cases hlt : k < L.length
    · obtain ⟨x, rfl, hx, hc⟩ := HR.out (by omega)
      have hck := hc k hlt
      clear hc
      have HS : Hid (_ = _) := wordsB_step L k hlt
      generalize hx' : L[k] = n at *
      clear hx'
      have hi0 : (0 : Int) ≤ (k : Int) := by omega
      have hi1 : (k : Int) < (L.length : Int) := by omega
      go_wp2_with fail
      refine (isWord_any n _).mono ?_
      rintro e w1 ⟨rfl, rfl⟩
      cases hb : isB n 0 65535
      · go_wp2
        go_ret
        exact ⟨ret_bool (by rw [HD.out, HS.out, hb]; rfl), rfl⟩
      · go_wp2
        go_roundw
        case rel => exact ⟨k + 1, by omega, by go_num, HW.out, by show _ = _; rw [HD.out, HS.out, hb]; rfl⟩
        case measure => simp [intOf]; omega
    · go_wp2
      go_ret
      exact ⟨ret_bool (by rw [HD.out, List.drop_of_length_le (by omega)]; rfl), rfl⟩
theorem Tabs.set {w : World} (h : Tabs w) {B : Nat} (h0 : 0 ≠ B) (h1 : 2 ≠ B) (p : Addr) (v : Value) (hp : p.block = B) : Tabs (w.setCell p v) := by
  subst hp
  obtain ⟨⟨t, fr, g1⟩, ⟨u, fs, g2⟩⟩ := h
  exact ⟨⟨t, fr, heap_set_other g1 p h0 v⟩, ⟨u, fs, heap_set_other g2 p h1 v⟩⟩
set_option maxRecDepth 100000 in
set_option maxHeartbeats 1600000 in
theorem takeWord_src (B : Nat) (v0 v1 v6 v7 v8 v9 v10 : Value) (m r n0 n : Int) (l0 : Bool) (w : World) (h : w.heap[B]? = some (.cells #[v0, v1, .int .i64 m, .int .i64 r, .int .i64 n0, .bool l0, v6, v7, v8, v9, v10] 37 (0, 0))) (hg0 : 0 ≠ B) (hg1 : 2 ≠ B) (hT : Tabs w) :
    Calls Tryd.prog 55 #[.pointer (some ⟨B, 2, none⟩), .int .i64 n] w fun e w' => e = .returned (.tuple #[]) ∧ w'.heap[B]? = some (.cells #[v0, v1, .int .i64 m, .int .i64 r, .int .i64 n, .bool (m == 5 && (shortI n).2.2), v6, v7, v8, v9, v10] 37 (0, 0)) ∧ Below B w w' := by
  have HH : Hid (_ = _) := h
  have HT : Hid (_) := hT.set hg0 hg1 ⟨B, 4, none⟩ (.int .i64 n) rfl
  obtain ⟨c0, c1, c2, c3, c4, c5, c6, c7, c8, c9, c10⟩ := cells11 h
  have f4 := frozen_of_row _ _ 4 _ _ h
  have f5 := frozen_of_row _ _ 5 _ _ h
  clear h hT hg0 hg1
  by_cases hm : m = 5
  · subst hm
    have HS : Hid (_ = _) := heap_set HH.out 4 (.int .i64 n)
    go_enter Tryd.func55, Tryd.ntmps55
    go_wp2_with fail
    refine (isShort_any n _ HT.out).mono ?_
    rintro e x1 ⟨rfl, hb⟩
    have HX : Hid (_ = _) := heap_keep HS.out hb
    have HB1 : Hid (Below B w x1) := ((Below.refl B w).setCell (p := ⟨B, 4, none⟩) (Nat.le_refl _) _).trans (hb.mono (Nat.le_of_lt (heap_lt HS.out)))
    have HX2 : Hid (_ = _) := HX.out
    simp only [List.setIfInBounds_toArray, List.set_cons_zero, List.set_cons_succ] at HX2
    clear hb c0 c1 c2 c3 c4 c5 c6 c7 c8 c9 c10 f4 f5
    obtain ⟨c0, c1, c2, c3, c4, c5, c6, c7, c8, c9, c10⟩ := cells11 HX2.out
    have f5 := frozen_of_row _ _ 5 _ _ HX2.out
    go_wp2
    go_end0
    refine ⟨rfl, ?_, HB1.out.setCell (Nat.le_refl _) _⟩
    have k := heap_set HX2.out 5 (.bool (shortI n).2.2)
    simp only [List.setIfInBounds_toArray, List.set_cons_zero, List.set_cons_succ] at k
    simpa using k
  · have hm' : (m == 5) = false := by rw [beq_eq_false_iff_ne]; exact hm
    clear hm
    go_enter Tryd.func55, Tryd.ntmps55
    go_wp2
    go_end0
    refine ⟨rfl, ?_, ((Below.refl B w).setCell (p := ⟨B, 4, none⟩) (Nat.le_refl _) _).setCell (Nat.le_refl _) _⟩
    have k := heap_set (heap_set HH.out 4 (.int .i64 n)) 5 (.bool false)
    simp only [List.setIfInBounds_toArray, List.set_cons_zero, List.set_cons_succ] at k
    rw [hm']
    exact k
set_option maxRecDepth 100000 in
set_option maxHeartbeats 1600000 in
theorem takeWord_dst (B : Nat) (v0 v1 v2 v3 v4 v5 v10 : Value) (m r n0 n : Int) (l0 : Bool) (w : World) (h : w.heap[B]? = some (.cells #[v0, v1, v2, v3, v4, v5, .int .i64 m, .int .i64 r, .int .i64 n0, .bool l0, v10] 37 (0, 0))) (hg0 : 0 ≠ B) (hg1 : 2 ≠ B) (hT : Tabs w) :
    Calls Tryd.prog 55 #[.pointer (some ⟨B, 6, none⟩), .int .i64 n] w fun e w' => e = .returned (.tuple #[]) ∧ w'.heap[B]? = some (.cells #[v0, v1, v2, v3, v4, v5, .int .i64 m, .int .i64 r, .int .i64 n, .bool (m == 5 && (shortI n).2.2), v10] 37 (0, 0)) ∧ Below B w w' := by
  have HH : Hid (_ = _) := h
  have HT : Hid (_) := hT.set hg0 hg1 ⟨B, 8, none⟩ (.int .i64 n) rfl
  obtain ⟨c0, c1, c2, c3, c4, c5, c6, c7, c8, c9, c10⟩ := cells11 h
  have f4 := frozen_of_row _ _ 8 _ _ h
  have f5 := frozen_of_row _ _ 9 _ _ h
  clear h hT hg0 hg1
  by_cases hm : m = 5
  · subst hm
    have HS : Hid (_ = _) := heap_set HH.out 8 (.int .i64 n)
    go_enter Tryd.func55, Tryd.ntmps55
    go_wp2_with fail
    refine (isShort_any n _ HT.out).mono ?_
    rintro e x1 ⟨rfl, hb⟩
    have HX : Hid (_ = _) := heap_keep HS.out hb
    have HB1 : Hid (Below B w x1) := ((Below.refl B w).setCell (p := ⟨B, 8, none⟩) (Nat.le_refl _) _).trans (hb.mono (Nat.le_of_lt (heap_lt HS.out)))
    have HX2 : Hid (_ = _) := HX.out
    simp only [List.setIfInBounds_toArray, List.set_cons_zero, List.set_cons_succ] at HX2
    clear hb c0 c1 c2 c3 c4 c5 c6 c7 c8 c9 c10 f4 f5
    obtain ⟨c0, c1, c2, c3, c4, c5, c6, c7, c8, c9, c10⟩ := cells11 HX2.out
    have f5 := frozen_of_row _ _ 9 _ _ HX2.out
    go_wp2
    go_end0
    refine ⟨rfl, ?_, HB1.out.setCell (Nat.le_refl _) _⟩
    have k := heap_set HX2.out 9 (.bool (shortI n).2.2)
    simp only [List.setIfInBounds_toArray, List.set_cons_zero, List.set_cons_succ] at k
    simpa using k
  · have hm' : (m == 5) = false := by rw [beq_eq_false_iff_ne]; exact hm
    clear hm
    go_enter Tryd.func55, Tryd.ntmps55
    go_wp2
    go_end0
    refine ⟨rfl, ?_, ((Below.refl B w).setCell (p := ⟨B, 8, none⟩) (Nat.le_refl _) _).setCell (Nat.le_refl _) _⟩
    have k := heap_set (heap_set HH.out 8 (.int .i64 n)) 9 (.bool false)
    simp only [List.setIfInBounds_toArray, List.set_cons_zero, List.set_cons_succ] at k
    rw [hm']
    exact k
end Go.Proofs.YtdokiccfjbieiaaDoor
