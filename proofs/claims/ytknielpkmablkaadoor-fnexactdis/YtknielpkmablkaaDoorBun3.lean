/- Words: single ones, and rows of them that are read, by the program. -/
import Derived.Test.YtknielpkmablkaaDoorRows
import Derived.WalkKit
import Derived.WalkSpells
import Derived.WalkLawsBesides
import Derived.Outline
import Derived.Test.YtknielpkmablkaaDoorBun0
import Derived.Test.YtknielpkmablkaaDoorBun1
import Derived.Test.YtknielpkmablkaaDoorIsaX
namespace Go.Proofs.YtknielpkmablkaaDoor
open Go.RowKit
set_option linter.unusedVariables false

theorem isWord_any (n : Int) (w : World) : Calls Tryd.prog 39 #[.int .i64 n] w fun e w' => e = .returned (.bool (isB n 0 65535)) ∧ w' = w := by
  by_cases h1 : 0 ≤ n
  · go_enter Tryd.func39, Tryd.ntmps39
    go_wp2
    go_ret
    exact ⟨ret_bool (by simp [isB, h1]), rfl⟩
  · go_enter Tryd.func39, Tryd.ntmps39
    go_wp2
    go_ret
    exact ⟨ret_bool (by simp [isB]; omega), rfl⟩
/- A list of numbers that a slice reads as. -/
def ReadI (w : World) (a : Option Addr) (L : List Int) : Prop := 0 < L.length → ∃ x : Addr, a = some x ∧ x.block < w.heap.size ∧ ∀ i (h : i < L.length), w.cell? (x.add i) = some (.int .i64 L[i])
theorem add_blockI (x : Addr) (i : Nat) : (x.add i).block = x.block := by unfold Addr.add; split <;> rfl
theorem ReadI.below {w w' : World} {a : Option Addr} {L : List Int} (h : ReadI w a L) (hb : Below w.heap.size w w') : ReadI w' a L := fun hl => by
  obtain ⟨x, rfl, hx, hc⟩ := h hl
  exact ⟨x, rfl, Nat.lt_of_lt_of_le hx hb.size, fun i hi => (hb.cell (by rw [add_blockI]; exact hx)).trans (hc i hi)⟩
theorem ReadI.alloc {w : World} {a : Option Addr} {L : List Int} (h : ReadI w a L) (o : Obj) : ReadI (w.alloc o) a L := h.below (below_new w o)
def wordsB (L : List Int) : Bool := L.all fun n => isB n 0 65535
theorem wordsB_step (L : List Int) (k : Nat) (h : k < L.length) : wordsB (L.drop k) = (isB L[k] 0 65535 && wordsB (L.drop (k + 1))) := by
  rw [List.drop_eq_getElem_cons h]; rfl
set_option maxRecDepth 100000 in
set_option maxHeartbeats 1600000 in
theorem areWords_any (a : Option Addr) (L : List Int) (cap : Nat) (w : World) (hR : ReadI w a L) (hl : L.length ≤ 1000000) :
    Calls Tryd.prog 28 #[.slice a L.length cap] w fun e w' => e = .returned (.bool (wordsB L)) ∧ w' = w := by
  have HR : Hid (_) := hR
  clear hR
  go_enter Tryd.func28, Tryd.ntmps28
  go_wp2
  go_loopw [7] (fun i wr => ∃ k : Nat, k ≤ L.length ∧ i = .int .i64 k ∧ Hid (wr = w) ∧ Hid (wordsB L = wordsB (L.drop k))) (fun i _ => L.length - (intOf i).toNat)
  case atStart => exact ⟨0, by omega, rfl, rfl, rfl⟩
  case round =>
    obtain ⟨k, hk, rfl, HW, HD⟩ := hrel
    have hw := HW.out
    subst hw
    by_cases hlt : k < L.length
    · obtain ⟨x, rfl, hx, hc⟩ := HR.out (by omega)
      have hck := hc k hlt
      clear hc
      have HS : Hid (_ = _) := wordsB_step L k hlt
      generalize hx' : L[k] = n at *
      clear hx'
      have hi0 : (0 : Int) ≤ (k : Int) := by omega
      have hi1 : (k : Int) < (L.length : Int) := by omega
      go_wp2_with fail
      refine (isWord_any n _).mono ?_
      rintro e w1 ⟨rfl, rfl⟩
      cases hb : isB n 0 65535
      · go_wp2
        go_ret
        exact ⟨ret_bool (by rw [HD.out, HS.out, hb]; rfl), rfl⟩
      · go_wp2
        go_roundw
        case rel => exact ⟨k + 1, by omega, by go_num, HW.out, by show _ = _; rw [HD.out, HS.out, hb]; rfl⟩
        case measure => simp [intOf]; omega
    · go_wp2
      go_ret
      exact ⟨ret_bool (by rw [HD.out, List.drop_of_length_le (by omega)]; rfl), rfl⟩
end Go.Proofs.YtknielpkmablkaaDoor
namespace Go.Proofs.YtknielpkmablkaaDoor
open Go.RowKit
set_option linter.unusedVariables false

def zrowI (n : Nat) : Array Value := (List.replicate n (.int .i64 0)).toArray
theorem makeI (n : Nat) (hn : n ≤ 2000000) (w : World) : (Instr.makeSlice 22 (.int .i64 (n : Int)) (.int .i64 (n : Int))).run Tryd.prog w = .ok (.slice (some ⟨w.heap.size, 0, none⟩) n n) (w.alloc (.cells (zrowI n) 2)) := by
  obtain ⟨i0, hi, hz0, hz1, hz2⟩ := info_parts infoI
  rw [run_make (P := Tryd.prog) w 22 2 i0 (.int .i64 0) Tryd.underlying22 hi hz0 .i64 .i64 n n (by omega) (by omega) (by rw [hz2]; omega) (by omega)]
  have e : madeCells (Value.int .i64 0).cells (n * i0.size) = zrowI n := by
    rw [hz1]
    apply Array.ext
    · simp [madeCells, zrowI]
    · intro i h1 h2
      simp [madeCells, zrowI, Value.cells]
      rw [show i % 1 = 0 by omega]; rfl
  rw [Int.toNat_natCast, e]
set_option maxRecDepth 100000 in
set_option maxHeartbeats 1600000 in
theorem toInt64S_any (a : Option Addr) (L : List Int) (cap : Nat) (w : World) (hR : ReadI w a L) (hl : L.length ≤ 2000000) :
    Calls Tryd.prog 6 #[.slice a L.length cap] w fun e w' => e = .returned (.slice (some ⟨w.heap.size, 0, none⟩) L.length L.length) ∧ w'.heap[w.heap.size]? = some (.cells (L.map (Value.int .i64)).toArray 2 (0, 0)) ∧ Below w.heap.size w w' := by
  have HM : Hid (∀ W, (Instr.makeSlice 22 (.int .i64 (L.length : Int)) (.int .i64 (L.length : Int))).run Tryd.prog W = .ok (.slice (some ⟨W.heap.size, 0, none⟩) L.length L.length) (W.alloc (.cells (zrowI L.length) 2))) := fun W => makeI L.length hl W
  have HR : Hid (_) := hR
  clear hR
  have hm := HM.out
  go_enter Tryd.func6, Tryd.ntmps6
  go_wp2
  go_loopw [4] (fun i wr => ∃ k : Nat, k ≤ L.length ∧ i = .int .i64 k ∧ Hid (∃ c : Array Value, wr.heap[w.heap.size]? = some (.cells c 2 (0, 0)) ∧ c.size = L.length ∧ ∀ t (ht : t < L.length), t < k → c[t]? = some (.int .i64 L[t])) ∧ Hid (Below w.heap.size w wr)) (fun i _ => L.length - (intOf i).toNat)
  case atStart => exact ⟨0, by omega, rfl, ⟨_, heap_alloc_new w _, by simp [zrowI], fun t ht h => by omega⟩, below_new w _⟩
  case round =>
    obtain ⟨k, hk, rfl, HX, HB⟩ := hrel
    clear hm
    by_cases hlt : k < L.length
    · obtain ⟨c, hc, hcs, hct⟩ := HX.out
      obtain ⟨x, rfl, hx, hr⟩ := (ReadI.below HR.out HB.out) (by omega)
      have hck := hr k hlt
      obtain ⟨y, hy⟩ : ∃ y, c[k]? = some y := ⟨c[k]'(by omega), by simp [show k < c.size by omega]⟩
      have q0 : wr.cell? ⟨w.heap.size, k, none⟩ = some y := by simp [World.cell?, hc, hy]
      have q1 : wr.frozen? ⟨w.heap.size, k, none⟩ = false := by simp [World.frozen?, hc]
      have HC1 : Hid (_ = _) := hc
      have HC2 : Hid (c.size = L.length) := hcs
      have HC3 : Hid (∀ t (ht : t < L.length), t < k → c[t]? = some (.int .i64 L[t])) := hct
      clear hc hcs hct HX hy hr
      generalize hLk : L[k] = z at *
      have HL : Hid (_ = _) := hLk
      clear hLk
      have hi0 : (0 : Int) ≤ (k : Int) := by omega
      have hi1 : (k : Int) < (L.length : Int) := by omega
      go_wp2
      go_roundw
      case rel =>
        refine ⟨k + 1, by omega, by go_num, ⟨_, heap_set HC1.out k _, by simp [HC2.out], fun t ht h => ?_⟩, HB.out.setCell (Nat.le_refl _) _⟩
        rw [Array.getElem?_setIfInBounds]
        by_cases e : k = t
        · subst e; rw [HL.out]; simp [HC2.out]; omega
        · rw [if_neg e]; exact HC3.out t ht (by omega)
      case measure => simp [intOf]; omega
    · obtain rfl : k = L.length := by omega
      go_wp2
      go_ret
      obtain ⟨c, hc, hcs, hct⟩ := HX.out
      have e : c = (L.map (Value.int .i64)).toArray := by
        apply Array.ext
        · simp [hcs]
        · intro i h1 h2
          have hi : i < L.length := by omega
          have h := hct i hi hi
          rw [Array.getElem?_eq_getElem h1] at h
          rw [Option.some.inj h]
          simp
      rw [e] at hc
      exact ⟨rfl, hc, HB.out⟩
/- What it made, as a row that is read and as one that is owned. -/
theorem made_read {w : World} {g : Nat} {L : List Int} (h : w.heap[g]? = some (.cells (L.map (Value.int .i64)).toArray 2 (0, 0))) : ReadI w (some ⟨g, 0, none⟩) L := fun hl => by
  refine ⟨_, rfl, heap_lt h, fun i hi => ?_⟩
  have e : (⟨g, 0, none⟩ : Addr).add i = ⟨g, i, none⟩ := by
    cases i with
    | zero => rfl
    | succ i => simp [Addr.add]
  rw [e, cell_of_row w g i _ _ _ h]
  simp [hi]
theorem made_own {w : World} {g B : Nat} {L : List Int} (h : w.heap[g]? = some (.cells (L.map (Value.int .i64)).toArray 2 (0, 0))) (hB : B ≤ g) (hl : L.length ≤ 2000000) : OwnI w B (.slice (some ⟨g, 0, none⟩) L.length L.length) L :=
  OwnI.mk hB h (Nat.le_refl _) (by unfold maxLen; omega) (by simp) (fun i hi => by simp [hi])
end Go.Proofs.YtknielpkmablkaaDoor
