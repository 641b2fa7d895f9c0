/- toInt64S of the laws: a row of its own with the same numbers. -/
import Derived.Test.YtcnjeeckkpiilaaRows
import Derived.WalkKit
import Derived.WalkSpells
import Derived.WalkLawsBesides
import Derived.Outline
import Derived.Test.YtcnjeeckkpiilaaBase
import Derived.Test.YtcnjeeckkpiilaaRes
import Derived.Test.YtcnjeeckkpiilaaOwn
import Derived.Test.YtcnjeeckkpiilaaWordsR
namespace Go.Proofs.Ytcnjeeckkpiilaa
open Go.RowKit
set_option linter.unusedVariables false

def zrowI (n : Nat) : Array Value := (List.replicate n (.int .i64 0)).toArray
theorem makeI (n : Nat) (hn : n ≤ 2000000) (w : World) : (Instr.makeSlice 24 (.int .i64 (n : Int)) (.int .i64 (n : Int))).run Try.prog w = .ok (.slice (some ⟨w.heap.size, 0, none⟩) n n) (w.alloc (.cells (zrowI n) 2)) := by
  obtain ⟨i0, hi, hz0, hz1, hz2⟩ := info_parts infoI
  rw [run_make (P := Try.prog) w 24 2 i0 (.int .i64 0) Try.underlying24 hi hz0 .i64 .i64 n n (by omega) (by omega) (by rw [hz2]; omega) (by omega)]
  have e : madeCells (Value.int .i64 0).cells (n * i0.size) = zrowI n := by
    rw [hz1]
    apply Array.ext
    · simp [madeCells, zrowI]
    · intro i h1 h2
      simp [madeCells, zrowI, Value.cells]
      rw [show i % 1 = 0 by omega]; rfl
  rw [Int.toNat_natCast, e]
set_option maxRecDepth 100000 in
set_option maxHeartbeats 1600000 in
theorem toInt64S_any (a : Option Addr) (L : List Int) (cap : Nat) (w : World) (hR : ReadI w a L) (hl : L.length ≤ 2000000) :
    Calls Try.prog 33 #[.slice a L.length cap] w fun e w' => e = .returned (.slice (some ⟨w.heap.size, 0, none⟩) L.length L.length) ∧ w'.heap[w.heap.size]? = some (.cells (L.map (Value.int .i64)).toArray 2 (0, 0)) ∧ Below w.heap.size w w' := by
  have HM : Hid (∀ W, (Instr.makeSlice 24 (.int .i64 (L.length : Int)) (.int .i64 (L.length : Int))).run Try.prog W = .ok (.slice (some ⟨W.heap.size, 0, none⟩) L.length L.length) (W.alloc (.cells (zrowI L.length) 2))) := fun W => makeI L.length hl W
  have HR : Hid (_) := hR
  clear hR
  have hm := HM.out
  go_enter Try.func33, Try.ntmps33
  go_wp2
  go_loopw [4] (fun i wr => ∃ k : Nat, k ≤ L.length ∧ i = .int .i64 k ∧ Hid (∃ c : Array Value, wr.heap[w.heap.size]? = some (.cells c 2 (0, 0)) ∧ c.size = L.length ∧ ∀ t (ht : t < L.length), t < k → c[t]? = some (.int .i64 L[t])) ∧ Hid (Below w.heap.size w wr)) (fun i _ => L.length - (intOf i).toNat)
  case atStart => exact ⟨0, by omega, rfl, ⟨_, heap_alloc_new w _, by simp [zrowI], fun t ht h => by omega⟩, below_new w _⟩
  case round =>
    obtain ⟨k, hk, rfl, HX, HB⟩ := hrel
    clear hm
    by_cases hlt : k < L.length
    · obtain ⟨c, hc, hcs, hct⟩ := HX.out
      obtain ⟨x, rfl, hx, hr⟩ := (ReadI.below HR.out HB.out) (by omega)
      have hck := hr k hlt
      obtain ⟨y, hy⟩ : ∃ y, c[k]? = some y := ⟨c[k]'(by omega), by simp [show k < c.size by omega]⟩
      have q0 : wr.cell? ⟨w.heap.size, k, none⟩ = some y := by simp [World.cell?, hc, hy]
      have q1 : wr.frozen? ⟨w.heap.size, k, none⟩ = false := by simp [World.frozen?, hc]
      have HC1 : Hid (_ = _) := hc
      have HC2 : Hid (c.size = L.length) := hcs
      have HC3 : Hid (∀ t (ht : t < L.length), t < k → c[t]? = some (.int .i64 L[t])) := hct
      clear hc hcs hct HX hy hr
      generalize hLk : L[k] = z at *
      have HL : Hid (_ = _) := hLk
      clear hLk
      have hi0 : (0 : Int) ≤ (k : Int) := by omega
      have hi1 : (k : Int) < (L.length : Int) := by omega
      go_wp2
      go_roundw
      case rel =>
        refine ⟨k + 1, by omega, by go_num, ⟨_, heap_set HC1.out k _, by simp [HC2.out], fun t ht h => ?_⟩, HB.out.setCell (Nat.le_refl _) _⟩
        rw [Array.getElem?_setIfInBounds]
        by_cases e : k = t
        · subst e; rw [HL.out]; simp [HC2.out]; omega
        · rw [if_neg e]; exact HC3.out t ht (by omega)
      case measure => simp [intOf]; omega
    · obtain rfl : k = L.length := by omega
      go_wp2
      go_ret
      obtain ⟨c, hc, hcs, hct⟩ := HX.out
      have e : c = (L.map (Value.int .i64)).toArray := by
        apply Array.ext
        · simp [hcs]
        · intro i h1 h2
          have hi : i < L.length := by omega
          have h := hct i hi hi
          rw [Array.getElem?_eq_getElem h1] at h
          rw [Option.some.inj h]
          simp
      rw [e] at hc
      exact ⟨rfl, hc, HB.out⟩
/- What it made, as a row that is read and as one that is owned. -/
theorem made_read {w : World} {g : Nat} {L : List Int} (h : w.heap[g]? = some (.cells (L.map (Value.int .i64)).toArray 2 (0, 0))) : ReadI w (some ⟨g, 0, none⟩) L := fun hl => by
  refine ⟨_, rfl, heap_lt h, fun i hi => ?_⟩
  have e : (⟨g, 0, none⟩ : Addr).add i = ⟨g, i, none⟩ := by
    cases i with
    | zero => rfl
    | succ i => simp [Addr.add]
  rw [e, cell_of_row w g i _ _ _ h]
  simp [hi]
theorem made_own {w : World} {g B : Nat} {L : List Int} (h : w.heap[g]? = some (.cells (L.map (Value.int .i64)).toArray 2 (0, 0))) (hB : B ≤ g) (hl : L.length ≤ 2000000) : OwnI w B (.slice (some ⟨g, 0, none⟩) L.length L.length) L :=
  OwnI.mk hB h (Nat.le_refl _) (by unfold maxLen; omega) (by simp) (fun i hi => by simp [hi])
end Go.Proofs.Ytcnjeeckkpiilaa
