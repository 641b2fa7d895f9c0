/- Entries: the laws' helpers over rows of them (a copy of SrcA at Entry). -/
import Derived.Test.YtcnjeeckkpiilaaRows
import Derived.WalkKit
import Derived.WalkSpells
import Derived.WalkLawsBesides
import Derived.Outline
import Derived.RegionTactic
import Derived.BigRegion
import Derived.Deep.QuietTactic
import Derived.BigQuiet
import Derived.Deep.RegionHeld3
import Derived.Test.YtcnjeeckkpiilaaBase
import Derived.Test.YtcnjeeckkpiilaaRes2
import Derived.Test.YtcnjeeckkpiilaaIsa2
import Derived.Test.YtcnjeeckkpiilaaIsa3
import Derived.Test.YtcnjeeckkpiilaaRowX
import Derived.Test.YtcnjeeckkpiilaaSrcA
namespace Go.Proofs.Ytcnjeeckkpiilaa
open Go.RowKit
set_option linter.unusedVariables false

set_option maxRecDepth 100000 in
set_option maxHeartbeats 1600000 in
theorem szEntry_any (nm tx : ByteArray) (left : Int) (w : World) (h1 : nm.size ≤ maxLen) (h2 : tx.size ≤ maxLen) (h0 : 0 ≤ left) (hl : left ≤ 1048576) : Calls Try.prog 55 #[.agg #[.string nm, .string tx], .int .i64 left] w (SzOut (fitsS (nm, tx)) w) := by
  unfold maxLen at h1 h2
  by_cases k1 : left - (nm.size : Int) < 0
  · go_enter Try.func55, Try.ntmps55
    go_wp2
    go_ret
    exact ⟨-1, rfl, by omega, fun h => by omega, below_new _ _⟩
  · by_cases k2 : left - (nm.size : Int) - (tx.size : Int) < 0
    · go_enter Try.func55, Try.ntmps55
      go_wp2
      go_ret
      exact ⟨-1, rfl, by omega, fun h => by omega, below_new _ _⟩
    · go_enter Try.func55, Try.ntmps55
      go_wp2
      go_ret
      exact ⟨_, rfl, by omega, fun h => ⟨by show nm.size ≤ _; omega, by show tx.size ≤ _; omega⟩, below_new _ _⟩
set_option maxRecDepth 100000 in
set_option maxHeartbeats 1600000 in
theorem szEntryS_any (a : Option Addr) (L : List Src) (cap : Nat) (left : Int) (w : World) (h0 : 0 ≤ left) (h9 : left ≤ 1048576) (hR : RowIs 2 srcC w a L) (hl : L.length ≤ maxLen) (hs : ∀ s ∈ L, s.1.size ≤ maxLen ∧ s.2.size ≤ maxLen) : Calls Try.prog 19 #[.slice a L.length cap, .int .i64 left] w (SzOut (L.length ≤ 1048576 ∧ ∀ s ∈ L, fitsS s) w) := by
  have HR : Hid (RowIs 2 srcC w a L) := hR
  have HS : Hid (∀ s ∈ L, s.1.size ≤ maxLen ∧ s.2.size ≤ maxLen) := hs
  clear hR hs
  unfold maxLen at hl
  by_cases k1 : left - (L.length : Int) < 0
  · go_enter Try.func19, Try.ntmps19
    go_wp2
    go_ret
    exact ⟨-1, rfl, by omega, fun h => by omega, Below.refl _ _⟩
  · go_enter Try.func19, Try.ntmps19
    go_wp2
    go_loopw [1, 5] (fun l i wr => ∃ (k : Nat) (v : Int), k ≤ L.length ∧ i = .int .i64 k ∧ l = .int .i64 v ∧ 0 ≤ v ∧ v ≤ 1048576 ∧ Hid (∀ t (h : t < L.length), t < k → fitsS L[t]) ∧ Hid (Below w.heap.size w wr)) (fun _ i _ => L.length - (intOf i).toNat)
    case atStart => exact ⟨0, _, by omega, rfl, rfl, by omega, by omega, fun t h h2 => by omega, Below.refl _ _⟩
    case round =>
      obtain ⟨k, v, hk, rfl, rfl, hv0, hv1, HF, HB⟩ := hrel
      by_cases hlt : k < L.length
      · obtain ⟨x, rfl, hx, hE⟩ := (HR.out.below HB.out).elem k hlt
        obtain ⟨c0, c1⟩ := ElemAt.two hE
        obtain ⟨m0, m1⟩ := HS.out L[k] (List.getElem_mem hlt)
        have HFN : Hid (fitsS L[k] → ∀ t (h : t < L.length), t < k + 1 → fitsS L[t]) := fun hk2 t h h2 => by
          by_cases e : t = k
          · subst e; exact hk2
          · exact HF.out t h (by omega)
        clear hE
        generalize L[k] = s at *
        obtain ⟨nm, tx⟩ := s
        dsimp only at *
        have hi0 : (0 : Int) ≤ (k : Int) := by omega
        have hi1 : (k : Int) < (L.length : Int) := by omega
        go_wp2_with fail
        refine (szEntry_any nm tx v wr m0 m1 hv0 hv1).mono ?_
        rintro e x2 ⟨r, rfl, hr1, hr, hb⟩
        have HB2 : Hid (Below w.heap.size w x2) := below_call HB.out hb
        have HQ : Hid (¬ r < 0 → fitsS (nm, tx)) := hr
        clear hb hr c0 c1
        by_cases hneg : r < 0
        · go_wp2
          go_ret
          exact ⟨-1, rfl, by omega, fun h => by omega, HB2.out⟩
        · go_wp2
          go_roundw
          case rel => exact ⟨k + 1, r, by omega, by go_num, rfl, by omega, hr1, HFN.out (HQ.out hneg), HB2.out⟩
          case measure => simp [intOf]; omega
      · go_wp2
        go_ret
        exact ⟨v, rfl, hv1, fun _ => ⟨by omega, fun s hs => by
          obtain ⟨t, ht, rfl⟩ := List.getElem_of_mem hs
          exact HF.out t ht (by omega)⟩, HB.out⟩
set_option maxRecDepth 100000 in
set_option maxHeartbeats 1600000 in
theorem toEntry_any (nm tx : ByteArray) (w : World) : Calls Try.prog 57 #[.agg #[.string nm, .string tx]] w fun e w' => e = .returned (.agg #[.string nm, .string tx]) ∧ Below w.heap.size w w' := by
  go_enter Try.func57, Try.ntmps57
  go_wp2
  exact bodyPost_ret (results_cell_row Try.results57 _ _ (w.heap.size + 1) 93 _ (0, 0) _ rfl (heap_more (heap_new2 w _ _) _) Try.underlying93 rfl (by kernel_rfl)) rfl ⟨rfl, below_more (below_more (below_new _ _) _) _⟩
theorem infoEnt : (Try.prog.info? 93).map (fun i => (i.zero, i.size, i.bytes)) = some (some (.agg #[.string ⟨#[]⟩, .string ⟨#[]⟩]), 2, 32) := by kernel_rfl
theorem makeEnt (n : Nat) (hn : n ≤ 2000000) : ∃ Z : Array Value, Z.size = n * 2 ∧ ∀ w, (Instr.makeSlice 46 (.int .i64 (n : Int)) (.int .i64 (n : Int))).run Try.prog w = .ok (.slice (some ⟨w.heap.size, 0, none⟩) n n) (w.alloc (.cells Z 93)) := by
  obtain ⟨i0, hi, hz0, hz1, hz2⟩ := info_parts infoEnt
  refine ⟨madeCells (Value.agg #[.string ⟨#[]⟩, .string ⟨#[]⟩]).cells (n * i0.size), by simp [madeCells, hz1], fun w => ?_⟩
  rw [run_make (P := Try.prog) w 46 93 i0 (.agg #[.string ⟨#[]⟩, .string ⟨#[]⟩]) Try.underlying46 hi hz0 .i64 .i64 n n (by omega) (by omega) (by rw [hz2]; omega) (by omega)]
  rw [Int.toNat_natCast]
set_option maxRecDepth 100000 in
set_option maxHeartbeats 1600000 in
theorem toEntryS_any (a : Option Addr) (L : List Src) (cap : Nat) (w : World) (hR : RowIs 2 srcC w a L) (hl : L.length ≤ 2000000) :
    Calls Try.prog 21 #[.slice a L.length cap] w fun e w' => e = .returned (.slice (some ⟨w.heap.size, 0, none⟩) L.length L.length) ∧ w'.heap[w.heap.size]? = some (.cells (L.flatMap srcC).toArray 93 (0, 0)) ∧ Below w.heap.size w w' := by
  obtain ⟨Z, hZ, hm⟩ := makeEnt L.length hl
  have HZ : Hid (Z.size = L.length * 2) := hZ
  have HR : Hid (RowIs 2 srcC w a L) := hR
  clear hR hZ
  go_enter Try.func21, Try.ntmps21
  go_wp2
  go_loopw [4] (fun i wr => ∃ k : Nat, k ≤ L.length ∧ i = .int .i64 k ∧ Hid (∃ cur : Array Value, wr.heap[w.heap.size]? = some (.cells cur 93 (0, 0)) ∧ RowTo 2 srcC cur L k) ∧ Hid (Below w.heap.size w wr)) (fun i _ => L.length - (intOf i).toNat)
  case atStart => exact ⟨0, by omega, rfl, ⟨Z, heap_alloc_new w _, HZ.out, fun i _ h => by omega⟩, below_new w _⟩
  case round =>
    obtain ⟨k, hk, rfl, HX, HB⟩ := hrel
    clear hm
    by_cases hlt : k < L.length
    · obtain ⟨x, rfl, hx, hE⟩ := (HR.out.below HB.out).elem k hlt
      obtain ⟨c0, c1⟩ := ElemAt.two hE
      have HT : Hid (∀ cur, RowTo 2 srcC cur L k → RowTo 2 srcC ((cur.setIfInBounds (k * 2) (.string L[k].1)).setIfInBounds (k * 2 + 1) (.string L[k].2)) L (k + 1)) := fun cur h => h.set2 hlt rfl
      clear hE
      generalize L[k] = s at *
      obtain ⟨nm, tx⟩ := s
      dsimp only at *
      have hi0 : (0 : Int) ≤ (k : Int) := by omega
      have hi1 : (k : Int) < (L.length : Int) := by omega
      go_wp2_with fail
      refine (toEntry_any nm tx wr).mono ?_
      rintro e x2 ⟨rfl, hb⟩
      have HB2 : Hid (Below w.heap.size w x2) := below_call HB.out hb
      obtain ⟨cur, hcur, hto⟩ := HX.out
      have hcur2 := heap_keep hcur hb
      have hsz : k * 2 + 1 < cur.size := by have := hto.1; omega
      obtain ⟨o0, q0⟩ : ∃ v, x2.cell? ⟨w.heap.size, k * 2, none⟩ = some v := ⟨cur[k * 2], by rw [cell_of_row _ _ _ _ _ _ hcur2]; exact Array.getElem?_eq_getElem _⟩
      obtain ⟨o1, q1⟩ : ∃ v, x2.cell? ⟨w.heap.size, k * 2 + 1, none⟩ = some v := ⟨cur[k * 2 + 1], by rw [cell_of_row _ _ _ _ _ _ hcur2]; exact Array.getElem?_eq_getElem _⟩
      have y0 : x2.frozen? ⟨w.heap.size, k * 2, none⟩ = false := frozen_of_row _ _ _ _ _ hcur2
      have y1 : x2.frozen? ⟨w.heap.size, k * 2 + 1, none⟩ = false := frozen_of_row _ _ _ _ _ hcur2
      have HC : Hid (_ = _) := hcur2
      have HTO : Hid (RowTo 2 srcC cur L k) := hto
      clear hb c0 c1 hcur hcur2 hto HX HB hsz
      go_wp2
      go_roundw
      case rel => exact ⟨k + 1, by omega, by go_num, ⟨_, heap_set (heap_set HC.out (k * 2) _) (k * 2 + 1) _, HT.out _ HTO.out⟩, (HB2.out.setCell (Nat.le_refl _) _).setCell (Nat.le_refl _) _⟩
      case measure => simp [intOf]; omega
    · obtain rfl : k = L.length := by omega
      go_wp2
      go_ret
      obtain ⟨cur, hcur, hto⟩ := HX.out
      rw [hto.done srcC_len] at hcur
      exact ⟨rfl, hcur, HB.out⟩
set_option maxRecDepth 100000 in
set_option maxHeartbeats 1600000 in
theorem eqEntry_any (nm tx : ByteArray) (w : World) : Calls Try.prog 60 #[.agg #[.string nm, .string tx], .agg #[.string nm, .string tx]] w fun e w' => e = .returned (.bool true) ∧ Below w.heap.size w w' := by
  go_enter Try.func60, Try.ntmps60
  go_wp2
  go_ret
  exact ⟨rfl, below_more (below_new _ _) _⟩
set_option maxRecDepth 100000 in
set_option maxHeartbeats 1600000 in
theorem eqEntryS_any (a b : Option Addr) (L : List Src) (cap cap2 : Nat) (w : World) (hR : RowIs 2 srcC w a L) (hS : RowIs 2 srcC w b L) (hl : L.length ≤ 2000000) :
    Calls Try.prog 23 #[.slice a L.length cap, .slice b L.length cap2] w fun e w' => e = .returned (.bool true) ∧ Below w.heap.size w w' := by
  have HR : Hid (RowIs 2 srcC w a L) := hR
  have HS : Hid (RowIs 2 srcC w b L) := hS
  clear hR hS
  go_enter Try.func23, Try.ntmps23
  go_wp2
  go_loopw [5] (fun i wr => ∃ k : Nat, k ≤ L.length ∧ i = .int .i64 k ∧ Hid (Below w.heap.size w wr)) (fun i _ => L.length - (intOf i).toNat)
  case atStart => exact ⟨0, by omega, rfl, Below.refl _ _⟩
  case round =>
    obtain ⟨k, hk, rfl, HB⟩ := hrel
    by_cases hlt : k < L.length
    · obtain ⟨x, rfl, hx, hE⟩ := (HR.out.below HB.out).elem k hlt
      obtain ⟨y, rfl, hy, hF⟩ := (HS.out.below HB.out).elem k hlt
      obtain ⟨c0, c1⟩ := ElemAt.two hE
      obtain ⟨d0, d1⟩ := ElemAt.two hF
      clear hE hF
      generalize L[k] = s at *
      obtain ⟨nm, tx⟩ := s
      dsimp only at *
      have hi0 : (0 : Int) ≤ (k : Int) := by omega
      have hi1 : (k : Int) < (L.length : Int) := by omega
      have HI : Hid (Two wr x (k * 2) nm tx) := ⟨c0, c1⟩
      have HJ : Hid (Two wr y (k * 2) nm tx) := ⟨d0, d1⟩
      go_wp2_with fail
      go_region_held3 (fun w' => w'.cell? (x.add (k * 2)) = some (.string nm) ∧ w'.cell? ⟨(x.add (k * 2)).block, (x.add (k * 2)).off + 1, none⟩ = some (.string tx) ∧ w'.cell? (y.add (k * 2)) = some (.string nm) ∧ w'.cell? ⟨(y.add (k * 2)).block, (y.add (k * 2)).off + 1, none⟩ = some (.string tx)) (exact ⟨HI.out.1, HI.out.2, HJ.out.1, HJ.out.2⟩) (first
        | (go_at_call 60; refine (eqEntry_any nm tx _).mono ?_; rintro e x5 ⟨rfl, hb⟩; have HB : Hid (Below w.heap.size w x5) := below_call (by repeat (first | with_reducible exact HB.out | with_reducible refine Below.drew ?_)) hb; have HI : Hid (Two x5 x (k * 2) nm tx) := Two.keep (by exact HI.out) (by exact hx) hb; have HJ : Hid (Two x5 y (k * 2) nm tx) := Two.keep (by exact HJ.out) (by exact hy) hb; clear hb))
      all_goals
        go_wp2
        go_roundw
        case rel => exact ⟨k + 1, by omega, by go_num, HB.out⟩
        case measure => simp [intOf]; omega
    · go_wp2
      go_ret
      exact ⟨rfl, HB.out⟩
end Go.Proofs.Ytcnjeeckkpiilaa
