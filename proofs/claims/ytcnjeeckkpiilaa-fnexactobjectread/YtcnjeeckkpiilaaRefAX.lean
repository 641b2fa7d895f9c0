/- Refs of the laws: sizes, copies, comparisons of single ones and of rows. (By tools/genrows.py.) -/
import Derived.Test.YtcnjeeckkpiilaaRows
import Derived.WalkKit
import Derived.WalkSpells
import Derived.WalkLawsBesides
import Derived.Outline
import Derived.ProofKit
import Derived.OpenShut
import Derived.ChangeArms
import Derived.Deep.Slices
import Derived.RegionTactic
import Derived.BigRegion
import Derived.Deep.QuietTactic
import Derived.BigQuiet
import Derived.Deep.RegionHeld3
import Derived.Test.YtcnjeeckkpiilaaBun0
import Derived.Test.YtcnjeeckkpiilaaBun1
import Derived.Test.YtcnjeeckkpiilaaRowXX
import Derived.Test.YtcnjeeckkpiilaaBun5
namespace Go.Proofs.Ytcnjeeckkpiilaa
open Go.RowKit Go.WideShapes
set_option linter.unusedVariables false

abbrev refE : Type := Int × ByteArray × Int × Bool
def refC (s : refE) : List Value := [.int .i64 s.1, .string s.2.1, .int .i64 s.2.2.1, .bool s.2.2.2]
theorem refC_len (s : refE) : (refC s).length = 4 := rfl
def fitsref (s : refE) : Prop := s.2.1.size ≤ 1048576
def textsref (s : refE) : Prop := s.2.1.size ≤ maxLen ∧ (Lit.int .i64 s.1).wf = true ∧ (Lit.int .i64 s.2.2.1).wf = true
theorem textsref_s {L : List refE} (h : ∀ s ∈ L, textsref s) : ∀ s ∈ L, s.2.1.size ≤ maxLen := fun s hs => (h s hs).1
set_option maxRecDepth 100000 in
set_option maxHeartbeats 1600000 in
theorem szRef_any (x0 : Int) (x1 : ByteArray) (x2 : Int) (x3 : Bool) (left : Int) (w : World) (m1 : x1.size ≤ maxLen) (h0 : 0 ≤ left) (hl : left ≤ 1048576) : Calls Try.prog 63 #[.agg #[.int .i64 x0, .string x1, .int .i64 x2, .bool x3], .int .i64 left] w (SzOut (fitsref (x0, x1, x2, x3)) w) := by
  unfold maxLen at m1
  by_cases k0 : left - (x1.size : Int) < 0
  · go_enter Try.func63, Try.ntmps63
    go_wp2
    go_ret
    exact ⟨-1, rfl, by omega, fun h => by omega, below_new _ _⟩
  go_enter Try.func63, Try.ntmps63
  go_wp2
  go_ret
  exact ⟨_, rfl, by omega, fun h => (by show x1.size ≤ _; omega), below_new _ _⟩
set_option maxRecDepth 100000 in
set_option maxHeartbeats 1600000 in
theorem szRefS_any (a : Option Addr) (L : List refE) (cap : Nat) (left : Int) (w : World) (h0 : 0 ≤ left) (h9 : left ≤ 1048576) (hR : RowIs 4 refC w a L) (hl : L.length ≤ maxLen) (hs : ∀ s ∈ L, s.2.1.size ≤ maxLen) : Calls Try.prog 30 #[.slice a L.length cap, .int .i64 left] w (SzOut (L.length ≤ 1048576 ∧ ∀ s ∈ L, fitsref s) w) := by
  have HR : Hid (RowIs 4 refC w a L) := hR
  have HS : Hid (∀ s ∈ L, s.2.1.size ≤ maxLen) := hs
  clear hR hs
  unfold maxLen at hl
  by_cases k1 : left - (L.length : Int) < 0
  · go_enter Try.func30, Try.ntmps30
    go_wp2
    go_ret
    exact ⟨-1, rfl, by omega, fun h => by omega, Below.refl _ _⟩
  · go_enter Try.func30, Try.ntmps30
    go_wp2
    go_loopw [1, 5] (fun l i wr => ∃ (k : Nat) (v : Int), k ≤ L.length ∧ i = .int .i64 k ∧ l = .int .i64 v ∧ 0 ≤ v ∧ v ≤ 1048576 ∧ Hid (∀ t (h : t < L.length), t < k → fitsref L[t]) ∧ Hid (Below w.heap.size w wr)) (fun _ i _ => L.length - (intOf i).toNat)
    case atStart => exact ⟨0, _, by omega, rfl, rfl, by omega, by omega, fun t h h2 => by omega, Below.refl _ _⟩
    case round =>
      obtain ⟨k, v, hk, rfl, rfl, hv0, hv1, HF, HB⟩ := hrel
      by_cases hlt : k < L.length
      · obtain ⟨x, rfl, hx, hE⟩ := (HR.out.below HB.out).elem k hlt
        obtain ⟨c0, c1, c2, c3⟩ := ElemAt.four hE
        have m1 := HS.out L[k] (List.getElem_mem hlt)
        have HFN : Hid (fitsref L[k] → ∀ t (h : t < L.length), t < k + 1 → fitsref L[t]) := fun hk2 t h h2 => by
          by_cases e : t = k
          · subst e; exact hk2
          · exact HF.out t h (by omega)
        clear hE
        generalize L[k] = s at *
        obtain ⟨x0, x1, x2, x3⟩ := s
        dsimp only at *
        have hi0 : (0 : Int) ≤ (k : Int) := by omega
        have hi1 : (k : Int) < (L.length : Int) := by omega
        go_wp2_with fail
        refine (szRef_any x0 x1 x2 x3 v wr m1 hv0 hv1).mono ?_
        rintro e y2 ⟨r, rfl, hr1, hr, hb⟩
        have HB2 : Hid (Below w.heap.size w y2) := below_call HB.out hb
        have HQ : Hid (¬ r < 0 → fitsref (x0, x1, x2, x3)) := hr
        clear hb hr c0 c1 c2 c3
        by_cases hneg : r < 0
        · go_wp2
          go_ret
          exact ⟨-1, rfl, by omega, fun h => by omega, HB2.out⟩
        · go_wp2
          go_roundw
          case rel => exact ⟨k + 1, r, by omega, by go_num, rfl, by omega, hr1, HFN.out (HQ.out hneg), HB2.out⟩
          case measure => simp [intOf]; omega
      · go_wp2
        go_ret
        exact ⟨v, rfl, hv1, fun _ => ⟨by omega, fun s hs => by
          obtain ⟨t, ht, rfl⟩ := List.getElem_of_mem hs
          exact HF.out t ht (by omega)⟩, HB.out⟩
set_option maxRecDepth 100000 in
set_option maxHeartbeats 1600000 in
theorem toRef_any (x0 : Int) (x1 : ByteArray) (x2 : Int) (x3 : Bool) (w : World) : Calls Try.prog 71 #[.agg #[.int .i64 x0, .string x1, .int .i64 x2, .bool x3]] w fun e w' => e = .returned (.agg #[.int .i64 x0, .string x1, .int .i64 x2, .bool x3]) ∧ Below w.heap.size w w' := by
  go_enter Try.func71, Try.ntmps71
  go_wp2
  exact bodyPost_ret (results_cell_row Try.results71 _ _ (w.heap.size + 1) 70 _ (0, 0) _ rfl (heap_more (heap_new2 w _ _) _) Try.underlying70 rfl (by kernel_rfl)) rfl ⟨rfl, below_more (below_more (below_new _ _) _) _⟩
theorem infoRef : (Try.prog.info? 70).map (fun i => (i.zero, i.size, i.bytes)) = some (some (.agg #[.int .i64 0, .string ⟨#[]⟩, .int .i64 0, .bool false]), 4, 40) := by kernel_rfl
theorem makeRef (n : Nat) (hn : n ≤ 2000000) : ∃ Z : Array Value, Z.size = n * 4 ∧ ∀ w, (Instr.makeSlice 32 (.int .i64 (n : Int)) (.int .i64 (n : Int))).run Try.prog w = .ok (.slice (some ⟨w.heap.size, 0, none⟩) n n) (w.alloc (.cells Z 70)) := by
  obtain ⟨i0, hi, hz0, hz1, hz2⟩ := info_parts infoRef
  refine ⟨madeCells (Value.agg #[.int .i64 0, .string ⟨#[]⟩, .int .i64 0, .bool false]).cells (n * i0.size), by simp [madeCells, hz1], fun w => ?_⟩
  rw [run_make (P := Try.prog) w 32 70 i0 (.agg #[.int .i64 0, .string ⟨#[]⟩, .int .i64 0, .bool false]) Try.underlying32 hi hz0 .i64 .i64 n n (by omega) (by omega) (by rw [hz2]; omega) (by omega)]
  rw [Int.toNat_natCast]
set_option maxRecDepth 100000 in
set_option maxHeartbeats 1600000 in
theorem toRefS_any (a : Option Addr) (L : List refE) (cap : Nat) (w : World) (hR : RowIs 4 refC w a L) (hl : L.length ≤ 2000000) :
    Calls Try.prog 35 #[.slice a L.length cap] w fun e w' => e = .returned (.slice (some ⟨w.heap.size, 0, none⟩) L.length L.length) ∧ w'.heap[w.heap.size]? = some (.cells (L.flatMap refC).toArray 70 (0, 0)) ∧ Below w.heap.size w w' := by
  obtain ⟨Z, hZ, hm⟩ := makeRef L.length hl
  have HZ : Hid (Z.size = L.length * 4) := hZ
  have HR : Hid (RowIs 4 refC w a L) := hR
  clear hR hZ
  go_enter Try.func35, Try.ntmps35
  go_wp2
  go_loopw [4] (fun i wr => ∃ k : Nat, k ≤ L.length ∧ i = .int .i64 k ∧ Hid (∃ cur : Array Value, wr.heap[w.heap.size]? = some (.cells cur 70 (0, 0)) ∧ RowTo 4 refC cur L k) ∧ Hid (Below w.heap.size w wr)) (fun i _ => L.length - (intOf i).toNat)
  case atStart => exact ⟨0, by omega, rfl, ⟨Z, heap_alloc_new w _, HZ.out, fun i _ h => by omega⟩, below_new w _⟩
  case round =>
    obtain ⟨k, hk, rfl, HX, HB⟩ := hrel
    clear hm
    by_cases hlt : k < L.length
    · obtain ⟨x, rfl, hx, hE⟩ := (HR.out.below HB.out).elem k hlt
      obtain ⟨c0, c1, c2, c3⟩ := ElemAt.four hE
      have HT : Hid (∀ cur, RowTo 4 refC cur L k → RowTo 4 refC ((((cur.setIfInBounds (k * 4) (.int .i64 L[k].1)).setIfInBounds (k * 4 + 1) (.string L[k].2.1)).setIfInBounds (k * 4 + 2) (.int .i64 L[k].2.2.1)).setIfInBounds (k * 4 + 3) (.bool L[k].2.2.2)) L (k + 1)) := fun cur h => h.set4 hlt rfl
      clear hE
      generalize L[k] = s at *
      obtain ⟨x0, x1, x2, x3⟩ := s
      dsimp only at *
      have hi0 : (0 : Int) ≤ (k : Int) := by omega
      have hi1 : (k : Int) < (L.length : Int) := by omega
      go_wp2_with fail
      refine (toRef_any x0 x1 x2 x3 wr).mono ?_
      rintro e y2 ⟨rfl, hb⟩
      have HB2 : Hid (Below w.heap.size w y2) := below_call HB.out hb
      obtain ⟨cur, hcur, hto⟩ := HX.out
      have hcur2 := heap_keep hcur hb
      have hsz : k * 4 + 3 < cur.size := by have := hto.1; omega
      obtain ⟨o0, q0⟩ : ∃ v, y2.cell? ⟨w.heap.size, k * 4, none⟩ = some v := ⟨cur[k * 4 + 0], by rw [cell_of_row _ _ _ _ _ _ hcur2]; exact Array.getElem?_eq_getElem _⟩
      have y5 : y2.frozen? ⟨w.heap.size, k * 4, none⟩ = false := frozen_of_row _ _ _ _ _ hcur2
      obtain ⟨o1, q1⟩ : ∃ v, y2.cell? ⟨w.heap.size, k * 4 + 1, none⟩ = some v := ⟨cur[k * 4 + 1], by rw [cell_of_row _ _ _ _ _ _ hcur2]; exact Array.getElem?_eq_getElem _⟩
      have y6 : y2.frozen? ⟨w.heap.size, k * 4 + 1, none⟩ = false := frozen_of_row _ _ _ _ _ hcur2
      obtain ⟨o2, q2⟩ : ∃ v, y2.cell? ⟨w.heap.size, k * 4 + 2, none⟩ = some v := ⟨cur[k * 4 + 2], by rw [cell_of_row _ _ _ _ _ _ hcur2]; exact Array.getElem?_eq_getElem _⟩
      have y7 : y2.frozen? ⟨w.heap.size, k * 4 + 2, none⟩ = false := frozen_of_row _ _ _ _ _ hcur2
      obtain ⟨o3, q3⟩ : ∃ v, y2.cell? ⟨w.heap.size, k * 4 + 3, none⟩ = some v := ⟨cur[k * 4 + 3], by rw [cell_of_row _ _ _ _ _ _ hcur2]; exact Array.getElem?_eq_getElem _⟩
      have y8 : y2.frozen? ⟨w.heap.size, k * 4 + 3, none⟩ = false := frozen_of_row _ _ _ _ _ hcur2
      have HC : Hid (_ = _) := hcur2
      have HTO : Hid (RowTo 4 refC cur L k) := hto
      clear hb c0 c1 c2 c3 hcur hcur2 hto HX HB hsz
      go_wp2
      go_roundw
      case rel => exact ⟨k + 1, by omega, by go_num, ⟨_, (heap_set (heap_set (heap_set (heap_set HC.out (k * 4) _) (k * 4 + 1) _) (k * 4 + 2) _) (k * 4 + 3) _), HT.out _ HTO.out⟩, (Below.setCell (Below.setCell (Below.setCell (Below.setCell HB2.out (Nat.le_refl _) _) (Nat.le_refl _) _) (Nat.le_refl _) _) (Nat.le_refl _) _)⟩
      case measure => simp [intOf]; omega
    · obtain rfl : k = L.length := by omega
      go_wp2
      go_ret
      obtain ⟨cur, hcur, hto⟩ := HX.out
      rw [hto.done refC_len] at hcur
      exact ⟨rfl, hcur, HB.out⟩
set_option maxRecDepth 100000 in
set_option maxHeartbeats 1600000 in
theorem eqRef_any (x0 : Int) (x1 : ByteArray) (x2 : Int) (x3 : Bool) (w : World) : Calls Try.prog 82 #[.agg #[.int .i64 x0, .string x1, .int .i64 x2, .bool x3], .agg #[.int .i64 x0, .string x1, .int .i64 x2, .bool x3]] w fun e w' => e = .returned (.bool true) ∧ Below w.heap.size w w' := by
  go_enter Try.func82, Try.ntmps82
  go_wp2
  go_ret
  exact ⟨rfl, below_more (below_new _ _) _⟩
set_option maxRecDepth 100000 in
set_option maxHeartbeats 1600000 in
theorem eqRefS_any (a b : Option Addr) (L : List refE) (cap cap2 : Nat) (w : World) (hR : RowIs 4 refC w a L) (hS : RowIs 4 refC w b L) (hl : L.length ≤ 2000000) :
    Calls Try.prog 45 #[.slice a L.length cap, .slice b L.length cap2] w fun e w' => e = .returned (.bool true) ∧ Below w.heap.size w w' := by
  have HR : Hid (RowIs 4 refC w a L) := hR
  have HS : Hid (RowIs 4 refC w b L) := hS
  clear hR hS
  go_enter Try.func45, Try.ntmps45
  go_wp2
  go_loopw [5] (fun i wr => ∃ k : Nat, k ≤ L.length ∧ i = .int .i64 k ∧ Hid (Below w.heap.size w wr)) (fun i _ => L.length - (intOf i).toNat)
  case atStart => exact ⟨0, by omega, rfl, Below.refl _ _⟩
  case round =>
    obtain ⟨k, hk, rfl, HB⟩ := hrel
    by_cases hlt : k < L.length
    · obtain ⟨x, rfl, hx, hE⟩ := (HR.out.below HB.out).elem k hlt
      obtain ⟨y, rfl, hy, hF⟩ := (HS.out.below HB.out).elem k hlt
      obtain ⟨c0, c1, c2, c3⟩ := ElemAt.four hE
      obtain ⟨d0, d1, d2, d3⟩ := ElemAt.four hF
      have HI : Hid (ElemAt wr x (k * 4) (refC L[k])) := hE
      have HJ : Hid (ElemAt wr y (k * 4) (refC L[k])) := hF
      clear hE hF
      generalize L[k] = s at *
      obtain ⟨x0, x1, x2, x3⟩ := s
      dsimp only at *
      have hi0 : (0 : Int) ≤ (k : Int) := by omega
      have hi1 : (k : Int) < (L.length : Int) := by omega
      go_wp2_with fail
      go_region_held3 (fun w' => w'.cell? (x.add (k * 4)) = some (.int .i64 x0) ∧ w'.cell? ⟨(x.add (k * 4)).block, (x.add (k * 4)).off + 1, none⟩ = some (.string x1) ∧ w'.cell? ⟨(x.add (k * 4)).block, (x.add (k * 4)).off + 2, none⟩ = some (.int .i64 x2) ∧ w'.cell? ⟨(x.add (k * 4)).block, (x.add (k * 4)).off + 3, none⟩ = some (.bool x3) ∧ w'.cell? (y.add (k * 4)) = some (.int .i64 x0) ∧ w'.cell? ⟨(y.add (k * 4)).block, (y.add (k * 4)).off + 1, none⟩ = some (.string x1) ∧ w'.cell? ⟨(y.add (k * 4)).block, (y.add (k * 4)).off + 2, none⟩ = some (.int .i64 x2) ∧ w'.cell? ⟨(y.add (k * 4)).block, (y.add (k * 4)).off + 3, none⟩ = some (.bool x3)) (exact ⟨(ElemAt.four HI.out).1, (ElemAt.four HI.out).2.1, (ElemAt.four HI.out).2.2.1, (ElemAt.four HI.out).2.2.2, (ElemAt.four HJ.out).1, (ElemAt.four HJ.out).2.1, (ElemAt.four HJ.out).2.2.1, (ElemAt.four HJ.out).2.2.2⟩) (first
        | (go_at_call 82; refine (eqRef_any x0 x1 x2 x3 _).mono ?_; rintro e y5 ⟨rfl, hb⟩; have HB : Hid (Below w.heap.size w y5) := below_call (by repeat (first | with_reducible exact HB.out | with_reducible refine Below.drew ?_)) hb; have HI : Hid (ElemAt y5 x (k * 4) (refC (x0, x1, x2, x3))) := ElemAt.keep (by exact HI.out) (by exact hx) hb; have HJ : Hid (ElemAt y5 y (k * 4) (refC (x0, x1, x2, x3))) := ElemAt.keep (by exact HJ.out) (by exact hy) hb; clear hb))
      all_goals
        go_wp2
        go_roundw
        case rel => exact ⟨k + 1, by omega, by go_num, HB.out⟩
        case measure => simp [intOf]; omega
    · go_wp2
      go_ret
      exact ⟨rfl, HB.out⟩
set_option maxRecDepth 100000 in
theorem open_ref {H : Type} {enc : TypeId × Value → H} {w : World} {base : Nat} {sp : Nat → Bool} {held : Bool} (fuel : Nat) (cs : List Value) (x : DataW H × List MemPlace) (hcs : cs.length = 4) (h : DataW.trod enc Try.prog w base sp held fuel 108 cs = some x) : ∃ s : refE, cs = refC s ∧ textsref s := by
  obtain ⟨xs, k, _, hx, hl, hn, hf⟩ := DataW.trod_struct Try.underlying108 h
  have kb : Try.prog.cellsOf 4 = 1 := by kernel_rfl
  have ki : Try.prog.cellsOf 2 = 1 := by kernel_rfl
  have ks : Try.prog.cellsOf 9 = 1 := by kernel_rfl
  match xs, hn, cs, hcs with
  | [z0, z1, z2, z3], _, [c0, c1, c2, c3], _ =>
    have h0 := hf 0 _ rfl
    have h1 := hf 1 _ rfl
    have h2 := hf 2 _ rfl
    have h3 := hf 3 _ rfl
    simp [kb, ki, ks] at h0 h1 h2 h3
    obtain ⟨x0, e0, _, w0⟩ := DataW.trod_int Try.underlying2 h0
    obtain ⟨x1, e1, _, w1⟩ := DataW.trod_string Try.underlying9 h1
    obtain ⟨x2, e2, _, w2⟩ := DataW.trod_int Try.underlying2 h2
    obtain ⟨x3, e3, _⟩ := DataW.trod_bool Try.underlying4 h3
    simp at e0 e1 e2 e3
    subst e0 e1 e2 e3
    exact ⟨(x0, x1, x2, x3), rfl, w1, w0, w2⟩
end Go.Proofs.Ytcnjeeckkpiilaa
