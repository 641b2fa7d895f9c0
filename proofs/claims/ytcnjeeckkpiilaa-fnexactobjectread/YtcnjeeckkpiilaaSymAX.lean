/- Syms of the laws: sizes, copies, comparisons of single ones and of rows. (By tools/genrows.py.) -/
import Derived.Test.YtcnjeeckkpiilaaRows
import Derived.WalkKit
import Derived.WalkSpells
import Derived.WalkLawsBesides
import Derived.Outline
import Derived.ProofKit
import Derived.OpenShut
import Derived.ChangeArms
import Derived.Deep.Slices
import Derived.RegionTactic
import Derived.BigRegion
import Derived.Deep.QuietTactic
import Derived.BigQuiet
import Derived.Deep.RegionHeld3
import Derived.Test.YtcnjeeckkpiilaaBun0
import Derived.Test.YtcnjeeckkpiilaaBun1
import Derived.Test.YtcnjeeckkpiilaaRowXX
import Derived.Test.YtcnjeeckkpiilaaBun5
namespace Go.Proofs.Ytcnjeeckkpiilaa
open Go.RowKit Go.WideShapes
set_option linter.unusedVariables false

abbrev symE : Type := ByteArray × Int × Bool
def symC (s : symE) : List Value := [.string s.1, .int .i64 s.2.1, .bool s.2.2]
theorem symC_len (s : symE) : (symC s).length = 3 := rfl
def fitssym (s : symE) : Prop := s.1.size ≤ 1048576
def textssym (s : symE) : Prop := s.1.size ≤ maxLen ∧ (Lit.int .i64 s.2.1).wf = true
theorem textssym_s {L : List symE} (h : ∀ s ∈ L, textssym s) : ∀ s ∈ L, s.1.size ≤ maxLen := fun s hs => (h s hs).1
set_option maxRecDepth 100000 in
set_option maxHeartbeats 1600000 in
theorem szSym_any (x0 : ByteArray) (x1 : Int) (x2 : Bool) (left : Int) (w : World) (m0 : x0.size ≤ maxLen) (h0 : 0 ≤ left) (hl : left ≤ 1048576) : Calls Try.prog 62 #[.agg #[.string x0, .int .i64 x1, .bool x2], .int .i64 left] w (SzOut (fitssym (x0, x1, x2)) w) := by
  unfold maxLen at m0
  by_cases k0 : left - (x0.size : Int) < 0
  · go_enter Try.func62, Try.ntmps62
    go_wp2
    go_ret
    exact ⟨-1, rfl, by omega, fun h => by omega, below_new _ _⟩
  go_enter Try.func62, Try.ntmps62
  go_wp2
  go_ret
  exact ⟨_, rfl, by omega, fun h => (by show x0.size ≤ _; omega), below_new _ _⟩
set_option maxRecDepth 100000 in
set_option maxHeartbeats 1600000 in
theorem szSymS_any (a : Option Addr) (L : List symE) (cap : Nat) (left : Int) (w : World) (h0 : 0 ≤ left) (h9 : left ≤ 1048576) (hR : RowIs 3 symC w a L) (hl : L.length ≤ maxLen) (hs : ∀ s ∈ L, s.1.size ≤ maxLen) : Calls Try.prog 29 #[.slice a L.length cap, .int .i64 left] w (SzOut (L.length ≤ 1048576 ∧ ∀ s ∈ L, fitssym s) w) := by
  have HR : Hid (RowIs 3 symC w a L) := hR
  have HS : Hid (∀ s ∈ L, s.1.size ≤ maxLen) := hs
  clear hR hs
  unfold maxLen at hl
  by_cases k1 : left - (L.length : Int) < 0
  · go_enter Try.func29, Try.ntmps29
    go_wp2
    go_ret
    exact ⟨-1, rfl, by omega, fun h => by omega, Below.refl _ _⟩
  · go_enter Try.func29, Try.ntmps29
    go_wp2
    go_loopw [1, 5] (fun l i wr => ∃ (k : Nat) (v : Int), k ≤ L.length ∧ i = .int .i64 k ∧ l = .int .i64 v ∧ 0 ≤ v ∧ v ≤ 1048576 ∧ Hid (∀ t (h : t < L.length), t < k → fitssym L[t]) ∧ Hid (Below w.heap.size w wr)) (fun _ i _ => L.length - (intOf i).toNat)
    case atStart => exact ⟨0, _, by omega, rfl, rfl, by omega, by omega, fun t h h2 => by omega, Below.refl _ _⟩
    case round =>
      obtain ⟨k, v, hk, rfl, rfl, hv0, hv1, HF, HB⟩ := hrel
      by_cases hlt : k < L.length
      · obtain ⟨x, rfl, hx, hE⟩ := (HR.out.below HB.out).elem k hlt
        obtain ⟨c0, c1, c2⟩ := ElemAt.three hE
        have m0 := HS.out L[k] (List.getElem_mem hlt)
        have HFN : Hid (fitssym L[k] → ∀ t (h : t < L.length), t < k + 1 → fitssym L[t]) := fun hk2 t h h2 => by
          by_cases e : t = k
          · subst e; exact hk2
          · exact HF.out t h (by omega)
        clear hE
        generalize L[k] = s at *
        obtain ⟨x0, x1, x2⟩ := s
        dsimp only at *
        have hi0 : (0 : Int) ≤ (k : Int) := by omega
        have hi1 : (k : Int) < (L.length : Int) := by omega
        go_wp2_with fail
        refine (szSym_any x0 x1 x2 v wr m0 hv0 hv1).mono ?_
        rintro e y2 ⟨r, rfl, hr1, hr, hb⟩
        have HB2 : Hid (Below w.heap.size w y2) := below_call HB.out hb
        have HQ : Hid (¬ r < 0 → fitssym (x0, x1, x2)) := hr
        clear hb hr c0 c1 c2
        by_cases hneg : r < 0
        · go_wp2
          go_ret
          exact ⟨-1, rfl, by omega, fun h => by omega, HB2.out⟩
        · go_wp2
          go_roundw
          case rel => exact ⟨k + 1, r, by omega, by go_num, rfl, by omega, hr1, HFN.out (HQ.out hneg), HB2.out⟩
          case measure => simp [intOf]; omega
      · go_wp2
        go_ret
        exact ⟨v, rfl, hv1, fun _ => ⟨by omega, fun s hs => by
          obtain ⟨t, ht, rfl⟩ := List.getElem_of_mem hs
          exact HF.out t ht (by omega)⟩, HB.out⟩
set_option maxRecDepth 100000 in
set_option maxHeartbeats 1600000 in
theorem toSym_any (x0 : ByteArray) (x1 : Int) (x2 : Bool) (w : World) : Calls Try.prog 70 #[.agg #[.string x0, .int .i64 x1, .bool x2]] w fun e w' => e = .returned (.agg #[.string x0, .int .i64 x1, .bool x2]) ∧ Below w.heap.size w w' := by
  go_enter Try.func70, Try.ntmps70
  go_wp2
  exact bodyPost_ret (results_cell_row Try.results70 _ _ (w.heap.size + 1) 65 _ (0, 0) _ rfl (heap_more (heap_new2 w _ _) _) Try.underlying65 rfl (by kernel_rfl)) rfl ⟨rfl, below_more (below_more (below_new _ _) _) _⟩
theorem infoSym : (Try.prog.info? 65).map (fun i => (i.zero, i.size, i.bytes)) = some (some (.agg #[.string ⟨#[]⟩, .int .i64 0, .bool false]), 3, 32) := by kernel_rfl
theorem makeSym (n : Nat) (hn : n ≤ 2000000) : ∃ Z : Array Value, Z.size = n * 3 ∧ ∀ w, (Instr.makeSlice 31 (.int .i64 (n : Int)) (.int .i64 (n : Int))).run Try.prog w = .ok (.slice (some ⟨w.heap.size, 0, none⟩) n n) (w.alloc (.cells Z 65)) := by
  obtain ⟨i0, hi, hz0, hz1, hz2⟩ := info_parts infoSym
  refine ⟨madeCells (Value.agg #[.string ⟨#[]⟩, .int .i64 0, .bool false]).cells (n * i0.size), by simp [madeCells, hz1], fun w => ?_⟩
  rw [run_make (P := Try.prog) w 31 65 i0 (.agg #[.string ⟨#[]⟩, .int .i64 0, .bool false]) Try.underlying31 hi hz0 .i64 .i64 n n (by omega) (by omega) (by rw [hz2]; omega) (by omega)]
  rw [Int.toNat_natCast]
set_option maxRecDepth 100000 in
set_option maxHeartbeats 1600000 in
theorem toSymS_any (a : Option Addr) (L : List symE) (cap : Nat) (w : World) (hR : RowIs 3 symC w a L) (hl : L.length ≤ 2000000) :
    Calls Try.prog 34 #[.slice a L.length cap] w fun e w' => e = .returned (.slice (some ⟨w.heap.size, 0, none⟩) L.length L.length) ∧ w'.heap[w.heap.size]? = some (.cells (L.flatMap symC).toArray 65 (0, 0)) ∧ Below w.heap.size w w' := by
  obtain ⟨Z, hZ, hm⟩ := makeSym L.length hl
  have HZ : Hid (Z.size = L.length * 3) := hZ
  have HR : Hid (RowIs 3 symC w a L) := hR
  clear hR hZ
  go_enter Try.func34, Try.ntmps34
  go_wp2
  go_loopw [4] (fun i wr => ∃ k : Nat, k ≤ L.length ∧ i = .int .i64 k ∧ Hid (∃ cur : Array Value, wr.heap[w.heap.size]? = some (.cells cur 65 (0, 0)) ∧ RowTo 3 symC cur L k) ∧ Hid (Below w.heap.size w wr)) (fun i _ => L.length - (intOf i).toNat)
  case atStart => exact ⟨0, by omega, rfl, ⟨Z, heap_alloc_new w _, HZ.out, fun i _ h => by omega⟩, below_new w _⟩
  case round =>
    obtain ⟨k, hk, rfl, HX, HB⟩ := hrel
    clear hm
    by_cases hlt : k < L.length
    · obtain ⟨x, rfl, hx, hE⟩ := (HR.out.below HB.out).elem k hlt
      obtain ⟨c0, c1, c2⟩ := ElemAt.three hE
      have HT : Hid (∀ cur, RowTo 3 symC cur L k → RowTo 3 symC (((cur.setIfInBounds (k * 3) (.string L[k].1)).setIfInBounds (k * 3 + 1) (.int .i64 L[k].2.1)).setIfInBounds (k * 3 + 2) (.bool L[k].2.2)) L (k + 1)) := fun cur h => h.set3 hlt rfl
      clear hE
      generalize L[k] = s at *
      obtain ⟨x0, x1, x2⟩ := s
      dsimp only at *
      have hi0 : (0 : Int) ≤ (k : Int) := by omega
      have hi1 : (k : Int) < (L.length : Int) := by omega
      go_wp2_with fail
      refine (toSym_any x0 x1 x2 wr).mono ?_
      rintro e y2 ⟨rfl, hb⟩
      have HB2 : Hid (Below w.heap.size w y2) := below_call HB.out hb
      obtain ⟨cur, hcur, hto⟩ := HX.out
      have hcur2 := heap_keep hcur hb
      have hsz : k * 3 + 2 < cur.size := by have := hto.1; omega
      obtain ⟨o0, q0⟩ : ∃ v, y2.cell? ⟨w.heap.size, k * 3, none⟩ = some v := ⟨cur[k * 3 + 0], by rw [cell_of_row _ _ _ _ _ _ hcur2]; exact Array.getElem?_eq_getElem _⟩
      have y5 : y2.frozen? ⟨w.heap.size, k * 3, none⟩ = false := frozen_of_row _ _ _ _ _ hcur2
      obtain ⟨o1, q1⟩ : ∃ v, y2.cell? ⟨w.heap.size, k * 3 + 1, none⟩ = some v := ⟨cur[k * 3 + 1], by rw [cell_of_row _ _ _ _ _ _ hcur2]; exact Array.getElem?_eq_getElem _⟩
      have y6 : y2.frozen? ⟨w.heap.size, k * 3 + 1, none⟩ = false := frozen_of_row _ _ _ _ _ hcur2
      obtain ⟨o2, q2⟩ : ∃ v, y2.cell? ⟨w.heap.size, k * 3 + 2, none⟩ = some v := ⟨cur[k * 3 + 2], by rw [cell_of_row _ _ _ _ _ _ hcur2]; exact Array.getElem?_eq_getElem _⟩
      have y7 : y2.frozen? ⟨w.heap.size, k * 3 + 2, none⟩ = false := frozen_of_row _ _ _ _ _ hcur2
      have HC : Hid (_ = _) := hcur2
      have HTO : Hid (RowTo 3 symC cur L k) := hto
      clear hb c0 c1 c2 hcur hcur2 hto HX HB hsz
      go_wp2
      go_roundw
      case rel => exact ⟨k + 1, by omega, by go_num, ⟨_, (heap_set (heap_set (heap_set HC.out (k * 3) _) (k * 3 + 1) _) (k * 3 + 2) _), HT.out _ HTO.out⟩, (Below.setCell (Below.setCell (Below.setCell HB2.out (Nat.le_refl _) _) (Nat.le_refl _) _) (Nat.le_refl _) _)⟩
      case measure => simp [intOf]; omega
    · obtain rfl : k = L.length := by omega
      go_wp2
      go_ret
      obtain ⟨cur, hcur, hto⟩ := HX.out
      rw [hto.done symC_len] at hcur
      exact ⟨rfl, hcur, HB.out⟩
set_option maxRecDepth 100000 in
set_option maxHeartbeats 1600000 in
theorem eqSym_any (x0 : ByteArray) (x1 : Int) (x2 : Bool) (w : World) : Calls Try.prog 81 #[.agg #[.string x0, .int .i64 x1, .bool x2], .agg #[.string x0, .int .i64 x1, .bool x2]] w fun e w' => e = .returned (.bool true) ∧ Below w.heap.size w w' := by
  go_enter Try.func81, Try.ntmps81
  go_wp2
  go_ret
  exact ⟨rfl, below_more (below_new _ _) _⟩
set_option maxRecDepth 100000 in
set_option maxHeartbeats 1600000 in
theorem eqSymS_any (a b : Option Addr) (L : List symE) (cap cap2 : Nat) (w : World) (hR : RowIs 3 symC w a L) (hS : RowIs 3 symC w b L) (hl : L.length ≤ 2000000) :
    Calls Try.prog 44 #[.slice a L.length cap, .slice b L.length cap2] w fun e w' => e = .returned (.bool true) ∧ Below w.heap.size w w' := by
  have HR : Hid (RowIs 3 symC w a L) := hR
  have HS : Hid (RowIs 3 symC w b L) := hS
  clear hR hS
  go_enter Try.func44, Try.ntmps44
  go_wp2
  go_loopw [5] (fun i wr => ∃ k : Nat, k ≤ L.length ∧ i = .int .i64 k ∧ Hid (Below w.heap.size w wr)) (fun i _ => L.length - (intOf i).toNat)
  case atStart => exact ⟨0, by omega, rfl, Below.refl _ _⟩
  case round =>
    obtain ⟨k, hk, rfl, HB⟩ := hrel
    by_cases hlt : k < L.length
    · obtain ⟨x, rfl, hx, hE⟩ := (HR.out.below HB.out).elem k hlt
      obtain ⟨y, rfl, hy, hF⟩ := (HS.out.below HB.out).elem k hlt
      obtain ⟨c0, c1, c2⟩ := ElemAt.three hE
      obtain ⟨d0, d1, d2⟩ := ElemAt.three hF
      have HI : Hid (ElemAt wr x (k * 3) (symC L[k])) := hE
      have HJ : Hid (ElemAt wr y (k * 3) (symC L[k])) := hF
      clear hE hF
      generalize L[k] = s at *
      obtain ⟨x0, x1, x2⟩ := s
      dsimp only at *
      have hi0 : (0 : Int) ≤ (k : Int) := by omega
      have hi1 : (k : Int) < (L.length : Int) := by omega
      go_wp2_with fail
      go_region_held3 (fun w' => w'.cell? (x.add (k * 3)) = some (.string x0) ∧ w'.cell? ⟨(x.add (k * 3)).block, (x.add (k * 3)).off + 1, none⟩ = some (.int .i64 x1) ∧ w'.cell? ⟨(x.add (k * 3)).block, (x.add (k * 3)).off + 2, none⟩ = some (.bool x2) ∧ w'.cell? (y.add (k * 3)) = some (.string x0) ∧ w'.cell? ⟨(y.add (k * 3)).block, (y.add (k * 3)).off + 1, none⟩ = some (.int .i64 x1) ∧ w'.cell? ⟨(y.add (k * 3)).block, (y.add (k * 3)).off + 2, none⟩ = some (.bool x2)) (exact ⟨(ElemAt.three HI.out).1, (ElemAt.three HI.out).2.1, (ElemAt.three HI.out).2.2, (ElemAt.three HJ.out).1, (ElemAt.three HJ.out).2.1, (ElemAt.three HJ.out).2.2⟩) (first
        | (go_at_call 81; refine (eqSym_any x0 x1 x2 _).mono ?_; rintro e y5 ⟨rfl, hb⟩; have HB : Hid (Below w.heap.size w y5) := below_call (by repeat (first | with_reducible exact HB.out | with_reducible refine Below.drew ?_)) hb; have HI : Hid (ElemAt y5 x (k * 3) (symC (x0, x1, x2))) := ElemAt.keep (by exact HI.out) (by exact hx) hb; have HJ : Hid (ElemAt y5 y (k * 3) (symC (x0, x1, x2))) := ElemAt.keep (by exact HJ.out) (by exact hy) hb; clear hb))
      all_goals
        go_wp2
        go_roundw
        case rel => exact ⟨k + 1, by omega, by go_num, HB.out⟩
        case measure => simp [intOf]; omega
    · go_wp2
      go_ret
      exact ⟨rfl, HB.out⟩
set_option maxRecDepth 100000 in
theorem open_sym {H : Type} {enc : TypeId × Value → H} {w : World} {base : Nat} {sp : Nat → Bool} {held : Bool} (fuel : Nat) (cs : List Value) (x : DataW H × List MemPlace) (hcs : cs.length = 3) (h : DataW.trod enc Try.prog w base sp held fuel 106 cs = some x) : ∃ s : symE, cs = symC s ∧ textssym s := by
  obtain ⟨xs, k, _, hx, hl, hn, hf⟩ := DataW.trod_struct Try.underlying106 h
  have kb : Try.prog.cellsOf 4 = 1 := by kernel_rfl
  have ki : Try.prog.cellsOf 2 = 1 := by kernel_rfl
  have ks : Try.prog.cellsOf 9 = 1 := by kernel_rfl
  match xs, hn, cs, hcs with
  | [z0, z1, z2], _, [c0, c1, c2], _ =>
    have h0 := hf 0 _ rfl
    have h1 := hf 1 _ rfl
    have h2 := hf 2 _ rfl
    simp [kb, ki, ks] at h0 h1 h2
    obtain ⟨x0, e0, _, w0⟩ := DataW.trod_string Try.underlying9 h0
    obtain ⟨x1, e1, _, w1⟩ := DataW.trod_int Try.underlying2 h1
    obtain ⟨x2, e2, _⟩ := DataW.trod_bool Try.underlying4 h2
    simp at e0 e1 e2
    subst e0 e1 e2
    exact ⟨(x0, x1, x2), rfl, w0, w1⟩
end Go.Proofs.Ytcnjeeckkpiilaa
