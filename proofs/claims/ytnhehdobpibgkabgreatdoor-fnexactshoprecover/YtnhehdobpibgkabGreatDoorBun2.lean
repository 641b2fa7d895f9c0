/- Sources: the laws' helpers over rows of them. -/
import Derived.Test.YtnhehdobpibgkabGreatDoorRows
import Derived.WalkKit
import Derived.WalkSpells
import Derived.WalkLawsBesides
import Derived.Outline
import Derived.RegionTactic
import Derived.BigRegion
import Derived.Deep.QuietTactic
import Derived.BigQuiet
import Derived.Deep.RegionHeld3
import Derived.Test.YtnhehdobpibgkabGreatDoorBun0
import Derived.Test.YtnhehdobpibgkabGreatDoorBun1
import Derived.Laws.CopyOwn
import Derived.Laws.BytesArg
namespace Go.Proofs.YtnhehdobpibgkabGreatDoor
open Go.RowKit
set_option linter.unusedVariables false

abbrev Src : Type := ByteArray × ByteArray
def srcC (s : Src) : List Value := [.string s.1, .string s.2]
theorem srcC_len (s : Src) : (srcC s).length = 2 := rfl
def fitsS (s : Src) : Prop := s.1.size ≤ 1048576 ∧ s.2.size ≤ 1048576
def SzOut (P : Prop) (w : World) (e : Ending) (w' : World) : Prop := ∃ r : Int, e = .returned (.int .i64 r) ∧ r ≤ 1048576 ∧ (¬ r < 0 → P) ∧ Below w.heap.size w w'
theorem infoSrc : (Tryz.prog.info? 53).map (fun i => (i.zero, i.size, i.bytes)) = some (some (.agg #[.string ⟨#[]⟩, .string ⟨#[]⟩]), 2, 32) := by kernel_rfl
theorem makeSrc (n : Nat) (hn : n ≤ 2000000) : ∃ Z : Array Value, Z.size = n * 2 ∧ ∀ w, (Instr.makeSlice 30 (.int .i64 (n : Int)) (.int .i64 (n : Int))).run Tryz.prog w = .ok (.slice (some ⟨w.heap.size, 0, none⟩) n n) (w.alloc (.cells Z 53)) := by
  obtain ⟨i0, hi, hz0, hz1, hz2⟩ := info_parts infoSrc
  refine ⟨madeCells (Value.agg #[.string ⟨#[]⟩, .string ⟨#[]⟩]).cells (n * i0.size), by simp [madeCells, hz1], fun w => ?_⟩
  rw [run_make (P := Tryz.prog) w 30 53 i0 (.agg #[.string ⟨#[]⟩, .string ⟨#[]⟩]) Tryz.underlying30 hi hz0 .i64 .i64 n n (by omega) (by omega) (by rw [hz2]; omega) (by omega)]
  rw [Int.toNat_natCast]
theorem RowTo.set2 {α : Type} {c : α → List Value} {cur : Array Value} {L : List α} {k : Nat} (h : RowTo 2 c cur L k) (hk : k < L.length) {u v : Value} (hu : c L[k] = [u, v]) : RowTo 2 c ((cur.setIfInBounds (k * 2) u).setIfInBounds (k * 2 + 1) v) L (k + 1) := by
  obtain ⟨h1, h2⟩ := h
  refine ⟨by simp [h1], fun i hi hik j hj => ?_⟩
  have hsz : k * 2 + 1 < cur.size := by omega
  rw [Array.getElem?_setIfInBounds, Array.getElem?_setIfInBounds]
  by_cases e : i = k
  · subst e
    rw [hu]
    obtain rfl | rfl : j = 0 ∨ j = 1 := by omega
    · rw [if_neg (by omega), if_pos (by omega), if_pos (by omega)]; rfl
    · rw [if_pos (by omega), if_pos (by simp; omega)]; rfl
  · rw [if_neg (by omega), if_neg (by omega)]
    exact h2 i hi (by omega) j hj
/- Two texts side by side. -/
def Two (w : World) (x : Addr) (m : Nat) (nm tx : ByteArray) : Prop := w.cell? (x.add m) = some (.string nm) ∧ w.cell? ⟨(x.add m).block, (x.add m).off + 1, none⟩ = some (.string tx)
theorem Two.keep {w w' : World} {x : Addr} {m : Nat} {nm tx : ByteArray} (h : Two w x m nm tx) (hx : x.block < w.heap.size) (hb : Below w.heap.size w w') : Two w' x m nm tx :=
  ⟨(hb.cell (by rw [add_blockX]; exact hx)).trans h.1, (hb.cell (p := ⟨(x.add m).block, (x.add m).off + 1, none⟩) (by show (x.add m).block < _; rw [add_blockX]; exact hx)).trans h.2⟩
end Go.Proofs.YtnhehdobpibgkabGreatDoor
namespace Go.Proofs.YtnhehdobpibgkabGreatDoor
open Go.RowKit
set_option linter.unusedVariables false

set_option maxRecDepth 100000 in
set_option maxHeartbeats 1600000 in
theorem szShop_any (g : ByteArray) (sy left : Int) (w : World) (h1 : g.size ≤ maxLen) (h0 : 0 ≤ left) (hl : left ≤ 1048576) : Calls Tryz.prog 4 #[.agg #[.string g, .int .i64 sy], .int .i64 left] w (SzOut (g.size ≤ 1048576) w) := by
  unfold maxLen at h1
  by_cases k1 : left - (g.size : Int) < 0
  · go_enter Tryz.func4, Tryz.ntmps4
    go_wp2
    go_ret
    exact ⟨-1, rfl, by omega, fun h => by omega, below_new _ _⟩
  · go_enter Tryz.func4, Tryz.ntmps4
    go_wp2
    go_ret
    exact ⟨_, rfl, by omega, fun h => by omega, below_new _ _⟩
set_option maxRecDepth 100000 in
set_option maxHeartbeats 1600000 in
theorem toShop_any (g : ByteArray) (sy : Int) (w : World) : Calls Tryz.prog 6 #[.agg #[.string g, .int .i64 sy]] w fun e w' => e = .returned (.agg #[.string g, .int .i64 sy]) ∧ Below w.heap.size w w' := by
  go_enter Tryz.func6, Tryz.ntmps6
  go_wp2
  exact bodyPost_ret (results_cell_row Tryz.results6 _ _ (w.heap.size + 1) 25 _ (0, 0) _ rfl (heap_more (heap_new2 w _ _) _) Tryz.underlying25 rfl (by kernel_rfl)) rfl ⟨rfl, below_more (below_more (below_new _ _) _) _⟩
set_option maxRecDepth 100000 in
set_option maxHeartbeats 1600000 in
theorem eqShop_any (g : ByteArray) (sy : Int) (w : World) : Calls Tryz.prog 8 #[.agg #[.string g, .int .i64 sy], .agg #[.string g, .int .i64 sy]] w fun e w' => e = .returned (.bool true) ∧ Below w.heap.size w w' := by
  go_enter Tryz.func8, Tryz.ntmps8
  go_wp2
  go_ret
  exact ⟨rfl, below_more (below_new _ _) _⟩
end Go.Proofs.YtnhehdobpibgkabGreatDoor
namespace Go.Proofs.YtnhehdobpibgkabGreatDoor
open Go Go.RowKit

def bcells (s : ByteArray) : List Value := s.data.toList.map fun b => Value.int .u8 (b.toNat : Int)
theorem bcells_len (s : ByteArray) : (bcells s).length = s.size := by simp [bcells]
theorem bcells_one (s : ByteArray) : ∀ v ∈ bcells s, v.oneCell' = true := by
  intro v hv
  simp only [bcells, List.mem_map] at hv
  obtain ⟨b, _, rfl⟩ := hv
  rfl
theorem bcells_append (a b : ByteArray) : bcells (a ++ b) = bcells a ++ bcells b := by simp [bcells]

theorem run_copy_text {P : Program} (w : World) (dT sT ty elem : TypeId) (g o dLen dCap : Nat) (s : ByteArray) (cur : Array Value) (t : TypeId)
    (hu : P.underlying dT = some (.slice elem)) (hs : (P.info? elem).map (·.size) = some 1) (hg : w.heap[g]? = some (.cells cur t (0, 0))) (hle : s.size ≤ dLen) (hfit : o + s.size ≤ cur.size) :
    (Builtin.copy_ #[dT, sT] ty #[.slice (some ⟨g, o, none⟩) dLen dCap, .string s]).run P w =
      .ok (goInt s.size) (w.setRow g (cur.toList.take o ++ bcells s ++ cur.toList.drop (o + s.size)).toArray) := by
  have hst := run_storeCells_at P g o t (bcells s) 0 cur w hg (by rw [bcells_len]; simpa using hfit) (bcells_one _)
  have hmin : Nat.min s.size dLen = s.size := Nat.min_eq_left hle
  have htk : List.take s.size (List.map (fun b : UInt8 => Value.int IntKind.u8 (b.toNat : Int)) s.data.toList) = bcells s := by
    rw [List.take_of_length_le (by simp)]
    rfl
  rw [bcells_len] at hst
  simp only [Nat.add_zero] at hst
  cases hq : P.info? elem with
  | none => simp [hq] at hs
  | some i =>
    simp [Builtin.copy_, run_underlying hu, Builtin.lenOf, Builtin.firstCells, sizeOf, typeInfo, hq, hmin]
    rw [htk, hst]
    simp [Result.andThen]

theorem run_copy_text0 {P : Program} (w : World) (dT sT ty elem : TypeId) (d : Option Addr) (dLen dCap : Nat) (s : ByteArray)
    (hu : P.underlying dT = some (.slice elem)) (hs : (P.info? elem).map (·.size) = some 1) (h0 : s.size = 0) :
    (Builtin.copy_ #[dT, sT] ty #[.slice d dLen dCap, .string s]).run P w = .ok (goInt 0) w := by
  cases hq : P.info? elem with
  | none => simp [hq] at hs
  | some i =>
    cases d <;> simp [Builtin.copy_, run_underlying hu, Builtin.lenOf, Builtin.firstCells, sizeOf, typeInfo, hq, h0, storeCells]

theorem copy_text {P : Program} (w : World) (dT sT ty elem : TypeId) (hu : P.underlying dT = some (.slice elem)) (hsz : (P.info? elem).map (·.size) = some 1)
    (dp : Option Addr) (dLen dCap : Nat) (x : ByteArray) (g off : Nat) (cur : List Value) (t : TypeId) (hg : w.heap[g]? = some (.cells cur.toArray t (0, 0))) (hle : x.size ≤ dLen)
    (hpos : 0 < x.size → dp = some ⟨g, off, none⟩) (hfit : off + x.size ≤ cur.length) (B : Nat) (w0 : World) (hb : Below B w0 w) (hBg : B ≤ g) :
    ∃ w', (Builtin.copy_ #[dT, sT] ty #[.slice dp dLen dCap, .string x]).run P w = .ok (.int .i64 (x.size : Int)) w' ∧ Hid (w'.heap[g]? = some (.cells (splice cur off (bcells x)).toArray t (0, 0))) ∧ Below B w0 w' := by
  by_cases h0 : x.size = 0
  · have hrun := run_copy_text0 (P := P) w dT sT ty elem dp dLen dCap x hu hsz h0
    have hx : bcells x = [] := List.eq_nil_of_length_eq_zero (by rw [bcells_len]; exact h0)
    refine ⟨w, ?_, (show _ = _ by simpa [splice, hx] using hg), hb⟩
    rw [hrun, h0]; rfl
  · obtain rfl := hpos (by omega)
    have hrun := run_copy_text (P := P) w dT sT ty elem g off dLen dCap x cur.toArray t hu hsz hg hle (by simpa using hfit)
    exact ⟨_, hrun, (show _ = _ by simpa [splice, bcells_len] using setRow_heap w g _ _ t _ hg), below_setRow hb hBg _⟩

end Go.Proofs.YtnhehdobpibgkabGreatDoor
namespace Go.Proofs.YtnhehdobpibgkabGreatDoor
open Go.RowKit

def catL : List ByteArray → ByteArray
  | [] => ByteArray.empty
  | t :: ts => t ++ catL ts
theorem catL_append (a b : List ByteArray) : catL (a ++ b) = catL a ++ catL b := by
  induction a with
  | nil => simp [catL]
  | cons t ts ih => simp [catL, ih, ByteArray.append_assoc]
theorem catL_take (ts : List ByteArray) (k : Nat) (h : k < ts.length) : catL (ts.take (k + 1)) = catL (ts.take k) ++ ts[k] := by
  rw [List.take_succ_eq_append_getElem h, catL_append]; simp [catL]
theorem catL_take_size (ts : List ByteArray) (k : Nat) (h : k < ts.length) : (catL (ts.take (k + 1))).size = (catL (ts.take k)).size + ts[k].size := by
  rw [catL_take ts k h, ByteArray.size_append]
theorem text_of (s : ByteArray) : strOfNums (s.data.toList.map fun b => (b.toNat : Int)) = s := by
  unfold strOfNums
  have h : (s.data.toList.map fun b : UInt8 => (b.toNat : Int)).map (fun n => UInt8.ofNat n.toNat) = s.data.toList := by
    rw [List.map_map]
    conv => rhs; rw [← List.map_id s.data.toList]
    apply List.map_congr_left
    intro b _
    simp
  rw [h]
theorem catL_le (ts : List ByteArray) (k : Nat) : (catL (ts.take k)).size ≤ (catL ts).size := by
  conv => rhs; rw [← List.take_append_drop k ts, catL_append, ByteArray.size_append]
  omega

theorem made_row (w : World) (n : Nat) (hn : n ≤ 1000000) : ∃ Z : List Value, Z.length = n ∧
    (Instr.makeSlice 61 (.int .i64 (n : Int)) (.int .i64 (n : Int))).run Tryz.prog w = .ok (.slice (some ⟨w.heap.size, 0, none⟩) n n) (w.alloc (.cells Z.toArray 5)) := by
  obtain ⟨i0, hi, hz0, hz1, hz2⟩ := info_parts info5
  have h := run_make (P := Tryz.prog) w 61 5 i0 (.int .u8 0) Tryz.underlying61 hi hz0 .i64 .i64 n n (by omega) (by omega) (by rw [hz2]; omega) (by omega)
  refine ⟨(madeCells (Value.int .u8 0).cells (n * i0.size)).toList, ?_, ?_⟩
  · rw [Array.length_toList, size_madeCells, hz1]; omega
  · rw [h]; simp

theorem cut_row (B n m : Nat) (h : m ≤ n) : ∃ dp : Option Addr, (m < n → dp = some ⟨B, m, none⟩) ∧
    ∀ W : World, (Instr.slice 61 (.slice (some ⟨B, 0, none⟩) n n) (some (.int .i64 (m : Int))) none none).run Tryz.prog W = .ok (.slice dp (n - m) (n - m)) W := by
  obtain ⟨i0, hi, hz0, hz1, hz2⟩ := info_parts info5
  have h1 : (m : Int) ≤ (n : Int) := by omega
  refine ⟨if n = m then some ⟨B, 0, none⟩ else some ⟨B, m, none⟩, fun hlt => if_neg (by omega), fun W => ?_⟩
  by_cases e : n = m
  · simp [Instr.slice, run_underlying Tryz.underlying61, Instr.sliceBounds, Instr.sliceBound, asIntOf, sizeOf, typeInfo, hi, e]
  · simp [Instr.slice, run_underlying Tryz.underlying61, Instr.sliceBounds, Instr.sliceBound, asIntOf, sizeOf, typeInfo, hi, hz1, h, e, Addr.add]
    omega

theorem size5 : (Tryz.prog.info? 5).map (·.size) = some 1 := by kernel_rfl
theorem row_step (ts : List ByteArray) (k : Nat) (hlt : k < ts.length) (R : List Value) (hRl : R.length = (catL ts).size) (hT : R.take (catL (ts.take k)).size = bcells (catL (ts.take k))) :
    (splice R (catL (ts.take k)).size (bcells ts[k])).take (catL (ts.take (k + 1))).size = bcells (catL (ts.take (k + 1))) := by
  have h2 := catL_le ts (k + 1)
  rw [catL_take ts k hlt, bcells_append, ← hT]
  rw [catL_take ts k hlt] at h2
  simp only [ByteArray.size_append] at h2 ⊢
  unfold splice
  rw [← List.append_assoc, List.take_append_of_le_length (by simp [bcells_len]; omega), List.take_of_length_le (by simp [bcells_len]; omega)]
theorem row_text (ts : List ByteArray) (R : List Value) (w : World) {B : Nat} (hR : w.heap[B]? = some (.cells R.toArray 5 (0, 0))) (hRl : R.length = (catL ts).size) (hT : R.take (catL (ts.take ts.length)).size = bcells (catL (ts.take ts.length))) :
    (convert 61 9 (.slice (some ⟨B, 0, none⟩) (catL ts).size (catL ts).size)).run Tryz.prog w = .ok (.string (catL ts)) w := by
  rw [List.take_length] at hT
  rw [List.take_of_length_le (by omega)] at hT
  subst hT
  have h := run_convert_bytes_arg (P := Tryz.prog) w 61 5 Tryz.underlying61 Tryz.underlying5 B 0 (catL ts).size (catL ts).size ((catL ts).data.toList.map fun b => (b.toNat : Int)) (by simp) (fun i hi => ?_) 9 Tryz.underlying9
  · rw [h, text_of]
  · have hi' : i < (bcells (catL ts)).length := by rw [bcells_len]; exact hi
    simp [World.cell?, hR, bcells, List.getD, hi]

set_option maxHeartbeats 400000 in
theorem join_any (ts : List ByteArray) (g : Nat) (w : World) (hcell : ∀ j, (h : j < ts.length) → w.cell? ⟨g, j, none⟩ = some (.string ts[j])) (hgB : g < w.heap.size) (hlen : ts.length ≤ 1000) (htot : (catL ts).size ≤ 1000000) :
    Calls Tryz.prog 15 #[.slice (some ⟨g, 0, none⟩) ts.length ts.length] w fun e w' => e = .returned (.string (catL ts)) ∧ Below w.heap.size w w' := by
  have HC : Hid (∀ j, (h : j < ts.length) → w.cell? ⟨g, j, none⟩ = some (.string ts[j])) := hcell
  clear hcell
  go_enter Tryz.func15, Tryz.ntmps15
  go_wp2
  go_loop [3, 12] (fun m i => ∃ k : Nat, k ≤ ts.length ∧ i = .int .i64 k ∧ m = .int .i64 ((catL (ts.take k)).size : Nat)) (fun _ i => ts.length - (intOf i).toNat)
  case atStart => exact ⟨0, by omega, rfl, by simp [catL]⟩
  case round =>
    obtain ⟨k, hk, rfl, rfl⟩ := hrel
    have hle := catL_le ts k
    by_cases hlt : k < ts.length
    · have hck := HC.out k hlt
      have HS : Hid (_ = _) := catL_take_size ts k hlt
      have hle2 := catL_le ts (k + 1)
      rw [catL_take_size ts k hlt] at hle2
      go_wp2
      exact ⟨⟨k + 1, by omega, by go_num, by rw [HS.out]; go_num⟩, by simp [intOf]; omega⟩
    · obtain rfl : k = ts.length := by omega
      obtain ⟨Z, hZ, hmk⟩ := made_row w (catL ts).size htot
      go_wp2
      go_loopw [7, 25] (fun m i wr => ∃ k : Nat, k ≤ ts.length ∧ i = .int .i64 k ∧ m = .int .i64 ((catL (ts.take k)).size : Nat) ∧ ∃ R : List Value, Hid (wr.heap[w.heap.size]? = some (.cells R.toArray 5 (0, 0))) ∧ R.length = (catL ts).size ∧ Hid (R.take (catL (ts.take k)).size = bcells (catL (ts.take k))) ∧ Below w.heap.size w wr) (fun _ i _ => ts.length - (intOf i).toNat)
      case atStart => exact ⟨0, by omega, rfl, by simp [catL], Z, heap_alloc_new _ _, hZ, by simp [catL, bcells, Hid], (Below.refl _ _).alloc (Nat.le_refl _) _⟩
      case round =>
        obtain ⟨k, hk, rfl, rfl, R, HR, hRl, HT, hB⟩ := hrel
        have hle := catL_le ts k
        clear hmk
        by_cases hlt : k < ts.length
        · have hck : wr.cell? ⟨g, k, none⟩ = some (.string ts[k]) := (hB.cell hgB).trans (HC.out k hlt)
          have HS : Hid (_ = _) := catL_take_size ts k hlt
          have hle2 := catL_le ts (k + 1)
          rw [catL_take_size ts k hlt] at hle2
          obtain ⟨dp, hdp, hsl⟩ := cut_row w.heap.size (catL ts).size (catL (ts.take k)).size hle
          have HD : Hid (_ → _) := hdp
          clear hdp
          obtain ⟨w2, hcp, HR2, hB2⟩ := copy_text (P := Tryz.prog) wr 61 9 3 5 Tryz.underlying61 size5 dp _ ((catL ts).size - (catL (ts.take k)).size) ts[k] w.heap.size (catL (ts.take k)).size R 5 HR.out (show ts[k].size ≤ (catL ts).size - (catL (ts.take k)).size by omega) (fun h => HD.out (by omega)) (by omega) w.heap.size w hB (Nat.le_refl _)
          go_wp2
          have HT2 : Hid (_ = _) := row_step ts k hlt R hRl HT.out
          go_roundw
          case rel => exact ⟨k + 1, by omega, by go_num, by rw [HS.out]; go_num, splice R (catL (ts.take k)).size (bcells ts[k]), HR2, by rw [length_splice _ _ _ (by rw [bcells_len]; omega)]; exact hRl, HT2, hB2⟩
          case measure => simp [intOf]; omega
        · obtain rfl : k = ts.length := by omega
          have hcv := row_text ts R wr HR.out hRl HT.out
          go_wp2
          go_ret
          exact ⟨rfl, hB⟩

theorem catL_two (a b : ByteArray) : catL [a, b] = a ++ b := by simp [catL]
theorem catL_one (a : ByteArray) : catL [a] = a := by simp [catL]
theorem join_two (a b : ByteArray) (w : World) (h : a.size + b.size ≤ 1000000) :
    Calls Tryz.prog 15 #[.slice (some ⟨w.heap.size, 0, none⟩) 2 2] (w.alloc (.cells #[.string a, .string b] 9)) fun e w' => e = .returned (.string (a ++ b)) ∧ Below w.heap.size w w' := by
  have hj := join_any [a, b] w.heap.size (w.alloc (.cells #[.string a, .string b] 9)) (fun j hj => by
    match j, hj with
    | 0, _ => simp
    | 1, _ => simp) (by simp) (by simp) (by rw [catL_two, ByteArray.size_append]; exact h)
  refine hj.mono fun e w' hw => ?_
  rw [catL_two] at hw
  exact ⟨hw.1, ((Below.refl _ _).alloc (Nat.le_refl _) _).trans (hw.2.mono (by simp))⟩
theorem join_one (a : ByteArray) (w : World) (h : a.size ≤ 1000000) :
    Calls Tryz.prog 15 #[.slice (some ⟨w.heap.size, 0, none⟩) 1 1] (w.alloc (.cells #[.string a] 9)) fun e w' => e = .returned (.string a) ∧ Below w.heap.size w w' := by
  have hj := join_any [a] w.heap.size (w.alloc (.cells #[.string a] 9)) (fun j hj => by
    match j, hj with
    | 0, _ => simp) (by simp) (by simp) (by rw [catL_one]; exact h)
  refine hj.mono fun e w' hw => ?_
  rw [catL_one] at hw
  exact ⟨hw.1, ((Below.refl _ _).alloc (Nat.le_refl _) _).trans (hw.2.mono (by simp))⟩

end Go.Proofs.YtnhehdobpibgkabGreatDoor
