/- How instructions are written: the places of the operations, as a map that the program makes. -/
import Derived.Test.YtodjccipfonaiaaGreatDoorRows
import Derived.WalkKit
import Derived.WalkSpells
import Derived.WalkLawsBesides
import Derived.Outline
import Derived.Maps.Own
import Derived.StringKeys
import Derived.Test.YtodjccipfonaiaaGreatDoorBun0
import Derived.Test.YtodjccipfonaiaaGreatDoorBun1
import Derived.Test.YtodjccipfonaiaaGreatDoorIsaOX
import Derived.Laws.CopyOwn
import Derived.Laws.BytesArg
import Derived.Lib.AppendIntMem
import Derived.Test.YtodjccipfonaiaaGreatDoorFmt
import Derived.Test.YtodjccipfonaiaaGreatDoorBun16
namespace Go.Proofs.YtodjccipfonaiaaGreatDoor
open Go.RowKit Go.Maps
set_option linter.unusedVariables false

def encP (k n : Int) : DataW Unit := .agg [.lit (.int .i64 k), .lit (.int .i64 n)]
def plR (v : Value) : Option (DataW Unit × List MemPlace) :=
  match v with
  | .agg a => match a.toList with
    | [.int .i64 k, .int .i64 n] => some (encP k n, [])
    | _ => none
  | _ => none
theorem plR_mk (k n : Int) : plR (.agg #[.int .i64 k, .int .i64 n]) = some (encP k n, []) := rfl
theorem plR_inv {v : Value} {k n : Int} {ps : List MemPlace} (h : plR v = some (encP k n, ps)) : v = .agg #[.int .i64 k, .int .i64 n] := by
  unfold plR at h
  split at h
  · rename_i a
    split at h
    · rename_i a k' n' he
      simp only [Option.some.injEq, Prod.mk.injEq, encP, DataW.agg.injEq, List.cons.injEq, DataW.lit.injEq, Lit.int.injEq] at h
      obtain ⟨⟨⟨_, rfl⟩, ⟨_, rfl⟩, _⟩, _⟩ := h
      congr 1
      exact Array.toList_inj.1 he
    · cases h
  · cases h
/- What the map reads as, where the first names of a row have been laid. -/
def rowD (D : DataW Unit) (k : Nat) : List ByteArray → Nat → DataW Unit
  | [], _ => D
  | s :: R, j => rowD (if s = ⟨#[]⟩ then D else D.put (.string s.data.toList) (encP k j)) k R (j + 1)
theorem rowD_more (k : Nat) (s : ByteArray) : ∀ (A : List ByteArray) (D : DataW Unit) (i : Nat), rowD D k (A ++ [s]) i = if s = ⟨#[]⟩ then rowD D k A i else (rowD D k A i).put (.string s.data.toList) (encP k ((i + A.length : Nat) : Int))
  | [], D, i => by simp [rowD]
  | t :: A, D, i => by
    rw [List.cons_append]
    unfold rowD
    rw [rowD_more k s A]
    simp only [List.length_cons, show i + 1 + A.length = i + (A.length + 1) by omega]
theorem rowD_step (D : DataW Unit) (k : Nat) (R : List ByteArray) (j : Nat) (h : j < R.length) : rowD D k (R.take (j + 1)) 0 = if R.getD j ⟨#[]⟩ = ⟨#[]⟩ then rowD D k (R.take j) 0 else (rowD D k (R.take j) 0).put (.string (R.getD j ⟨#[]⟩).data.toList) (encP k (j : Int)) := by
  have e : R.getD j ⟨#[]⟩ = R[j] := by simp [List.getD, List.getElem?_eq_getElem h]
  rw [List.take_succ_eq_append_getElem h, rowD_more, e]
  have hl : 0 + (R.take j).length = j := by simp; omega
  rw [hl]
def rowsD : Nat → DataW Unit
  | 0 => .map []
  | k + 1 => rowD (rowsD k) k (namesL.getD k []) 0
theorem names_small (k : Nat) (hk : k < 3) : ∀ s ∈ namesL.getD k [], s.size ≤ 10 := by
  obtain rfl | rfl | rfl : k = 0 ∨ k = 1 ∨ k = 2 := by omega
  all_goals decide +kernel
theorem lawS : Keyed Tryz.prog 9 := string_keyed Tryz.underlying9
theorem zeroP (w : World) : (zeroValue 50).run Tryz.prog w = .ok (.agg #[.int .i64 0, .int .i64 0]) w := by kernel_rfl
def OwnP (w : World) (b n : Nat) (D : DataW Unit) : Prop := w.ownsMap Tryz.prog 9 plR b n D
theorem OwnP.stays {w w' : World} {b n : Nat} {D : DataW Unit} (h : OwnP w b n D) (hb : Below w.heap.size w w') : OwnP w' b n D := by
  obtain ⟨es, c, h1, h2⟩ := h
  exact ⟨es, c, heap_keep h1 hb, h2⟩
set_option maxRecDepth 100000 in
set_option maxHeartbeats 1600000 in
theorem opPlaces_any (w : World) (hT : Tabs w) : Calls Tryz.prog 22 #[] w fun e w' => e = .returned (.map (some w.heap.size)) ∧ OwnP w' w.heap.size 48 (rowsD 3) ∧ Below w.heap.size w w' := by
  obtain ⟨t, fr, hO⟩ := hT.ops
  have HO : Hid (∀ o : Obj, (w.alloc o).heap[0]? = _) := fun o => heap_more hO o
  clear hT hO
  have hmm := @run_makeMap Tryz.prog
  go_enter Tryz.func22, Tryz.ntmps22
  go_wp2_with (refine wpList_load_row rfl 89 _ rfl 0 rfl t _ fr _ (HO.out _) Tryz.underlying89 rfl (by kernel_rfl) ?_)
  clear hmm
  go_loopw [8] (fun i wr => ∃ k : Nat, k ≤ 3 ∧ i = .int .i64 k ∧ Hid (OwnP wr w.heap.size (16 * k) (rowsD k)) ∧ Hid (Below w.heap.size w wr)) (fun i _ => 3 - (intOf i).toNat)
  case atStart => exact ⟨0, by omega, rfl, World.ownsMap_made _ _ _ _, below_new _ _⟩
  case round =>
    obtain ⟨k, hk, rfl, HS, HB⟩ := hrel
    have hsz := HB.out.size
    by_cases hlt : k < 3
    · have hi := names_i k hlt
      have hl := names_len k hlt
      have HSM : Hid (_) := names_small k hlt
      have HST : Hid (rowsD (k + 1) = rowD (rowsD k) k (namesL.getD k []) 0) := rfl
      generalize namesL.getD k [] = R at *
      generalize rowsD k = P at *
      have HL : Hid (R.length = 16) := hl
      clear hl
      have hri := row_i R HL.out
      have HI : Hid ((Tryz.prog.info? 88).map (·.size) = some (rowV R).size) := by rw [rowV_size, HL.out]; show _ = _; kernel_rfl
      go_wp2_with (first | (refine wpList_store_row rfl 88 _ _ rfl wr.heap.size (rowV R) rfl rfl 88 _ (heap_alloc_new _ _) HI.out (by rw [rowV_size, HL.out]; rfl) (rowV_one R) ?_) | (refine wpList_load_row rfl 88 _ rfl wr.heap.size rfl 88 (rowV R) (0, 0) _ (setRow_heap _ _ _ _ _ _ (heap_alloc_new _ _)) Tryz.underlying88 rfl HI.out ?_))
      have HB1 : Hid (Below w.heap.size w _) := below_row (below_more HB.out (.cells #[.string ⟨#[]⟩, .string ⟨#[]⟩, .string ⟨#[]⟩, .string ⟨#[]⟩, .string ⟨#[]⟩, .string ⟨#[]⟩, .string ⟨#[]⟩, .string ⟨#[]⟩, .string ⟨#[]⟩, .string ⟨#[]⟩, .string ⟨#[]⟩, .string ⟨#[]⟩, .string ⟨#[]⟩, .string ⟨#[]⟩, .string ⟨#[]⟩, .string ⟨#[]⟩] 88)) (g := wr.heap.size) hsz (rowV R)
      have HQ1 : Hid (Below wr.heap.size wr _) := below_row (below_new wr (.cells #[.string ⟨#[]⟩, .string ⟨#[]⟩, .string ⟨#[]⟩, .string ⟨#[]⟩, .string ⟨#[]⟩, .string ⟨#[]⟩, .string ⟨#[]⟩, .string ⟨#[]⟩, .string ⟨#[]⟩, .string ⟨#[]⟩, .string ⟨#[]⟩, .string ⟨#[]⟩, .string ⟨#[]⟩, .string ⟨#[]⟩, .string ⟨#[]⟩, .string ⟨#[]⟩] 88)) (g := wr.heap.size) (Nat.le_refl _) (rowV R)
      have HS1 : Hid (OwnP _ w.heap.size (16 * k) P) := HS.out.stays HQ1.out
      generalize World.setRow _ wr.heap.size (rowV R) = x at *
      clear HQ1
      go_loopw [13] (fun i y => ∃ j : Nat, j ≤ 16 ∧ i = .int .i64 j ∧ Hid (OwnP y w.heap.size (16 * k + j) (rowD P k (R.take j) 0)) ∧ Hid (Below w.heap.size w y)) (fun i _ => 16 - (intOf i).toNat)
      case atStart => exact ⟨0, by omega, rfl, HS1.out, HB1.out⟩
      case round =>
        obtain ⟨j, hj, rfl, HY, HYB⟩ := hrel
        have hsy := HYB.out.size
        by_cases hjl : j < 16
        · have hr := hri j hjl
          clear hri
          have HD : Hid (_ = _) := rowD_step P k R j (by rw [HL.out]; exact hjl)
          have hns : (R.getD j ⟨#[]⟩).size ≤ 10 := by
            have hjR : j < R.length := by rw [HL.out]; exact hjl
            have e : R.getD j ⟨#[]⟩ = R[j] := by simp [List.getD, List.getElem?_eq_getElem hjR]
            rw [e]; exact HSM.out _ (List.getElem_mem hjR)
          generalize R.getD j ⟨#[]⟩ = nm at *
          by_cases he : nm = ⟨#[]⟩
          · subst he
            go_wp2
            go_roundw
            case rel => exact ⟨j + 1, by omega, by go_num, by show OwnP _ _ _ _; rw [HD.out, if_pos rfl]; exact World.ownsMap.mono HY.out (by omega), HYB.out⟩
            case measure => simp [intOf]; omega
          · have he2 := text_no [] he
            have hkey : keyOf Tryz.prog 9 (.string nm) = some (.string nm.data.toList) := WideMaps.keyOf_string_mk Tryz.underlying9 (by unfold maxLen; omega)
            have HK : Hid (_) := hkey
            have HE : Hid (¬ nm = ⟨#[]⟩) := he
            clear hkey he
            go_wp2_with (at_mapUpdate; refine wpList_mapUpdate_own _ rfl _ _ _ 51 rfl 9 50 lawS Tryz.underlying51 plR w.heap.size (16 * k + j) _ rfl HY.out (by unfold maxLen; omega) _ _ _ rfl rfl HK.out _ [] (plR_mk _ _) ?_; intro w2 hown2 hgrow2)
            go_roundw
            case rel =>
              have hb3 : Below w.heap.size w w2 := HYB.out.grown hgrow2 HYB.out.size (fun q hq => by cases hq; exact Nat.le_refl _)
              exact ⟨j + 1, by omega, by go_num, by show OwnP _ _ _ _; rw [HD.out, if_neg HE.out]; exact hown2, hb3⟩
            case measure => simp [intOf]; omega
        · obtain rfl : j = 16 := by omega
          clear hri
          go_wp2
          go_roundw
          case rel => exact ⟨k + 1, by omega, by go_num, by show OwnP _ _ _ _; have h := HY.out; rw [List.take_of_length_le (by rw [HL.out]; omega)] at h; rw [HST.out]; exact h, HYB.out⟩
          case measure => simp [intOf]; omega
    · obtain rfl : k = 3 := by omega
      go_wp2
      go_ret
      exact ⟨rfl, HS.out, HB.out⟩
end Go.Proofs.YtodjccipfonaiaaGreatDoor
namespace Go.Proofs.YtodjccipfonaiaaGreatDoor
open Go Go.RowKit

def bcells (s : ByteArray) : List Value := s.data.toList.map fun b => Value.int .u8 (b.toNat : Int)
theorem bcells_len (s : ByteArray) : (bcells s).length = s.size := by simp [bcells]
theorem bcells_one (s : ByteArray) : ∀ v ∈ bcells s, v.oneCell' = true := by
  intro v hv
  simp only [bcells, List.mem_map] at hv
  obtain ⟨b, _, rfl⟩ := hv
  rfl
theorem bcells_append (a b : ByteArray) : bcells (a ++ b) = bcells a ++ bcells b := by simp [bcells]

theorem run_copy_text {P : Program} (w : World) (dT sT ty elem : TypeId) (g o dLen dCap : Nat) (s : ByteArray) (cur : Array Value) (t : TypeId)
    (hu : P.underlying dT = some (.slice elem)) (hs : (P.info? elem).map (·.size) = some 1) (hg : w.heap[g]? = some (.cells cur t (0, 0))) (hle : s.size ≤ dLen) (hfit : o + s.size ≤ cur.size) :
    (Builtin.copy_ #[dT, sT] ty #[.slice (some ⟨g, o, none⟩) dLen dCap, .string s]).run P w =
      .ok (goInt s.size) (w.setRow g (cur.toList.take o ++ bcells s ++ cur.toList.drop (o + s.size)).toArray) := by
  have hst := run_storeCells_at P g o t (bcells s) 0 cur w hg (by rw [bcells_len]; simpa using hfit) (bcells_one _)
  have hmin : Nat.min s.size dLen = s.size := Nat.min_eq_left hle
  have htk : List.take s.size (List.map (fun b : UInt8 => Value.int IntKind.u8 (b.toNat : Int)) s.data.toList) = bcells s := by
    rw [List.take_of_length_le (by simp)]
    rfl
  rw [bcells_len] at hst
  simp only [Nat.add_zero] at hst
  cases hq : P.info? elem with
  | none => simp [hq] at hs
  | some i =>
    simp [Builtin.copy_, run_underlying hu, Builtin.lenOf, Builtin.firstCells, sizeOf, typeInfo, hq, hmin]
    rw [htk, hst]
    simp [Result.andThen]

theorem run_copy_text0 {P : Program} (w : World) (dT sT ty elem : TypeId) (d : Option Addr) (dLen dCap : Nat) (s : ByteArray)
    (hu : P.underlying dT = some (.slice elem)) (hs : (P.info? elem).map (·.size) = some 1) (h0 : s.size = 0) :
    (Builtin.copy_ #[dT, sT] ty #[.slice d dLen dCap, .string s]).run P w = .ok (goInt 0) w := by
  cases hq : P.info? elem with
  | none => simp [hq] at hs
  | some i =>
    cases d <;> simp [Builtin.copy_, run_underlying hu, Builtin.lenOf, Builtin.firstCells, sizeOf, typeInfo, hq, h0, storeCells]

theorem copy_text {P : Program} (w : World) (dT sT ty elem : TypeId) (hu : P.underlying dT = some (.slice elem)) (hsz : (P.info? elem).map (·.size) = some 1)
    (dp : Option Addr) (dLen dCap : Nat) (x : ByteArray) (g off : Nat) (cur : List Value) (t : TypeId) (hg : w.heap[g]? = some (.cells cur.toArray t (0, 0))) (hle : x.size ≤ dLen)
    (hpos : 0 < x.size → dp = some ⟨g, off, none⟩) (hfit : off + x.size ≤ cur.length) (B : Nat) (w0 : World) (hb : Below B w0 w) (hBg : B ≤ g) :
    ∃ w', (Builtin.copy_ #[dT, sT] ty #[.slice dp dLen dCap, .string x]).run P w = .ok (.int .i64 (x.size : Int)) w' ∧ Hid (w'.heap[g]? = some (.cells (splice cur off (bcells x)).toArray t (0, 0))) ∧ Below B w0 w' := by
  by_cases h0 : x.size = 0
  · have hrun := run_copy_text0 (P := P) w dT sT ty elem dp dLen dCap x hu hsz h0
    have hx : bcells x = [] := List.eq_nil_of_length_eq_zero (by rw [bcells_len]; exact h0)
    refine ⟨w, ?_, (show _ = _ by simpa [splice, hx] using hg), hb⟩
    rw [hrun, h0]; rfl
  · obtain rfl := hpos (by omega)
    have hrun := run_copy_text (P := P) w dT sT ty elem g off dLen dCap x cur.toArray t hu hsz hg hle (by simpa using hfit)
    exact ⟨_, hrun, (show _ = _ by simpa [splice, bcells_len] using setRow_heap w g _ _ t _ hg), below_setRow hb hBg _⟩

end Go.Proofs.YtodjccipfonaiaaGreatDoor
namespace Go.Proofs.YtodjccipfonaiaaGreatDoor
open Go.RowKit

def catL : List ByteArray → ByteArray
  | [] => ByteArray.empty
  | t :: ts => t ++ catL ts
theorem catL_append (a b : List ByteArray) : catL (a ++ b) = catL a ++ catL b := by
  induction a with
  | nil => simp [catL]
  | cons t ts ih => simp [catL, ih, ByteArray.append_assoc]
theorem catL_take (ts : List ByteArray) (k : Nat) (h : k < ts.length) : catL (ts.take (k + 1)) = catL (ts.take k) ++ ts[k] := by
  rw [List.take_succ_eq_append_getElem h, catL_append]; simp [catL]
theorem catL_take_size (ts : List ByteArray) (k : Nat) (h : k < ts.length) : (catL (ts.take (k + 1))).size = (catL (ts.take k)).size + ts[k].size := by
  rw [catL_take ts k h, ByteArray.size_append]
theorem text_of (s : ByteArray) : strOfNums (s.data.toList.map fun b => (b.toNat : Int)) = s := by
  unfold strOfNums
  have h : (s.data.toList.map fun b : UInt8 => (b.toNat : Int)).map (fun n => UInt8.ofNat n.toNat) = s.data.toList := by
    rw [List.map_map]
    conv => rhs; rw [← List.map_id s.data.toList]
    apply List.map_congr_left
    intro b _
    simp
  rw [h]
theorem catL_le (ts : List ByteArray) (k : Nat) : (catL (ts.take k)).size ≤ (catL ts).size := by
  conv => rhs; rw [← List.take_append_drop k ts, catL_append, ByteArray.size_append]
  omega

theorem made_row (w : World) (n : Nat) (hn : n ≤ 1000000) : ∃ Z : List Value, Z.length = n ∧
    (Instr.makeSlice 22 (.int .i64 (n : Int)) (.int .i64 (n : Int))).run Tryz.prog w = .ok (.slice (some ⟨w.heap.size, 0, none⟩) n n) (w.alloc (.cells Z.toArray 5)) := by
  obtain ⟨i0, hi, hz0, hz1, hz2⟩ := info_parts info5
  have h := run_make (P := Tryz.prog) w 22 5 i0 (.int .u8 0) Tryz.underlying22 hi hz0 .i64 .i64 n n (by omega) (by omega) (by rw [hz2]; omega) (by omega)
  refine ⟨(madeCells (Value.int .u8 0).cells (n * i0.size)).toList, ?_, ?_⟩
  · rw [Array.length_toList, size_madeCells, hz1]; omega
  · rw [h]; simp

theorem cut_row (B n m : Nat) (h : m ≤ n) : ∃ dp : Option Addr, (m < n → dp = some ⟨B, m, none⟩) ∧
    ∀ W : World, (Instr.slice 22 (.slice (some ⟨B, 0, none⟩) n n) (some (.int .i64 (m : Int))) none none).run Tryz.prog W = .ok (.slice dp (n - m) (n - m)) W := by
  obtain ⟨i0, hi, hz0, hz1, hz2⟩ := info_parts info5
  have h1 : (m : Int) ≤ (n : Int) := by omega
  refine ⟨if n = m then some ⟨B, 0, none⟩ else some ⟨B, m, none⟩, fun hlt => if_neg (by omega), fun W => ?_⟩
  by_cases e : n = m
  · simp [Instr.slice, run_underlying Tryz.underlying22, Instr.sliceBounds, Instr.sliceBound, asIntOf, sizeOf, typeInfo, hi, e]
  · simp [Instr.slice, run_underlying Tryz.underlying22, Instr.sliceBounds, Instr.sliceBound, asIntOf, sizeOf, typeInfo, hi, hz1, h, e, Addr.add]
    omega

theorem size5 : (Tryz.prog.info? 5).map (·.size) = some 1 := by kernel_rfl
theorem row_step (ts : List ByteArray) (k : Nat) (hlt : k < ts.length) (R : List Value) (hRl : R.length = (catL ts).size) (hT : R.take (catL (ts.take k)).size = bcells (catL (ts.take k))) :
    (splice R (catL (ts.take k)).size (bcells ts[k])).take (catL (ts.take (k + 1))).size = bcells (catL (ts.take (k + 1))) := by
  have h2 := catL_le ts (k + 1)
  rw [catL_take ts k hlt, bcells_append, ← hT]
  rw [catL_take ts k hlt] at h2
  simp only [ByteArray.size_append] at h2 ⊢
  unfold splice
  rw [← List.append_assoc, List.take_append_of_le_length (by simp [bcells_len]; omega), List.take_of_length_le (by simp [bcells_len]; omega)]
theorem row_text (ts : List ByteArray) (R : List Value) (w : World) {B : Nat} (hR : w.heap[B]? = some (.cells R.toArray 5 (0, 0))) (hRl : R.length = (catL ts).size) (hT : R.take (catL (ts.take ts.length)).size = bcells (catL (ts.take ts.length))) :
    (convert 22 9 (.slice (some ⟨B, 0, none⟩) (catL ts).size (catL ts).size)).run Tryz.prog w = .ok (.string (catL ts)) w := by
  rw [List.take_length] at hT
  rw [List.take_of_length_le (by omega)] at hT
  subst hT
  have h := run_convert_bytes_arg (P := Tryz.prog) w 22 5 Tryz.underlying22 Tryz.underlying5 B 0 (catL ts).size (catL ts).size ((catL ts).data.toList.map fun b => (b.toNat : Int)) (by simp) (fun i hi => ?_) 9 Tryz.underlying9
  · rw [h, text_of]
  · have hi' : i < (bcells (catL ts)).length := by rw [bcells_len]; exact hi
    simp [World.cell?, hR, bcells, List.getD, hi]

set_option maxHeartbeats 400000 in
theorem join_any (ts : List ByteArray) (g : Nat) (w : World) (hcell : ∀ j, (h : j < ts.length) → w.cell? ⟨g, j, none⟩ = some (.string ts[j])) (hgB : g < w.heap.size) (hlen : ts.length ≤ 1000) (htot : (catL ts).size ≤ 1000000) :
    Calls Tryz.prog 23 #[.slice (some ⟨g, 0, none⟩) ts.length ts.length] w fun e w' => e = .returned (.string (catL ts)) ∧ Below w.heap.size w w' := by
  have HC : Hid (∀ j, (h : j < ts.length) → w.cell? ⟨g, j, none⟩ = some (.string ts[j])) := hcell
  clear hcell
  go_enter Tryz.func23, Tryz.ntmps23
  go_wp2
  go_loop [3, 12] (fun m i => ∃ k : Nat, k ≤ ts.length ∧ i = .int .i64 k ∧ m = .int .i64 ((catL (ts.take k)).size : Nat)) (fun _ i => ts.length - (intOf i).toNat)
  case atStart => exact ⟨0, by omega, rfl, by simp [catL]⟩
  case round =>
    obtain ⟨k, hk, rfl, rfl⟩ := hrel
    have hle := catL_le ts k
    by_cases hlt : k < ts.length
    · have hck := HC.out k hlt
      have HS : Hid (_ = _) := catL_take_size ts k hlt
      have hle2 := catL_le ts (k + 1)
      rw [catL_take_size ts k hlt] at hle2
      go_wp2
      exact ⟨⟨k + 1, by omega, by go_num, by rw [HS.out]; go_num⟩, by simp [intOf]; omega⟩
    · obtain rfl : k = ts.length := by omega
      obtain ⟨Z, hZ, hmk⟩ := made_row w (catL ts).size htot
      go_wp2
      go_loopw [7, 25] (fun m i wr => ∃ k : Nat, k ≤ ts.length ∧ i = .int .i64 k ∧ m = .int .i64 ((catL (ts.take k)).size : Nat) ∧ ∃ R : List Value, Hid (wr.heap[w.heap.size]? = some (.cells R.toArray 5 (0, 0))) ∧ R.length = (catL ts).size ∧ Hid (R.take (catL (ts.take k)).size = bcells (catL (ts.take k))) ∧ Below w.heap.size w wr) (fun _ i _ => ts.length - (intOf i).toNat)
      case atStart => exact ⟨0, by omega, rfl, by simp [catL], Z, heap_alloc_new _ _, hZ, by simp [catL, bcells, Hid], (Below.refl _ _).alloc (Nat.le_refl _) _⟩
      case round =>
        obtain ⟨k, hk, rfl, rfl, R, HR, hRl, HT, hB⟩ := hrel
        have hle := catL_le ts k
        clear hmk
        by_cases hlt : k < ts.length
        · have hck : wr.cell? ⟨g, k, none⟩ = some (.string ts[k]) := (hB.cell hgB).trans (HC.out k hlt)
          have HS : Hid (_ = _) := catL_take_size ts k hlt
          have hle2 := catL_le ts (k + 1)
          rw [catL_take_size ts k hlt] at hle2
          obtain ⟨dp, hdp, hsl⟩ := cut_row w.heap.size (catL ts).size (catL (ts.take k)).size hle
          have HD : Hid (_ → _) := hdp
          clear hdp
          obtain ⟨w2, hcp, HR2, hB2⟩ := copy_text (P := Tryz.prog) wr 22 9 3 5 Tryz.underlying22 size5 dp _ ((catL ts).size - (catL (ts.take k)).size) ts[k] w.heap.size (catL (ts.take k)).size R 5 HR.out (show ts[k].size ≤ (catL ts).size - (catL (ts.take k)).size by omega) (fun h => HD.out (by omega)) (by omega) w.heap.size w hB (Nat.le_refl _)
          go_wp2
          have HT2 : Hid (_ = _) := row_step ts k hlt R hRl HT.out
          go_roundw
          case rel => exact ⟨k + 1, by omega, by go_num, by rw [HS.out]; go_num, splice R (catL (ts.take k)).size (bcells ts[k]), HR2, by rw [length_splice _ _ _ (by rw [bcells_len]; omega)]; exact hRl, HT2, hB2⟩
          case measure => simp [intOf]; omega
        · obtain rfl : k = ts.length := by omega
          have hcv := row_text ts R wr HR.out hRl HT.out
          go_wp2
          go_ret
          exact ⟨rfl, hB⟩

theorem catL_two (a b : ByteArray) : catL [a, b] = a ++ b := by simp [catL]
theorem catL_one (a : ByteArray) : catL [a] = a := by simp [catL]
theorem join_two (a b : ByteArray) (w : World) (h : a.size + b.size ≤ 1000000) :
    Calls Tryz.prog 23 #[.slice (some ⟨w.heap.size, 0, none⟩) 2 2] (w.alloc (.cells #[.string a, .string b] 9)) fun e w' => e = .returned (.string (a ++ b)) ∧ Below w.heap.size w w' := by
  have hj := join_any [a, b] w.heap.size (w.alloc (.cells #[.string a, .string b] 9)) (fun j hj => by
    match j, hj with
    | 0, _ => simp
    | 1, _ => simp) (by simp) (by simp) (by rw [catL_two, ByteArray.size_append]; exact h)
  refine hj.mono fun e w' hw => ?_
  rw [catL_two] at hw
  exact ⟨hw.1, ((Below.refl _ _).alloc (Nat.le_refl _) _).trans (hw.2.mono (by simp))⟩
theorem join_one (a : ByteArray) (w : World) (h : a.size ≤ 1000000) :
    Calls Tryz.prog 23 #[.slice (some ⟨w.heap.size, 0, none⟩) 1 1] (w.alloc (.cells #[.string a] 9)) fun e w' => e = .returned (.string a) ∧ Below w.heap.size w w' := by
  have hj := join_any [a] w.heap.size (w.alloc (.cells #[.string a] 9)) (fun j hj => by
    match j, hj with
    | 0, _ => simp) (by simp) (by simp) (by rw [catL_one]; exact h)
  refine hj.mono fun e w' hw => ?_
  rw [catL_one] at hw
  exact ⟨hw.1, ((Below.refl _ _).alloc (Nat.le_refl _) _).trans (hw.2.mono (by simp))⟩

end Go.Proofs.YtodjccipfonaiaaGreatDoor
namespace Go.Proofs.YtodjccipfonaiaaGreatDoor
open Go.RowKit
set_option linter.unusedVariables false

/- The table of powers of ten that strconv reads. -/
def Pow (w : World) : Prop := Lib.TabIs Tryz.prog w "internal/strconv.uint64pow10" .u64 Lib.pow10Tab
theorem Pow.below {w w' : World} (h : Pow w) (hb : Below w.heap.size w w') : Pow w' := by
  unfold Pow Lib.TabIs World.var? at *
  cases hg : Tryz.prog.globalNamed "internal/strconv.uint64pow10" with
  | none => simp [hg] at h
  | some g =>
    simp only [hg, Option.bind_some] at h ⊢
    have hlt : g < w.heap.size := by
      rcases Nat.lt_or_ge g w.heap.size with h' | h'
      · exact h'
      · rw [Array.getElem?_eq_none h'] at h; simp at h
    rw [hb.block g hlt]
    exact h
theorem Pow.alloc {w : World} (h : Pow w) (o : Obj) : Pow (w.alloc o) := h.below (below_new w o)
theorem fmt_any (n : Int) (w : World) (h0 : -1000000 ≤ n) (h1 : n ≤ 1000000) (hP : Pow w) : Calls Tryz.prog 63 #[.int .i64 n, .int .i64 10] w fun e w' => e = .returned (.string (digs (Lib.itoa n))) ∧ Below w.heap.size w w' :=
  (fmtInt_any n (by omega) (by omega) w hP).mono fun e w' h => by
    obtain ⟨h1, k, os, rfl⟩ := h
    exact ⟨h1, Lib.below_grow _ w (Nat.le_refl _) k os⟩
set_option maxRecDepth 100000 in
set_option maxHeartbeats 1600000 in
theorem digitsOf_any (n : Int) (w : World) (h0 : -1000000 ≤ n) (h1 : n ≤ 1000000) (hP : Pow w) : Calls Tryz.prog 28 #[.int .i64 n] w fun e w' => e = .returned (.string (digs (Lib.itoa n))) ∧ Below w.heap.size w w' := by
  have HP : Hid (_) := hP
  clear hP
  go_enter Tryz.func28, Tryz.ntmps28
  go_wp2_with fail
  refine (fmt_any n _ h0 h1 HP.out).mono ?_
  rintro e x1 ⟨rfl, hb⟩
  go_wp2
  go_ret
  exact ⟨rfl, hb⟩
def sgnB (n : Int) : ByteArray := if n < 0 then digs (Lib.itoa n) else ⟨#[43]⟩ ++ digs (Lib.itoa n)
set_option maxRecDepth 100000 in
set_option maxHeartbeats 1600000 in
theorem signed_any (n : Int) (w : World) (h0 : -100000 ≤ n) (h1 : n ≤ 100000) (hP : Pow w) : Calls Tryz.prog 25 #[.int .i64 n] w fun e w' => e = .returned (.string (sgnB n)) ∧ Below w.heap.size w w' := by
  have HP : Hid (_) := hP
  clear hP
  have hsz : (digs (Lib.itoa n)).size ≤ 7 := itoa_len n (by omega) (by omega)
  unfold sgnB
  by_cases hn : n < 0
  · rw [if_pos hn]
    go_enter Tryz.func25, Tryz.ntmps25
    go_wp2_with fail
    refine (digitsOf_any n _ (by omega) (by omega) HP.out).mono ?_
    rintro e x1 ⟨rfl, hb⟩
    go_wp2
    go_ret
    exact ⟨rfl, hb⟩
  · rw [if_neg hn]
    go_enter Tryz.func25, Tryz.ntmps25
    go_wp2_with fail
    refine (digitsOf_any n _ (by omega) (by omega) HP.out).mono ?_
    rintro e x1 ⟨rfl, hb⟩
    go_wp2
    go_ret
    exact ⟨rfl, hb⟩
set_option maxRecDepth 100000 in
set_option maxHeartbeats 1600000 in
theorem wordRight_any (nm : ByteArray) (n : Int) (w : World) (hs : nm.size ≤ maxLen) : Calls Tryz.prog 27 #[.agg #[.string nm, .int .i64 n]] w fun e w' => e = .returned (.bool (wordB nm n)) ∧ Below w.heap.size w w' := by
  unfold wordB
  by_cases hn : nm = ⟨#[]⟩
  · rw [if_pos hn]
    subst hn
    go_enter Tryz.func27, Tryz.ntmps27
    go_wp2_with fail
    refine (isWord_any n _).mono ?_
    rintro e x1 ⟨rfl, rfl⟩
    go_wp2
    go_ret
    exact ⟨rfl, below_new _ _⟩
  · rw [if_neg hn]
    have h1 := text_no [] hn
    cases hN : nameB nm
    · have HN : Hid (_ = _) := hN
      go_enter Tryz.func27, Tryz.ntmps27
      go_wp2_with fail
      refine (implName_any nm _ hs).mono ?_
      rintro e x1 ⟨rfl, rfl⟩
      rw [HN.out]
      go_wp2
      go_ret
      exact ⟨rfl, below_new _ _⟩
    · have HN : Hid (_ = _) := hN
      clear hN
      by_cases c1 : -32767 ≤ n
      · by_cases c2 : n ≤ 32767
        · have HB : Hid (isB n (-32767) 32767 = true) := by show _ = _; simp [isB, c1, c2]
          go_enter Tryz.func27, Tryz.ntmps27
          go_wp2_with fail
          refine (implName_any nm _ hs).mono ?_
          rintro e x1 ⟨rfl, rfl⟩
          rw [HN.out]
          go_wp2
          go_ret
          exact ⟨ret_bool (by rw [HB.out]; rfl), below_new _ _⟩
        · have HB : Hid (isB n (-32767) 32767 = false) := by show _ = _; simp [isB]; omega
          go_enter Tryz.func27, Tryz.ntmps27
          go_wp2_with fail
          refine (implName_any nm _ hs).mono ?_
          rintro e x1 ⟨rfl, rfl⟩
          rw [HN.out]
          go_wp2
          go_ret
          exact ⟨ret_bool (by rw [HB.out]; simp; omega), below_new _ _⟩
      · have HB : Hid (isB n (-32767) 32767 = false) := by show _ = _; simp [isB]; omega
        go_enter Tryz.func27, Tryz.ntmps27
        go_wp2_with fail
        refine (implName_any nm _ hs).mono ?_
        rintro e x1 ⟨rfl, rfl⟩
        rw [HN.out]
        go_wp2
        go_ret
        exact ⟨ret_bool (by rw [HB.out]), below_new _ _⟩
end Go.Proofs.YtodjccipfonaiaaGreatDoor
