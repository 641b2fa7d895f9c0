/- How instructions are written: the places of the operations, as a map that the program makes. -/
import Derived.Test.YtknielpkmablkaaDoorRows
import Derived.WalkKit
import Derived.WalkSpells
import Derived.WalkLawsBesides
import Derived.Outline
import Derived.Maps.Own
import Derived.StringKeys
import Derived.Test.YtknielpkmablkaaDoorBun0
import Derived.Test.YtknielpkmablkaaDoorBun4
import Derived.Test.YtknielpkmablkaaDoorIsaOX
namespace Go.Proofs.YtknielpkmablkaaDoor
open Go.RowKit Go.Maps
set_option linter.unusedVariables false

def encP (k n : Int) : DataW Unit := .agg [.lit (.int .i64 k), .lit (.int .i64 n)]
def plR (v : Value) : Option (DataW Unit × List MemPlace) :=
  match v with
  | .agg a => match a.toList with
    | [.int .i64 k, .int .i64 n] => some (encP k n, [])
    | _ => none
  | _ => none
theorem plR_mk (k n : Int) : plR (.agg #[.int .i64 k, .int .i64 n]) = some (encP k n, []) := rfl
theorem plR_inv {v : Value} {k n : Int} {ps : List MemPlace} (h : plR v = some (encP k n, ps)) : v = .agg #[.int .i64 k, .int .i64 n] := by
  unfold plR at h
  split at h
  · rename_i a
    split at h
    · rename_i a k' n' he
      simp only [Option.some.injEq, Prod.mk.injEq, encP, DataW.agg.injEq, List.cons.injEq, DataW.lit.injEq, Lit.int.injEq] at h
      obtain ⟨⟨⟨_, rfl⟩, ⟨_, rfl⟩, _⟩, _⟩ := h
      congr 1
      exact Array.toList_inj.1 he
    · cases h
  · cases h
/- What the map reads as, where the first names of a row have been laid. -/
def rowD (D : DataW Unit) (k : Nat) : List ByteArray → Nat → DataW Unit
  | [], _ => D
  | s :: R, j => rowD (if s = ⟨#[]⟩ then D else D.put (.string s.data.toList) (encP k j)) k R (j + 1)
theorem rowD_more (k : Nat) (s : ByteArray) : ∀ (A : List ByteArray) (D : DataW Unit) (i : Nat), rowD D k (A ++ [s]) i = if s = ⟨#[]⟩ then rowD D k A i else (rowD D k A i).put (.string s.data.toList) (encP k ((i + A.length : Nat) : Int))
  | [], D, i => by simp [rowD]
  | t :: A, D, i => by
    rw [List.cons_append]
    unfold rowD
    rw [rowD_more k s A]
    simp only [List.length_cons, show i + 1 + A.length = i + (A.length + 1) by omega]
theorem rowD_step (D : DataW Unit) (k : Nat) (R : List ByteArray) (j : Nat) (h : j < R.length) : rowD D k (R.take (j + 1)) 0 = if R.getD j ⟨#[]⟩ = ⟨#[]⟩ then rowD D k (R.take j) 0 else (rowD D k (R.take j) 0).put (.string (R.getD j ⟨#[]⟩).data.toList) (encP k (j : Int)) := by
  have e : R.getD j ⟨#[]⟩ = R[j] := by simp [List.getD, List.getElem?_eq_getElem h]
  rw [List.take_succ_eq_append_getElem h, rowD_more, e]
  have hl : 0 + (R.take j).length = j := by simp; omega
  rw [hl]
def rowsD : Nat → DataW Unit
  | 0 => .map []
  | k + 1 => rowD (rowsD k) k (namesL.getD k []) 0
theorem names_small (k : Nat) (hk : k < 3) : ∀ s ∈ namesL.getD k [], s.size ≤ 10 := by
  obtain rfl | rfl | rfl : k = 0 ∨ k = 1 ∨ k = 2 := by omega
  all_goals decide +kernel
theorem lawS : Keyed Tryd.prog 9 := string_keyed Tryd.underlying9
theorem zeroP (w : World) : (zeroValue 81).run Tryd.prog w = .ok (.agg #[.int .i64 0, .int .i64 0]) w := by kernel_rfl
def OwnP (w : World) (b n : Nat) (D : DataW Unit) : Prop := w.ownsMap Tryd.prog 9 plR b n D
theorem OwnP.stays {w w' : World} {b n : Nat} {D : DataW Unit} (h : OwnP w b n D) (hb : Below w.heap.size w w') : OwnP w' b n D := by
  obtain ⟨es, c, h1, h2⟩ := h
  exact ⟨es, c, heap_keep h1 hb, h2⟩
set_option maxRecDepth 100000 in
set_option maxHeartbeats 1600000 in
theorem opPlaces_any (w : World) (hT : Tabs w) : Calls Tryd.prog 59 #[] w fun e w' => e = .returned (.map (some w.heap.size)) ∧ OwnP w' w.heap.size 48 (rowsD 3) ∧ Below w.heap.size w w' := by
  obtain ⟨t, fr, hO⟩ := hT.ops
  have HO : Hid (∀ o : Obj, (w.alloc o).heap[0]? = _) := fun o => heap_more hO o
  clear hT hO
  have hmm := @run_makeMap Tryd.prog
  go_enter Tryd.func59, Tryd.ntmps59
  go_wp2_with (refine wpList_load_row rfl 76 _ rfl 0 rfl t _ fr _ (HO.out _) Tryd.underlying76 rfl (by kernel_rfl) ?_)
  clear hmm
  go_loopw [8] (fun i wr => ∃ k : Nat, k ≤ 3 ∧ i = .int .i64 k ∧ Hid (OwnP wr w.heap.size (16 * k) (rowsD k)) ∧ Hid (Below w.heap.size w wr)) (fun i _ => 3 - (intOf i).toNat)
  case atStart => exact ⟨0, by omega, rfl, World.ownsMap_made _ _ _ _, below_new _ _⟩
  case round =>
    obtain ⟨k, hk, rfl, HS, HB⟩ := hrel
    have hsz := HB.out.size
    by_cases hlt : k < 3
    · have hi := names_i k hlt
      have hl := names_len k hlt
      have HSM : Hid (_) := names_small k hlt
      have HST : Hid (rowsD (k + 1) = rowD (rowsD k) k (namesL.getD k []) 0) := rfl
      generalize namesL.getD k [] = R at *
      generalize rowsD k = P at *
      have HL : Hid (R.length = 16) := hl
      clear hl
      have hri := row_i R HL.out
      have HI : Hid ((Tryd.prog.info? 75).map (·.size) = some (rowV R).size) := by rw [rowV_size, HL.out]; show _ = _; kernel_rfl
      go_wp2_with (first | (refine wpList_store_row rfl 75 _ _ rfl wr.heap.size (rowV R) rfl rfl 75 _ (heap_alloc_new _ _) HI.out (by rw [rowV_size, HL.out]; rfl) (rowV_one R) ?_) | (refine wpList_load_row rfl 75 _ rfl wr.heap.size rfl 75 (rowV R) (0, 0) _ (setRow_heap _ _ _ _ _ _ (heap_alloc_new _ _)) Tryd.underlying75 rfl HI.out ?_))
      have HB1 : Hid (Below w.heap.size w _) := below_row (below_more HB.out (.cells #[.string ⟨#[]⟩, .string ⟨#[]⟩, .string ⟨#[]⟩, .string ⟨#[]⟩, .string ⟨#[]⟩, .string ⟨#[]⟩, .string ⟨#[]⟩, .string ⟨#[]⟩, .string ⟨#[]⟩, .string ⟨#[]⟩, .string ⟨#[]⟩, .string ⟨#[]⟩, .string ⟨#[]⟩, .string ⟨#[]⟩, .string ⟨#[]⟩, .string ⟨#[]⟩] 75)) (g := wr.heap.size) hsz (rowV R)
      have HQ1 : Hid (Below wr.heap.size wr _) := below_row (below_new wr (.cells #[.string ⟨#[]⟩, .string ⟨#[]⟩, .string ⟨#[]⟩, .string ⟨#[]⟩, .string ⟨#[]⟩, .string ⟨#[]⟩, .string ⟨#[]⟩, .string ⟨#[]⟩, .string ⟨#[]⟩, .string ⟨#[]⟩, .string ⟨#[]⟩, .string ⟨#[]⟩, .string ⟨#[]⟩, .string ⟨#[]⟩, .string ⟨#[]⟩, .string ⟨#[]⟩] 75)) (g := wr.heap.size) (Nat.le_refl _) (rowV R)
      have HS1 : Hid (OwnP _ w.heap.size (16 * k) P) := HS.out.stays HQ1.out
      generalize World.setRow _ wr.heap.size (rowV R) = x at *
      clear HQ1
      go_loopw [13] (fun i y => ∃ j : Nat, j ≤ 16 ∧ i = .int .i64 j ∧ Hid (OwnP y w.heap.size (16 * k + j) (rowD P k (R.take j) 0)) ∧ Hid (Below w.heap.size w y)) (fun i _ => 16 - (intOf i).toNat)
      case atStart => exact ⟨0, by omega, rfl, HS1.out, HB1.out⟩
      case round =>
        obtain ⟨j, hj, rfl, HY, HYB⟩ := hrel
        have hsy := HYB.out.size
        by_cases hjl : j < 16
        · have hr := hri j hjl
          clear hri
          have HD : Hid (_ = _) := rowD_step P k R j (by rw [HL.out]; exact hjl)
          have hns : (R.getD j ⟨#[]⟩).size ≤ 10 := by
            have hjR : j < R.length := by rw [HL.out]; exact hjl
            have e : R.getD j ⟨#[]⟩ = R[j] := by simp [List.getD, List.getElem?_eq_getElem hjR]
            rw [e]; exact HSM.out _ (List.getElem_mem hjR)
          generalize R.getD j ⟨#[]⟩ = nm at *
          by_cases he : nm = ⟨#[]⟩
          · subst he
            go_wp2
            go_roundw
            case rel => exact ⟨j + 1, by omega, by go_num, by show OwnP _ _ _ _; rw [HD.out, if_pos rfl]; exact World.ownsMap.mono HY.out (by omega), HYB.out⟩
            case measure => simp [intOf]; omega
          · have he2 := text_no [] he
            have hkey : keyOf Tryd.prog 9 (.string nm) = some (.string nm.data.toList) := WideMaps.keyOf_string_mk Tryd.underlying9 (by unfold maxLen; omega)
            have HK : Hid (_) := hkey
            have HE : Hid (¬ nm = ⟨#[]⟩) := he
            clear hkey he
            go_wp2_with (at_mapUpdate; refine wpList_mapUpdate_own _ rfl _ _ _ 84 rfl 9 81 lawS Tryd.underlying84 plR w.heap.size (16 * k + j) _ rfl HY.out (by unfold maxLen; omega) _ _ _ rfl rfl HK.out _ [] (plR_mk _ _) ?_; intro w2 hown2 hgrow2)
            go_roundw
            case rel =>
              have hb3 : Below w.heap.size w w2 := HYB.out.grown hgrow2 HYB.out.size (fun q hq => by cases hq; exact Nat.le_refl _)
              exact ⟨j + 1, by omega, by go_num, by show OwnP _ _ _ _; rw [HD.out, if_neg HE.out]; exact hown2, hb3⟩
            case measure => simp [intOf]; omega
        · obtain rfl : j = 16 := by omega
          clear hri
          go_wp2
          go_roundw
          case rel => exact ⟨k + 1, by omega, by go_num, by show OwnP _ _ _ _; have h := HY.out; rw [List.take_of_length_le (by rw [HL.out]; omega)] at h; rw [HST.out]; exact h, HYB.out⟩
          case measure => simp [intOf]; omega
    · obtain rfl : k = 3 := by omega
      go_wp2
      go_ret
      exact ⟨rfl, HS.out, HB.out⟩
end Go.Proofs.YtknielpkmablkaaDoor
