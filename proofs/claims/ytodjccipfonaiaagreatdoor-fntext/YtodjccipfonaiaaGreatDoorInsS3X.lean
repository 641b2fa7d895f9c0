/- How operands are read, by the specification. -/
import Derived.Test.YtodjccipfonaiaaGreatDoorRows
import Derived.WalkKit
import Derived.WalkSpells
import Derived.WalkLawsBesides
import Derived.Outline
import Derived.Test.YtodjccipfonaiaaGreatDoorBun0
import Derived.Test.YtodjccipfonaiaaGreatDoorBun1
import Derived.Test.YtodjccipfonaiaaGreatDoorBun19
namespace Go.Proofs.YtodjccipfonaiaaGreatDoor
open Go.RowKit
set_option linter.unusedVariables false

theorem results_row2 {P : Program} {fn : Func} {p u v : Tmp} {ty : TypeId} (h : fn.results = #[.cell p ty, .tmp u, .tmp v]) (tmps : Array Value) (w : World) (g : Nat) (t : TypeId) (cs : Array Value) (fr : Nat × Nat) (d : TypeDesc)
    (hp : tmps.getD p undef = .pointer (some ⟨g, 0, none⟩)) (hg : w.heap[g]? = some (.cells cs t fr))
    (hu : P.underlying ty = some d) (hd : (match d with | .struct _ | .array _ _ => true | _ => false) = true) (hi : (P.info? ty).map (·.size) = some cs.size) :
    (results fn tmps).run P w = .ok (.tuple #[.agg cs, tmps.getD u undef, tmps.getD v undef]) w := by
  have hp' : tmps[p]?.getD undef = .pointer (some ⟨g, 0, none⟩) := by simpa using hp
  simp [results, h, hp', asAddr, run_loadVar_row w g t ty cs fr d hg hu hd hi]
theorem cellsO {W : World} {B : Nat} {t : TypeId} {v0 v1 v2 v3 : Value} (h : W.heap[B]? = some (.cells #[v0, v1, v2, v3] t (0, 0))) :
    (W.cell? ⟨B, 0, none⟩ = some v0 ∧ W.cell? ⟨B, 1, none⟩ = some v1 ∧ W.cell? ⟨B, 2, none⟩ = some v2 ∧ W.cell? ⟨B, 3, none⟩ = some v3) ∧ (W.frozen? ⟨B, 0, none⟩ = false ∧ W.frozen? ⟨B, 1, none⟩ = false ∧ W.frozen? ⟨B, 2, none⟩ = false ∧ W.frozen? ⟨B, 3, none⟩ = false) := by
  refine ⟨⟨?_, ?_, ?_, ?_⟩, ?_, ?_, ?_, ?_⟩ <;> simp [World.cell?, World.frozen?, h]
theorem setOS {W : World} {g : Nat} {z0 z1 z2 z3 a b c d : Value} {t : TypeId} (h : W.heap[g]? = some (.cells #[z0, z1, z2, z3] t (0, 0))) : ((((W.setCell ⟨g, 0, none⟩ a).setCell ⟨g, 1, none⟩ b).setCell ⟨g, 2, none⟩ c).setCell ⟨g, 3, none⟩ d).heap[g]? = some (.cells #[a, b, c, d] t (0, 0)) := heap_set (heap_set (heap_set (heap_set h 0 a) 1 b) 2 c) 3 d
def lastB (t : ByteArray) : Nat := (t.data.toList.getLastD 0).toNat
def headB (t : ByteArray) : Nat := (t.data.toList.headD 0).toNat
theorem headB_at (t : ByteArray) (h : 0 < t.size) : headB t = t[0].toNat := by
  have hd := drop_at t 0 h
  rw [List.drop_zero] at hd
  unfold headB; rw [hd]; rfl
theorem lastB_at (t : ByteArray) (h : 0 < t.size) : lastB t = (t[t.size - 1]'(by omega)).toNat := by
  unfold lastB
  have hl : t.data.toList ≠ [] := by
    intro e
    have h9 : t.data.toList.length = t.size := by simp
    rw [e] at h9
    have h8 : ([] : List UInt8).length = 0 := rfl
    omega
  rw [List.getLastD_eq_getLast?, List.getLast?_eq_some_getLast hl]
  show (t.data.toList.getLast hl).toNat = _
  rw [List.getLast_eq_getElem]
  simp
  rfl
theorem idx_leL (c : Nat) : ∀ (L : List UInt8), idxL c L ≤ L.length
  | [] => Nat.le_refl _
  | x :: L => by
    show (if x.toNat = c then 0 else idxL c L + 1) ≤ L.length + 1
    have := idx_leL c L
    split <;> omega
theorem idx_le (c : Nat) (s : ByteArray) : idxI c s ≤ s.size := by
  have h := idx_leL c s.data.toList
  have h9 : s.data.toList.length = s.size := by simp
  unfold idxI; omega
/- An operand that is told by a Word. -/
abbrev Opnd : Type := (Int × Int × Int × Bool) × ByteArray
def wordO (m r : Int) (l : Bool) (u : ByteArray) : Option Opnd := match wordR u with | some x => some ((m, r, x.2, l), u) | none => none
def regO (m : Int) (u : ByteArray) : Option Opnd := match regR u with | some r => some ((m, r, 0, false), ⟨#[]⟩) | none => none
def opndI (t : ByteArray) : Option Opnd := if idxI 40 t < t.size ∧ lastB t = 41 then (match regR (t.extract (idxI 40 t + 1) (t.size - 1)) with | some r => wordO 1 r false (t.extract 0 (idxI 40 t)) | none => none) else none
def opndR (t : ByteArray) : Option Opnd :=
  if t = ⟨#[]⟩ then none
  else match regR t with
    | some r => some ((0, r, 0, false), ⟨#[]⟩)
    | none =>
      if headB t = 64 then (if lastB t = 43 then regO 4 (t.extract 1 (t.size - 1)) else regO 3 (t.extract 1 t.size))
      else if headB t = 38 then wordO 2 0 false (t.extract 1 t.size)
      else if 1 < t.size ∧ t.extract 0 2 = ⟨#[35, 35]⟩ then wordO 5 0 true (t.extract 2 t.size)
      else if headB t = 35 then wordO 5 0 false (t.extract 1 t.size)
      else opndI t
def OpndOut (t : ByteArray) (w : World) (e : Ending) (w' : World) : Prop := ∃ (m r n : Int) (l : Bool) (u : ByteArray) (ok : Bool), e = .returned (.tuple #[.agg #[.int .i64 m, .int .i64 r, .int .i64 n, .bool l], .string u, .bool ok]) ∧ opndR t = (if ok then some ((m, r, n, l), u) else none) ∧ u.size ≤ t.size ∧ Below w.heap.size w w'
theorem opndOut_mk {t : ByteArray} {w w' : World} (m r n : Int) (l : Bool) (u : ByteArray) (ok : Bool) (h : opndR t = (if ok then some ((m, r, n, l), u) else none)) (hu : u.size ≤ t.size) (hb : Below w.heap.size w w') : OpndOut t w (.returned (.tuple #[.agg #[.int .i64 m, .int .i64 r, .int .i64 n, .bool l], .string u, .bool ok])) w' := ⟨m, r, n, l, u, ok, rfl, h, hu, hb⟩
set_option maxRecDepth 100000 in
set_option maxHeartbeats 6400000 in
theorem l03ReadOperand_any (t : ByteArray) (w : World) (ht : t.size ≤ maxLen) : Calls Tryz.prog 85 #[.string t] w (OpndOut t w) := by
  have HNX : Hid (∀ a b, (t.extract a b).size ≤ maxLen ∧ (t.extract a b).size ≤ t.size) := fun a b => by rw [ByteArray.size_extract]; omega
  have HM : Hid (t.size ≤ maxLen) := ht
  unfold maxLen at ht
  by_cases he : t = ⟨#[]⟩
  · have h1 : (t.toList == []) = true := by rw [he, ByteArray.toList_eq]; rfl
    have HQ : Hid (opndR t = none) := by show _ = _; unfold opndR; rw [if_pos he]
    clear he
    go_enter Tryz.func85, Tryz.ntmps85
    go_wp2
    exact bodyPost_ret (results_row2 Tryz.results85 _ _ w.heap.size 24 _ (0, 0) _ rfl (heap_more (heap_alloc_new w _) _) Tryz.underlying24 rfl (by kernel_rfl)) rfl (opndOut_mk 0 0 0 false ⟨#[]⟩ false HQ.out (by exact Nat.zero_le _) (below_more (below_new _ _) _))
  have h1 := text_no [] he
  have h0 : 0 < t.size := by
    rcases Nat.eq_zero_or_pos t.size with h | h
    · exact absurd (ByteArray.ext (Array.eq_empty_of_size_eq_zero h)) he
    · exact h
  have HQ0 : Hid (opndR t = match regR t with | some r => some ((0, r, 0, false), ⟨#[]⟩) | none => if headB t = 64 then (if lastB t = 43 then regO 4 (t.extract 1 (t.size - 1)) else regO 3 (t.extract 1 t.size)) else if headB t = 38 then wordO 2 0 false (t.extract 1 t.size) else if 1 < t.size ∧ t.extract 0 2 = ⟨#[35, 35]⟩ then wordO 5 0 true (t.extract 2 t.size) else if headB t = 35 then wordO 5 0 false (t.extract 1 t.size) else opndI t) := by
    show _ = _; unfold opndR; rw [if_neg he]
  clear he
  go_enter Tryz.func85, Tryz.ntmps85
  go_wp2_with fail
  refine (l03Reg_any t _ HM.out).mono ?_
  rintro e x1 ⟨r, ok, rfl, hr, hr0, hr1, hb⟩
  have HR1 : Hid (x1.heap[w.heap.size]? = _) := heap_keep (heap_more (heap_alloc_new w _) _) hb
  have HO1 : Hid (x1.heap[w.heap.size + 1]? = _) := heap_keep (heap_new2 w _ _) hb
  have HB1 : Hid (Below w.heap.size w x1) := below_call (below_more (below_new _ _) _) hb
  have HRR : Hid (_ = _) := hr
  clear hb hr
  obtain ⟨⟨c0, c1, c2, c3⟩, z0, z1, z2, z3⟩ := cellsO HR1.out
  obtain ⟨⟨d0, d1, d2, d3⟩, y0, y1, y2, y3⟩ := cellsO HO1.out
  have hz := heap_lt HO1.out
  cases ok
  · have HQ1 : Hid (opndR t = if headB t = 64 then (if lastB t = 43 then regO 4 (t.extract 1 (t.size - 1)) else regO 3 (t.extract 1 t.size)) else if headB t = 38 then wordO 2 0 false (t.extract 1 t.size) else if 1 < t.size ∧ t.extract 0 2 = ⟨#[35, 35]⟩ then wordO 5 0 true (t.extract 2 t.size) else if headB t = 35 then wordO 5 0 false (t.extract 1 t.size) else opndI t) := by show _ = _; rw [HQ0.out, HRR.out]; rfl
    clear HQ0
    have hh := headB_at t h0
    have hla := lastB_at t h0
    have hi0 : (0 : Int) < (t.size : Int) := by omega
    have hi1 : (1 : Int) ≤ (t.size : Int) := by omega
    have hi2 : (0 : Int) ≤ (t.size : Int) - 1 := by omega
    have hi3 : (t.size : Int) - 1 < (t.size : Int) := by omega
    by_cases hc : t[0].toNat = 64
    · have e0 : ((t[0].toNat : Int) == 64) = true := by rw [beq_iff_eq]; omega
      by_cases hl : lastB t = 43
      · have HQ2 : Hid (opndR t = regO 4 (t.extract 1 (t.size - 1))) := by show _ = _; rw [HQ1.out, if_pos (by omega), if_pos hl]
        have e1 : ((t[t.size - 1].toNat : Int) == 43) = true := by rw [beq_iff_eq]; omega
        have hs2 : 2 ≤ t.size := by
          rcases Nat.lt_or_ge t.size 2 with h | h
          · exfalso
            have e9 : t.size - 1 = 0 := by omega
            simp only [e9] at hla
            omega
          · exact h
        have hj1 : (1 : Int) ≤ ((t.size - 1 : Nat) : Int) := by omega
        have hj2 : (1 : Int) ≤ (t.size : Int) - 1 := by omega
        clear hh hla hc hl
        go_wp2_with fail
        refine (l03Reg_any (t.extract 1 (t.size - 1)) _ (HNX.out _ _).1).mono ?_
        rintro e x2 ⟨r2, ok2, rfl, hr2, hs0, hs1, hb⟩
        have HR2 : Hid (x2.heap[w.heap.size]? = _) := heap_keep HR1.out hb
        have HB2 : Hid (Below w.heap.size w x2) := below_call HB1.out hb
        have HQ : Hid (opndR t = if ok2 then some ((4, r2, 0, false), ⟨#[]⟩) else none) := by show _ = _; rw [HQ2.out]; unfold regO; rw [hr2]; cases ok2 <;> rfl
        clear hb hr2 c0 c1 c2 c3 z0 z1 z2 z3 d0 d1 d2 d3 y0 y1 y2 y3
        obtain ⟨⟨c0, c1, c2, c3⟩, z0, z1, z2, z3⟩ := cellsO HR2.out
        go_wp2
        exact bodyPost_ret (results_row2 Tryz.results85 _ _ w.heap.size 24 _ (0, 0) _ rfl (setOS HR2.out) Tryz.underlying24 rfl (by kernel_rfl)) rfl (opndOut_mk 4 r2 0 false ⟨#[]⟩ ok2 HQ.out (by exact Nat.zero_le _) ((((HB2.out.setCell (Nat.le_refl _) _).setCell (Nat.le_refl _) _).setCell (Nat.le_refl _) _).setCell (Nat.le_refl _) _))
      · have HQ2 : Hid (opndR t = regO 3 (t.extract 1 t.size)) := by show _ = _; rw [HQ1.out, if_pos (by omega), if_neg hl]
        have e1 : ((t[t.size - 1].toNat : Int) == 43) = false := by rw [beq_eq_false_iff_ne]; omega
        clear hh hla hc hl
        go_wp2_with fail
        refine (l03Reg_any (t.extract 1 t.size) _ (HNX.out _ _).1).mono ?_
        rintro e x2 ⟨r2, ok2, rfl, hr2, hs0, hs1, hb⟩
        have HR2 : Hid (x2.heap[w.heap.size]? = _) := heap_keep HR1.out hb
        have HB2 : Hid (Below w.heap.size w x2) := below_call HB1.out hb
        have HQ : Hid (opndR t = if ok2 then some ((3, r2, 0, false), ⟨#[]⟩) else none) := by show _ = _; rw [HQ2.out]; unfold regO; rw [hr2]; cases ok2 <;> rfl
        clear hb hr2 c0 c1 c2 c3 z0 z1 z2 z3 d0 d1 d2 d3 y0 y1 y2 y3
        obtain ⟨⟨c0, c1, c2, c3⟩, z0, z1, z2, z3⟩ := cellsO HR2.out
        go_wp2
        exact bodyPost_ret (results_row2 Tryz.results85 _ _ w.heap.size 24 _ (0, 0) _ rfl (setOS HR2.out) Tryz.underlying24 rfl (by kernel_rfl)) rfl (opndOut_mk 3 r2 0 false ⟨#[]⟩ ok2 HQ.out (by exact Nat.zero_le _) ((((HB2.out.setCell (Nat.le_refl _) _).setCell (Nat.le_refl _) _).setCell (Nat.le_refl _) _).setCell (Nat.le_refl _) _))
    have e0 : ((t[0].toNat : Int) == 64) = false := by rw [beq_eq_false_iff_ne]; omega
    have HQ3 : Hid (opndR t = if headB t = 38 then wordO 2 0 false (t.extract 1 t.size) else if 1 < t.size ∧ t.extract 0 2 = ⟨#[35, 35]⟩ then wordO 5 0 true (t.extract 2 t.size) else if headB t = 35 then wordO 5 0 false (t.extract 1 t.size) else opndI t) := by show _ = _; rw [HQ1.out, if_neg (by omega)]
    clear HQ1 hc
    have nb : w.heap.size ≠ w.heap.size + 1 := by omega
    by_cases hc : t[0].toNat = 38
    · have e2 : ((t[0].toNat : Int) == 38) = true := by rw [beq_iff_eq]; omega
      have HQ2 : Hid (opndR t = wordO 2 0 false (t.extract 1 t.size)) := by show _ = _; rw [HQ3.out, if_pos (by omega)]
      clear hh hla hc
      go_wp2_with fail
      refine (l03Word_any (t.extract 1 t.size) _ (HNX.out _ _).1).mono ?_
      rintro e x3 ⟨nm, n, ok3, rfl, hw3, hb⟩
      have HR3 : Hid (x3.heap[w.heap.size]? = _) := heap_keep (set_far (a := ⟨w.heap.size + 1, 0, none⟩) (v := .int .i64 2) nb HR1.out) hb
      have HO3 : Hid (x3.heap[w.heap.size + 1]? = _) := heap_keep (heap_set HO1.out 0 (.int .i64 2)) hb
      have HB3 : Hid (Below w.heap.size w x3) := below_call (HB1.out.setCell (p := ⟨w.heap.size + 1, 0, none⟩) (by show w.heap.size ≤ w.heap.size + 1; omega) (.int .i64 2)) hb
      have HQ : Hid (opndR t = if ok3 then some ((2, 0, n, false), t.extract 1 t.size) else none) := by show _ = _; rw [HQ2.out]; unfold wordO; rw [hw3]; cases ok3 <;> rfl
      have hz3 := heap_lt HO3.out
      have hz4 : w.heap.size < x3.heap.size := by omega
      clear hb hw3 c0 c1 c2 c3 z0 z1 z2 z3 d0 d1 d2 d3 y0 y1 y2 y3
      obtain ⟨⟨c0, c1, c2, c3⟩, z0, z1, z2, z3⟩ := cellsO HR3.out
      simp [List.setIfInBounds_toArray] at HO3
      obtain ⟨⟨d0, d1, d2, d3⟩, y0, y1, y2, y3⟩ := cellsO HO3.out
      have hne1 : w.heap.size ≠ x3.heap.size := by omega
      have hne2 : w.heap.size + 1 ≠ x3.heap.size := by omega
      go_wp2
      exact bodyPost_ret (results_row2 Tryz.results85 _ _ w.heap.size 24 _ (0, 0) _ rfl (heap_more (setOS (set_far (a := ⟨w.heap.size + 1, 2, none⟩) (v := .int .i64 n) (show w.heap.size ≠ w.heap.size + 1 by omega) HR3.out)) _) Tryz.underlying24 rfl (by kernel_rfl)) rfl (opndOut_mk 2 0 n false (t.extract 1 t.size) ok3 HQ.out (HNX.out _ _).2 (below_more (((((HB3.out.setCell (p := ⟨w.heap.size + 1, 2, none⟩) (by show w.heap.size ≤ w.heap.size + 1; omega) (.int .i64 n)).setCell (Nat.le_refl _) _).setCell (Nat.le_refl _) _).setCell (Nat.le_refl _) _).setCell (Nat.le_refl _) _) _))
    have e2 : ((t[0].toNat : Int) == 38) = false := by rw [beq_eq_false_iff_ne]; omega
    have HQ4 : Hid (opndR t = if 1 < t.size ∧ t.extract 0 2 = ⟨#[35, 35]⟩ then wordO 5 0 true (t.extract 2 t.size) else if headB t = 35 then wordO 5 0 false (t.extract 1 t.size) else opndI t) := by show _ = _; rw [HQ3.out, if_neg (by omega)]
    clear HQ3 hc
    by_cases hd : 1 < t.size ∧ t.extract 0 2 = ⟨#[35, 35]⟩
    · have HQ2 : Hid (opndR t = wordO 5 0 true (t.extract 2 t.size)) := by show _ = _; rw [HQ4.out, if_pos hd]
      have e3 : ((t.extract 0 2).toList == [35, 35]) = true := by rw [hd.2, ByteArray.toList_eq]; rfl
      have hs2 : (1 : Int) < (t.size : Int) := by have := hd.1; omega
      have hs3 : (2 : Int) ≤ (t.size : Int) := by omega
      clear hh hla hd
      go_wp2_with fail
      refine (l03Word_any (t.extract 2 t.size) _ (HNX.out _ _).1).mono ?_
      rintro e x3 ⟨nm, n, ok3, rfl, hw3, hb⟩
      have HR3 : Hid (x3.heap[w.heap.size]? = _) := heap_keep (set_far (a := ⟨w.heap.size + 1, 3, none⟩) (v := .bool true) nb (set_far (a := ⟨w.heap.size + 1, 0, none⟩) (v := .int .i64 5) nb HR1.out)) hb
      have HO3 : Hid (x3.heap[w.heap.size + 1]? = _) := heap_keep (heap_set (heap_set HO1.out 0 (.int .i64 5)) 3 (.bool true)) hb
      have HB3 : Hid (Below w.heap.size w x3) := below_call ((HB1.out.setCell (p := ⟨w.heap.size + 1, 0, none⟩) (by show w.heap.size ≤ w.heap.size + 1; omega) (.int .i64 5)).setCell (p := ⟨w.heap.size + 1, 3, none⟩) (by show w.heap.size ≤ w.heap.size + 1; omega) (.bool true)) hb
      have HQ : Hid (opndR t = if ok3 then some ((5, 0, n, true), t.extract 2 t.size) else none) := by show _ = _; rw [HQ2.out]; unfold wordO; rw [hw3]; cases ok3 <;> rfl
      have hz3 := heap_lt HO3.out
      have hz4 : w.heap.size < x3.heap.size := by omega
      clear hb hw3 c0 c1 c2 c3 z0 z1 z2 z3 d0 d1 d2 d3 y0 y1 y2 y3
      obtain ⟨⟨c0, c1, c2, c3⟩, z0, z1, z2, z3⟩ := cellsO HR3.out
      simp [List.setIfInBounds_toArray] at HO3
      obtain ⟨⟨d0, d1, d2, d3⟩, y0, y1, y2, y3⟩ := cellsO HO3.out
      have hne1 : w.heap.size ≠ x3.heap.size := by omega
      have hne2 : w.heap.size + 1 ≠ x3.heap.size := by omega
      go_wp2
      exact bodyPost_ret (results_row2 Tryz.results85 _ _ w.heap.size 24 _ (0, 0) _ rfl (heap_more (setOS (set_far (a := ⟨w.heap.size + 1, 2, none⟩) (v := .int .i64 n) (show w.heap.size ≠ w.heap.size + 1 by omega) HR3.out)) _) Tryz.underlying24 rfl (by kernel_rfl)) rfl (opndOut_mk 5 0 n true (t.extract 2 t.size) ok3 HQ.out (HNX.out _ _).2 (below_more (((((HB3.out.setCell (p := ⟨w.heap.size + 1, 2, none⟩) (by show w.heap.size ≤ w.heap.size + 1; omega) (.int .i64 n)).setCell (Nat.le_refl _) _).setCell (Nat.le_refl _) _).setCell (Nat.le_refl _) _).setCell (Nat.le_refl _) _) _))
    have HQ5 : Hid (opndR t = if headB t = 35 then wordO 5 0 false (t.extract 1 t.size) else opndI t) := by show _ = _; rw [HQ4.out, if_neg hd]
    have hdd : (¬ (1 : Int) < (t.size : Int)) ∨ ((1 : Int) < (t.size : Int) ∧ ((t.extract 0 2).toList == [35, 35]) = false) := by
      by_cases h : 1 < t.size
      · exact .inr ⟨by omega, text_no [35, 35] (fun k => hd ⟨h, k⟩)⟩
      · exact .inl (by omega)
    clear HQ4 hd
    by_cases hc : t[0].toNat = 35
    · have e3 : ((t[0].toNat : Int) == 35) = true := by rw [beq_iff_eq]; omega
      have HQ2 : Hid (opndR t = wordO 5 0 false (t.extract 1 t.size)) := by show _ = _; rw [HQ5.out, if_pos (by omega)]
      clear hh hla hc
      rcases hdd with hd1 | ⟨hd1, hd2⟩
      · have hd3 : decide ((1 : Int) < (t.size : Int)) = false := decide_eq_false hd1
        go_wp2_with fail
        refine (l03Word_any (t.extract 1 t.size) _ (HNX.out _ _).1).mono ?_
        rintro e x3 ⟨nm, n, ok3, rfl, hw3, hb⟩
        have HR3 : Hid (x3.heap[w.heap.size]? = _) := heap_keep (set_far (a := ⟨w.heap.size + 1, 0, none⟩) (v := .int .i64 5) nb HR1.out) hb
        have HO3 : Hid (x3.heap[w.heap.size + 1]? = _) := heap_keep (heap_set HO1.out 0 (.int .i64 5)) hb
        have HB3 : Hid (Below w.heap.size w x3) := below_call (HB1.out.setCell (p := ⟨w.heap.size + 1, 0, none⟩) (by show w.heap.size ≤ w.heap.size + 1; omega) (.int .i64 5)) hb
        have HQ : Hid (opndR t = if ok3 then some ((5, 0, n, false), t.extract 1 t.size) else none) := by show _ = _; rw [HQ2.out]; unfold wordO; rw [hw3]; cases ok3 <;> rfl
        have hz3 := heap_lt HO3.out
        have hz4 : w.heap.size < x3.heap.size := by omega
        clear hb hw3 c0 c1 c2 c3 z0 z1 z2 z3 d0 d1 d2 d3 y0 y1 y2 y3
        obtain ⟨⟨c0, c1, c2, c3⟩, z0, z1, z2, z3⟩ := cellsO HR3.out
        simp [List.setIfInBounds_toArray] at HO3
        obtain ⟨⟨d0, d1, d2, d3⟩, y0, y1, y2, y3⟩ := cellsO HO3.out
        have hne1 : w.heap.size ≠ x3.heap.size := by omega
        have hne2 : w.heap.size + 1 ≠ x3.heap.size := by omega
        go_wp2
        exact bodyPost_ret (results_row2 Tryz.results85 _ _ w.heap.size 24 _ (0, 0) _ rfl (heap_more (setOS (set_far (a := ⟨w.heap.size + 1, 2, none⟩) (v := .int .i64 n) (show w.heap.size ≠ w.heap.size + 1 by omega) HR3.out)) _) Tryz.underlying24 rfl (by kernel_rfl)) rfl (opndOut_mk 5 0 n false (t.extract 1 t.size) ok3 HQ.out (HNX.out _ _).2 (below_more (((((HB3.out.setCell (p := ⟨w.heap.size + 1, 2, none⟩) (by show w.heap.size ≤ w.heap.size + 1; omega) (.int .i64 n)).setCell (Nat.le_refl _) _).setCell (Nat.le_refl _) _).setCell (Nat.le_refl _) _).setCell (Nat.le_refl _) _) _))
      · have hs3 : (2 : Int) ≤ (t.size : Int) := by omega
        go_wp2_with fail
        refine (l03Word_any (t.extract 1 t.size) _ (HNX.out _ _).1).mono ?_
        rintro e x3 ⟨nm, n, ok3, rfl, hw3, hb⟩
        have HR3 : Hid (x3.heap[w.heap.size]? = _) := heap_keep (set_far (a := ⟨w.heap.size + 1, 0, none⟩) (v := .int .i64 5) nb HR1.out) hb
        have HO3 : Hid (x3.heap[w.heap.size + 1]? = _) := heap_keep (heap_set HO1.out 0 (.int .i64 5)) hb
        have HB3 : Hid (Below w.heap.size w x3) := below_call (HB1.out.setCell (p := ⟨w.heap.size + 1, 0, none⟩) (by show w.heap.size ≤ w.heap.size + 1; omega) (.int .i64 5)) hb
        have HQ : Hid (opndR t = if ok3 then some ((5, 0, n, false), t.extract 1 t.size) else none) := by show _ = _; rw [HQ2.out]; unfold wordO; rw [hw3]; cases ok3 <;> rfl
        have hz3 := heap_lt HO3.out
        have hz4 : w.heap.size < x3.heap.size := by omega
        clear hb hw3 c0 c1 c2 c3 z0 z1 z2 z3 d0 d1 d2 d3 y0 y1 y2 y3
        obtain ⟨⟨c0, c1, c2, c3⟩, z0, z1, z2, z3⟩ := cellsO HR3.out
        simp [List.setIfInBounds_toArray] at HO3
        obtain ⟨⟨d0, d1, d2, d3⟩, y0, y1, y2, y3⟩ := cellsO HO3.out
        have hne1 : w.heap.size ≠ x3.heap.size := by omega
        have hne2 : w.heap.size + 1 ≠ x3.heap.size := by omega
        go_wp2
        exact bodyPost_ret (results_row2 Tryz.results85 _ _ w.heap.size 24 _ (0, 0) _ rfl (heap_more (setOS (set_far (a := ⟨w.heap.size + 1, 2, none⟩) (v := .int .i64 n) (show w.heap.size ≠ w.heap.size + 1 by omega) HR3.out)) _) Tryz.underlying24 rfl (by kernel_rfl)) rfl (opndOut_mk 5 0 n false (t.extract 1 t.size) ok3 HQ.out (HNX.out _ _).2 (below_more (((((HB3.out.setCell (p := ⟨w.heap.size + 1, 2, none⟩) (by show w.heap.size ≤ w.heap.size + 1; omega) (.int .i64 n)).setCell (Nat.le_refl _) _).setCell (Nat.le_refl _) _).setCell (Nat.le_refl _) _).setCell (Nat.le_refl _) _) _))
    have e3 : ((t[0].toNat : Int) == 35) = false := by rw [beq_eq_false_iff_ne]; omega
    have HQ6 : Hid (opndR t = opndI t) := by show _ = _; rw [HQ5.out, if_neg (by omega)]
    clear HQ5 hc hh
    rcases hdd with hd1 | ⟨hd1, hd2⟩
    · have hd3 : decide ((1 : Int) < (t.size : Int)) = false := decide_eq_false hd1
      have HX1 : Hid (idxI 40 t ≤ t.size) := idx_le 40 t
      go_wp2
      go_loopw [8] (fun i wr => ∃ k : Nat, k ≤ t.size ∧ i = .int .i64 k ∧ Hid (wr = x1) ∧ Hid (idxI 40 t = k + idxL 40 (t.data.toList.drop k))) (fun i _ => t.size - (intOf i).toNat)
      case atStart => exact ⟨0, by omega, rfl, rfl, by show _ = _; simp [idxI]⟩
      case round =>
        obtain ⟨k, hk, rfl, HW, HI⟩ := hrel
        have hw := HW.out
        subst hw
        by_cases hlt : k < t.size
        · have hk0 : (0 : Int) ≤ (k : Int) := by omega
          have hk1 : (k : Int) < (t.size : Int) := by omega
          have hk2 : ((k : Int) == (t.size : Int)) = false := by rw [beq_eq_false_iff_ne]; omega
          by_cases hc : t[k].toNat = 40
          · have e4 : ((t[k].toNat : Int) != 40) = false := by rw [bne_eq_false_iff_eq]; omega
            have HK : Hid (idxI 40 t = k) := by show _ = _; rw [HI.out, idx_here 40 t k hlt hc]; rfl
            by_cases hl : lastB t = 41
            · have e5 : ((t[t.size - 1].toNat : Int) != 41) = false := by rw [bne_eq_false_iff_eq]; omega
              have hkl : k + 1 ≤ t.size - 1 := by
                rcases Nat.lt_or_ge (k + 1) t.size with h | h
                · omega
                · exfalso
                  have e9 : t.size - 1 = k := by omega
                  simp only [e9] at hla
                  omega
              have HQ3 : Hid (opndR t = match regR (t.extract (k + 1) (t.size - 1)) with | some r => wordO 1 r false (t.extract 0 k) | none => none) := by
                show _ = _; rw [HQ6.out]; unfold opndI; have hk9 := HK.out; rw [if_pos ⟨by omega, hl⟩, hk9]
              have hk3 : (k : Int) + 1 ≤ (t.size : Int) - 1 := by omega
              have hk4 : (k : Int) + 1 ≤ ((t.size - 1 : Nat) : Int) := by omega
              have hk5 : (t.size : Int) - 1 ≤ (t.size : Int) := by omega
              clear hla hc hl
              exfalso; omega
            · have e5 : ((t[t.size - 1].toNat : Int) != 41) = true := by rw [bne_iff_ne]; omega
              have HQ : Hid (opndR t = none) := by show _ = _; rw [HQ6.out]; unfold opndI; rw [if_neg (fun k => hl k.2)]
              clear hla hc hl
              go_wp2
              exact bodyPost_ret (results_row2 Tryz.results85 _ _ w.heap.size 24 _ (0, 0) _ rfl (setOS HR1.out) Tryz.underlying24 rfl (by kernel_rfl)) rfl (opndOut_mk 0 0 0 false ⟨#[]⟩ false HQ.out (by exact Nat.zero_le _) ((((HB1.out.setCell (Nat.le_refl _) _).setCell (Nat.le_refl _) _).setCell (Nat.le_refl _) _).setCell (Nat.le_refl _) _))
          · have e4 : ((t[k].toNat : Int) != 40) = true := by rw [bne_iff_ne]; omega
            have HJ : Hid (_ = _) := idx_step 40 t k hlt hc
            clear hc hla
            go_wp2
            go_roundw
            case rel => exact ⟨k + 1, by omega, by go_num, trivial, by show _ = _; have h1 := HI.out; have h2 := HJ.out; omega⟩
            case measure => simp [intOf]; omega
        · obtain rfl : k = t.size := by omega
          have HQ : Hid (opndR t = none) := by show _ = _; rw [HQ6.out]; unfold opndI; have h1 := HI.out; rw [idx_end 40 t t.size (by omega)] at h1; rw [if_neg (by omega)]
          have hk9 : decide ((t.size : Int) < (t.size : Int)) = false := decide_eq_false (by omega)
          clear hla
          go_wp2
          exact bodyPost_ret (results_row2 Tryz.results85 _ _ w.heap.size 24 _ (0, 0) _ rfl (setOS HR1.out) Tryz.underlying24 rfl (by kernel_rfl)) rfl (opndOut_mk 0 0 0 false ⟨#[]⟩ false HQ.out (by exact Nat.zero_le _) ((((HB1.out.setCell (Nat.le_refl _) _).setCell (Nat.le_refl _) _).setCell (Nat.le_refl _) _).setCell (Nat.le_refl _) _))
    · have hs3 : (2 : Int) ≤ (t.size : Int) := by omega
      have HX1 : Hid (idxI 40 t ≤ t.size) := idx_le 40 t
      go_wp2
      go_loopw [8] (fun i wr => ∃ k : Nat, k ≤ t.size ∧ i = .int .i64 k ∧ Hid (wr = x1) ∧ Hid (idxI 40 t = k + idxL 40 (t.data.toList.drop k))) (fun i _ => t.size - (intOf i).toNat)
      case atStart => exact ⟨0, by omega, rfl, rfl, by show _ = _; simp [idxI]⟩
      case round =>
        obtain ⟨k, hk, rfl, HW, HI⟩ := hrel
        have hw := HW.out
        subst hw
        by_cases hlt : k < t.size
        · have hk0 : (0 : Int) ≤ (k : Int) := by omega
          have hk1 : (k : Int) < (t.size : Int) := by omega
          have hk2 : ((k : Int) == (t.size : Int)) = false := by rw [beq_eq_false_iff_ne]; omega
          by_cases hc : t[k].toNat = 40
          · have e4 : ((t[k].toNat : Int) != 40) = false := by rw [bne_eq_false_iff_eq]; omega
            have HK : Hid (idxI 40 t = k) := by show _ = _; rw [HI.out, idx_here 40 t k hlt hc]; rfl
            by_cases hl : lastB t = 41
            · have e5 : ((t[t.size - 1].toNat : Int) != 41) = false := by rw [bne_eq_false_iff_eq]; omega
              have hkl : k + 1 ≤ t.size - 1 := by
                rcases Nat.lt_or_ge (k + 1) t.size with h | h
                · omega
                · exfalso
                  have e9 : t.size - 1 = k := by omega
                  simp only [e9] at hla
                  omega
              have HQ3 : Hid (opndR t = match regR (t.extract (k + 1) (t.size - 1)) with | some r => wordO 1 r false (t.extract 0 k) | none => none) := by
                show _ = _; rw [HQ6.out]; unfold opndI; have hk9 := HK.out; rw [if_pos ⟨by omega, hl⟩, hk9]
              have hk3 : (k : Int) + 1 ≤ (t.size : Int) - 1 := by omega
              have hk4 : (k : Int) + 1 ≤ ((t.size - 1 : Nat) : Int) := by omega
              have hk5 : (t.size : Int) - 1 ≤ (t.size : Int) := by omega
              clear hla hc hl
              go_wp2_with fail
              refine (l03Reg_any (t.extract (k + 1) (t.size - 1)) _ (HNX.out _ _).1).mono ?_
              rintro e x2 ⟨r2, ok2, rfl, hr2, hs0, hs1, hb⟩
              have HR2 : Hid (x2.heap[w.heap.size]? = _) := heap_keep (set_far (a := ⟨w.heap.size + 1, 0, none⟩) (v := .int .i64 1) nb HR1.out) hb
              have HO2 : Hid (x2.heap[w.heap.size + 1]? = _) := heap_keep (heap_set HO1.out 0 (.int .i64 1)) hb
              have HB2 : Hid (Below w.heap.size w x2) := below_call (HB1.out.setCell (p := ⟨w.heap.size + 1, 0, none⟩) (by show w.heap.size ≤ w.heap.size + 1; omega) (.int .i64 1)) hb
              simp [List.setIfInBounds_toArray] at HO2
              have HR9 : Hid (_ = _) := hr2
              clear hb hr2 c0 c1 c2 c3 z0 z1 z2 z3 d0 d1 d2 d3 y0 y1 y2 y3
              obtain ⟨⟨c0, c1, c2, c3⟩, z0, z1, z2, z3⟩ := cellsO HR2.out
              obtain ⟨⟨d0, d1, d2, d3⟩, y0, y1, y2, y3⟩ := cellsO HO2.out
              have hz2 := heap_lt HO2.out
              cases ok2
              · have HQ : Hid (opndR t = none) := by show _ = _; rw [HQ3.out, HR9.out]; rfl
                go_wp2
                exact bodyPost_ret (results_row2 Tryz.results85 _ _ w.heap.size 24 _ (0, 0) _ rfl (setOS (set_far (a := ⟨w.heap.size + 1, 1, none⟩) (v := .int .i64 r2) nb HR2.out)) Tryz.underlying24 rfl (by kernel_rfl)) rfl (opndOut_mk 1 r2 0 false ⟨#[]⟩ false HQ.out (by exact Nat.zero_le _) (((((HB2.out.setCell (p := ⟨w.heap.size + 1, 1, none⟩) (by show w.heap.size ≤ w.heap.size + 1; omega) (.int .i64 r2)).setCell (Nat.le_refl _) _).setCell (Nat.le_refl _) _).setCell (Nat.le_refl _) _).setCell (Nat.le_refl _) _))
              · have HQ2 : Hid (opndR t = wordO 1 r2 false (t.extract 0 k)) := by show _ = _; rw [HQ3.out, HR9.out]; rfl
                go_wp2_with fail
                refine (l03Word_any (t.extract 0 k) _ (HNX.out _ _).1).mono ?_
                rintro e x3 ⟨nm, n, ok3, rfl, hw3, hb⟩
                have HR3 : Hid (x3.heap[w.heap.size]? = _) := heap_keep (set_far (a := ⟨w.heap.size + 1, 1, none⟩) (v := .int .i64 r2) nb HR2.out) hb
                have HO3 : Hid (x3.heap[w.heap.size + 1]? = _) := heap_keep (heap_set HO2.out 1 (.int .i64 r2)) hb
                have HB3 : Hid (Below w.heap.size w x3) := below_call (HB2.out.setCell (p := ⟨w.heap.size + 1, 1, none⟩) (by show w.heap.size ≤ w.heap.size + 1; omega) (.int .i64 r2)) hb
                have HQ : Hid (opndR t = if ok3 then some ((1, r2, n, false), t.extract 0 k) else none) := by show _ = _; rw [HQ2.out]; unfold wordO; rw [hw3]; cases ok3 <;> rfl
                have hz3 := heap_lt HO3.out
                have hz4 : w.heap.size < x3.heap.size := by omega
                clear hb hw3 c0 c1 c2 c3 z0 z1 z2 z3 d0 d1 d2 d3 y0 y1 y2 y3
                obtain ⟨⟨c0, c1, c2, c3⟩, z0, z1, z2, z3⟩ := cellsO HR3.out
                simp [List.setIfInBounds_toArray] at HO3
                obtain ⟨⟨d0, d1, d2, d3⟩, y0, y1, y2, y3⟩ := cellsO HO3.out
                have hne1 : w.heap.size ≠ x3.heap.size := by omega
                have hne2 : w.heap.size + 1 ≠ x3.heap.size := by omega
                go_wp2
                exact bodyPost_ret (results_row2 Tryz.results85 _ _ w.heap.size 24 _ (0, 0) _ rfl (heap_more (setOS (set_far (a := ⟨w.heap.size + 1, 2, none⟩) (v := .int .i64 n) (show w.heap.size ≠ w.heap.size + 1 by omega) HR3.out)) _) Tryz.underlying24 rfl (by kernel_rfl)) rfl (opndOut_mk 1 r2 n false (t.extract 0 k) ok3 HQ.out (HNX.out _ _).2 (below_more (((((HB3.out.setCell (p := ⟨w.heap.size + 1, 2, none⟩) (by show w.heap.size ≤ w.heap.size + 1; omega) (.int .i64 n)).setCell (Nat.le_refl _) _).setCell (Nat.le_refl _) _).setCell (Nat.le_refl _) _).setCell (Nat.le_refl _) _) _))
            · have e5 : ((t[t.size - 1].toNat : Int) != 41) = true := by rw [bne_iff_ne]; omega
              have HQ : Hid (opndR t = none) := by show _ = _; rw [HQ6.out]; unfold opndI; rw [if_neg (fun k => hl k.2)]
              clear hla hc hl
              go_wp2
              exact bodyPost_ret (results_row2 Tryz.results85 _ _ w.heap.size 24 _ (0, 0) _ rfl (setOS HR1.out) Tryz.underlying24 rfl (by kernel_rfl)) rfl (opndOut_mk 0 0 0 false ⟨#[]⟩ false HQ.out (by exact Nat.zero_le _) ((((HB1.out.setCell (Nat.le_refl _) _).setCell (Nat.le_refl _) _).setCell (Nat.le_refl _) _).setCell (Nat.le_refl _) _))
          · have e4 : ((t[k].toNat : Int) != 40) = true := by rw [bne_iff_ne]; omega
            have HJ : Hid (_ = _) := idx_step 40 t k hlt hc
            clear hc hla
            go_wp2
            go_roundw
            case rel => exact ⟨k + 1, by omega, by go_num, trivial, by show _ = _; have h1 := HI.out; have h2 := HJ.out; omega⟩
            case measure => simp [intOf]; omega
        · obtain rfl : k = t.size := by omega
          have HQ : Hid (opndR t = none) := by show _ = _; rw [HQ6.out]; unfold opndI; have h1 := HI.out; rw [idx_end 40 t t.size (by omega)] at h1; rw [if_neg (by omega)]
          have hk9 : decide ((t.size : Int) < (t.size : Int)) = false := decide_eq_false (by omega)
          clear hla
          go_wp2
          exact bodyPost_ret (results_row2 Tryz.results85 _ _ w.heap.size 24 _ (0, 0) _ rfl (setOS HR1.out) Tryz.underlying24 rfl (by kernel_rfl)) rfl (opndOut_mk 0 0 0 false ⟨#[]⟩ false HQ.out (by exact Nat.zero_le _) ((((HB1.out.setCell (Nat.le_refl _) _).setCell (Nat.le_refl _) _).setCell (Nat.le_refl _) _).setCell (Nat.le_refl _) _))
  · have HQ : Hid (opndR t = some ((0, r, 0, false), ⟨#[]⟩)) := by show _ = _; rw [HQ0.out, HRR.out]; rfl
    go_wp2
    exact bodyPost_ret (results_row2 Tryz.results85 _ _ w.heap.size 24 _ (0, 0) _ rfl (setOS HR1.out) Tryz.underlying24 rfl (by kernel_rfl)) rfl (opndOut_mk 0 r 0 false ⟨#[]⟩ true HQ.out (by exact Nat.zero_le _) ((((HB1.out.setCell (Nat.le_refl _) _).setCell (Nat.le_refl _) _).setCell (Nat.le_refl _) _).setCell (Nat.le_refl _) _))
end Go.Proofs.YtodjccipfonaiaaGreatDoor
