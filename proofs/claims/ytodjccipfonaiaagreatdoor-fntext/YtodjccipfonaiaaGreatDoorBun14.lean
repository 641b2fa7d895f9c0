/- Instructions: a first word tells the same Insn by the program and by the specification, but for N and Long where a word stands behind. -/
import Derived.Test.YtodjccipfonaiaaGreatDoorRows
import Derived.WalkKit
import Derived.Test.YtodjccipfonaiaaGreatDoorBun7
import Derived.Test.YtodjccipfonaiaaGreatDoorBun3
import Derived.Test.YtodjccipfonaiaaGreatDoorBun13
import Derived.WalkSpells
import Derived.WalkLawsBesides
import Derived.Outline
import Derived.Test.YtodjccipfonaiaaGreatDoorBun0
import Derived.Laws.BytesArg
import Derived.RegionTactic
import Derived.BigRegion
import Derived.Deep.QuietTactic
import Derived.BigQuiet
import Derived.Deep.RegionHeld3
import Derived.Lib.ItoaNum
namespace Go.Proofs.YtodjccipfonaiaaGreatDoor
open Go.RowKit
set_option linter.unusedVariables false

theorem fin_a {a r : Int} {P : Int → Int → Prop} {A R : Nat} (h : ∀ (x : Fin A) (y : Fin R), P (x.val : Int) (y.val : Int)) (h0 : 0 ≤ a) (h1 : a < A) (g0 : 0 ≤ r) (g1 : r < R) : P a r := by
  have k := h ⟨a.toNat, by omega⟩ ⟨r.toNat, by omega⟩
  have e1 : ((a.toNat : Nat) : Int) = a := by omega
  have e2 : ((r.toNat : Nat) : Int) = r := by omega
  simp only [e1, e2] at k
  exact k
abbrev srcSame (a r : Int) : Prop := (srcT a r).1 = (opdT a r).1 ∧ (srcT a r).2.1 = (opdT a r).2.1 ∧ (srcT a r).2.2.1 = (opdT a r).2.2.1 ∧ srcB (opdT a r).1 (opdT a r).2.1 (opdT a r).2.2.1 (srcT a r).2.2.2 = srcB (opdT a r).1 (opdT a r).2.1 (opdT a r).2.2.1 false ∧ (asI (opdT a r).1 (opdT a r).2.1 (opdT a r).2.2.1 (srcT a r).2.2.2).2.2 = (opdT a r).2.2.2 ∧ ((opdT a r).2.2.2 = false → (srcT a r).2.2.2 = false) ∧ (zeroB (opdT a r).1 (opdT a r).2.1 (opdT a r).2.2.1 (srcT a r).2.2.2 = true → a = 0 ∧ r = 0) ∧ 0 ≤ (opdT a r).1 ∧ (opdT a r).1 ≤ 5
theorem src_same (a r : Int) (h0 : 0 ≤ a) (h1 : a < 4) (g0 : 0 ≤ r) (g1 : r < 16) : srcSame a r :=
  fin_a (A := 4) (R := 16) (by decide +kernel) h0 h1 g0 g1
abbrev dstSame (a r : Int) : Prop := dstB (dstT a r).1 (dstT a r).2 0 false = dstB (dstO a r).1 (dstO a r).2.1 (dstO a r).2.2.1 false ∧ (dstB (dstT a r).1 (dstT a r).2 0 false = true → (dstT a r).1 = (dstO a r).1 ∧ (dstT a r).2 = (dstO a r).2.1 ∧ 0 = (dstO a r).2.2.1 ∧ (asI (dstO a r).1 (dstO a r).2.1 0 false).2.2 = (dstO a r).2.2.2 ∧ (dstO a r).1 ≠ 5 ∧ 0 ≤ (dstO a r).1 ∧ (dstO a r).1 ≤ 5)
theorem dst_same (a r : Int) (h0 : 0 ≤ a) (h1 : a < 2) (g0 : 0 ≤ r) (g1 : r < 16) : dstSame a r :=
  fin_a (A := 2) (R := 16) (by decide +kernel) h0 h1 g0 g1
theorem two_at : ∀ K : Fin 12, 0 ≤ atI twosL (nameAt (4 + K.val)) := by decide +kernel
theorem one_at : ∀ K : Fin 6, ¬ 0 ≤ atI twosL (nameAt (16 + K.val)) ∧ ¬ 0 ≤ atI jumpsL (nameAt (16 + K.val)) ∧ ¬ nameAt (16 + K.val) = ⟨#[114, 101, 116, 105]⟩ ∧ ¬ atI onesL (nameAt (16 + K.val)) < 0 := by decide +kernel
theorem jump_at : ∀ K : Fin 8, ¬ 0 ≤ atI twosL (nameAt (32 + K.val)) ∧ 0 ≤ atI jumpsL (nameAt (32 + K.val)) := by decide +kernel
theorem reti_at6 : ¬ 0 ≤ atI twosL ⟨#[114, 101, 116, 105]⟩ ∧ ¬ 0 ≤ atI jumpsL ⟨#[114, 101, 116, 105]⟩ := by decide +kernel
theorem none_at : ¬ 0 ≤ atI twosL ⟨#[]⟩ ∧ ¬ 0 ≤ atI jumpsL ⟨#[]⟩ ∧ ¬ (⟨#[]⟩ : ByteArray) = ⟨#[114, 101, 116, 105]⟩ ∧ atI onesL ⟨#[]⟩ < 0 := by decide +kernel
theorem name22 : nameAt 22 = ⟨#[114, 101, 116, 105]⟩ := by decide +kernel
theorem name23 : nameAt 23 = ⟨#[]⟩ := by decide +kernel
theorem right_twos {op : ByteArray} (h : 0 ≤ atI twosL op) (b : Bool) (m r n : Int) (l : Bool) (m2 r2 n2 : Int) (l2 : Bool) (j : Int) : insnB op b m r n l m2 r2 n2 l2 j = (srcB m r n l && dstB m2 r2 n2 l2 && (j == 0)) := by
  unfold insnB rightB; rw [if_pos h]
theorem right_none' (b : Bool) (m r n : Int) (l : Bool) (m2 r2 n2 : Int) (l2 : Bool) (j : Int) : insnB ⟨#[]⟩ b m r n l m2 r2 n2 l2 j = false := by
  unfold insnB rightB; rw [if_neg none_at.1, if_neg none_at.2.1, if_neg none_at.2.2.1, if_pos none_at.2.2.2]
structure Same (i : Ins) (f : Fst) : Prop where
  op : i.op = f.i.op
  b : i.b = f.i.b
  m : i.m = f.i.m
  r : i.r = f.i.r
  m2 : i.m2 = f.i.m2
  r2 : i.r2 = f.i.r2
  j : i.j = f.i.j
  hn : (asI i.m i.r i.n i.l).2.2 = f.n
  hm : (asI i.m2 i.r2 i.n2 i.l2).2.2 = f.m
  n : f.n = false → i.n = f.i.n
  l : f.n = false → i.l = f.i.l
  n2 : f.m = false → i.n2 = f.i.n2
  l2 : i.l2 = f.i.l2
  d5 : f.m = true → f.i.m2 ≠ 5
  l2f : f.i.l2 = false
  m0 : 0 ≤ i.m
  m5 : i.m ≤ 5
  d0 : 0 ≤ i.m2
  d55 : i.m2 ≤ 5
theorem first_same (x : Int) (h0 : 0 ≤ x) (h1 : x ≤ 65535) : (insI x).right = (firstS x).ok ∧ ((firstS x).ok = true → Same (insI x) (firstS x)) := by
  by_cases c1 : 16384 ≤ x
  · have e1 : insI x = { op := nameAt (x / 4096).toNat, b := x / 64 % 2 == 1, m := (srcT (x / 16 % 4) (x / 256 % 16)).1, r := (srcT (x / 16 % 4) (x / 256 % 16)).2.1, n := (srcT (x / 16 % 4) (x / 256 % 16)).2.2.1, l := (srcT (x / 16 % 4) (x / 256 % 16)).2.2.2, m2 := (dstT (x / 128 % 2) (x % 16)).1, r2 := (dstT (x / 128 % 2) (x % 16)).2, n2 := 0, l2 := false, j := 0 } := by unfold insI; rw [if_pos c1]
    have e2 := firstS.eq_1 x
    rw [if_neg (by omega), if_neg (by omega), if_neg (by omega), if_neg (by omega)] at e2
    obtain ⟨s1, s2, s3, s4, s5, s6, _, s8, s9⟩ := src_same (x / 16 % 4) (x / 256 % 16) (by omega) (by omega) (by omega) (by omega)
    obtain ⟨t1, t2⟩ := dst_same (x / 128 % 2) (x % 16) (by omega) (by omega) (by omega) (by omega)
    have hk : 0 ≤ atI twosL (nameAt (4 + (x / 4096 - 4).toNat)) := two_at ⟨(x / 4096 - 4).toNat, by omega⟩
    have ek : (x / 4096).toNat = 4 + (x / 4096 - 4).toNat := by omega
    rw [ek] at e1
    have r1 : (insI x).right = (srcB (opdT (x / 16 % 4) (x / 256 % 16)).1 (opdT (x / 16 % 4) (x / 256 % 16)).2.1 (opdT (x / 16 % 4) (x / 256 % 16)).2.2.1 false && dstB (dstT (x / 128 % 2) (x % 16)).1 (dstT (x / 128 % 2) (x % 16)).2 0 false) := by
      rw [e1]; unfold Ins.right; rw [right_twos hk, s1, s2, s3, s4]; simp
    have r2 : (firstS x).ok = (srcB (opdT (x / 16 % 4) (x / 256 % 16)).1 (opdT (x / 16 % 4) (x / 256 % 16)).2.1 (opdT (x / 16 % 4) (x / 256 % 16)).2.2.1 false && dstB (dstT (x / 128 % 2) (x % 16)).1 (dstT (x / 128 % 2) (x % 16)).2 0 false) := by
      rw [e2]; show Ins.right _ = _; unfold Ins.right; show insnB (nameAt _) _ _ _ _ false _ _ _ false 0 = _; rw [right_twos hk, t1]; simp [twoIns]
    refine ⟨r1.trans r2.symm, fun hok => ?_⟩
    rw [r2, Bool.and_eq_true] at hok
    obtain ⟨u1, u2, u3, u4, u5, u6, u7⟩ := t2 hok.2
    rw [e1, e2]
    exact { op := rfl, b := rfl, m := s1, r := s2, m2 := u1, r2 := u2, j := rfl, hn := by simp only [s1, s2, s3]; exact s5, hm := by simp only [u1, u2]; exact u4, n := fun _ => s3, l := fun h => s6 h, n2 := fun _ => u3, l2 := rfl, d5 := fun _ => u5, l2f := rfl, m0 := by simp only [s1]; exact s8, m5 := by simp only [s1]; exact s9, d0 := by simp only [u1]; exact u6, d55 := by simp only [u1]; exact u7 }
  by_cases c2 : 8192 ≤ x
  · have e1 : insI x = jumpIns (x / 1024 % 8).toNat ((x + 512) % 1024 - 512) := by unfold insI; rw [if_neg c1, if_pos c2]; rfl
    have e2 : firstS x = ⟨jumpIns (x / 1024 % 8).toNat ((x + 512) % 1024 - 512), false, false, true⟩ := by unfold firstS; rw [if_neg (by omega), if_pos (by omega)]
    have hk := jump_at ⟨(x / 1024 % 8).toNat, by omega⟩
    rw [e1, e2]
    refine ⟨?_, fun _ => { op := rfl, b := rfl, m := rfl, r := rfl, m2 := rfl, r2 := rfl, j := rfl, hn := rfl, hm := rfl, n := fun _ => rfl, l := fun _ => rfl, n2 := fun _ => rfl, l2 := rfl, d5 := fun h => (by cases h), l2f := rfl, m0 := by show (0 : Int) ≤ 0; omega, m5 := by show (0 : Int) ≤ 5; omega, d0 := by show (0 : Int) ≤ 0; omega, d55 := by show (0 : Int) ≤ 5; omega }⟩
    show insnB (nameAt _) false 0 0 0 false 0 0 0 false ((x + 512) % 1024 - 512) = true
    unfold insnB rightB
    rw [if_neg hk.1, if_pos hk.2]
    have : isB ((x + 512) % 1024 - 512) (-512) 511 = true := by unfold isB; simp; omega
    rw [this]; rfl
  by_cases c3 : 4096 ≤ x ∧ x < 5120
  · have e1 : insI x = { op := nameAt (16 + (x / 128 % 8).toNat), b := x / 64 % 2 == 1, m := (srcT (x / 16 % 4) (x % 16)).1, r := (srcT (x / 16 % 4) (x % 16)).2.1, n := (srcT (x / 16 % 4) (x % 16)).2.2.1, l := (srcT (x / 16 % 4) (x % 16)).2.2.2, m2 := 0, r2 := 0, n2 := 0, l2 := false, j := 0 } := by unfold insI; rw [if_neg c1, if_neg c2, if_pos c3]
    obtain ⟨s1, s2, s3, s4, s5, s6, s7, s8, s9⟩ := src_same (x / 16 % 4) (x % 16) (by omega) (by omega) (by omega) (by omega)
    by_cases c4 : x < 4864
    · have e2 := firstS.eq_1 x
      rw [if_neg (by omega), if_neg (by omega), if_neg (by omega), if_pos (by omega)] at e2
      have hk := one_at ⟨(x / 128 % 8).toNat, by omega⟩
      have r1 : (insI x).right = (firstS x).ok := by
        rw [e1, e2]
        show insnB _ _ _ _ _ _ _ _ _ _ _ = insnB (nameAt (16 + (x / 128 % 8).toNat)) _ _ _ _ false 0 0 0 false 0
        unfold insnB rightB
        rw [if_neg hk.1, if_neg hk.2.1, if_neg hk.2.2.1, if_neg hk.2.2.2, if_neg hk.1, if_neg hk.2.1, if_neg hk.2.2.1, if_neg hk.2.2.2]
        simp only [s1, s2, s3, s4]
        rfl
      refine ⟨r1, fun _ => ?_⟩
      rw [e1, e2]
      exact { op := rfl, b := rfl, m := s1, r := s2, m2 := rfl, r2 := rfl, j := rfl, hn := by simp only [s1, s2, s3]; exact s5, hm := rfl, n := fun _ => s3, l := fun h => s6 h, n2 := fun _ => rfl, l2 := rfl, d5 := fun h => (by cases h), l2f := rfl, m0 := by simp only [s1]; exact s8, m5 := by simp only [s1]; exact s9, d0 := by show (0 : Int) ≤ 0; omega, d55 := by show (0 : Int) ≤ 5; omega }
    by_cases c5 : x = 4864
    · subst c5
      exact ⟨by decide +kernel, fun _ => { op := by decide +kernel, b := rfl, m := rfl, r := rfl, m2 := rfl, r2 := rfl, j := rfl, hn := rfl, hm := rfl, n := fun _ => rfl, l := fun _ => rfl, n2 := fun _ => rfl, l2 := rfl, d5 := fun h => (by cases h), l2f := rfl, m0 := by decide, m5 := by decide, d0 := by decide, d55 := by decide }⟩
    have e2 : firstS x = ⟨zeroIns, false, false, false⟩ := by unfold firstS; rw [if_neg c5, if_neg (by omega), if_pos (by omega)]
    rw [e2]
    refine ⟨?_, fun h => by cases h⟩
    rw [e1]
    show insnB _ _ _ _ _ _ _ _ _ _ _ = false
    by_cases c6 : x < 4992
    · have ek : 16 + (x / 128 % 8).toNat = 22 := by omega
      simp only [ek, name22]
      unfold insnB rightB
      rw [if_neg reti_at6.1, if_neg reti_at6.2, if_pos rfl]
      simp only [s1, s2, s3]
      cases hb : (x / 64 % 2 == 1)
      · cases hz : zeroB (opdT (x / 16 % 4) (x % 16)).1 (opdT (x / 16 % 4) (x % 16)).2.1 (opdT (x / 16 % 4) (x % 16)).2.2.1 (srcT (x / 16 % 4) (x % 16)).2.2.2
        · simp
        · have := s7 hz
          rw [beq_eq_false_iff_ne] at hb
          omega
      · simp
    · have ek : 16 + (x / 128 % 8).toNat = 23 := by omega
      simp only [ek, name23]
      exact right_none' _ _ _ _ _ _ _ _ _ _
  · have e1 : insI x = zeroIns := by unfold insI; rw [if_neg c1, if_neg c2, if_neg c3]; rfl
    have e2 : firstS x = ⟨zeroIns, false, false, false⟩ := by unfold firstS; rw [if_neg (by omega), if_neg (by omega), if_pos (by omega)]
    rw [e1, e2]
    exact ⟨right_none' _ _ _ _ _ _ _ _ _ _, fun h => by cases h⟩
end Go.Proofs.YtodjccipfonaiaaGreatDoor
namespace Go.Proofs.YtodjccipfonaiaaGreatDoor
open Go.RowKit
set_option linter.unusedVariables false

theorem words_at {L : List Int} {x : Int} {k : Nat} (hw : wordsB L = true) (hx : L[k]? = some x) : 0 ≤ x ∧ x ≤ 65535 := by
  have h := List.all_eq_true.1 hw x (List.mem_of_getElem? hx)
  simp [isB] at h
  omega
theorem read_at {w : World} {p : Addr} {L : List Int} (h : ReadI w (some p) L) (k : Nat) (hk : k < L.length) : w.cell? (p.add k) = some (.int .i64 (L.getD k 0)) := by
  obtain ⟨q, e, _, hc⟩ := h (by omega)
  cases e
  rw [hc k hk]
  simp [List.getD, List.getElem?_eq_getElem hk]
theorem set_thirteen {W : World} {g : Nat} {z0 z1 z2 z3 z4 z5 z6 z7 z8 z9 z10 z11 z12 a0 a1 a2 a3 a4 a5 a6 a7 a8 a9 a10 a11 a12 : Value} {t : TypeId} (h : W.heap[g]? = some (.cells #[z0, z1, z2, z3, z4, z5, z6, z7, z8, z9, z10, z11, z12] t (0, 0))) : (((((((((((((W.setCell ⟨g, 0, none⟩ a0).setCell ⟨g, 1, none⟩ a1).setCell ⟨g, 2, none⟩ a2).setCell ⟨g, 3, none⟩ a3).setCell ⟨g, 4, none⟩ a4).setCell ⟨g, 5, none⟩ a5).setCell ⟨g, 6, none⟩ a6).setCell ⟨g, 7, none⟩ a7).setCell ⟨g, 8, none⟩ a8).setCell ⟨g, 9, none⟩ a9).setCell ⟨g, 10, none⟩ a10).setCell ⟨g, 11, none⟩ a11).setCell ⟨g, 12, none⟩ a12).heap[g]? = some (.cells #[a0, a1, a2, a3, a4, a5, a6, a7, a8, a9, a10, a11, a12] t (0, 0)) := by
  have k := heap_set (heap_set (heap_set (heap_set (heap_set (heap_set (heap_set (heap_set (heap_set (heap_set (heap_set (heap_set (heap_set h 0 a0) 1 a1) 2 a2) 3 a3) 4 a4) 5 a5) 6 a6) 7 a7) 8 a8) 9 a9) 10 a10) 11 a11) 12 a12
  simp only [List.setIfInBounds_toArray, List.set_cons_zero, List.set_cons_succ] at k
  exact k
theorem cellsD {W : World} {B : Nat} {v0 v1 v2 v3 v4 v5 v6 v7 v8 v9 v10 v11 v12 : Value} {t : TypeId} {fr : Nat × Nat} (h : W.heap[B]? = some (.cells #[v0, v1, v2, v3, v4, v5, v6, v7, v8, v9, v10, v11, v12] t fr)) :
    W.cell? ⟨B, 0, none⟩ = some v0 ∧ W.cell? ⟨B, 1, none⟩ = some v1 ∧ W.cell? ⟨B, 2, none⟩ = some v2 ∧ W.cell? ⟨B, 3, none⟩ = some v3 ∧ W.cell? ⟨B, 4, none⟩ = some v4 ∧ W.cell? ⟨B, 5, none⟩ = some v5 ∧ W.cell? ⟨B, 6, none⟩ = some v6 ∧ W.cell? ⟨B, 7, none⟩ = some v7 ∧ W.cell? ⟨B, 8, none⟩ = some v8 ∧ W.cell? ⟨B, 9, none⟩ = some v9 ∧ W.cell? ⟨B, 10, none⟩ = some v10 ∧ W.cell? ⟨B, 11, none⟩ = some v11 ∧ W.cell? ⟨B, 12, none⟩ = some v12 :=
  ⟨cell_of_row W B 0 _ t fr h, cell_of_row W B 1 _ t fr h, cell_of_row W B 2 _ t fr h, cell_of_row W B 3 _ t fr h, cell_of_row W B 4 _ t fr h, cell_of_row W B 5 _ t fr h, cell_of_row W B 6 _ t fr h, cell_of_row W B 7 _ t fr h, cell_of_row W B 8 _ t fr h, cell_of_row W B 9 _ t fr h, cell_of_row W B 10 _ t fr h, cell_of_row W B 11 _ t fr h, cell_of_row W B 12 _ t fr h⟩
theorem add0 (p : Addr) : p.add 0 = p := by
  obtain ⟨b, o, s⟩ := p
  cases s <;> simp [Addr.add]
theorem below_thirteen {B : Nat} {v W : World} {g : Nat} {a0 a1 a2 a3 a4 a5 a6 a7 a8 a9 a10 a11 a12 : Value} (hg : B ≤ g) (h : Below B v W) : Below B v (((((((((((((W.setCell ⟨g, 0, none⟩ a0).setCell ⟨g, 1, none⟩ a1).setCell ⟨g, 2, none⟩ a2).setCell ⟨g, 3, none⟩ a3).setCell ⟨g, 4, none⟩ a4).setCell ⟨g, 5, none⟩ a5).setCell ⟨g, 6, none⟩ a6).setCell ⟨g, 7, none⟩ a7).setCell ⟨g, 8, none⟩ a8).setCell ⟨g, 9, none⟩ a9).setCell ⟨g, 10, none⟩ a10).setCell ⟨g, 11, none⟩ a11).setCell ⟨g, 12, none⟩ a12) :=
  ((((((((((((h.setCell hg _).setCell hg _).setCell hg _).setCell hg _).setCell hg _).setCell hg _).setCell hg _).setCell hg _).setCell hg _).setCell hg _).setCell hg _).setCell hg _).setCell hg _
end Go.Proofs.YtodjccipfonaiaaGreatDoor
namespace Go.Proofs.YtodjccipfonaiaaGreatDoor
open Go.RowKit

def cellsU (L : List UInt8) : List Value := L.map fun b => Value.int .u8 (b.toNat : Int)
theorem strOf (L : List UInt8) : strOfNums (L.map fun b => (b.toNat : Int)) = ⟨L.toArray⟩ := by
  unfold strOfNums
  have h : (L.map fun b : UInt8 => (b.toNat : Int)).map (fun n => UInt8.ofNat n.toNat) = L := by
    rw [List.map_map]
    conv => rhs; rw [← List.map_id L]
    apply List.map_congr_left
    intro b _
    simp
  rw [h]
theorem conv_row (W : World) (B n cap : Nat) (t : TypeId) (R : List Value) (L : List UInt8) (hR : W.heap[B]? = some (.cells R.toArray t (0, 0))) (hl : L.length = n) (hT : R.take n = cellsU L) :
    (convert 22 9 (.slice (some ⟨B, 0, none⟩) n cap)).run Tryz.prog W = .ok (.string ⟨L.toArray⟩) W := by
  have h := run_convert_bytes_arg (P := Tryz.prog) W 22 5 Tryz.underlying22 Tryz.underlying5 B 0 n cap (L.map fun b => (b.toNat : Int)) (by simp [hl]) (fun i hi => ?_) 9 Tryz.underlying9
  · rw [h, strOf]
  · have e : R[i]? = (R.take n)[i]? := by rw [List.getElem?_take, if_pos hi]
    have hi2 : i < L.length := by omega
    simp [World.cell?, hR, e, hT, cellsU, List.getD, List.getElem?_eq_getElem hi2]
theorem row_cell {W : World} {B k : Nat} {t : TypeId} {R : List Value} (hR : W.heap[B]? = some (.cells R.toArray t (0, 0))) (h : k < R.length) : W.cell? ⟨B, k, none⟩ = some R[k] ∧ W.frozen? ⟨B, k, none⟩ = false := by
  constructor
  · simp [World.cell?, hR, h]
  · simp [World.frozen?, hR]
theorem row_set {W : World} {B k : Nat} {t : TypeId} {R : List Value} (hR : W.heap[B]? = some (.cells R.toArray t (0, 0))) (v : Value) : (W.setCell ⟨B, k, none⟩ v).heap[B]? = some (.cells (R.set k v).toArray t (0, 0)) := by
  rw [setCell_eq_setRow W B k R.toArray t (0, 0) v hR]
  rw [setRow_heap W B R.toArray _ t _ hR]
  simp
theorem set_take {R : List Value} {k : Nat} {L : List UInt8} (h : k < R.length) (hT : R.take k = cellsU L) (b : UInt8) : (R.set k (.int .u8 (b.toNat : Int))).take (k + 1) = cellsU (L ++ [b]) := by
  have hl : L.length = k := by have := congrArg List.length hT; simp [cellsU] at this; omega
  apply List.ext_getElem?
  intro j
  rw [List.getElem?_take]
  have e := congrArg (fun l => l[j]?) hT
  simp only [List.getElem?_take, cellsU] at e
  simp only [cellsU, List.map_append, List.getElem?_append, List.length_map, List.getElem?_set, hl]
  by_cases h1 : j < k
  · rw [if_pos (by omega), if_neg (by omega), if_pos h1]; rw [if_pos h1] at e; exact e
  · by_cases h2 : j = k
    · subst h2; simp [h]
    · rw [if_neg (by omega), if_neg h1]
      have : ¬ j - k < 1 := by omega
      simp; omega

theorem own_conv (W : World) (B : Nat) (v : Value) (n : Nat) (L : List UInt8) (h : W.ownsRow B 5 1 v n (cellsU L)) (hn : 0 < n) :
    (convert 22 9 v).run Tryz.prog W = .ok (.string ⟨L.toArray⟩) W := by
  obtain ⟨hl, h2⟩ := h
  rcases h2 with ⟨_, h0⟩ | ⟨g, cap, cur, rfl, _, hg, _, _, _, hT⟩
  · omega
  · exact conv_row W g n cap 5 cur.toList L (by simpa using hg) (by simp [cellsU] at hl; omega) (by simpa using hT)

theorem one_cell (x : Int) : ∀ u ∈ [Value.int .u8 x], u.oneCell' = true := by intro u hu; simp at hu; subst hu; rfl
end Go.Proofs.YtodjccipfonaiaaGreatDoor
namespace Go.Proofs.YtodjccipfonaiaaGreatDoor
open Go.RowKit

theorem textS_ne {s t : ByteArray} (h : ¬ s = t) : (s.toList == t.toList) = false := by
  rw [beq_eq_false_iff_ne]
  intro e
  rw [ByteArray.toList_eq, ByteArray.toList_eq] at e
  apply h
  cases s; cases t
  congr 1
  exact Array.toList_inj.1 e
theorem below_drewS {B : Nat} {a w : World} (h : Below B a w) (n : Nat) : Below B a (w.drewN n) := ⟨h.os, h.tape, h.output, h.size, h.block⟩
def cellsS (L : List ByteArray) : List Value := L.map Value.string
def OwnS (w : World) (B : Nat) (v : Value) (L : List ByteArray) : Prop := w.ownsRow B 9 1 v L.length (cellsS L)
theorem infoS : (Tryz.prog.info? 9).map (fun i => (i.zero, i.size, i.bytes)) = some (some (.string ⟨#[]⟩), 1, 16) := by kernel_rfl
theorem one_cellS (x : ByteArray) : ∀ u ∈ [Value.string x], u.oneCell' = true := by intro u hu; simp at hu; subst hu; rfl
theorem OwnS.stays {w w' : World} {B : Nat} {v : Value} {L : List ByteArray} (h : OwnS w B v L) (hb : Below w.heap.size w w') : OwnS w' B v L := by
  obtain ⟨h1, h2⟩ := h
  refine ⟨h1, ?_⟩
  rcases h2 with h2 | ⟨g, cap, cur, hv, hB, hg, rest⟩
  · exact .inl h2
  · exact .inr ⟨g, cap, cur, hv, hB, heap_keep hg hb, rest⟩
theorem OwnS.alloc {w : World} {B : Nat} {v : Value} {L : List ByteArray} (h : OwnS w B v L) (o : Obj) : OwnS (w.alloc o) B v L := h.stays (below_new w o)
theorem OwnS.low {w : World} {B B' : Nat} {v : Value} {L : List ByteArray} (h : OwnS w B v L) (hB : B' ≤ B) : OwnS w B' v L := by
  obtain ⟨h1, h2⟩ := h
  refine ⟨h1, ?_⟩
  rcases h2 with h2 | ⟨g, cap, cur, hv, hg, rest⟩
  · exact .inl h2
  · exact .inr ⟨g, cap, cur, hv, by omega, rest⟩
theorem OwnS.nil (w : World) (B : Nat) : OwnS w B (.slice none 0 0) [] := ⟨rfl, .inl ⟨rfl, rfl⟩⟩
/- What such a row is: nothing, or a block whose first cells are the numbers. -/
theorem OwnS.form {w : World} {B : Nat} {v : Value} {L : List ByteArray} (h : OwnS w B v L) :
    (v = .slice none 0 0 ∧ L = []) ∨ ∃ g cap cur, v = .slice (some ⟨g, 0, none⟩) L.length cap ∧ B ≤ g ∧ w.heap[g]? = some (.cells cur 9 (0, 0)) ∧ L.length ≤ cap ∧ cap ≤ maxLen ∧ cur.size = cap ∧ (∀ i (hi : i < L.length), cur[i]? = some (.string L[i])) := by
  obtain ⟨h1, h2⟩ := h
  rcases h2 with ⟨h2, h3⟩ | ⟨g, cap, cur, hv, hB, hg, h4, h5, h6, h7⟩
  · exact .inl ⟨h2, List.eq_nil_of_length_eq_zero h3⟩
  · refine .inr ⟨g, cap, cur, hv, hB, hg, h4, h5, by omega, fun i hi => ?_⟩
    have e := congrArg (fun l => l[i]?) h7
    simp only [Nat.mul_one, List.getElem?_take, if_pos hi, cellsS, List.getElem?_map, List.getElem?_eq_getElem hi] at e
    simpa using e
theorem OwnS.mk {w : World} {B g cap : Nat} {cur : Array Value} {L : List ByteArray} (hB : B ≤ g) (hg : w.heap[g]? = some (.cells cur 9 (0, 0))) (h4 : L.length ≤ cap) (h5 : cap ≤ maxLen) (h6 : cur.size = cap) (h7 : ∀ i (hi : i < L.length), cur[i]? = some (.string L[i])) : OwnS w B (.slice (some ⟨g, 0, none⟩) L.length cap) L := by
  refine ⟨by simp [cellsS], .inr ⟨g, cap, cur, rfl, hB, hg, h4, h5, by omega, ?_⟩⟩
  apply List.ext_getElem?
  intro i
  rw [List.getElem?_take, Nat.mul_one]
  by_cases hi : i < L.length
  · rw [if_pos hi]
    have := h7 i hi
    simp [cellsS, hi]
    simpa using this
  · rw [if_neg hi, List.getElem?_eq_none (by simp [cellsS]; omega)]
theorem eqS_step {A B : List ByteArray} (hl : A.length = B.length) (k : Nat) (hk : k < A.length) (he : A[k] = B[k]'(by omega)) : (A.drop k = B.drop k ↔ A.drop (k + 1) = B.drop (k + 1)) := by
  have e1 := List.drop_eq_getElem_cons hk
  have e2 := List.drop_eq_getElem_cons (show k < B.length by omega)
  constructor
  · intro h; rw [e1, e2] at h; exact (List.cons.inj h).2
  · intro h; rw [e1, e2, h, he]
theorem eqS_stop {A B : List ByteArray} (k : Nat) (hk : k < A.length) (hk2 : k < B.length) (he : ¬ A[k] = B[k]) : ¬ A = B := fun e => by subst e; exact he rfl
def decL (k : Nat) : List UInt8 := if k = 0 then [] else Lib.decDigits k
theorem decL_zero : decL 0 = [] := rfl
theorem decL_step (k : Nat) (h : 0 < k) : decL k = decL (k / 10) ++ [UInt8.ofNat (48 + k % 10)] := by
  have e : decL k = Lib.decDigits k := by unfold decL; rw [if_neg (by omega)]
  rw [e]
  by_cases hb : k < 10
  · rw [Lib.decDigits, dif_pos hb, show k / 10 = 0 by omega, decL_zero, show k % 10 = k by omega]; rfl
  · have e2 : decL (k / 10) = Lib.decDigits (k / 10) := by unfold decL; rw [if_neg (by omega)]
    rw [Lib.decDigits, dif_neg hb, e2]
theorem decL_len : ∀ (n k : Nat), k < 10 ^ n → (decL k).length ≤ n
  | 0, k, h => by
    obtain rfl : k = 0 := by simpa using h
    simp [decL_zero]
  | n + 1, k, h => by
    by_cases hk : k = 0
    · subst hk; simp [decL_zero]
    · rw [decL_step k (by omega)]
      have := decL_len n (k / 10) (by rw [Nat.pow_succ] at h; omega)
      simp; omega
theorem byte_cell (j : Nat) : [Value.int .u8 (48 + (j : Int) % 10)].take 1 = cellsU [UInt8.ofNat (48 + j % 10)] := by
  simp [cellsU]
  omega
theorem text_cat (a b : List UInt8) : (⟨a.toArray⟩ : ByteArray) ++ ⟨b.toArray⟩ = ⟨(a ++ b).toArray⟩ := by
  apply ByteArray.ext
  simp
def markT (k : Nat) : ByteArray := ⟨([109] ++ decL k).toArray⟩
def marksS (k n : Nat) : List ByteArray := (List.range n).map fun (i : Nat) => markT (k + i)
theorem marksS_len (k n : Nat) : (marksS k n).length = n := by simp [marksS]
theorem marksS_at (k n i : Nat) (h : i < (marksS k n).length) : (marksS k n)[i] = markT (k + i) := by simp [marksS]
end Go.Proofs.YtodjccipfonaiaaGreatDoor
