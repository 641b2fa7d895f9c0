/- Instructions: a first word tells the same Insn by the program and by the specification, but for N and Long where a word stands behind. -/
import Derived.Test.YtknielpkmablkaaDoorRows
import Derived.WalkKit
import Derived.Test.YtknielpkmablkaaDoorBun10
import Derived.Test.YtknielpkmablkaaDoorBun15
import Derived.Test.YtknielpkmablkaaDoorIsaD11X
namespace Go.Proofs.YtknielpkmablkaaDoor
open Go.RowKit
set_option linter.unusedVariables false

theorem fin_a {a r : Int} {P : Int → Int → Prop} {A R : Nat} (h : ∀ (x : Fin A) (y : Fin R), P (x.val : Int) (y.val : Int)) (h0 : 0 ≤ a) (h1 : a < A) (g0 : 0 ≤ r) (g1 : r < R) : P a r := by
  have k := h ⟨a.toNat, by omega⟩ ⟨r.toNat, by omega⟩
  have e1 : ((a.toNat : Nat) : Int) = a := by omega
  have e2 : ((r.toNat : Nat) : Int) = r := by omega
  simp only [e1, e2] at k
  exact k
abbrev srcSame (a r : Int) : Prop := (srcT a r).1 = (opdT a r).1 ∧ (srcT a r).2.1 = (opdT a r).2.1 ∧ (srcT a r).2.2.1 = (opdT a r).2.2.1 ∧ srcB (opdT a r).1 (opdT a r).2.1 (opdT a r).2.2.1 (srcT a r).2.2.2 = srcB (opdT a r).1 (opdT a r).2.1 (opdT a r).2.2.1 false ∧ (asI (opdT a r).1 (opdT a r).2.1 (opdT a r).2.2.1 (srcT a r).2.2.2).2.2 = (opdT a r).2.2.2 ∧ ((opdT a r).2.2.2 = false → (srcT a r).2.2.2 = false) ∧ (zeroB (opdT a r).1 (opdT a r).2.1 (opdT a r).2.2.1 (srcT a r).2.2.2 = true → a = 0 ∧ r = 0) ∧ 0 ≤ (opdT a r).1 ∧ (opdT a r).1 ≤ 5
theorem src_same (a r : Int) (h0 : 0 ≤ a) (h1 : a < 4) (g0 : 0 ≤ r) (g1 : r < 16) : srcSame a r :=
  fin_a (A := 4) (R := 16) (by decide +kernel) h0 h1 g0 g1
abbrev dstSame (a r : Int) : Prop := dstB (dstT a r).1 (dstT a r).2 0 false = dstB (dstO a r).1 (dstO a r).2.1 (dstO a r).2.2.1 false ∧ (dstB (dstT a r).1 (dstT a r).2 0 false = true → (dstT a r).1 = (dstO a r).1 ∧ (dstT a r).2 = (dstO a r).2.1 ∧ 0 = (dstO a r).2.2.1 ∧ (asI (dstO a r).1 (dstO a r).2.1 0 false).2.2 = (dstO a r).2.2.2 ∧ (dstO a r).1 ≠ 5 ∧ 0 ≤ (dstO a r).1 ∧ (dstO a r).1 ≤ 5)
theorem dst_same (a r : Int) (h0 : 0 ≤ a) (h1 : a < 2) (g0 : 0 ≤ r) (g1 : r < 16) : dstSame a r :=
  fin_a (A := 2) (R := 16) (by decide +kernel) h0 h1 g0 g1
theorem two_at : ∀ K : Fin 12, 0 ≤ atI twosL (nameAt (4 + K.val)) := by decide +kernel
theorem one_at : ∀ K : Fin 6, ¬ 0 ≤ atI twosL (nameAt (16 + K.val)) ∧ ¬ 0 ≤ atI jumpsL (nameAt (16 + K.val)) ∧ ¬ nameAt (16 + K.val) = ⟨#[114, 101, 116, 105]⟩ ∧ ¬ atI onesL (nameAt (16 + K.val)) < 0 := by decide +kernel
theorem jump_at : ∀ K : Fin 8, ¬ 0 ≤ atI twosL (nameAt (32 + K.val)) ∧ 0 ≤ atI jumpsL (nameAt (32 + K.val)) := by decide +kernel
theorem reti_at6 : ¬ 0 ≤ atI twosL ⟨#[114, 101, 116, 105]⟩ ∧ ¬ 0 ≤ atI jumpsL ⟨#[114, 101, 116, 105]⟩ := by decide +kernel
theorem none_at : ¬ 0 ≤ atI twosL ⟨#[]⟩ ∧ ¬ 0 ≤ atI jumpsL ⟨#[]⟩ ∧ ¬ (⟨#[]⟩ : ByteArray) = ⟨#[114, 101, 116, 105]⟩ ∧ atI onesL ⟨#[]⟩ < 0 := by decide +kernel
theorem name22 : nameAt 22 = ⟨#[114, 101, 116, 105]⟩ := by decide +kernel
theorem name23 : nameAt 23 = ⟨#[]⟩ := by decide +kernel
theorem right_twos {op : ByteArray} (h : 0 ≤ atI twosL op) (b : Bool) (m r n : Int) (l : Bool) (m2 r2 n2 : Int) (l2 : Bool) (j : Int) : insnB op b m r n l m2 r2 n2 l2 j = (srcB m r n l && dstB m2 r2 n2 l2 && (j == 0)) := by
  unfold insnB rightB; rw [if_pos h]
theorem right_none' (b : Bool) (m r n : Int) (l : Bool) (m2 r2 n2 : Int) (l2 : Bool) (j : Int) : insnB ⟨#[]⟩ b m r n l m2 r2 n2 l2 j = false := by
  unfold insnB rightB; rw [if_neg none_at.1, if_neg none_at.2.1, if_neg none_at.2.2.1, if_pos none_at.2.2.2]
structure Same (i : Ins) (f : Fst) : Prop where
  op : i.op = f.i.op
  b : i.b = f.i.b
  m : i.m = f.i.m
  r : i.r = f.i.r
  m2 : i.m2 = f.i.m2
  r2 : i.r2 = f.i.r2
  j : i.j = f.i.j
  hn : (asI i.m i.r i.n i.l).2.2 = f.n
  hm : (asI i.m2 i.r2 i.n2 i.l2).2.2 = f.m
  n : f.n = false → i.n = f.i.n
  l : f.n = false → i.l = f.i.l
  n2 : f.m = false → i.n2 = f.i.n2
  l2 : i.l2 = f.i.l2
  d5 : f.m = true → f.i.m2 ≠ 5
  l2f : f.i.l2 = false
  m0 : 0 ≤ i.m
  m5 : i.m ≤ 5
  d0 : 0 ≤ i.m2
  d55 : i.m2 ≤ 5
theorem first_same (x : Int) (h0 : 0 ≤ x) (h1 : x ≤ 65535) : (insI x).right = (firstS x).ok ∧ ((firstS x).ok = true → Same (insI x) (firstS x)) := by
  by_cases c1 : 16384 ≤ x
  · have e1 : insI x = { op := nameAt (x / 4096).toNat, b := x / 64 % 2 == 1, m := (srcT (x / 16 % 4) (x / 256 % 16)).1, r := (srcT (x / 16 % 4) (x / 256 % 16)).2.1, n := (srcT (x / 16 % 4) (x / 256 % 16)).2.2.1, l := (srcT (x / 16 % 4) (x / 256 % 16)).2.2.2, m2 := (dstT (x / 128 % 2) (x % 16)).1, r2 := (dstT (x / 128 % 2) (x % 16)).2, n2 := 0, l2 := false, j := 0 } := by unfold insI; rw [if_pos c1]
    have e2 := firstS.eq_1 x
    rw [if_neg (by omega), if_neg (by omega), if_neg (by omega), if_neg (by omega)] at e2
    obtain ⟨s1, s2, s3, s4, s5, s6, _, s8, s9⟩ := src_same (x / 16 % 4) (x / 256 % 16) (by omega) (by omega) (by omega) (by omega)
    obtain ⟨t1, t2⟩ := dst_same (x / 128 % 2) (x % 16) (by omega) (by omega) (by omega) (by omega)
    have hk : 0 ≤ atI twosL (nameAt (4 + (x / 4096 - 4).toNat)) := two_at ⟨(x / 4096 - 4).toNat, by omega⟩
    have ek : (x / 4096).toNat = 4 + (x / 4096 - 4).toNat := by omega
    rw [ek] at e1
    have r1 : (insI x).right = (srcB (opdT (x / 16 % 4) (x / 256 % 16)).1 (opdT (x / 16 % 4) (x / 256 % 16)).2.1 (opdT (x / 16 % 4) (x / 256 % 16)).2.2.1 false && dstB (dstT (x / 128 % 2) (x % 16)).1 (dstT (x / 128 % 2) (x % 16)).2 0 false) := by
      rw [e1]; unfold Ins.right; rw [right_twos hk, s1, s2, s3, s4]; simp
    have r2 : (firstS x).ok = (srcB (opdT (x / 16 % 4) (x / 256 % 16)).1 (opdT (x / 16 % 4) (x / 256 % 16)).2.1 (opdT (x / 16 % 4) (x / 256 % 16)).2.2.1 false && dstB (dstT (x / 128 % 2) (x % 16)).1 (dstT (x / 128 % 2) (x % 16)).2 0 false) := by
      rw [e2]; show Ins.right _ = _; unfold Ins.right; show insnB (nameAt _) _ _ _ _ false _ _ _ false 0 = _; rw [right_twos hk, t1]; simp [twoIns]
    refine ⟨r1.trans r2.symm, fun hok => ?_⟩
    rw [r2, Bool.and_eq_true] at hok
    obtain ⟨u1, u2, u3, u4, u5, u6, u7⟩ := t2 hok.2
    rw [e1, e2]
    exact { op := rfl, b := rfl, m := s1, r := s2, m2 := u1, r2 := u2, j := rfl, hn := by simp only [s1, s2, s3]; exact s5, hm := by simp only [u1, u2]; exact u4, n := fun _ => s3, l := fun h => s6 h, n2 := fun _ => u3, l2 := rfl, d5 := fun _ => u5, l2f := rfl, m0 := by simp only [s1]; exact s8, m5 := by simp only [s1]; exact s9, d0 := by simp only [u1]; exact u6, d55 := by simp only [u1]; exact u7 }
  by_cases c2 : 8192 ≤ x
  · have e1 : insI x = jumpIns (x / 1024 % 8).toNat ((x + 512) % 1024 - 512) := by unfold insI; rw [if_neg c1, if_pos c2]; rfl
    have e2 : firstS x = ⟨jumpIns (x / 1024 % 8).toNat ((x + 512) % 1024 - 512), false, false, true⟩ := by unfold firstS; rw [if_neg (by omega), if_pos (by omega)]
    have hk := jump_at ⟨(x / 1024 % 8).toNat, by omega⟩
    rw [e1, e2]
    refine ⟨?_, fun _ => { op := rfl, b := rfl, m := rfl, r := rfl, m2 := rfl, r2 := rfl, j := rfl, hn := rfl, hm := rfl, n := fun _ => rfl, l := fun _ => rfl, n2 := fun _ => rfl, l2 := rfl, d5 := fun h => (by cases h), l2f := rfl, m0 := by show (0 : Int) ≤ 0; omega, m5 := by show (0 : Int) ≤ 5; omega, d0 := by show (0 : Int) ≤ 0; omega, d55 := by show (0 : Int) ≤ 5; omega }⟩
    show insnB (nameAt _) false 0 0 0 false 0 0 0 false ((x + 512) % 1024 - 512) = true
    unfold insnB rightB
    rw [if_neg hk.1, if_pos hk.2]
    have : isB ((x + 512) % 1024 - 512) (-512) 511 = true := by unfold isB; simp; omega
    rw [this]; rfl
  by_cases c3 : 4096 ≤ x ∧ x < 5120
  · have e1 : insI x = { op := nameAt (16 + (x / 128 % 8).toNat), b := x / 64 % 2 == 1, m := (srcT (x / 16 % 4) (x % 16)).1, r := (srcT (x / 16 % 4) (x % 16)).2.1, n := (srcT (x / 16 % 4) (x % 16)).2.2.1, l := (srcT (x / 16 % 4) (x % 16)).2.2.2, m2 := 0, r2 := 0, n2 := 0, l2 := false, j := 0 } := by unfold insI; rw [if_neg c1, if_neg c2, if_pos c3]
    obtain ⟨s1, s2, s3, s4, s5, s6, s7, s8, s9⟩ := src_same (x / 16 % 4) (x % 16) (by omega) (by omega) (by omega) (by omega)
    by_cases c4 : x < 4864
    · have e2 := firstS.eq_1 x
      rw [if_neg (by omega), if_neg (by omega), if_neg (by omega), if_pos (by omega)] at e2
      have hk := one_at ⟨(x / 128 % 8).toNat, by omega⟩
      have r1 : (insI x).right = (firstS x).ok := by
        rw [e1, e2]
        show insnB _ _ _ _ _ _ _ _ _ _ _ = insnB (nameAt (16 + (x / 128 % 8).toNat)) _ _ _ _ false 0 0 0 false 0
        unfold insnB rightB
        rw [if_neg hk.1, if_neg hk.2.1, if_neg hk.2.2.1, if_neg hk.2.2.2, if_neg hk.1, if_neg hk.2.1, if_neg hk.2.2.1, if_neg hk.2.2.2]
        simp only [s1, s2, s3, s4]
        rfl
      refine ⟨r1, fun _ => ?_⟩
      rw [e1, e2]
      exact { op := rfl, b := rfl, m := s1, r := s2, m2 := rfl, r2 := rfl, j := rfl, hn := by simp only [s1, s2, s3]; exact s5, hm := rfl, n := fun _ => s3, l := fun h => s6 h, n2 := fun _ => rfl, l2 := rfl, d5 := fun h => (by cases h), l2f := rfl, m0 := by simp only [s1]; exact s8, m5 := by simp only [s1]; exact s9, d0 := by show (0 : Int) ≤ 0; omega, d55 := by show (0 : Int) ≤ 5; omega }
    by_cases c5 : x = 4864
    · subst c5
      exact ⟨by decide +kernel, fun _ => { op := by decide +kernel, b := rfl, m := rfl, r := rfl, m2 := rfl, r2 := rfl, j := rfl, hn := rfl, hm := rfl, n := fun _ => rfl, l := fun _ => rfl, n2 := fun _ => rfl, l2 := rfl, d5 := fun h => (by cases h), l2f := rfl, m0 := by decide, m5 := by decide, d0 := by decide, d55 := by decide }⟩
    have e2 : firstS x = ⟨zeroIns, false, false, false⟩ := by unfold firstS; rw [if_neg c5, if_neg (by omega), if_pos (by omega)]
    rw [e2]
    refine ⟨?_, fun h => by cases h⟩
    rw [e1]
    show insnB _ _ _ _ _ _ _ _ _ _ _ = false
    by_cases c6 : x < 4992
    · have ek : 16 + (x / 128 % 8).toNat = 22 := by omega
      simp only [ek, name22]
      unfold insnB rightB
      rw [if_neg reti_at6.1, if_neg reti_at6.2, if_pos rfl]
      simp only [s1, s2, s3]
      cases hb : (x / 64 % 2 == 1)
      · cases hz : zeroB (opdT (x / 16 % 4) (x % 16)).1 (opdT (x / 16 % 4) (x % 16)).2.1 (opdT (x / 16 % 4) (x % 16)).2.2.1 (srcT (x / 16 % 4) (x % 16)).2.2.2
        · simp
        · have := s7 hz
          rw [beq_eq_false_iff_ne] at hb
          omega
      · simp
    · have ek : 16 + (x / 128 % 8).toNat = 23 := by omega
      simp only [ek, name23]
      exact right_none' _ _ _ _ _ _ _ _ _ _
  · have e1 : insI x = zeroIns := by unfold insI; rw [if_neg c1, if_neg c2, if_neg c3]; rfl
    have e2 : firstS x = ⟨zeroIns, false, false, false⟩ := by unfold firstS; rw [if_neg (by omega), if_neg (by omega), if_pos (by omega)]
    rw [e1, e2]
    exact ⟨right_none' _ _ _ _ _ _ _ _ _ _, fun h => by cases h⟩
end Go.Proofs.YtknielpkmablkaaDoor
