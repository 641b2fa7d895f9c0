/- Instructions: what Encode tells, Decode takes, and the other way round; plain mathematics. -/
import Derived.Test.YtknielpkmablkaaDoorRows
import Derived.WalkKit
import Derived.Test.YtknielpkmablkaaDoorBun10
import Derived.Test.YtknielpkmablkaaDoorBun27
import Derived.Test.YtknielpkmablkaaDoorIsaD12X
import Derived.Test.YtknielpkmablkaaDoorIsaD16X
namespace Go.Proofs.YtknielpkmablkaaDoor
open Go.RowKit
set_option linter.unusedVariables false

/- An operand as Src: it is told by As and the register, but for N and Long where a word stands behind. -/
theorem fin_r {r : Int} {P : Int → Prop} {R : Nat} (h : ∀ y : Fin R, P (y.val : Int)) (g0 : 0 ≤ r) (g1 : r < R) : P r := by
  have k := h ⟨r.toNat, by omega⟩
  have e2 : ((r.toNat : Nat) : Int) = r := by omega
  simp only [e2] at k
  exact k
structure Back (m r n : Int) (l : Bool) (n' : Int) (l' : Bool) : Prop where
  right : srcB m r n' l' = true
  flag : (asI m r n' l').2.2 = (asI m r n l).2.2
  none : (asI m r n l).2.2 = false → n' = n ∧ l' = l
  word : (asI m r n l).2.2 = true → l = (m == 5 && (shortI n).2.2) ∧ isB n 0 65535 = true
theorem src_t0 : ∀ y : Fin 16, (y.val : Int) ≠ 3 → srcT 0 (y.val : Int) = (0, (y.val : Int), 0, false) := by decide +kernel
theorem src_t1 : ∀ y : Fin 16, (y.val : Int) ≠ 2 ∧ (y.val : Int) ≠ 3 → srcT 1 (y.val : Int) = (1, (y.val : Int), 0, false) := by decide +kernel
theorem src_t3 : ∀ y : Fin 16, (y.val : Int) ≠ 2 ∧ (y.val : Int) ≠ 3 → srcT 2 (y.val : Int) = (3, (y.val : Int), 0, false) := by decide +kernel
theorem src_t4 : ∀ y : Fin 16, (y.val : Int) ≠ 2 ∧ (y.val : Int) ≠ 3 ∧ (y.val : Int) ≠ 0 → srcT 3 (y.val : Int) = (4, (y.val : Int), 0, false) := by decide +kernel
theorem short_t {n : Int} (h : (shortI n).2.2 = true) : srcT (shortI n).1 (shortI n).2.1 = (5, 0, n, false) := by
  have : n = 0 ∨ n = 1 ∨ n = 2 ∨ n = 65535 ∨ n = 4 ∨ n = 8 := by
    unfold shortI at h
    split at h
    · omega
    · split at h
      · omega
      · split at h
        · omega
        · split at h
          · omega
          · cases h
  rcases this with rfl | rfl | rfl | rfl | rfl | rfl <;> decide +kernel
theorem src_code {m r n : Int} {l : Bool} (h : srcB m r n l = true) : ∃ n' l', srcT (asI m r n l).1 (asI m r n l).2.1 = (m, r, n', l') ∧ Back m r n l n' l' := by
  unfold srcB at h
  by_cases h0 : m = 0
  · subst h0
    simp [isB_iff] at h
    obtain ⟨⟨⟨⟨a, b⟩, c⟩, d⟩, e⟩ := h
    subst d e
    exact ⟨0, false, fin_r (r := r) (R := 16) (P := fun r => r ≠ 3 → srcT 0 r = (0, r, 0, false)) src_t0 a (by omega) c, ⟨by simp [srcB, isB, a, b, c], rfl, fun _ => ⟨rfl, rfl⟩, fun h => (by cases h)⟩⟩
  rw [if_neg h0] at h
  by_cases h1 : m = 1
  · subst h1
    simp [plainB, isB_iff] at h
    obtain ⟨⟨⟨⟨a, b⟩, c⟩, d⟩, e⟩ := h
    subst e
    exact ⟨0, false, fin_r (r := r) (R := 16) (P := fun r => r ≠ 2 ∧ r ≠ 3 → srcT 1 r = (1, r, 0, false)) src_t1 a (by omega) c, ⟨by simp [srcB, plainB, isB, a, b, c], rfl, fun h => (by cases h), fun _ => ⟨rfl, by simp [isB, d]⟩⟩⟩
  rw [if_neg h1] at h
  by_cases h2 : m = 2
  · subst h2
    simp [isB_iff] at h
    obtain ⟨⟨a, d⟩, e⟩ := h
    subst a e
    exact ⟨0, false, show srcT 1 2 = _ by decide +kernel, ⟨by decide +kernel, rfl, fun h => (by cases h), fun _ => ⟨rfl, by simp [isB, d]⟩⟩⟩
  rw [if_neg h2] at h
  by_cases h3 : m = 3
  · subst h3
    simp [plainB, isB_iff] at h
    obtain ⟨⟨⟨⟨a, b⟩, c⟩, d⟩, e⟩ := h
    subst d e
    exact ⟨0, false, fin_r (r := r) (R := 16) (P := fun r => r ≠ 2 ∧ r ≠ 3 → srcT 2 r = (3, r, 0, false)) src_t3 a (by omega) c, ⟨by simp [srcB, plainB, isB, a, b, c], rfl, fun _ => ⟨rfl, rfl⟩, fun h => (by cases h)⟩⟩
  rw [if_neg h3] at h
  by_cases h4 : m = 4
  · subst h4
    simp [plainB, isB_iff] at h
    obtain ⟨⟨⟨⟨⟨a, b⟩, c⟩, f⟩, d⟩, e⟩ := h
    subst d e
    exact ⟨0, false, fin_r (r := r) (R := 16) (P := fun r => r ≠ 2 ∧ r ≠ 3 ∧ r ≠ 0 → srcT 3 r = (4, r, 0, false)) src_t4 a (by omega) ⟨c.1, c.2, f⟩, ⟨by simp [srcB, plainB, isB, a, b, c, f], rfl, fun _ => ⟨rfl, rfl⟩, fun h => (by cases h)⟩⟩
  rw [if_neg h4] at h
  by_cases h5 : m = 5
  · subst h5
    rw [if_pos rfl] at h
    simp only [Bool.and_eq_true, beq_iff_eq] at h
    obtain ⟨⟨a, d⟩, e⟩ := h
    subst a
    by_cases hs : (shortI n).2.2 = true ∧ l = false
    · obtain ⟨hs, rfl⟩ := hs
      have e1 : asI 5 0 n false = ((shortI n).1, (shortI n).2.1, false) := by simp [asI, hs]
      rw [e1]
      exact ⟨n, false, short_t hs, ⟨by simp [srcB, d], rfl, fun _ => ⟨rfl, rfl⟩, fun h => by rw [e1] at h; cases h⟩⟩
    · have e1 : asI 5 0 n l = (3, 0, true) := by
        cases h : (shortI n).2.2 <;> cases l <;> simp_all [asI]
      rw [e1]
      refine ⟨0, true, by decide +kernel, ⟨by decide +kernel, by rw [e1]; decide +kernel, fun h => (by rw [e1] at h; cases h), fun _ => ⟨?_, d⟩⟩⟩
      cases h : (shortI n).2.2 <;> cases l <;> simp_all
  rw [if_neg h5] at h
  cases h
structure BackD (m r n : Int) (l : Bool) : Prop where
  told : dstT (asI m r n l).1 (asI m r n l).2.1 = (m, r)
  a0 : 0 ≤ (asI m r n l).1
  a1 : (asI m r n l).1 ≤ 1
  r0 : 0 ≤ (asI m r n l).2.1
  r1 : (asI m r n l).2.1 ≤ 15
  right : dstB m r 0 false = true
  flag : (asI m r 0 false).2.2 = (asI m r n l).2.2
  long : l = false
  five : (m == 5) = false
  none : (asI m r n l).2.2 = false → n = 0
  word : (asI m r n l).2.2 = true → isB n 0 65535 = true
theorem dst_t0 : ∀ y : Fin 16, dstT 0 (y.val : Int) = (0, (y.val : Int)) := by decide +kernel
theorem dst_t1 : ∀ y : Fin 16, (y.val : Int) ≠ 2 → dstT 1 (y.val : Int) = (1, (y.val : Int)) := by decide +kernel
theorem dst_code {m r n : Int} {l : Bool} (h : dstB m r n l = true) : BackD m r n l := by
  unfold dstB at h
  by_cases h0 : m = 0
  · subst h0
    simp [isB_iff] at h
    obtain ⟨⟨⟨a, b⟩, d⟩, e⟩ := h
    subst d e
    exact ⟨fin_r (r := r) (R := 16) (P := fun r => dstT 0 r = (0, r)) dst_t0 a (by omega), by simp [asI], by simp [asI], by simp [asI, a], by simp [asI, b], by simp [dstB, isB, a, b], rfl, rfl, rfl, fun _ => rfl, fun h => (by cases h)⟩
  rw [if_neg h0] at h
  by_cases h1 : m = 1
  · subst h1
    rw [if_pos (by omega)] at h
    unfold srcB at h
    simp [plainB, isB_iff] at h
    obtain ⟨⟨⟨⟨a, b⟩, c⟩, d⟩, e⟩ := h
    subst e
    exact ⟨fin_r (r := r) (R := 16) (P := fun r => r ≠ 2 → dstT 1 r = (1, r)) dst_t1 a (by omega) c.1, by simp [asI], by simp [asI], by simp [asI, a], by simp [asI, b], by simp [dstB, srcB, plainB, isB, a, b, c], rfl, rfl, rfl, fun h => (by cases h), fun _ => by simp [isB, d]⟩
  by_cases h2 : m = 2
  · subst h2
    rw [if_pos (by omega)] at h
    unfold srcB at h
    simp [isB_iff] at h
    obtain ⟨⟨a, d⟩, e⟩ := h
    subst a e
    exact ⟨show dstT 1 2 = _ by decide +kernel, by simp [asI], by simp [asI], by simp [asI], by simp [asI], by decide +kernel, rfl, rfl, rfl, fun h => (by cases h), fun _ => by simp [isB, d]⟩
  rw [if_neg (by omega)] at h
  cases h
/- What a first word tells of a right Insn. -/
structure Told (i : Ins) (x : Int) : Prop where
  lo : 0 ≤ x
  hi : x ≤ 65535
  right : (insI x).right = true
  op : (insI x).op = i.op
  b : (insI x).b = i.b
  m : (insI x).m = i.m
  r : (insI x).r = i.r
  m2 : (insI x).m2 = i.m2
  r2 : (insI x).r2 = i.r2
  j : (insI x).j = i.j
  l2 : (insI x).l2 = false
  il2 : i.l2 = false
  five : (i.m2 == 5) = false
  hn : (asI (insI x).m (insI x).r (insI x).n (insI x).l).2.2 = (asI i.m i.r i.n i.l).2.2
  hm : (asI (insI x).m2 (insI x).r2 (insI x).n2 (insI x).l2).2.2 = (asI i.m2 i.r2 i.n2 i.l2).2.2
  nn : (asI i.m i.r i.n i.l).2.2 = false → (insI x).n = i.n ∧ (insI x).l = i.l
  nw : (asI i.m i.r i.n i.l).2.2 = true → i.l = (i.m == 5 && (shortI i.n).2.2) ∧ isB i.n 0 65535 = true
  mn : (asI i.m2 i.r2 i.n2 i.l2).2.2 = false → (insI x).n2 = i.n2
  mw : (asI i.m2 i.r2 i.n2 i.l2).2.2 = true → isB i.n2 0 65535 = true
theorem two_name {op : ByteArray} (h : 0 ≤ atI twosL op) : nameAt (4 + (atI twosL op).toNat) = op := by
  have := atI_mem h
  simp only [twosL, List.mem_cons, List.not_mem_nil, or_false] at this
  rcases this with rfl | rfl | rfl | rfl | rfl | rfl | rfl | rfl | rfl | rfl | rfl | rfl <;> decide +kernel
theorem one_name {op : ByteArray} (h : 0 ≤ atI onesL op) : nameAt (16 + (atI onesL op).toNat) = op := by
  have := atI_mem h
  simp only [onesL, List.mem_cons, List.not_mem_nil, or_false] at this
  rcases this with rfl | rfl | rfl | rfl | rfl | rfl | rfl <;> decide +kernel
theorem jump_name {op : ByteArray} (h : 0 ≤ atI jumpsL op) : nameAt (32 + (atI jumpsL op).toNat) = op := by
  have := atI_mem h
  simp only [jumpsL, List.mem_cons, List.not_mem_nil, or_false] at this
  rcases this with rfl | rfl | rfl | rfl | rfl | rfl | rfl | rfl <;> decide +kernel
def Ins.first (i : Ins) : Int :=
  if 0 ≤ atI twosL i.op then 4096 * (4 + atI twosL i.op) + 256 * (asI i.m i.r i.n i.l).2.1 + 128 * (asI i.m2 i.r2 i.n2 i.l2).1 + markI i.b + 16 * (asI i.m i.r i.n i.l).1 + (asI i.m2 i.r2 i.n2 i.l2).2.1
  else if 0 ≤ atI onesL i.op then 4096 + 128 * atI onesL i.op + markI i.b + 16 * (asI i.m i.r i.n i.l).1 + (asI i.m i.r i.n i.l).2.1
  else 8192 + 1024 * atI jumpsL i.op + i.j % 1024
def Ins.enc (i : Ins) : List Int := encI i.op i.b i.m i.r i.n i.l i.m2 i.r2 i.n2 i.l2 i.j
theorem enc_is (i : Ins) : i.enc = i.first :: (optI (asI i.m i.r i.n i.l).2.2 i.n ++ optI (asI i.m2 i.r2 i.n2 i.l2).2.2 i.n2) := by
  unfold Ins.enc encI Ins.first wordsI
  split
  · rfl
  · split <;> rfl
theorem mark_is (b : Bool) : (markI b = 0 ∧ b = false) ∨ (markI b = 64 ∧ b = true) := by cases b <;> simp [markI]
theorem told (i : Ins) (h : i.right = true) : Told i i.first := by
  obtain ⟨op, b, m, r, n, l, m2, r2, n2, l2, j⟩ := i
  have hK := (insn_kinds op b m r n l m2 r2 n2 l2 j).symm.trans h
  clear h
  unfold Ins.first
  by_cases h1 : 0 ≤ atI twosL op
  · rw [if_pos h1] at hK ⊢
    simp only [Bool.and_eq_true] at hK
    obtain ⟨⟨k1, k2⟩, k3⟩ := hK
    have a := src_as k1
    obtain ⟨n', l', ht, hB⟩ := src_code k1
    have hD := dst_code k2
    have hlt := atI_lt twosL op
    have hl : twosL.length = 12 := rfl
    have hname := two_name h1
    obtain rfl : j = 0 := by simpa using k3
    have d0 := hD.a0
    have d1 := hD.a1
    have d2 := hD.r0
    have d3 := hD.r1
    have hdt := hD.told
    have hright : insnB op b m r n' l' m2 r2 0 false 0 = true := by
      rw [insn_kinds, if_pos h1, hB.right, hD.right]; rfl
    generalize hX : 4096 * (4 + atI twosL op) + 256 * (asI m r n l).2.1 + 128 * (asI m2 r2 n2 l2).1 + markI b + 16 * (asI m r n l).1 + (asI m2 r2 n2 l2).2.1 = x
    have hx : insI x = ⟨op, b, m, r, n', l', m2, r2, 0, false, 0⟩ := by
      have hb := mark_is b
      have e1 : 16384 ≤ x := by omega
      have e2 : (x / 4096).toNat = 4 + (atI twosL op).toNat := by omega
      have e3 : x / 256 % 16 = (asI m r n l).2.1 := by omega
      have e4 : x / 128 % 2 = (asI m2 r2 n2 l2).1 := by omega
      have e5 : x / 16 % 4 = (asI m r n l).1 := by omega
      have e6 : x % 16 = (asI m2 r2 n2 l2).2.1 := by omega
      have e7 : (x / 64 % 2 == 1) = b := by
        rcases hb with ⟨hb, rfl⟩ | ⟨hb, rfl⟩
        · rw [beq_eq_false_iff_ne]; omega
        · rw [beq_iff_eq]; omega
      unfold insI
      rw [if_pos e1, e2, e3, e4, e5, e6, e7, hname, ht, hdt]
    have hb := mark_is b
    exact { lo := by omega, hi := by omega, right := by rw [hx]; exact hright, op := by rw [hx], b := by rw [hx], m := by rw [hx], r := by rw [hx], m2 := by rw [hx], r2 := by rw [hx], j := by rw [hx], l2 := by rw [hx], il2 := hD.long, five := hD.five, hn := by rw [hx]; exact hB.flag, hm := by rw [hx]; exact hD.flag, nn := fun t => (by rw [hx]; exact hB.none t), nw := hB.word, mn := fun t => (by rw [hx]; exact (hD.none t).symm), mw := hD.word }
  rw [if_neg h1] at hK ⊢
  by_cases h3 : 0 ≤ atI onesL op
  · rw [if_pos h3] at hK ⊢
    have hone := hK
    have hlt := atI_lt onesL op
    have hl : onesL.length = 7 := rfl
    have hname := one_name h3
    obtain ⟨k1, rfl, rfl, rfl, rfl, rfl, hcode⟩ : srcB m r n l = true ∧ m2 = 0 ∧ r2 = 0 ∧ n2 = 0 ∧ l2 = false ∧ j = 0 ∧ ∀ n' l', Back m r n l n' l' → insnB op b m r n' l' 0 0 0 false 0 = true := by
      unfold oneB at hK
      by_cases hr : op = ⟨#[114, 101, 116, 105]⟩
      · rw [if_pos hr] at hK
        simp only [Bool.and_eq_true] at hK
        obtain ⟨⟨⟨g1, g2⟩, g3⟩, g4⟩ := hK
        obtain ⟨rfl, rfl, rfl, rfl⟩ := zero_is g2
        obtain ⟨rfl, rfl, rfl, rfl⟩ := zero_is g3
        obtain rfl : j = 0 := by simpa using g4
        refine ⟨by decide +kernel, rfl, rfl, rfl, rfl, rfl, fun n' l' hB => ?_⟩
        obtain ⟨rfl, rfl⟩ := hB.none rfl
        rw [insn_kinds, if_neg h1, if_pos h3]; exact hone
      · rw [if_neg hr] at hK
        simp only [Bool.and_eq_true] at hK
        obtain ⟨⟨⟨⟨g1, g2⟩, g3⟩, g4⟩, g5⟩ := hK
        obtain ⟨rfl, rfl, rfl, rfl⟩ := zero_is g2
        obtain rfl : j = 0 := by simpa using g3
        refine ⟨g1, rfl, rfl, rfl, rfl, rfl, fun n' l' hB => ?_⟩
        rw [insn_kinds, if_neg h1, if_pos h3]
        unfold oneB
        rw [if_neg hr, hB.right, g4, g5]; rfl
    have a := src_as k1
    obtain ⟨n', l', ht, hB⟩ := src_code k1
    have hright := hcode n' l' hB
    clear hcode
    generalize hX : 4096 + 128 * atI onesL op + markI b + 16 * (asI m r n l).1 + (asI m r n l).2.1 = x
    have hx : insI x = ⟨op, b, m, r, n', l', 0, 0, 0, false, 0⟩ := by
      have hb := mark_is b
      have e0 : ¬ 16384 ≤ x := by omega
      have e1 : ¬ 8192 ≤ x := by omega
      have e1' : 4096 ≤ x ∧ x < 5120 := by omega
      have e2 : (x / 128 % 8).toNat = (atI onesL op).toNat := by omega
      have e3 : x % 16 = (asI m r n l).2.1 := by omega
      have e5 : x / 16 % 4 = (asI m r n l).1 := by omega
      have e7 : (x / 64 % 2 == 1) = b := by
        rcases hb with ⟨hb, rfl⟩ | ⟨hb, rfl⟩
        · rw [beq_eq_false_iff_ne]; omega
        · rw [beq_iff_eq]; omega
      unfold insI
      rw [if_neg e0, if_neg e1, if_pos e1', e2, e3, e5, e7, hname, ht]
    have hb := mark_is b
    exact { lo := by omega, hi := by omega, right := by rw [hx]; exact hright, op := by rw [hx], b := by rw [hx], m := by rw [hx], r := by rw [hx], m2 := by rw [hx], r2 := by rw [hx], j := by rw [hx], l2 := by rw [hx], il2 := rfl, five := rfl, hn := by rw [hx]; exact hB.flag, hm := by rw [hx], nn := fun t => (by rw [hx]; exact hB.none t), nw := hB.word, mn := fun t => (by rw [hx]), mw := fun t => by cases t }
  rw [if_neg h3] at hK ⊢
  by_cases h2 : 0 ≤ atI jumpsL op
  · rw [if_pos h2] at hK
    have hjmp := hK
    simp only [Bool.and_eq_true] at hK
    obtain ⟨⟨⟨g1, k1⟩, k2⟩, k3⟩ := hK
    obtain ⟨rfl, rfl, rfl, rfl⟩ := zero_is k1
    obtain ⟨rfl, rfl, rfl, rfl⟩ := zero_is k2
    obtain rfl : b = false := by simpa using g1
    have hlt := atI_lt jumpsL op
    have hl : jumpsL.length = 8 := rfl
    have hname := jump_name h2
    have hj := isB_iff.1 k3
    have hright : insnB op false 0 0 0 false 0 0 0 false j = true := by rw [insn_kinds, if_neg h1, if_neg h3, if_pos h2]; exact hjmp
    generalize hX : 8192 + 1024 * atI jumpsL op + j % 1024 = x
    have hx : insI x = ⟨op, false, 0, 0, 0, false, 0, 0, 0, false, j⟩ := by
      have e0 : ¬ 16384 ≤ x := by omega
      have e1 : 8192 ≤ x := by omega
      have e2 : (x / 1024 % 8).toNat = (atI jumpsL op).toNat := by omega
      have e3 : (x + 512) % 1024 - 512 = j := by omega
      unfold insI
      rw [if_neg e0, if_pos e1, e2, e3, hname]
    exact { lo := by omega, hi := by omega, right := by rw [hx]; exact hright, op := by rw [hx], b := by rw [hx], m := by rw [hx], r := by rw [hx], m2 := by rw [hx], r2 := by rw [hx], j := by rw [hx], l2 := by rw [hx], il2 := rfl, five := rfl, hn := by rw [hx], hm := by rw [hx], nn := fun t => (by rw [hx]; exact ⟨rfl, rfl⟩), nw := fun t => (by cases t), mn := fun t => (by rw [hx]), mw := fun t => by cases t }
  · rw [if_neg h2] at hK; cases hK
theorem enc_len (i : Ins) : 1 ≤ i.enc.length ∧ i.enc.length ≤ 3 := by
  rw [enc_is]
  cases (asI i.m i.r i.n i.l).2.2 <;> cases (asI i.m2 i.r2 i.n2 i.l2).2.2 <;> simp [optI]
theorem dec_enc (i : Ins) (h : i.right = true) (more : List Int) : decOut (insI i.first) (i.enc ++ more) = outV i.vals i.enc.length 0 := by
  have T := told i h
  have hn := T.hn
  have hm := T.hm
  have e : insI i.first = ⟨i.op, i.b, i.m, i.r, (insI i.first).n, (insI i.first).l, i.m2, i.r2, (insI i.first).n2, false, i.j⟩ := by
    rw [← T.op, ← T.b, ← T.m, ← T.r, ← T.m2, ← T.r2, ← T.j, ← T.l2]
  have hnn := T.nn
  have hnw := T.nw
  have hmn := T.mn
  have h5 := T.five
  have hil := T.il2
  clear T
  rw [enc_is]
  generalize insI i.first = y at *
  obtain ⟨op, b, m, r, n, l, m2, r2, n2, l2, j⟩ := i
  dsimp only at *
  subst hil
  unfold decOut
  rw [hn, hm]
  cases ha : (asI m r n l).2.2 <;> cases hb : (asI m2 r2 n2 false).2.2
  · obtain ⟨u1, u2⟩ := hnn ha
    have u3 := hmn hb
    rw [if_neg (by simp), if_neg (by simp), e, u1, u2, u3]
    simp [optI]
  · obtain ⟨u1, u2⟩ := hnn ha
    rw [if_neg (by simp), if_pos rfl, if_neg (by simp [optI]), e, u1, u2]
    simp [optI, h5]
  · obtain ⟨v1, v2⟩ := hnw ha
    have u3 := hmn hb
    rw [if_pos rfl, if_neg (by simp [optI]), if_neg (by simp), e, u3]
    simp [optI]
    rw [v1]
  · obtain ⟨v1, v2⟩ := hnw ha
    rw [if_pos rfl, if_neg (by simp [optI]), if_pos rfl, if_neg (by simp [optI]), e]
    simp [optI, h5]
    rw [v1]
theorem dec_cut (i : Ins) (h : i.right = true) (hl : 1 < i.enc.length) : decOut (insI i.first) i.enc.dropLast = outV zeroIns.vals 0 4 := by
  have T := told i h
  have hn := T.hn
  have hm := T.hm
  clear T
  rw [enc_is] at hl ⊢
  unfold decOut
  rw [hn, hm]
  cases ha : (asI i.m i.r i.n i.l).2.2 <;> cases hb : (asI i.m2 i.r2 i.n2 i.l2).2.2
  · rw [ha, hb] at hl; simp [optI] at hl
  · rw [if_neg (by simp), if_pos rfl, if_pos (by simp [optI])]
  · rw [if_pos rfl, if_pos (by simp [optI])]
  · rw [if_pos rfl, if_neg (by simp [optI]), if_pos rfl, if_pos (by simp [optI])]
theorem enc_words (i : Ins) (h : i.right = true) : ∀ x ∈ i.enc, isB x 0 65535 = true := by
  have T := told i h
  have h0 := T.lo
  have h1 := T.hi
  have hnw := T.nw
  have hmw := T.mw
  rw [enc_is]
  intro x hx
  rcases List.mem_cons.1 hx with rfl | hx
  · exact isB_iff.2 ⟨h0, h1⟩
  rcases List.mem_append.1 hx with hx | hx
  · cases ha : (asI i.m i.r i.n i.l).2.2
    · rw [ha] at hx; simp [optI] at hx
    · rw [ha] at hx; simp [optI] at hx; subst hx; exact (hnw ha).2
  · cases ha : (asI i.m2 i.r2 i.n2 i.l2).2.2
    · rw [ha] at hx; simp [optI] at hx
    · rw [ha] at hx; simp [optI] at hx; subst hx; exact hmw ha
/- What is taken of a first word: its words begin with it. -/
abbrev srcBack (a r : Int) : Prop := srcB (srcT a r).1 (srcT a r).2.1 (srcT a r).2.2.1 (srcT a r).2.2.2 = true → (asI (srcT a r).1 (srcT a r).2.1 (srcT a r).2.2.1 (srcT a r).2.2.2).1 = a ∧ (asI (srcT a r).1 (srcT a r).2.1 (srcT a r).2.2.1 (srcT a r).2.2.2).2.1 = r ∧ ((asI (srcT a r).1 (srcT a r).2.1 (srcT a r).2.2.1 (srcT a r).2.2.2).2.2 = true → ((srcT a r).1 = 1 ∧ (srcT a r).2.1 = r ∧ plainB r = true ∧ a = 1) ∨ ((srcT a r).1 = 2 ∧ (srcT a r).2.1 = 0 ∧ a = 1 ∧ r = 2) ∨ ((srcT a r).1 = 5 ∧ (srcT a r).2.1 = 0 ∧ a = 3 ∧ r = 0))
theorem src_back (a r : Int) (h0 : 0 ≤ a) (h1 : a < 4) (g0 : 0 ≤ r) (g1 : r < 16) : srcBack a r := fin_a (A := 4) (R := 16) (by decide +kernel) h0 h1 g0 g1
abbrev dstBack (a r : Int) : Prop := dstB (dstT a r).1 (dstT a r).2 0 false = true → (asI (dstT a r).1 (dstT a r).2 0 false).1 = a ∧ (asI (dstT a r).1 (dstT a r).2 0 false).2.1 = r ∧ ((dstT a r).1 == 5) = false ∧ ((asI (dstT a r).1 (dstT a r).2 0 false).2.2 = true → ((dstT a r).1 = 1 ∧ (dstT a r).2 = r ∧ plainB r = true ∧ a = 1) ∨ ((dstT a r).1 = 2 ∧ (dstT a r).2 = 0 ∧ a = 1 ∧ r = 2))
theorem dst_back (a r : Int) (h0 : 0 ≤ a) (h1 : a < 2) (g0 : 0 ≤ r) (g1 : r < 16) : dstBack a r := fin_a (A := 2) (R := 16) (by decide +kernel) h0 h1 g0 g1
theorem src_word {a r m r' : Int} (h : (m = 1 ∧ r' = r ∧ plainB r = true ∧ a = 1) ∨ (m = 2 ∧ r' = 0 ∧ a = 1 ∧ r = 2) ∨ (m = 5 ∧ r' = 0 ∧ a = 3 ∧ r = 0)) (n : Int) (hn : isB n 0 65535 = true) : srcB m r' n (m == 5 && (shortI n).2.2) = true ∧ asI m r' n (m == 5 && (shortI n).2.2) = (a, r, true) := by
  rcases h with ⟨rfl, rfl, h1, rfl⟩ | ⟨rfl, rfl, rfl, rfl⟩ | ⟨rfl, rfl, rfl, rfl⟩
  · exact ⟨by simp [srcB, h1, hn], rfl⟩
  · exact ⟨by simp [srcB, hn], rfl⟩
  · cases h : (shortI n).2.2 <;> exact ⟨by simp [srcB, hn, h], by simp [asI, h]⟩
theorem dst_word {a r m r' : Int} (h : (m = 1 ∧ r' = r ∧ plainB r = true ∧ a = 1) ∨ (m = 2 ∧ r' = 0 ∧ a = 1 ∧ r = 2)) (n : Int) (hn : isB n 0 65535 = true) : dstB m r' n false = true ∧ asI m r' n false = (a, r, true) := by
  rcases h with ⟨rfl, rfl, h1, rfl⟩ | ⟨rfl, rfl, rfl, rfl⟩
  · exact ⟨by simp [dstB, srcB, h1, hn], rfl⟩
  · exact ⟨by simp [dstB, srcB, hn], rfl⟩
theorem two_no : ∀ K : Fin 12, atI twosL (nameAt (4 + K.val)) = (K.val : Int) := by decide +kernel
theorem one_no : ∀ K : Fin 7, atI onesL (nameAt (16 + K.val)) = (K.val : Int) ∧ atI twosL (nameAt (16 + K.val)) = -1 := by decide +kernel
theorem jump_no : ∀ K : Fin 8, atI jumpsL (nameAt (32 + K.val)) = (K.val : Int) ∧ atI twosL (nameAt (32 + K.val)) = -1 ∧ atI onesL (nameAt (32 + K.val)) = -1 := by decide +kernel
theorem name_23 : nameAt 23 = ⟨#[]⟩ := by decide +kernel
/- An Insn that differs from the one of x in N and Long alone, told by words. -/
structure From (x : Int) (i : Ins) : Prop where
  right : i.right = true
  first : i.first = x
  hn : (asI i.m i.r i.n i.l).2.2 = (asI (insI x).m (insI x).r (insI x).n (insI x).l).2.2
  hm : (asI i.m2 i.r2 i.n2 i.l2).2.2 = (asI (insI x).m2 (insI x).r2 (insI x).n2 (insI x).l2).2.2
def Ins.with (i : Ins) (f g : Bool) (n n2 : Int) : Ins := { i with n := if f then n else i.n, l := if f then (i.m == 5 && (shortI n).2.2) else i.l, n2 := if g then n2 else i.n2, l2 := if g then (i.m2 == 5 && (shortI n2).2.2) else i.l2 }
theorem from_word (x : Int) (h0 : 0 ≤ x) (h1 : x ≤ 65535) (hr : (insI x).right = true) (n n2 : Int) (hn : isB n 0 65535 = true) (hn2 : isB n2 0 65535 = true) (f g : Bool) (hf : (asI (insI x).m (insI x).r (insI x).n (insI x).l).2.2 = f) (hg : (asI (insI x).m2 (insI x).r2 (insI x).n2 (insI x).l2).2.2 = g) : From x ((insI x).with f g n n2) := by
  by_cases c1 : 16384 ≤ x
  · have hx : insI x = { op := nameAt (x / 4096).toNat, b := x / 64 % 2 == 1, m := (srcT (x / 16 % 4) (x / 256 % 16)).1, r := (srcT (x / 16 % 4) (x / 256 % 16)).2.1, n := (srcT (x / 16 % 4) (x / 256 % 16)).2.2.1, l := (srcT (x / 16 % 4) (x / 256 % 16)).2.2.2, m2 := (dstT (x / 128 % 2) (x % 16)).1, r2 := (dstT (x / 128 % 2) (x % 16)).2, n2 := 0, l2 := false, j := 0 } := by unfold insI; rw [if_pos c1]
    have hS := src_back (x / 16 % 4) (x / 256 % 16) (by omega) (by omega) (by omega) (by omega)
    have hD := dst_back (x / 128 % 2) (x % 16) (by omega) (by omega) (by omega) (by omega)
    unfold srcBack at hS
    unfold dstBack at hD
    have ek : (x / 4096).toNat = 4 + (x / 4096 - 4).toNat := by omega
    have hk : atI twosL (nameAt (4 + (x / 4096 - 4).toNat)) = ((x / 4096 - 4).toNat : Int) := two_no ⟨(x / 4096 - 4).toNat, by omega⟩
    rw [ek] at hx
    generalize nameAt (4 + (x / 4096 - 4).toNat) = op at *
    generalize (srcT (x / 16 % 4) (x / 256 % 16)).1 = m at *
    generalize (srcT (x / 16 % 4) (x / 256 % 16)).2.1 = r at *
    generalize (srcT (x / 16 % 4) (x / 256 % 16)).2.2.1 = n0 at *
    generalize (srcT (x / 16 % 4) (x / 256 % 16)).2.2.2 = l0 at *
    generalize (dstT (x / 128 % 2) (x % 16)).1 = m2 at *
    generalize (dstT (x / 128 % 2) (x % 16)).2 = r2 at *
    have h2 : 0 ≤ atI twosL op := by omega
    rw [hx] at hr hf hg
    have hr' := hr
    unfold Ins.right at hr'
    rw [insn_kinds, if_pos h2] at hr'
    simp only [Bool.and_eq_true] at hr'
    obtain ⟨⟨k1, k2⟩, _⟩ := hr'
    obtain ⟨s1, s2, s3⟩ := hS k1
    obtain ⟨t1, t2, t5, t3⟩ := hD k2
    dsimp only at hf hg
    have S : srcB m r (if f then n else n0) (if f then (m == 5 && (shortI n).2.2) else l0) = true ∧ (asI m r (if f then n else n0) (if f then (m == 5 && (shortI n).2.2) else l0)).1 = x / 16 % 4 ∧ (asI m r (if f then n else n0) (if f then (m == 5 && (shortI n).2.2) else l0)).2.1 = x / 256 % 16 ∧ (asI m r (if f then n else n0) (if f then (m == 5 && (shortI n).2.2) else l0)).2.2 = f := by
      cases f
      · exact ⟨k1, s1, s2, hf⟩
      · obtain ⟨u1, u2⟩ := src_word (s3 hf) n hn
        refine ⟨u1, ?_, ?_, ?_⟩ <;> (rw [if_pos rfl, if_pos rfl, u2])
    have D : dstB m2 r2 (if g then n2 else 0) (if g then (m2 == 5 && (shortI n2).2.2) else false) = true ∧ (asI m2 r2 (if g then n2 else 0) (if g then (m2 == 5 && (shortI n2).2.2) else false)).1 = x / 128 % 2 ∧ (asI m2 r2 (if g then n2 else 0) (if g then (m2 == 5 && (shortI n2).2.2) else false)).2.1 = x % 16 ∧ (asI m2 r2 (if g then n2 else 0) (if g then (m2 == 5 && (shortI n2).2.2) else false)).2.2 = g := by
      cases g
      · exact ⟨k2, t1, t2, hg⟩
      · obtain ⟨u1, u2⟩ := dst_word (t3 hg) n2 hn2
        rw [t5]
        refine ⟨u1, ?_, ?_, ?_⟩ <;> (rw [if_pos rfl, if_pos rfl]; exact (by rw [Bool.false_and, u2]))
    rw [hx]
    unfold Ins.with
    dsimp only
    generalize (if f = true then n else n0) = n' at *
    generalize (if f = true then (m == 5 && (shortI n).2.2) else l0) = l' at *
    generalize (if g = true then n2 else 0) = n2' at *
    generalize (if g = true then (m2 == 5 && (shortI n2).2.2) else false) = l2' at *
    refine ⟨?_, ?_, ?_, ?_⟩
    · show insnB op _ m r n' l' m2 r2 n2' l2' 0 = true
      rw [insn_kinds, if_pos h2, S.1, D.1]; rfl
    · unfold Ins.first
      show (if 0 ≤ atI twosL op then _ else _) = x
      rw [if_pos h2]
      show 4096 * (4 + atI twosL op) + 256 * (asI m r _ _).2.1 + 128 * (asI m2 r2 _ _).1 + markI (x / 64 % 2 == 1) + 16 * (asI m r _ _).1 + (asI m2 r2 _ _).2.1 = x
      rw [S.2.1, S.2.2.1, D.2.1, D.2.2.1]
      have hb := mark_is (x / 64 % 2 == 1)
      rw [beq_eq_false_iff_ne, beq_iff_eq] at hb
      omega
    · rw [hx]; show (asI m r _ _).2.2 = (asI m r n0 l0).2.2
      rw [S.2.2.2, hf]
    · rw [hx]; show (asI m2 r2 _ _).2.2 = (asI m2 r2 0 false).2.2
      rw [D.2.2.2, hg]
  by_cases c2 : 8192 ≤ x
  · have hx : insI x = { op := nameAt (32 + (x / 1024 % 8).toNat), b := false, m := 0, r := 0, n := 0, l := false, m2 := 0, r2 := 0, n2 := 0, l2 := false, j := (x + 512) % 1024 - 512 } := by unfold insI; rw [if_neg c1, if_pos c2]
    have hk := jump_no ⟨(x / 1024 % 8).toNat, by omega⟩
    dsimp only at hk
    rw [hx] at hf hg
    have hf' : false = f := hf
    have hg' : false = g := hg
    subst hf' hg'
    have e : (insI x).with false false n n2 = insI x := rfl
    rw [e]
    refine ⟨hr, ?_, rfl, rfl⟩
    rw [hx]
    unfold Ins.first
    dsimp only
    rw [if_neg (by omega), if_neg (by omega), hk.1]
    omega
  by_cases c3 : 4096 ≤ x ∧ x < 5120
  · have hx : insI x = { op := nameAt (16 + (x / 128 % 8).toNat), b := x / 64 % 2 == 1, m := (srcT (x / 16 % 4) (x % 16)).1, r := (srcT (x / 16 % 4) (x % 16)).2.1, n := (srcT (x / 16 % 4) (x % 16)).2.2.1, l := (srcT (x / 16 % 4) (x % 16)).2.2.2, m2 := 0, r2 := 0, n2 := 0, l2 := false, j := 0 } := by unfold insI; rw [if_neg c1, if_neg c2, if_pos c3]
    have hS := src_back (x / 16 % 4) (x % 16) (by omega) (by omega) (by omega) (by omega)
    unfold srcBack at hS
    by_cases c7 : (x / 128 % 8).toNat = 7
    · rw [hx, c7, name_23] at hr
      unfold Ins.right at hr
      rw [insn_kinds] at hr
      have e1 : ¬ 0 ≤ atI twosL ⟨#[]⟩ := by decide +kernel
      have e2 : ¬ 0 ≤ atI onesL ⟨#[]⟩ := by decide +kernel
      have e3 : ¬ 0 ≤ atI jumpsL ⟨#[]⟩ := by decide +kernel
      rw [if_neg e1, if_neg e2, if_neg e3] at hr
      cases hr
    have hk := one_no ⟨(x / 128 % 8).toNat, by omega⟩
    dsimp only at hk
    generalize nameAt (16 + (x / 128 % 8).toNat) = op at *
    generalize (srcT (x / 16 % 4) (x % 16)).1 = m at *
    generalize (srcT (x / 16 % 4) (x % 16)).2.1 = r at *
    generalize (srcT (x / 16 % 4) (x % 16)).2.2.1 = n0 at *
    generalize (srcT (x / 16 % 4) (x % 16)).2.2.2 = l0 at *
    have h2 : ¬ 0 ≤ atI twosL op := by omega
    have h3 : 0 ≤ atI onesL op := by omega
    rw [hx] at hr hf hg
    have hg' : false = g := hg
    subst hg'
    dsimp only at hf
    have hr' := hr
    unfold Ins.right at hr'
    rw [insn_kinds, if_neg h2, if_pos h3] at hr'
    dsimp only at hr'
    obtain ⟨k1, hcode⟩ : srcB m r n0 l0 = true ∧ ∀ n' l', srcB m r n' l' = true → (f = false → n' = n0 ∧ l' = l0) → insnB op (x / 64 % 2 == 1) m r n' l' 0 0 0 false 0 = true := by
      have hone := hr'
      unfold oneB at hr'
      by_cases hro : op = ⟨#[114, 101, 116, 105]⟩
      · rw [if_pos hro] at hr'
        simp only [Bool.and_eq_true] at hr'
        obtain ⟨⟨⟨g1, g2⟩, g3⟩, g4⟩ := hr'
        obtain ⟨rfl, rfl, rfl, rfl⟩ := zero_is g2
        refine ⟨by decide +kernel, fun n' l' _ hh => ?_⟩
        obtain ⟨rfl, rfl⟩ := hh hf.symm
        rw [insn_kinds, if_neg h2, if_pos h3]; exact hone
      · rw [if_neg hro] at hr'
        simp only [Bool.and_eq_true] at hr'
        obtain ⟨⟨⟨⟨g1, g2⟩, g3⟩, g4⟩, g5⟩ := hr'
        refine ⟨g1, fun n' l' hB _ => ?_⟩
        rw [insn_kinds, if_neg h2, if_pos h3]
        unfold oneB
        rw [if_neg hro, hB, g2, g3, g4, g5]; rfl
    obtain ⟨s1, s2, s3⟩ := hS k1
    have S : srcB m r (if f then n else n0) (if f then (m == 5 && (shortI n).2.2) else l0) = true ∧ (asI m r (if f then n else n0) (if f then (m == 5 && (shortI n).2.2) else l0)).1 = x / 16 % 4 ∧ (asI m r (if f then n else n0) (if f then (m == 5 && (shortI n).2.2) else l0)).2.1 = x % 16 ∧ (asI m r (if f then n else n0) (if f then (m == 5 && (shortI n).2.2) else l0)).2.2 = f := by
      cases f
      · exact ⟨k1, s1, s2, hf⟩
      · obtain ⟨u1, u2⟩ := src_word (s3 hf) n hn
        refine ⟨u1, ?_, ?_, ?_⟩ <;> (rw [if_pos rfl, if_pos rfl, u2])
    have hc := hcode _ _ S.1 (fun e => by subst e; exact ⟨rfl, rfl⟩)
    rw [hx]
    unfold Ins.with
    dsimp only
    generalize (if f = true then n else n0) = n' at *
    generalize (if f = true then (m == 5 && (shortI n).2.2) else l0) = l' at *
    refine ⟨?_, ?_, ?_, by rw [hx]; rfl⟩
    · show insnB op _ m r n' l' 0 0 0 false 0 = true
      exact hc
    · unfold Ins.first
      show (if 0 ≤ atI twosL op then _ else if 0 ≤ atI onesL op then _ else _) = x
      rw [if_neg h2, if_pos h3]
      show 4096 + 128 * atI onesL op + markI (x / 64 % 2 == 1) + 16 * (asI m r _ _).1 + (asI m r _ _).2.1 = x
      rw [S.2.1, S.2.2.1, hk.1]
      have hb := mark_is (x / 64 % 2 == 1)
      rw [beq_eq_false_iff_ne, beq_iff_eq] at hb
      omega
    · rw [hx]; show (asI m r _ _).2.2 = (asI m r n0 l0).2.2
      rw [S.2.2.2, hf]
  · have hx : insI x = { op := ⟨#[]⟩, b := false, m := 0, r := 0, n := 0, l := false, m2 := 0, r2 := 0, n2 := 0, l2 := false, j := 0 } := by unfold insI; rw [if_neg c1, if_neg c2, if_neg c3]
    rw [hx] at hr
    have : Ins.right { op := ⟨#[]⟩, b := false, m := 0, r := 0, n := 0, l := false, m2 := 0, r2 := 0, n2 := 0, l2 := false, j := 0 } = false := by decide +kernel
    rw [this] at hr; cases hr
/- What Decode takes is told by just these words. -/
theorem dec_back (x : Int) (L : List Int) (hx : L[0]? = some x) (hw : ∀ z ∈ L, isB z 0 65535 = true) (hr : (insI x).right = true) :
    decOut (insI x) L = outV zeroIns.vals 0 4 ∨ ∃ (i : Ins) (k : Nat), decOut (insI x) L = outV i.vals k 0 ∧ k ≤ L.length ∧ 1 ≤ k ∧ i.right = true ∧ i.enc = L.take k := by
  have hx01 := isB_iff.1 (hw x (List.mem_of_getElem? hx))
  have key := fun n n2 hn hn2 => from_word x hx01.1 hx01.2 hr n n2 hn hn2 _ _ rfl rfl
  cases ha : (asI (insI x).m (insI x).r (insI x).n (insI x).l).2.2 <;> cases hb : (asI (insI x).m2 (insI x).r2 (insI x).n2 (insI x).l2).2.2
  all_goals rw [ha, hb] at key
  all_goals unfold decOut; rw [ha, hb]
  · right
    have F := key 0 0 (by decide) (by decide)
    refine ⟨(insI x).with false false 0 0, 1, rfl, ?_, Nat.le_refl _, F.right, ?_⟩
    · cases L with
      | nil => simp at hx
      | cons y R => simp
    · rw [enc_is, F.first, F.hn, F.hm, ha, hb]
      cases L with
      | nil => simp at hx
      | cons y R => simp at hx; simp [optI, hx]
  · rw [if_neg (by simp), if_pos rfl]
    match L, hx with
    | [y], _ => left; rfl
    | y :: z :: R, hx =>
      right
      simp at hx
      subst hx
      have F := key 0 z (by decide) (hw z (by simp))
      refine ⟨(insI y).with false true 0 z, 2, rfl, by simp, by omega, F.right, ?_⟩
      rw [enc_is, F.first, F.hn, F.hm, ha, hb]; rfl
  · rw [if_pos rfl]
    match L, hx with
    | [y], _ => left; rfl
    | y :: z :: R, hx =>
      right
      simp at hx
      subst hx
      have F := key z 0 (hw z (by simp)) (by decide)
      refine ⟨(insI y).with true false z 0, 2, rfl, by simp, by omega, F.right, ?_⟩
      rw [enc_is, F.first, F.hn, F.hm, ha, hb]; rfl
  · rw [if_pos rfl]
    match L, hx with
    | [y], _ => left; rfl
    | [y, z], _ => left; rfl
    | y :: z :: u :: R, hx =>
      right
      simp at hx
      subst hx
      have F := key z u (hw z (by simp)) (hw u (by simp))
      refine ⟨(insI y).with true true z u, 3, ?_, by simp, by omega, F.right, ?_⟩
      · rw [if_neg (by simp), if_pos rfl, if_neg (by simp)]; rfl
      · rw [enc_is, F.first, F.hn, F.hm, ha, hb]; rfl
theorem words_all {L : List Int} (h : ∀ z ∈ L, isB z 0 65535 = true) : wordsB L = true := by
  unfold wordsB; rw [List.all_eq_true]; exact h
theorem decAll_first {x : Int} {L : List Int} (hl : L.length ≤ 400) (hx : L[0]? = some x) (hw : ∀ z ∈ L, isB z 0 65535 = true) : decAll L = if (insI x).right = true then decOut (insI x) L else outV zeroIns.vals 0 3 := by
  have hx01 := isB_iff.1 (hw x (List.mem_of_getElem? hx))
  have h0 : 0 < L.length := by cases L with | nil => simp at hx | cons y R => simp
  unfold decAll specAll specOut
  rw [if_neg (by omega), if_pos (words_all hw), hx]
  exact same_out x L h0 hx01.1 hx01.2
theorem enc_first (i : Ins) (more : List Int) : (i.enc ++ more)[0]? = some i.first := by rw [enc_is]; rfl
theorem decAll_enc (i : Ins) (h : i.right = true) (more : List Int) (hm : ∀ z ∈ more, isB z 0 65535 = true) (hl : more.length ≤ 10) : decAll (i.enc ++ more) = outV i.vals i.enc.length 0 := by
  have T := told i h
  have hlen := enc_len i
  rw [decAll_first (by rw [List.length_append]; omega) (enc_first i more) (fun z hz => by
    rcases List.mem_append.1 hz with hz | hz
    · exact enc_words i h z hz
    · exact hm z hz), if_pos T.right]
  exact dec_enc i h more
theorem decAll_cut (i : Ins) (h : i.right = true) : decAll i.enc.dropLast = outV zeroIns.vals 0 4 := by
  have T := told i h
  have hlen := enc_len i
  by_cases h1 : 1 < i.enc.length
  · have hd := dec_cut i h h1
    have hx : i.enc.dropLast[0]? = some i.first := by
      rw [List.getElem?_dropLast, if_pos (by omega)]
      have := enc_first i []
      rwa [List.append_nil] at this
    rw [decAll_first (by simp; omega) hx (fun z hz => enc_words i h z (List.dropLast_subset _ hz)), if_pos T.right]
    exact hd
  · have e : i.enc.dropLast = [] := List.eq_nil_of_length_eq_zero (by simp; omega)
    rw [e]
    rfl
theorem decAll_back (L : List Int) : (∃ c : Int, (c = 1 ∨ c = 2 ∨ c = 3 ∨ c = 4) ∧ decAll L = outV zeroIns.vals 0 c) ∨ ∃ (i : Ins) (k : Nat), decAll L = outV i.vals k 0 ∧ k ≤ L.length ∧ 1 ≤ k ∧ i.right = true ∧ i.enc = L.take k := by
  by_cases hl : 400 < L.length
  · exact .inl ⟨2, by omega, by unfold decAll; rw [if_pos hl]⟩
  cases hw : wordsB L
  · exact .inl ⟨1, by omega, by unfold decAll specAll; rw [if_neg hl, hw]; rfl⟩
  cases hx : L[0]? with
  | none => exact .inl ⟨4, by omega, by unfold decAll specAll specOut; rw [if_neg hl, hw, hx]; rfl⟩
  | some x =>
    have hw' : ∀ z ∈ L, isB z 0 65535 = true := by unfold wordsB at hw; exact List.all_eq_true.1 hw
    rw [decAll_first (by omega) hx hw']
    cases hr : (insI x).right
    · exact .inl ⟨3, by omega, rfl⟩
    · rw [if_pos rfl]
      rcases dec_back x L hx hw' hr with h | h
      · exact .inl ⟨4, by omega, h⟩
      · exact .inr h
end Go.Proofs.YtknielpkmablkaaDoor
