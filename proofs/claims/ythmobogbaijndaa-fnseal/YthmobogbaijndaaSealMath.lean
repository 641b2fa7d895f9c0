/- Texts and numbers alone: a seal with one byte turned is no seal; a CRC goes on from text to text. -/
import Derived.WalkKit
import Derived.Test.YthmobogbaijndaaCrcMath
import Derived.Test.YthmobogbaijndaaFour
import Derived.Test.YthmobogbaijndaaSeal
namespace Go.Proofs.Ythmobogbaijndaa
open Go.RowKit

theorem xor_rc {a b c : Nat} (h : a ^^^ c = b ^^^ c) : a = b := by
  have := congrArg (· ^^^ c) h
  simpa [Nat.xor_assoc] using this
theorem xor_lc {a b c : Nat} (h : c ^^^ a = c ^^^ b) : a = b := xor_rc (c := c) (by rw [Nat.xor_comm a, Nat.xor_comm b]; exact h)
theorem stepN_top {r : Nat} (h : r < 4294967296) : (stepN r).testBit 31 = decide (r % 2 = 1) := by
  have h2 : (r / 2).testBit 31 = false := Nat.testBit_lt_two_pow (by omega)
  unfold stepN
  by_cases ho : r % 2 = 1
  · rw [if_pos ho, Nat.testBit_xor, h2]; simp [ho]; decide
  · rw [if_neg ho, h2]; simp [ho]
theorem stepN_inj {a b : Nat} (ha : a < 4294967296) (hb : b < 4294967296) (h : stepN a = stepN b) : a = b := by
  have t1 := stepN_top ha
  have t2 := stepN_top hb
  rw [h, t2] at t1
  have e : (a % 2 = 1) ↔ (b % 2 = 1) := by simpa using (decide_eq_decide.1 t1).symm
  unfold stepN at h
  by_cases ho : a % 2 = 1
  · rw [if_pos ho, if_pos (e.1 ho)] at h
    have := xor_rc h
    have := e.1 ho
    omega
  · have hb2 : ¬ b % 2 = 1 := fun x => ho (e.2 x)
    rw [if_neg ho, if_neg hb2] at h
    omega
theorem specK_inj (k : Nat) : ∀ {a b : Nat}, a < 4294967296 → b < 4294967296 → specK a k = specK b k → a = b := by
  induction k with
  | zero => intro a b _ _ h; exact h
  | succ k ih => intro a b ha hb h; exact ih ha hb (stepN_inj (specK_lt ha k) (specK_lt hb k) h)
theorem crcB_inj_r {a b c : Nat} (ha : a < 4294967296) (hb : b < 4294967296) (hc : c < 256) (h : crcB a c = crcB b c) : a = b :=
  xor_rc (specK_inj 8 (xor_lt32 ha (by omega)) (xor_lt32 hb (by omega)) h)
theorem crcB_inj_b {r b c : Nat} (hr : r < 4294967296) (hb : b < 256) (hc : c < 256) (h : crcB r b = crcB r c) : b = c :=
  xor_lc (specK_inj 8 (xor_lt32 hr (by omega)) (xor_lt32 hr (by omega)) h)
theorem crcL_inj (l : List UInt8) : ∀ {a b : Nat}, a < 4294967296 → b < 4294967296 → crcL a l = crcL b l → a = b := by
  induction l with
  | nil => intro a b _ _ h; exact h
  | cons c l ih => intro a b ha hb h; exact crcB_inj_r ha hb c.toNat_lt (ih (crcB_lt ha c.toNat_lt) (crcB_lt hb c.toNat_lt) h)
theorem crcL_turned (l : List UInt8) (j : Nat) (hj : j < l.length) (x : UInt8) (hx : x ≠ l[j]) {r : Nat} (hr : r < 4294967296) : crcL r (l.set j x) ≠ crcL r l := by
  intro h
  have e1 : l.set j x = l.take j ++ x :: l.drop (j + 1) := List.set_eq_take_append_cons_drop.trans (if_pos hj)
  have e2 : l = l.take j ++ l[j] :: l.drop (j + 1) := by rw [← List.drop_eq_getElem_cons hj, List.take_append_drop]
  rw [e1, crcL_append] at h
  conv at h => rhs; rw [e2, crcL_append]
  have hr2 := crcL_lt (l.take j) hr
  have h3 := crcL_inj (l.drop (j + 1)) (crcB_lt hr2 x.toNat_lt) (crcB_lt hr2 l[j].toNat_lt) h
  have h4 := crcB_inj_b hr2 x.toNat_lt l[j].toNat_lt h3
  exact hx (UInt8.toNat_inj.1 h4)
theorem four_inj {a b : Nat} (ha : a < 4294967296) (hb : b < 4294967296) (h : four a = four b) : a = b := by
  unfold four at h
  simp only [ByteArray.mk.injEq, Array.mk.injEq, List.cons.injEq, and_true] at h
  obtain ⟨h0, h1, h2, h3⟩ := h
  have f : ∀ x y : Nat, UInt8.ofNat x = UInt8.ofNat y → x % 256 = y % 256 := fun x y e => by
    have := congrArg UInt8.toNat e; simpa using this
  have := f _ _ h0
  have := f _ _ h1
  have := f _ _ h2
  have := f _ _ h3
  omega
def turned (s : ByteArray) (j : Nat) (x : UInt8) : ByteArray := ⟨(s.data.toList.set j x).toArray⟩
theorem turned_size (s : ByteArray) (j : Nat) (x : UInt8) : (turned s j x).size = s.size := by
  show (s.data.toList.set j x).toArray.size = s.data.size
  simp
theorem crcOf_inj {a b : ByteArray} (h : crcOf 0 a = crcOf 0 b) : crcL 4294967295 a.data.toList = crcL 4294967295 b.data.toList := by
  unfold crcOf at h
  exact xor_rc h
/- the seal of t, one byte of it turned, is not the seal of what its first bytes are then -/
theorem turned_bad (t : ByteArray) (ht : t.size ≤ 7996) (j : Nat) (hj : j < (sealB t).size) (x : UInt8) (hx : x ≠ (sealB t)[j]) :
    ((sealB ((turned (sealB t) j x).extract 0 ((turned (sealB t) j x).size - 4))).toList == (turned (sealB t) j x).toList) = false := by
  have e0 : sealB t = t ++ four (crcOf 0 t) := if_neg (by omega)
  have hsz : (sealB t).size = t.size + 4 := by rw [e0, ByteArray.size_append]; rfl
  rw [beq_eq_false_iff_ne]
  intro h
  rw [ByteArray.toList_eq, ByteArray.toList_eq] at h
  generalize hb : turned (sealB t) j x = b at h
  have hbs : b.size = t.size + 4 := by rw [← hb, turned_size, hsz]
  have hbl : b.data.toList = (t.data.toList ++ (four (crcOf 0 t)).data.toList).set j x := by rw [← hb, e0]; simp [turned]
  have e1 : sealB (b.extract 0 (b.size - 4)) = b.extract 0 (b.size - 4) ++ four (crcOf 0 (b.extract 0 (b.size - 4))) := if_neg (by simp; omega)
  rw [e1] at h
  have hx2 : (b.extract 0 (b.size - 4)).data.toList = b.data.toList.take t.size := by simp [hbs]
  have h1 : b.data.toList.take t.size ++ (four (crcOf 0 (b.extract 0 (b.size - 4)))).data.toList = b.data.toList := by rw [← hx2, ← h]; simp
  have h2 : (four (crcOf 0 (b.extract 0 (b.size - 4)))).data.toList = b.data.toList.drop t.size := by
    have := List.take_append_drop t.size b.data.toList
    exact List.append_cancel_left (h1.trans this.symm)
  have hc1 := crcOf_lt 0 t (by omega)
  have hc2 := crcOf_lt 0 (b.extract 0 (b.size - 4)) (by omega)
  have hel : (sealB t)[j] = (t.data.toList ++ (four (crcOf 0 t)).data.toList)[j]'(by simp; rw [hsz] at hj; exact hj) := by
    have : (sealB t).data.toList = t.data.toList ++ (four (crcOf 0 t)).data.toList := by rw [e0]; simp
    show (sealB t).data[j] = _
    rw [← Array.getElem_toList]
    simp only [this]
  by_cases hjt : j < t.size
  · rw [hbl, List.set_append_left _ _ (by simpa using hjt), List.drop_append_of_le_length (by simp), List.drop_of_length_le (by simp), List.nil_append] at h2
    have h3 : four (crcOf 0 (b.extract 0 (b.size - 4))) = four (crcOf 0 t) := by
      cases hf : four (crcOf 0 (b.extract 0 (b.size - 4))); cases hg : four (crcOf 0 t)
      rw [hf, hg] at h2
      congr 1; exact Array.toList_inj.1 h2
    have h4 := crcOf_inj (four_inj hc2 hc1 h3)
    rw [hx2, hbl, List.set_append_left _ _ (by simpa using hjt), List.take_append_of_le_length (by simp), List.take_of_length_le (by simp)] at h4
    refine crcL_turned t.data.toList j (by simpa using hjt) x ?_ (by omega) h4
    rw [hel, List.getElem_append_left (by simpa using hjt)] at hx
    exact hx
  · have h5 : b.data.toList.take t.size = t.data.toList := by
      rw [hbl, List.set_append_right _ _ (by simp; omega), List.take_append_of_le_length (by simp), List.take_of_length_le (by simp)]
    have h6 : b.extract 0 (b.size - 4) = t := by
      cases hf : b.extract 0 (b.size - 4); cases hg : t
      rw [hf] at hx2; rw [hg] at h5 hx2
      congr 1; exact Array.toList_inj.1 (hx2.trans h5)
    rw [h6, hbl, List.set_append_right _ _ (by simp; omega), List.drop_append_of_le_length (by simp), List.drop_of_length_le (by simp), List.nil_append] at h2
    rw [hel, List.getElem_append_right (by simp; omega)] at hx
    apply hx
    have hj4 : j - t.data.toList.length < (four (crcOf 0 t)).data.toList.length := by simp; rw [hsz] at hj; show _ < 4; omega
    have h7 := congrArg (fun l => l[j - t.data.toList.length]?) h2
    simp only [List.getElem?_set_self hj4, List.getElem?_eq_getElem hj4] at h7
    exact (Option.some.inj h7).symm
theorem crc_on (t u : ByteArray) : crcOf (crcOf 0 t) u = crcOf 0 (t ++ u) := by
  unfold crcOf
  simp only [ByteArray.data_append, Array.toList_append, crcL_append]
  rw [Nat.xor_assoc, Nat.xor_self, Nat.xor_zero]
end Go.Proofs.Ythmobogbaijndaa
