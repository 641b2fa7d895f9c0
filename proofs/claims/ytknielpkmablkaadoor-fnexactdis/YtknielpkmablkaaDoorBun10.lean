/- Instructions: where names stand in lists; plain mathematics. -/
import Derived.Test.YtknielpkmablkaaDoorRows
import Derived.WalkKit
import Derived.Test.YtknielpkmablkaaDoorBun4
import Derived.Test.YtknielpkmablkaaDoorIsaOX
import Derived.Test.YtknielpkmablkaaDoorIsaJX
import Derived.WalkSpells
import Derived.WalkLawsBesides
import Derived.Outline
import Derived.Test.YtknielpkmablkaaDoorBun0
namespace Go.Proofs.YtknielpkmablkaaDoor

theorem atF_cons (s : ByteArray) (L : List ByteArray) (t : ByteArray) (i : Nat) : atF (s :: L) t i = if s = t then (i : Int) else atF L t (i + 1) := rfl
theorem atF_shift (L : List ByteArray) (t : ByteArray) (i c : Nat) : atF L t (i + c) = if 0 ≤ atF L t i then atF L t i + c else -1 := by
  induction L generalizing i with
  | nil => simp [atF]
  | cons s L ih =>
    unfold atF
    by_cases h : s = t
    · simp only [if_pos h]; rw [if_pos (by omega)]; omega
    · simp only [if_neg h]
      rw [show i + c + 1 = (i + 1) + c by omega, ih]
theorem atF_app (A B : List ByteArray) (t : ByteArray) (i : Nat) : atF (A ++ B) t i = if 0 ≤ atF A t i then atF A t i else atF B t (i + A.length) := by
  induction A generalizing i with
  | nil => simp [atF]
  | cons s A ih =>
    rw [List.cons_append, atF_cons, atF_cons]
    by_cases h : s = t
    · simp only [if_pos h]; rw [if_pos (by omega)]
    · simp only [if_neg h]
      rw [ih, List.length_cons, show i + 1 + A.length = i + (A.length + 1) by omega]
theorem atF_rep (n : Nat) (t : ByteArray) (h : ¬ t = ⟨#[]⟩) (i : Nat) : atF (List.replicate n ⟨#[]⟩) t i = -1 := by
  induction n generalizing i with
  | zero => rfl
  | succ n ih =>
    rw [List.replicate_succ]
    unfold atF
    rw [if_neg (fun e => h e.symm), ih]
theorem atF_mem (L : List ByteArray) (t : ByteArray) (i : Nat) (h : 0 ≤ atF L t i) : t ∈ L := by
  induction L generalizing i with
  | nil => simp [atF] at h
  | cons s L ih =>
    unfold atF at h
    by_cases e : s = t
    · exact List.mem_cons.2 (.inl e.symm)
    · rw [if_neg e] at h
      exact List.mem_cons_of_mem _ (ih _ h)
theorem atI_mem {L : List ByteArray} {t : ByteArray} (h : 0 ≤ atI L t) : t ∈ L := atF_mem L t 0 h
theorem atI_lo (L : List ByteArray) (t : ByteArray) : atI L t = -1 ∨ 0 ≤ atI L t := by
  have := atF_ge L t 0
  unfold atI; omega
theorem find_kinds (op : ByteArray) : findI op = if 0 ≤ atI twosL op then (0, 4 + atI twosL op, true) else if 0 ≤ atI onesL op then (1, atI onesL op, true) else if 0 ≤ atI jumpsL op then (2, atI jumpsL op, true) else (0, 0, false) := by
  unfold findI
  by_cases h : op = ⟨#[]⟩
  · subst h
    rw [if_pos rfl]
    decide +kernel
  · rw [if_neg h]
    have h' : ¬ (⟨#[]⟩ : ByteArray) = op := fun e => h e.symm
    have e0 : atI (⟨#[]⟩ :: ⟨#[]⟩ :: ⟨#[]⟩ :: ⟨#[]⟩ :: twosL) op = if 0 ≤ atI twosL op then atI twosL op + 4 else -1 := by
      unfold atI
      rw [atF, if_neg h', atF, if_neg h', atF, if_neg h', atF, if_neg h']
      exact atF_shift twosL op 0 4
    have e1 : atI (onesL ++ List.replicate 9 ⟨#[]⟩) op = if 0 ≤ atI onesL op then atI onesL op else -1 := by
      unfold atI
      rw [atF_app, atF_rep _ _ h]
    have e2 : atI (jumpsL ++ List.replicate 8 ⟨#[]⟩) op = if 0 ≤ atI jumpsL op then atI jumpsL op else -1 := by
      unfold atI
      rw [atF_app, atF_rep _ _ h]
    unfold namesL
    simp only [findRows, e0, e1, e2]
    by_cases a : 0 ≤ atI twosL op
    · simp only [if_pos a]
      rw [if_pos (by omega), Int.add_comm]; rfl
    · simp only [if_neg a]
      rw [if_neg (by omega)]
      by_cases b : 0 ≤ atI onesL op
      · simp only [if_pos b]; rfl
      · simp only [if_neg b]
        rw [if_neg (by omega)]
        by_cases c : 0 ≤ atI jumpsL op
        · simp only [if_pos c]; rfl
        · simp only [if_neg c]
          rw [if_neg (by omega)]
theorem ones_jumps {op : ByteArray} (h : 0 ≤ atI onesL op) : atI jumpsL op = -1 ∧ atI twosL op = -1 := by
  have := atI_mem h
  simp only [onesL, List.mem_cons, List.not_mem_nil, or_false] at this
  rcases this with rfl | rfl | rfl | rfl | rfl | rfl | rfl <;> decide +kernel
theorem reti_at {op : ByteArray} (h : op = ⟨#[114, 101, 116, 105]⟩) : atI onesL op = 6 ∧ atI jumpsL op = -1 ∧ atI twosL op = -1 := by
  subst h; decide +kernel
theorem insn_kinds (op : ByteArray) (b : Bool) (m r n : Int) (l : Bool) (m2 r2 n2 : Int) (l2 : Bool) (j : Int) :
    insnB op b m r n l m2 r2 n2 l2 j = if 0 ≤ atI twosL op then srcB m r n l && dstB m2 r2 n2 l2 && (j == 0) else if 0 ≤ atI onesL op then oneB op b m r n l m2 r2 n2 l2 j else if 0 ≤ atI jumpsL op then !b && zeroB m r n l && zeroB m2 r2 n2 l2 && isB j (-512) 511 else false := by
  unfold insnB rightB oneB handB wideB
  by_cases h1 : 0 ≤ atI twosL op
  · simp only [if_pos h1]
  · simp only [if_neg h1]
    by_cases h3 : 0 ≤ atI onesL op
    · have := (ones_jumps h3).1
      rw [if_pos h3, if_neg (show ¬ 0 ≤ atI jumpsL op by omega), if_neg (show ¬ atI onesL op < 0 by omega)]
    · rw [if_neg h3]
      by_cases h2 : 0 ≤ atI jumpsL op
      · rw [if_pos h2, if_pos h2]
      · rw [if_neg h2, if_neg h2]
        by_cases hr : op = ⟨#[114, 101, 116, 105]⟩
        · have := (reti_at hr).1; omega
        · rw [if_neg hr, if_pos (by omega)]
end Go.Proofs.YtknielpkmablkaaDoor
namespace Go.Proofs.YtknielpkmablkaaDoor
open Go.RowKit

set_option maxRecDepth 100000 in
set_option maxHeartbeats 1600000 in
theorem implRight_any (op : ByteArray) (b : Bool) (m r n : Int) (l : Bool) (m2 r2 n2 : Int) (l2 : Bool) (j : Int) (w : World) (hT : Tabs w) :
    Calls Tryd.prog 41 #[.agg #[.string op, .bool b, .int .i64 m, .int .i64 r, .int .i64 n, .bool l, .int .i64 m2, .int .i64 r2, .int .i64 n2, .bool l2, .int .i64 j]] w fun e w' => e = .returned (.bool (insnB op b m r n l m2 r2 n2 l2 j)) ∧ Below w.heap.size w w' := by
  have HF : Hid (_ = _) := find_kinds op
  have HK : Hid (_ = _) := insn_kinds op b m r n l m2 r2 n2 l2 j
  have HT : Hid (∀ o, Tabs (w.alloc o)) := fun o => hT.alloc o
  clear hT
  go_enter Tryd.func41, Tryd.ntmps41
  go_wp2_with fail
  refine (findOp_any op _ (HT.out _)).mono ?_
  rintro e x1 ⟨rfl, hb⟩
  have HI1 : Hid (_ = _) := heap_keep (heap_alloc_new w _) hb
  have HB1 : Hid (Below w.heap.size w x1) := Below.trans ((Below.refl _ _).alloc (Nat.le_refl _) _) (hb.mono (by simp))
  have HT1 : Hid (∀ o, Tabs (x1.alloc o)) := fun o => ((HT.out _).below hb).alloc o
  clear hb
  have hz := heap_lt HI1.out
  obtain ⟨c0, c1, c2, c3, c4, c5, c6, c7, c8, c9, c10⟩ := cells11 HI1.out
  rw [HF.out]
  by_cases h1 : 0 ≤ atI twosL op
  · rw [if_pos h1]
    have HR : Hid (_ = _) := HK.out.trans (if_pos h1)
    generalize atI twosL op = k1 at *
    go_wp2_with fail
    refine (rightTwo_any op b m r n l m2 r2 n2 l2 j _ (HT1.out _)).mono ?_
    rintro e x2 ⟨rfl, hb⟩
    go_wp2
    go_ret
    exact ⟨ret_bool HR.out.symm, (HB1.out.alloc HB1.out.size _).trans (hb.mono (by have := HB1.out.size; simp; omega))⟩
  · rw [if_neg h1]
    replace HK : Hid (_ = _) := HK.out.trans (if_neg h1)
    clear h1
    by_cases h3 : 0 ≤ atI onesL op
    · rw [if_pos h3]
      have HR : Hid (_ = _) := HK.out.trans (if_pos h3)
      generalize atI onesL op = k3 at *
      go_wp2_with fail
      refine (rightOne_any op b m r n l m2 r2 n2 l2 j _ (HT1.out _)).mono ?_
      rintro e x2 ⟨rfl, hb⟩
      go_wp2
      go_ret
      exact ⟨ret_bool HR.out.symm, (HB1.out.alloc HB1.out.size _).trans (hb.mono (by have := HB1.out.size; simp; omega))⟩
    · rw [if_neg h3]
      replace HK : Hid (_ = _) := HK.out.trans (if_neg h3)
      clear h3
      by_cases h2 : 0 ≤ atI jumpsL op
      · rw [if_pos h2]
        have HR : Hid (_ = _) := HK.out.trans (if_pos h2)
        generalize atI jumpsL op = k2 at *
        go_wp2_with fail
        refine (rightJump_any op b m r n l m2 r2 n2 l2 j _).mono ?_
        rintro e x2 ⟨rfl, hb⟩
        go_wp2
        go_ret
        exact ⟨ret_bool HR.out.symm, (HB1.out.alloc HB1.out.size _).trans (hb.mono (by have := HB1.out.size; simp; omega))⟩
      · rw [if_neg h2]
        have HR : Hid (_ = _) := HK.out.trans (if_neg h2)
        clear h2
        go_wp2
        go_ret
        exact ⟨ret_bool HR.out.symm, HB1.out.alloc HB1.out.size _⟩
end Go.Proofs.YtknielpkmablkaaDoor
