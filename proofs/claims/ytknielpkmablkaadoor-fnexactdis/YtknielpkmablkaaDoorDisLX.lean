/- Taking apart: the answers of Dis and of Listing; Dis of the specification. -/
import Derived.Test.YtknielpkmablkaaDoorRows
import Derived.WalkKit
import Derived.WalkSpells
import Derived.WalkLawsBesides
import Derived.Outline
import Derived.Test.YtknielpkmablkaaDoorBun0
import Derived.Test.YtknielpkmablkaaDoorBun1
import Derived.Test.YtknielpkmablkaaDoorTextOX
import Derived.Test.YtknielpkmablkaaDoorTextTX
import Derived.Test.YtknielpkmablkaaDoorLawInsnTX
import Derived.Test.YtknielpkmablkaaDoorBun42
import Derived.Test.YtknielpkmablkaaDoorBun44
import Derived.Test.YtknielpkmablkaaDoorDisSX
namespace Go.Proofs.YtknielpkmablkaaDoor
open Go.RowKit
set_option linter.unusedVariables false

theorem insT_le {op : ByteArray} {b : Bool} {m r n : Int} {l : Bool} {m2 r2 n2 : Int} {l2 : Bool} {j : Int} (h : insnB op b m r n l m2 r2 n2 l2 j = true) : (insT op b m r n l m2 r2 n2 l2 j).size ≤ 60 := by
  have e1 : ∀ c : UInt8, (⟨#[c]⟩ : ByteArray).size = 1 := fun _ => rfl
  have e2 : ∀ c d : UInt8, (⟨#[c, d]⟩ : ByteArray).size = 2 := fun _ _ => rfl
  unfold insT
  rcases kind_of op b m r n l m2 r2 n2 l2 j h with ⟨h2, a, c⟩ | ⟨h2, h3, hr, a⟩ | ⟨h2, h3, hr, _⟩ | ⟨h2, h3, h4, _, a⟩
  · have q0 := tOp_size op b (at_two h2).2
    have q1 := opd_size m r n l a.2.1.1 a.2.1.2 a.2.2.1 a.2.2.2
    have q2 := opd_size m2 r2 n2 l2 c.2.1.1 c.2.1.2 c.2.2.1 c.2.2.2
    rw [if_pos h2]
    simp only [catL, ByteArray.size_append, ByteArray.size_empty, e1, e2]
    omega
  · have q0 := tOp_size op b (one_size h3)
    have q1 := opd_size m r n l a.2.1.1 a.2.1.2 a.2.2.1 a.2.2.2
    rw [if_neg h2, if_pos h3, if_neg hr]
    simp only [catL, ByteArray.size_append, ByteArray.size_empty, e1]
    omega
  · have q0 := tOp_size op b (one_size h3)
    rw [if_neg h2, if_pos h3, if_pos hr]
    omega
  · have q0 := tOp_size op b (at_jump h4).2.2.2
    have q1 := sgn_size (2 * j + 2) (by omega) (by omega)
    rw [if_neg h2, if_neg h3]
    simp only [catL, ByteArray.size_append, ByteArray.size_empty, e2]
    omega
theorem RowOf.le {L : List Int} {t : ByteArray} {k : Nat} (hw : wordsB L = true) (h : RowOf L t k) : t.size ≤ 60 := by
  rcases h with ⟨i, _, hr, _, _, rfl⟩ | ⟨_, _, x, hx, rfl⟩
  · exact insT_le hr
  · have hb := words_bd hw x (List.mem_of_getElem? hx)
    have := dg_size x (by omega) (by omega)
    have e : wordP.size = 6 := rfl
    rw [ByteArray.size_append]
    omega
theorem IsDis.le : ∀ (rs : List rowE) (at_ : Int) (L : List Int), wordsB L = true → IsDis at_ L rs → ∀ r ∈ rs, r.2.size ≤ 60
  | [], _, _, _, _ => fun r hr => by cases hr
  | q :: rs, at_, L, hw, h => by
    obtain ⟨k, hk, _, hr⟩ := h
    intro r hm
    rcases List.mem_cons.1 hm with rfl | hm
    · exact hk.le hw
    · exact IsDis.le rs _ _ (words_drop hw k) hr r hm
def DisRes (base : Int) (L : List Int) (rs : List rowE) : Prop := (disB base L = true ∧ IsDis base L rs) ∨ (disB base L = false ∧ rs = [])
theorem DisRes.one {base : Int} {L : List Int} {rs rs2 : List rowE} (h : DisRes base L rs) (h2 : DisRes base L rs2) : rs = rs2 := by
  rcases h with ⟨h, g⟩ | ⟨h, rfl⟩ <;> rcases h2 with ⟨h2, g2⟩ | ⟨h2, rfl⟩
  · exact IsDis.one _ _ _ _ g g2
  · rw [h] at h2; cases h2
  · rw [h] at h2; cases h2
  · rfl
theorem disB_parts {base : Int} {L : List Int} (h : disB base L = true) : wordsB L = true ∧ L.length ≤ 400 ∧ 0 ≤ base ∧ base ≤ 65534 := by
  unfold disB at h
  simp only [Bool.and_eq_true, decide_eq_true_eq] at h
  have := base_ok h.2.2
  exact ⟨h.1, h.2.1, this.1, this.2.1⟩
theorem DisRes.len {base : Int} {L : List Int} {rs : List rowE} (h : DisRes base L rs) : rs.length ≤ 400 := by
  rcases h with ⟨h, g⟩ | ⟨h, rfl⟩
  · have := (disB_parts h).2.1
    have := IsDis.len _ _ _ g
    omega
  · simp
theorem DisRes.le {base : Int} {L : List Int} {rs : List rowE} (h : DisRes base L rs) : ∀ r ∈ rs, r.2.size ≤ 60 := by
  rcases h with ⟨h, g⟩ | ⟨h, rfl⟩
  · exact IsDis.le _ _ _ (disB_parts h).1 g
  · intro r hr; cases hr
/- The listing. -/
def listL (rs : List rowE) : List UInt8 := rs.flatMap fun r => r.2.data.toList ++ [10]
def listT (rs : List rowE) : ByteArray := if 4000 < (listL rs).length then ⟨#[]⟩ else ⟨(listL rs).toArray⟩
theorem listL_more (rs : List rowE) (r : rowE) : listL (rs ++ [r]) = listL rs ++ (r.2.data.toList ++ [10]) := by simp [listL]
theorem listL_take (rs : List rowE) (k : Nat) (h : k < rs.length) : listL (rs.take (k + 1)) = listL (rs.take k) ++ (rs[k].2.data.toList ++ [10]) := by
  rw [List.take_succ_eq_append_getElem h, listL_more]
theorem listL_len (rs : List rowE) (h : ∀ r ∈ rs, r.2.size ≤ 60) : (listL rs).length ≤ 61 * rs.length := by
  induction rs with
  | nil => simp [listL]
  | cons r rs ih =>
    have e : listL (r :: rs) = (r.2.data.toList ++ [10]) ++ listL rs := by simp [listL]
    have h1 := h r (List.mem_cons_self ..)
    have h2 := ih fun q hq => h q (List.mem_cons_of_mem _ hq)
    have h3 : r.2.data.toList.length = r.2.size := by simp
    rw [e]
    simp only [List.length_append, List.length_cons, List.length_nil]
    omega
theorem listL_lt (rs : List rowE) (h : ∀ r ∈ rs, r.2.size ≤ 60) (k : Nat) : (listL (rs.take k)).length ≤ 61 * rs.length := by
  have h1 := listL_len (rs.take k) fun r hr => h r (List.mem_of_mem_take hr)
  have h2 : (rs.take k).length ≤ rs.length := by simp; omega
  omega
set_option maxRecDepth 100000 in
set_option maxHeartbeats 1600000 in
theorem specDis_any (a : Option Addr) (L : List Int) (cap : Nat) (base : Int) (w : World) (hR : ReadI w a L) (hl : L.length ≤ 2000000) (hcap : L.length ≤ cap) :
    Calls Tryd.prog 5 #[.slice a L.length cap, .int .i64 base] w fun e w' => ∃ v rs, e = .returned v ∧ OwnX 34 2 rowC w' w.heap.size v rs ∧ DisRes base L rs ∧ Below w.heap.size w w' := by
  have HR : Hid (ReadI w a L) := hR
  clear hR
  go_enter Tryd.func5, Tryd.ntmps5
  go_wp2_with fail
  refine (l06Words_any a L cap base _ HR.out hl).mono ?_
  rintro e w' ⟨rfl, rfl⟩
  cases hd : disB base L
  · have HD : Hid (disB base L = false) := hd
    clear hd
    go_wp2
    go_ret
    exact ⟨_, [], rfl, World.ownsRow_lit _ _ 0 (Nat.le_refl _) (by simp [maxLen]) rfl, .inr ⟨HD.out, rfl⟩, below_new _ _⟩
  · have HD : Hid (disB base L = true) := hd
    obtain ⟨d1, d2, d3, d4⟩ := disB_parts hd
    have HW : Hid (wordsB L = true) := d1
    clear hd d1
    go_wp2_with fail
    refine (l06Dis_any a L cap base _ HR.out d2 hcap HW.out d3 d4).mono ?_
    rintro e w' ⟨v, rs, rfl, ho, hi, hb⟩
    have HO : Hid (OwnX _ _ _ _ _ _ _) := ho
    have HI : Hid (IsDis base L rs) := hi
    have HB : Hid (Below _ _ _) := hb
    clear ho hi hb
    go_wp2
    go_ret
    exact ⟨_, rs, rfl, HO.out, .inl ⟨HD.out, HI.out⟩, HB.out⟩
end Go.Proofs.YtknielpkmablkaaDoor
