/- Where a source stands among sources that rise: the mathematics. -/
import Derived.Test.YtnhehdobpibgkabGreatDoorRows
import Derived.WalkKit
import Derived.Test.YtnhehdobpibgkabGreatDoorBun0
import Derived.Test.YtnhehdobpibgkabGreatDoorSrcRZq
namespace Go.Proofs.YtnhehdobpibgkabGreatDoor
open Go.RowKit
set_option linter.unusedVariables false

theorem less_irr : ∀ x : List UInt8, Op.bytesLess x x = false
  | [] => rfl
  | a :: x => by
    show (decide (a < a) || (a == a && Op.bytesLess x x)) = false
    have h : ¬ a < a := fun k => by have : a.toNat < a.toNat := k; omega
    simp [h, less_irr x]
theorem less_trans : ∀ x y z : List UInt8, Op.bytesLess x y = true → Op.bytesLess y z = true → Op.bytesLess x z = true
  | [], [], z, h, _ => by cases h
  | [], b :: y, [], _, h => by cases h
  | [], b :: y, c :: z, _, _ => rfl
  | a :: x, [], z, h, _ => by cases h
  | a :: x, b :: y, [], _, h => by cases h
  | a :: x, b :: y, c :: z, h, k => by
    have h' : (decide (a < b) || (a == b && Op.bytesLess x y)) = true := h
    have k' : (decide (b < c) || (b == c && Op.bytesLess y z)) = true := k
    show (decide (a < c) || (a == c && Op.bytesLess x z)) = true
    simp only [Bool.or_eq_true, Bool.and_eq_true, decide_eq_true_eq, beq_iff_eq] at h' k' ⊢
    rcases h' with h1 | ⟨rfl, h1⟩ <;> rcases k' with k1 | ⟨rfl, k1⟩
    · have : a.toNat < b.toNat := h1
      have : b.toNat < c.toNat := k1
      exact .inl (show a.toNat < c.toNat by omega)
    · exact .inl h1
    · exact .inl k1
    · exact .inr ⟨rfl, less_trans x y z h1 k1⟩
def Srt (L : List Src) : Prop := ∀ i j (hi : i < j) (hj : j < L.length), upB (L[i]'(by omega)).1 L[j].1 = true
theorem up_trans {a b c : ByteArray} (h : upB a b = true) (k : upB b c = true) : upB a c = true := less_trans _ _ _ h k
theorem up_irr (a : ByteArray) : upB a a = false := less_irr _
theorem srt_of {L : List Src} (h : srcsB L = true) : Srt L := by
  have hall := (of_decide_eq_true h).2
  intro i j hi hj
  induction j with
  | zero => omega
  | succ j ih =>
    have h1 : upB (L[j]'(by omega)).1 L[j + 1].1 = true := by
      have := hall (j + 1) hj
      rw [srcS hj] at this
      simp only [Bool.and_eq_true] at this
      exact this.2
    by_cases e : i = j
    · subst e; exact h1
    · exact up_trans (ih (by omega) (by omega)) h1
/- How many stand ahead of a name, as long as they do. -/
def plcL (L : List Src) (nm : ByteArray) : Nat := (L.takeWhile (fun s => upB s.1 nm)).length
theorem plc_le (L : List Src) (nm : ByteArray) : plcL L nm ≤ L.length := by
  unfold plcL
  exact (List.takeWhile_sublist _).length_le
theorem plc_is : ∀ (L : List Src) (nm : ByteArray) (k : Nat) (hk : k ≤ L.length), (∀ t (h : t < k), upB (L[t]'(by omega)).1 nm = true) → (∀ h : k < L.length, upB L[k].1 nm = false) → plcL L nm = k
  | [], nm, k, hk, _, _ => by
    obtain rfl : k = 0 := by simpa using hk
    rfl
  | a :: L, nm, 0, hk, _, h2 => by
    have := h2 (by simp)
    unfold plcL
    simp only [List.getElem_cons_zero] at this
    rw [List.takeWhile_cons_of_neg (by simp [this])]
    rfl
  | a :: L, nm, k + 1, hk, h1, h2 => by
    have h0 : upB a.1 nm = true := h1 0 (by omega)
    have ih := plc_is L nm k (by simpa using hk) (fun t h => h1 (t + 1) (by omega)) (fun h => h2 (by simp; omega))
    unfold plcL at ih ⊢
    rw [List.takeWhile_cons_of_pos (p := fun s : Src => upB s.1 nm) h0, List.length_cons, ih]
theorem plc_lt : ∀ (L : List Src) (nm : ByteArray) (t : Nat) (h : t < plcL L nm) (h2 : t < L.length), upB L[t].1 nm = true
  | [], nm, t, _, h2 => by simp at h2
  | a :: L, nm, t, h, h2 => by
    unfold plcL at h
    by_cases ha : upB a.1 nm = true
    · rw [List.takeWhile_cons_of_pos (p := fun s : Src => upB s.1 nm) ha, List.length_cons] at h
      cases t with
      | zero => exact ha
      | succ t => exact plc_lt L nm t (by unfold plcL; omega) (by simpa using h2)
    · rw [List.takeWhile_cons_of_neg (p := fun s : Src => upB s.1 nm) ha] at h
      simp at h
def hasL (L : List Src) (nm : ByteArray) : Bool := match L[plcL L nm]? with | none => false | some s => decide (s.1 = nm)
def putR (L : List Src) (s : Src) : List Src := L.take (plcL L s.1) ++ (s :: L.drop (plcL L s.1 + if hasL L s.1 then 1 else 0))
def dropR (L : List Src) (nm : ByteArray) : List Src := L.take (plcL L nm) ++ L.drop (plcL L nm + 1)
theorem has_lt {L : List Src} {nm : ByteArray} (h : hasL L nm = true) : ∃ hl : plcL L nm < L.length, L[plcL L nm].1 = nm := by
  unfold hasL at h
  by_cases hl : plcL L nm < L.length
  · rw [List.getElem?_eq_getElem hl] at h
    exact ⟨hl, of_decide_eq_true h⟩
  · rw [List.getElem?_eq_none (by omega)] at h
    cases h
theorem has_yes {L : List Src} {nm : ByteArray} (hl : plcL L nm < L.length) (e : L[plcL L nm].1 = nm) : hasL L nm = true := by
  unfold hasL
  rw [List.getElem?_eq_getElem hl]
  exact decide_eq_true e
theorem has_end {L : List Src} {nm : ByteArray} (hl : ¬ plcL L nm < L.length) : hasL L nm = false := by
  unfold hasL
  rw [List.getElem?_eq_none (by omega)]
theorem has_no {L : List Src} {nm : ByteArray} (hl : plcL L nm < L.length) (e : ¬ L[plcL L nm].1 = nm) : hasL L nm = false := by
  unfold hasL
  rw [List.getElem?_eq_getElem hl]
  exact decide_eq_false e
/- In sources that rise, the place of a name is the one where it stands. -/
theorem srt_plc {L : List Src} (hS : Srt L) {nm : ByteArray} {k : Nat} (hk : k < L.length) (e : L[k].1 = nm) : plcL L nm = k :=
  plc_is L nm k (by omega) (fun t h => by have := hS t k h hk; rw [e] at this; exact this) (fun _ => by rw [e]; exact up_irr _)
theorem srt_has {L : List Src} (hS : Srt L) {nm : ByteArray} {k : Nat} (hk : k < L.length) (e : L[k].1 = nm) : hasL L nm = true := by
  have := srt_plc hS hk e
  subst this
  exact has_yes hk e
/- The first place of a name. -/
def idxL : List Src → ByteArray → Int
  | [], _ => -1
  | s :: L, nm => if s.1 = nm then 0 else if idxL L nm < 0 then -1 else idxL L nm + 1
theorem idx_bd : ∀ (L : List Src) (nm : ByteArray), -1 ≤ idxL L nm ∧ idxL L nm < L.length
  | [], nm => by simp [idxL]
  | s :: L, nm => by
    have := idx_bd L nm
    unfold idxL
    simp only [List.length_cons]
    split
    · omega
    · split <;> omega
theorem idx_at : ∀ (L : List Src) (nm : ByteArray) (k : Nat) (hk : k < L.length), (∀ t (h : t < k), ¬ (L[t]'(by omega)).1 = nm) → L[k].1 = nm → idxL L nm = k
  | [], nm, k, hk, _, _ => by simp at hk
  | s :: L, nm, 0, hk, _, e => by
    simp only [List.getElem_cons_zero] at e
    unfold idxL
    rw [if_pos e]; rfl
  | s :: L, nm, k + 1, hk, h, e => by
    have h0 : ¬ s.1 = nm := h 0 (by omega)
    have ih := idx_at L nm k (by simpa using hk) (fun t h' => h (t + 1) (by omega)) (by simpa using e)
    unfold idxL
    rw [if_neg h0, ih, if_neg (by omega)]
    omega
theorem idx_no : ∀ (L : List Src) (nm : ByteArray), (∀ t (h : t < L.length), ¬ L[t].1 = nm) → idxL L nm = -1
  | [], nm, _ => rfl
  | s :: L, nm, h => by
    have h0 : ¬ s.1 = nm := h 0 (by simp)
    have ih := idx_no L nm (fun t h' => h (t + 1) (by simpa using h'))
    unfold idxL
    rw [if_neg h0, ih, if_pos (by omega)]
theorem idx_has {L : List Src} (hS : Srt L) (nm : ByteArray) : idxL L nm = if hasL L nm then (plcL L nm : Int) else -1 := by
  cases h : hasL L nm
  · rw [if_neg (by simp)]
    apply idx_no
    intro t ht e
    rw [srt_has hS ht e] at h
    cases h
  · rw [if_pos rfl]
    obtain ⟨hl, e⟩ := has_lt h
    refine idx_at L nm _ hl (fun t ht e2 => ?_) e
    have := srt_plc hS (show t < L.length by omega) e2
    omega
theorem srt_drop {L : List Src} (hS : Srt L) (nm : ByteArray) : Srt (dropR L nm) := by
  have hle := plc_le L nm
  unfold dropR
  generalize plcL L nm = p at *
  have key : ∀ i (h : i < (L.take p ++ L.drop (p + 1)).length), ∃ k, ∃ hk : k < L.length, (L.take p ++ L.drop (p + 1))[i] = L[k] ∧ ((i < p ∧ k = i) ∨ (p ≤ i ∧ k = i + 1)) := by
    intro i h
    simp only [List.length_append, List.length_take, List.length_drop] at h
    by_cases hip : i < p
    · refine ⟨i, by omega, ?_, .inl ⟨hip, rfl⟩⟩
      rw [List.getElem_append_left (by simp; omega), List.getElem_take]
    · refine ⟨i + 1, by omega, ?_, .inr ⟨by omega, rfl⟩⟩
      rw [List.getElem_append_right (by simp; omega), List.getElem_drop]
      congr 1
      simp
      omega
  intro i j hi hj
  obtain ⟨a, ha, ea, ca⟩ := key i (by omega)
  obtain ⟨b, hb, eb, cb⟩ := key j hj
  rw [ea, eb]
  exact hS a b (by omega) hb
theorem put_mem {L : List Src} {s x : Src} (h : x ∈ putR L s) : x = s ∨ x ∈ L := by
  unfold putR at h
  rcases List.mem_append.1 h with h | h
  · exact .inr (List.mem_of_mem_take h)
  · rcases List.mem_cons.1 h with h | h
    · exact .inl h
    · exact .inr (List.mem_of_mem_drop h)
theorem drop_mem {L : List Src} {nm : ByteArray} {x : Src} (h : x ∈ dropR L nm) : x ∈ L := by
  rcases List.mem_append.1 h with h | h
  · exact List.mem_of_mem_take h
  · exact List.mem_of_mem_drop h
theorem put_len (L : List Src) (s : Src) : (putR L s).length ≤ L.length + 1 := by
  have := plc_le L s.1
  unfold putR
  simp only [List.length_append, List.length_take, List.length_cons, List.length_drop]
  omega
theorem drop_len (L : List Src) (nm : ByteArray) : (dropR L nm).length ≤ L.length := by
  have := plc_le L nm
  unfold dropR
  simp only [List.length_append, List.length_take, List.length_drop]
  omega
end Go.Proofs.YtnhehdobpibgkabGreatDoor
