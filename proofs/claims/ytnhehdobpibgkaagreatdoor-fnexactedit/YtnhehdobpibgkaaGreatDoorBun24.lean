/- Where a source stands among sources that rise: the mathematics. -/
import Derived.Test.YtnhehdobpibgkaaGreatDoorRows
import Derived.WalkKit
import Derived.Test.YtnhehdobpibgkaaGreatDoorBun0
import Derived.Test.YtnhehdobpibgkaaGreatDoorSrcRZq
import Derived.WalkSpells
import Derived.WalkLawsBesides
import Derived.Outline
import Derived.RegionTactic
import Derived.BigRegion
import Derived.Deep.QuietTactic
import Derived.BigQuiet
import Derived.Test.YtnhehdobpibgkaaGreatDoorBun1
import Derived.Test.YtnhehdobpibgkaaGreatDoorBun3
import Derived.Test.YtnhehdobpibgkaaGreatDoorBun11
namespace Go.Proofs.YtnhehdobpibgkaaGreatDoor
open Go.RowKit
set_option linter.unusedVariables false

theorem less_irr : ∀ x : List UInt8, Op.bytesLess x x = false
  | [] => rfl
  | a :: x => by
    show (decide (a < a) || (a == a && Op.bytesLess x x)) = false
    have h : ¬ a < a := fun k => by have : a.toNat < a.toNat := k; omega
    simp [h, less_irr x]
theorem less_trans : ∀ x y z : List UInt8, Op.bytesLess x y = true → Op.bytesLess y z = true → Op.bytesLess x z = true
  | [], [], z, h, _ => by cases h
  | [], b :: y, [], _, h => by cases h
  | [], b :: y, c :: z, _, _ => rfl
  | a :: x, [], z, h, _ => by cases h
  | a :: x, b :: y, [], _, h => by cases h
  | a :: x, b :: y, c :: z, h, k => by
    have h' : (decide (a < b) || (a == b && Op.bytesLess x y)) = true := h
    have k' : (decide (b < c) || (b == c && Op.bytesLess y z)) = true := k
    show (decide (a < c) || (a == c && Op.bytesLess x z)) = true
    simp only [Bool.or_eq_true, Bool.and_eq_true, decide_eq_true_eq, beq_iff_eq] at h' k' ⊢
    rcases h' with h1 | ⟨rfl, h1⟩ <;> rcases k' with k1 | ⟨rfl, k1⟩
    · have : a.toNat < b.toNat := h1
      have : b.toNat < c.toNat := k1
      exact .inl (show a.toNat < c.toNat by omega)
    · exact .inl h1
    · exact .inl k1
    · exact .inr ⟨rfl, less_trans x y z h1 k1⟩
def Srt (L : List Src) : Prop := ∀ i j (hi : i < j) (hj : j < L.length), upB (L[i]'(by omega)).1 L[j].1 = true
theorem up_trans {a b c : ByteArray} (h : upB a b = true) (k : upB b c = true) : upB a c = true := less_trans _ _ _ h k
theorem up_irr (a : ByteArray) : upB a a = false := less_irr _
theorem srt_of {L : List Src} (h : srcsB L = true) : Srt L := by
  have hall := (of_decide_eq_true h).2
  intro i j hi hj
  induction j with
  | zero => omega
  | succ j ih =>
    have h1 : upB (L[j]'(by omega)).1 L[j + 1].1 = true := by
      have := hall (j + 1) hj
      rw [srcS hj] at this
      simp only [Bool.and_eq_true] at this
      exact this.2
    by_cases e : i = j
    · subst e; exact h1
    · exact up_trans (ih (by omega) (by omega)) h1
/- How many stand ahead of a name, as long as they do. -/
def plcL (L : List Src) (nm : ByteArray) : Nat := (L.takeWhile (fun s => upB s.1 nm)).length
theorem plc_le (L : List Src) (nm : ByteArray) : plcL L nm ≤ L.length := by
  unfold plcL
  exact (List.takeWhile_sublist _).length_le
theorem plc_is : ∀ (L : List Src) (nm : ByteArray) (k : Nat) (hk : k ≤ L.length), (∀ t (h : t < k), upB (L[t]'(by omega)).1 nm = true) → (∀ h : k < L.length, upB L[k].1 nm = false) → plcL L nm = k
  | [], nm, k, hk, _, _ => by
    obtain rfl : k = 0 := by simpa using hk
    rfl
  | a :: L, nm, 0, hk, _, h2 => by
    have := h2 (by simp)
    unfold plcL
    simp only [List.getElem_cons_zero] at this
    rw [List.takeWhile_cons_of_neg (by simp [this])]
    rfl
  | a :: L, nm, k + 1, hk, h1, h2 => by
    have h0 : upB a.1 nm = true := h1 0 (by omega)
    have ih := plc_is L nm k (by simpa using hk) (fun t h => h1 (t + 1) (by omega)) (fun h => h2 (by simp; omega))
    unfold plcL at ih ⊢
    rw [List.takeWhile_cons_of_pos (p := fun s : Src => upB s.1 nm) h0, List.length_cons, ih]
theorem plc_lt : ∀ (L : List Src) (nm : ByteArray) (t : Nat) (h : t < plcL L nm) (h2 : t < L.length), upB L[t].1 nm = true
  | [], nm, t, _, h2 => by simp at h2
  | a :: L, nm, t, h, h2 => by
    unfold plcL at h
    by_cases ha : upB a.1 nm = true
    · rw [List.takeWhile_cons_of_pos (p := fun s : Src => upB s.1 nm) ha, List.length_cons] at h
      cases t with
      | zero => exact ha
      | succ t => exact plc_lt L nm t (by unfold plcL; omega) (by simpa using h2)
    · rw [List.takeWhile_cons_of_neg (p := fun s : Src => upB s.1 nm) ha] at h
      simp at h
def hasL (L : List Src) (nm : ByteArray) : Bool := match L[plcL L nm]? with | none => false | some s => decide (s.1 = nm)
def putR (L : List Src) (s : Src) : List Src := L.take (plcL L s.1) ++ (s :: L.drop (plcL L s.1 + if hasL L s.1 then 1 else 0))
def dropR (L : List Src) (nm : ByteArray) : List Src := L.take (plcL L nm) ++ L.drop (plcL L nm + 1)
theorem has_lt {L : List Src} {nm : ByteArray} (h : hasL L nm = true) : ∃ hl : plcL L nm < L.length, L[plcL L nm].1 = nm := by
  unfold hasL at h
  by_cases hl : plcL L nm < L.length
  · rw [List.getElem?_eq_getElem hl] at h
    exact ⟨hl, of_decide_eq_true h⟩
  · rw [List.getElem?_eq_none (by omega)] at h
    cases h
theorem has_yes {L : List Src} {nm : ByteArray} (hl : plcL L nm < L.length) (e : L[plcL L nm].1 = nm) : hasL L nm = true := by
  unfold hasL
  rw [List.getElem?_eq_getElem hl]
  exact decide_eq_true e
theorem has_end {L : List Src} {nm : ByteArray} (hl : ¬ plcL L nm < L.length) : hasL L nm = false := by
  unfold hasL
  rw [List.getElem?_eq_none (by omega)]
theorem has_no {L : List Src} {nm : ByteArray} (hl : plcL L nm < L.length) (e : ¬ L[plcL L nm].1 = nm) : hasL L nm = false := by
  unfold hasL
  rw [List.getElem?_eq_getElem hl]
  exact decide_eq_false e
/- In sources that rise, the place of a name is the one where it stands. -/
theorem srt_plc {L : List Src} (hS : Srt L) {nm : ByteArray} {k : Nat} (hk : k < L.length) (e : L[k].1 = nm) : plcL L nm = k :=
  plc_is L nm k (by omega) (fun t h => by have := hS t k h hk; rw [e] at this; exact this) (fun _ => by rw [e]; exact up_irr _)
theorem srt_has {L : List Src} (hS : Srt L) {nm : ByteArray} {k : Nat} (hk : k < L.length) (e : L[k].1 = nm) : hasL L nm = true := by
  have := srt_plc hS hk e
  subst this
  exact has_yes hk e
/- The first place of a name. -/
def idxL : List Src → ByteArray → Int
  | [], _ => -1
  | s :: L, nm => if s.1 = nm then 0 else if idxL L nm < 0 then -1 else idxL L nm + 1
theorem idx_bd : ∀ (L : List Src) (nm : ByteArray), -1 ≤ idxL L nm ∧ idxL L nm < L.length
  | [], nm => by simp [idxL]
  | s :: L, nm => by
    have := idx_bd L nm
    unfold idxL
    simp only [List.length_cons]
    split
    · omega
    · split <;> omega
theorem idx_at : ∀ (L : List Src) (nm : ByteArray) (k : Nat) (hk : k < L.length), (∀ t (h : t < k), ¬ (L[t]'(by omega)).1 = nm) → L[k].1 = nm → idxL L nm = k
  | [], nm, k, hk, _, _ => by simp at hk
  | s :: L, nm, 0, hk, _, e => by
    simp only [List.getElem_cons_zero] at e
    unfold idxL
    rw [if_pos e]; rfl
  | s :: L, nm, k + 1, hk, h, e => by
    have h0 : ¬ s.1 = nm := h 0 (by omega)
    have ih := idx_at L nm k (by simpa using hk) (fun t h' => h (t + 1) (by omega)) (by simpa using e)
    unfold idxL
    rw [if_neg h0, ih, if_neg (by omega)]
    omega
theorem idx_no : ∀ (L : List Src) (nm : ByteArray), (∀ t (h : t < L.length), ¬ L[t].1 = nm) → idxL L nm = -1
  | [], nm, _ => rfl
  | s :: L, nm, h => by
    have h0 : ¬ s.1 = nm := h 0 (by simp)
    have ih := idx_no L nm (fun t h' => h (t + 1) (by simpa using h'))
    unfold idxL
    rw [if_neg h0, ih, if_pos (by omega)]
theorem idx_has {L : List Src} (hS : Srt L) (nm : ByteArray) : idxL L nm = if hasL L nm then (plcL L nm : Int) else -1 := by
  cases h : hasL L nm
  · rw [if_neg (by simp)]
    apply idx_no
    intro t ht e
    rw [srt_has hS ht e] at h
    cases h
  · rw [if_pos rfl]
    obtain ⟨hl, e⟩ := has_lt h
    refine idx_at L nm _ hl (fun t ht e2 => ?_) e
    have := srt_plc hS (show t < L.length by omega) e2
    omega
theorem srt_drop {L : List Src} (hS : Srt L) (nm : ByteArray) : Srt (dropR L nm) := by
  have hle := plc_le L nm
  unfold dropR
  generalize plcL L nm = p at *
  have key : ∀ i (h : i < (L.take p ++ L.drop (p + 1)).length), ∃ k, ∃ hk : k < L.length, (L.take p ++ L.drop (p + 1))[i] = L[k] ∧ ((i < p ∧ k = i) ∨ (p ≤ i ∧ k = i + 1)) := by
    intro i h
    simp only [List.length_append, List.length_take, List.length_drop] at h
    by_cases hip : i < p
    · refine ⟨i, by omega, ?_, .inl ⟨hip, rfl⟩⟩
      rw [List.getElem_append_left (by simp; omega), List.getElem_take]
    · refine ⟨i + 1, by omega, ?_, .inr ⟨by omega, rfl⟩⟩
      rw [List.getElem_append_right (by simp; omega), List.getElem_drop]
      congr 1
      simp
      omega
  intro i j hi hj
  obtain ⟨a, ha, ea, ca⟩ := key i (by omega)
  obtain ⟨b, hb, eb, cb⟩ := key j hj
  rw [ea, eb]
  exact hS a b (by omega) hb
theorem put_mem {L : List Src} {s x : Src} (h : x ∈ putR L s) : x = s ∨ x ∈ L := by
  unfold putR at h
  rcases List.mem_append.1 h with h | h
  · exact .inr (List.mem_of_mem_take h)
  · rcases List.mem_cons.1 h with h | h
    · exact .inl h
    · exact .inr (List.mem_of_mem_drop h)
theorem drop_mem {L : List Src} {nm : ByteArray} {x : Src} (h : x ∈ dropR L nm) : x ∈ L := by
  rcases List.mem_append.1 h with h | h
  · exact List.mem_of_mem_take h
  · exact List.mem_of_mem_drop h
theorem put_len (L : List Src) (s : Src) : (putR L s).length ≤ L.length + 1 := by
  have := plc_le L s.1
  unfold putR
  simp only [List.length_append, List.length_take, List.length_cons, List.length_drop]
  omega
theorem drop_len (L : List Src) (nm : ByteArray) : (dropR L nm).length ≤ L.length := by
  have := plc_le L nm
  unfold dropR
  simp only [List.length_append, List.length_take, List.length_drop]
  omega
end Go.Proofs.YtnhehdobpibgkaaGreatDoor
namespace Go.Proofs.YtnhehdobpibgkaaGreatDoor
open Go.RowKit
set_option linter.unusedVariables false

set_option maxRecDepth 100000 in
set_option maxHeartbeats 1600000 in
theorem l04Source_any (a : Option Addr) (L : List Src) (cap : Nat) (nm : ByteArray) (w : World) (hR : RowIs 2 srcC w a L) (hl : L.length ≤ 2000000) : Calls Tryz.prog 34 #[.slice a L.length cap, .string nm] w fun e w' => e = .returned (.int .i64 (idxL L nm)) ∧ Below w.heap.size w w' := by
  have HR : Hid (RowIs 2 srcC w a L) := hR
  clear hR
  go_enter Tryz.func34, Tryz.ntmps34
  go_wp2
  go_loopw [5] (fun i wr => ∃ k : Nat, k ≤ L.length ∧ i = .int .i64 k ∧ Hid (∀ t (h : t < k) (h2 : t < L.length), ¬ L[t].1 = nm) ∧ Hid (Below w.heap.size w wr)) (fun i _ => L.length - (intOf i).toNat)
  case atStart => exact ⟨0, by omega, rfl, fun t h => by omega, Below.refl _ _⟩
  case round =>
    obtain ⟨k, hk, rfl, HF, HB⟩ := hrel
    by_cases hlt : k < L.length
    · obtain ⟨x, rfl, hx, hE⟩ := (HR.out.below HB.out).elem k hlt
      obtain ⟨c0, c1⟩ := ElemAt.two hE
      have hi0 : (0 : Int) ≤ (k : Int) := by omega
      have hi1 : (k : Int) < (L.length : Int) := by omega
      clear hE c1
      by_cases e : L[k].1 = nm
      · have HX : Hid (idxL L nm = k) := idx_at L nm k hlt (fun t h => HF.out t h (by omega)) e
        rw [e] at c0
        have ht : (nm.toList == nm.toList) = true := by simp
        clear e
        go_wp2
        go_ret
        exact ⟨ret_int HX.out.symm, HB.out⟩
      · have HX : Hid (∀ t (h : t < k + 1) (h2 : t < L.length), ¬ L[t].1 = nm) := fun t h h2 => by
          by_cases e2 : t = k
          · subst e2; exact e
          · exact HF.out t (by omega) h2
        have ht := textS_ne e
        clear e
        generalize L[k].1 = s at *
        go_wp2
        go_roundw
        case rel => exact ⟨k + 1, by omega, by go_num, HX.out, HB.out⟩
        case measure => simp [intOf]; omega
    · have HX : Hid (idxL L nm = -1) := idx_no L nm (fun t h => HF.out t (by omega) h)
      go_wp2
      go_ret
      exact ⟨ret_int HX.out.symm, HB.out⟩
end Go.Proofs.YtnhehdobpibgkaaGreatDoor
namespace Go.Proofs.YtnhehdobpibgkaaGreatDoor
open Go.RowKit
set_option linter.unusedVariables false

abbrev OwnR (w : World) (B : Nat) (v : Value) (L : List Src) : Prop := OwnX 74 2 srcC w B v L
theorem RowIs.take {α : Type} {n : Nat} {c : α → List Value} {w : World} {a : Option Addr} {L : List α} (h : RowIs n c w a L) (k : Nat) : RowIs n c w a (L.take k) := fun hl => by
  have hl' : 0 < L.length := by rw [List.length_take] at hl; omega
  obtain ⟨x, hx, hb, hc⟩ := h hl'
  refine ⟨x, hx, hb, fun i hi j v hv => ?_⟩
  rw [List.length_take] at hi
  rw [List.getElem_take] at hv
  exact hc i (by omega) j v hv
theorem add_addX (x : Addr) (i j : Nat) : (x.add i).add j = x.add (i + j) := by
  cases x with
  | mk b o m =>
    unfold Addr.add
    split <;> split <;> simp_all <;> omega
theorem RowIs.drop {α : Type} {n : Nat} {c : α → List Value} {w : World} {x : Addr} {L : List α} (h : RowIs n c w (some x) L) (k : Nat) : RowIs n c w (some (x.add (k * n))) (L.drop k) := fun hl => by
  rw [List.length_drop] at hl
  obtain ⟨y, hx, hb, hc⟩ := h (by omega)
  cases hx
  refine ⟨_, rfl, by rw [add_blockX]; exact hb, fun i hi j v hv => ?_⟩
  rw [List.length_drop] at hi
  rw [List.getElem_drop] at hv
  have := hc (k + i) (by omega) j v hv
  rw [add_addX, show k * n + (i * n + j) = (k + i) * n + j by rw [Nat.add_mul]; omega]
  exact this
theorem RowIs.nil {α : Type} {n : Nat} {c : α → List Value} {w : World} {a : Option Addr} : RowIs n c w a ([] : List α) := fun h => by simp at h
theorem one_cellR (M : List Src) : ∀ u ∈ M.flatMap srcC, u.oneCell' = true := by
  intro u hu
  obtain ⟨s, _, hs⟩ := List.mem_flatMap.1 hu
  rcases List.mem_cons.1 hs with rfl | hs
  · rfl
  · rcases List.mem_cons.1 hs with rfl | hs
    · rfl
    · cases hs
theorem append_srcs {w : World} {B : Nat} {v : Value} {L M : List Src} {a : Option Addr} {n cap : Nat} (t : TypeId) (ht : Tryz.prog.underlying t = some (.slice 74)) (h : OwnR w B v L) (hM : RowIs 2 srcC w a M) (hn : a = none → cap = 0) (hln : M.length = n) (hl : L.length ≤ 1000000) (hm : M.length ≤ 1000000) (hB : B ≤ w.heap.size) (ty : TypeId) :
    ∃ v' w', (Builtin.append_ #[t, t] ty #[v, .slice a n cap]).run Tryz.prog w = .ok v' w' ∧ OwnR w' B v' (L ++ M) ∧ w.grownBy w' v.ownBlock := by
  subst hln
  obtain ⟨i0, hi, hz0, hz1, hz2⟩ := info_parts infoSrc
  have hlen : (M.flatMap srcC).length = M.length * 2 := flat_len 2 srcC srcC_len M
  cases a with
  | none =>
    obtain rfl : M = [] := by
      cases M with
      | nil => rfl
      | cons s M => obtain ⟨x, hx, _⟩ := hM (by simp); cases hx
    obtain rfl := hn rfl
    refine ⟨v, w, run_append_owned_none w B t ty 74 i0 2 ht hi v L.length (L.flatMap srcC) h, by simpa using h, ?_⟩
    exact ⟨rfl, rfl, rfl, Nat.le_refl _, fun _ _ _ => rfl⟩
  | some x =>
    obtain ⟨v', w', e, h8, h9, _⟩ := run_append_own (P := Tryz.prog) w B t ty 74 i0 (.agg #[.string ⟨#[]⟩, .string ⟨#[]⟩]) 2 32 ht hi hz0 hz1 hz2 rfl (by decide) v L.length (L.flatMap srcC) h x M.length cap (M.flatMap srcC) hlen (fun j u hj => by
      have hjl : j < M.length * 2 := by have := (List.getElem?_eq_some_iff.1 hj).1; omega
      obtain ⟨y, hy, _, hc⟩ := hM (by omega)
      cases hy
      have hdm : j = j / 2 * 2 + j % 2 := by omega
      have hf := flat_get 2 srcC srcC_len M (j / 2) (j % 2) (by omega) (by omega)
      rw [← hdm, hj] at hf
      have := hc (j / 2) (by omega) (j % 2) u hf.symm
      rw [← hdm] at this
      exact this) (one_cellR M) (by unfold maxLen; omega) (by omega) hB
    refine ⟨v', w', e, ?_, h9⟩
    show World.ownsRow _ _ _ _ _ _ _
    rw [List.length_append, List.flatMap_append]
    exact h8
theorem own_empty {W : World} {N B : Nat} (h : W.heap.size = N) (hB : B ≤ N) : OwnR (W.alloc (.cells #[] 74)) B (.slice (some ⟨N, 0, none⟩) 0 0) [] := by
  subst h
  exact World.ownsRow_made W #[] 0 hB (Nat.zero_le _) rfl
theorem new_src {W : World} {N : Nat} (h : W.heap.size = N) (s : Src) : RowIs 2 srcC (W.alloc (.cells #[.string s.1, .string s.2] 74)) (some ⟨N, 0, none⟩) [s] := by
  subst h
  exact made_rowIs srcC_len (t := 74) (heap_alloc_new W _)
theorem OwnX.rows {α : Type} {T : TypeId} {n : Nat} {c : α → List Value} {w : World} {B : Nat} {v : Value} {L : List α} (hc : ∀ a, (c a).length = n) (h : OwnX T n c w B v L) : ∃ a cap, v = .slice a L.length cap ∧ RowIs n c w a L ∧ (a = none → cap = 0) ∧ L.length ≤ cap ∧ cap ≤ maxLen := by
  obtain ⟨a, cap, rfl, hR⟩ := h.is hc
  refine ⟨a, cap, rfl, hR, ?_⟩
  rcases h.form with ⟨e, rfl⟩ | ⟨g, cap', cur, e, _, _, h4, h5, _, _⟩
  · cases e
    exact ⟨fun _ => rfl, Nat.le_refl _, by unfold maxLen; omega⟩
  · cases e
    exact ⟨fun h => (by cases h), h4, h5⟩
theorem cut_tail {w : World} {x : Addr} {L : List Src} {cap k : Nat} (t : TypeId) (ht : Tryz.prog.underlying t = some (.slice 74)) (hR : RowIs 2 srcC w (some x) L) (hk : k ≤ L.length) (hcap : L.length ≤ cap) (hm : cap ≤ maxLen) (j : Int) (hj : j = (k : Int)) :
    ∃ y, (∀ W, (Instr.slice t (.slice (some x) L.length cap) (some (.int .i64 j)) none none).run Tryz.prog W = .ok (.slice (some y) (L.length - k) (cap - k)) W) ∧ RowIs 2 srcC w (some y) (L.drop k) := by
  subst hj
  obtain ⟨i0, hi, hz0, hz1, hz2⟩ := info_parts infoSrc
  unfold maxLen at hm
  have e1 : ¬ ((L.length : Int) < 0 ∨ (cap : Int) < (L.length : Int)) := by omega
  have e2 : ¬ ((k : Int) < 0 ∨ (L.length : Int) < (k : Int)) := by omega
  by_cases hkc : k = cap
  · have hL : L.drop k = [] := List.drop_eq_nil_of_le (by omega)
    refine ⟨x, fun W => ?_, by rw [hL]; exact RowIs.nil⟩
    simp [go_sem, ht, sizeOf, typeInfo, hi, hz1, hkc]
    omega
  · refine ⟨x.add (k * 2), fun W => ?_, hR.drop k⟩
    simp [go_sem, ht, sizeOf, typeInfo, hi, hz1]
    rw [if_pos hk, if_neg (by omega)]
theorem cut_front {x : Addr} {n cap k : Nat} (t : TypeId) (ht : Tryz.prog.underlying t = some (.slice 74)) (hk : k ≤ n) (hcap : n ≤ cap) (hm : cap ≤ maxLen) (W : World) :
    (Instr.slice t (.slice (some x) n cap) none (some (.int .i64 (k : Int))) none).run Tryz.prog W = .ok (.slice (some x) k cap) W := by
  obtain ⟨i0, hi, hz0, hz1, hz2⟩ := info_parts infoSrc
  unfold maxLen at hm
  have e1 : k ≤ cap := by omega
  simp [go_sem, ht, sizeOf, typeInfo, hi, hz1, e1]
end Go.Proofs.YtnhehdobpibgkaaGreatDoor
