/- Where a source stands: by the specification. -/
import Derived.Test.YtnhehdobpibgkabGreatDoorRows
import Derived.WalkKit
import Derived.WalkSpells
import Derived.WalkLawsBesides
import Derived.Outline
import Derived.RegionTactic
import Derived.BigRegion
import Derived.Deep.QuietTactic
import Derived.BigQuiet
import Derived.Test.YtnhehdobpibgkabGreatDoorBun0
import Derived.Test.YtnhehdobpibgkabGreatDoorBun1
import Derived.Test.YtnhehdobpibgkabGreatDoorBun3
import Derived.Test.YtnhehdobpibgkabGreatDoorBun2
import Derived.Test.YtnhehdobpibgkabGreatDoorStM0Zq
import Derived.Test.YtnhehdobpibgkabGreatDoorBun5
import Derived.Test.YtnhehdobpibgkabGreatDoorBun10
namespace Go.Proofs.YtnhehdobpibgkabGreatDoor
open Go.RowKit
set_option linter.unusedVariables false

set_option maxRecDepth 100000 in
set_option maxHeartbeats 1600000 in
theorem l04Source_any (a : Option Addr) (L : List Src) (cap : Nat) (nm : ByteArray) (w : World) (hR : RowIs 2 srcC w a L) (hl : L.length ≤ 2000000) : Calls Tryz.prog 23 #[.slice a L.length cap, .string nm] w fun e w' => e = .returned (.int .i64 (idxL L nm)) ∧ Below w.heap.size w w' := by
  have HR : Hid (RowIs 2 srcC w a L) := hR
  clear hR
  go_enter Tryz.func23, Tryz.ntmps23
  go_wp2
  go_loopw [5] (fun i wr => ∃ k : Nat, k ≤ L.length ∧ i = .int .i64 k ∧ Hid (∀ t (h : t < k) (h2 : t < L.length), ¬ L[t].1 = nm) ∧ Hid (Below w.heap.size w wr)) (fun i _ => L.length - (intOf i).toNat)
  case atStart => exact ⟨0, by omega, rfl, fun t h => by omega, Below.refl _ _⟩
  case round =>
    obtain ⟨k, hk, rfl, HF, HB⟩ := hrel
    by_cases hlt : k < L.length
    · obtain ⟨x, rfl, hx, hE⟩ := (HR.out.below HB.out).elem k hlt
      obtain ⟨c0, c1⟩ := ElemAt.two hE
      have hi0 : (0 : Int) ≤ (k : Int) := by omega
      have hi1 : (k : Int) < (L.length : Int) := by omega
      clear hE c1
      by_cases e : L[k].1 = nm
      · have HX : Hid (idxL L nm = k) := idx_at L nm k hlt (fun t h => HF.out t h (by omega)) e
        rw [e] at c0
        have ht : (nm.toList == nm.toList) = true := by simp
        clear e
        go_wp2
        go_ret
        exact ⟨ret_int HX.out.symm, HB.out⟩
      · have HX : Hid (∀ t (h : t < k + 1) (h2 : t < L.length), ¬ L[t].1 = nm) := fun t h h2 => by
          by_cases e2 : t = k
          · subst e2; exact e
          · exact HF.out t (by omega) h2
        have ht := textS_ne e
        clear e
        generalize L[k].1 = s at *
        go_wp2
        go_roundw
        case rel => exact ⟨k + 1, by omega, by go_num, HX.out, HB.out⟩
        case measure => simp [intOf]; omega
    · have HX : Hid (idxL L nm = -1) := idx_no L nm (fun t h => HF.out t (by omega) h)
      go_wp2
      go_ret
      exact ⟨ret_int HX.out.symm, HB.out⟩
end Go.Proofs.YtnhehdobpibgkabGreatDoor
namespace Go.Proofs.YtnhehdobpibgkabGreatDoor
open Go.RowKit
set_option linter.unusedVariables false

abbrev OwnR (w : World) (B : Nat) (v : Value) (L : List Src) : Prop := OwnX 53 2 srcC w B v L
theorem RowIs.take {α : Type} {n : Nat} {c : α → List Value} {w : World} {a : Option Addr} {L : List α} (h : RowIs n c w a L) (k : Nat) : RowIs n c w a (L.take k) := fun hl => by
  have hl' : 0 < L.length := by rw [List.length_take] at hl; omega
  obtain ⟨x, hx, hb, hc⟩ := h hl'
  refine ⟨x, hx, hb, fun i hi j v hv => ?_⟩
  rw [List.length_take] at hi
  rw [List.getElem_take] at hv
  exact hc i (by omega) j v hv
theorem add_addX (x : Addr) (i j : Nat) : (x.add i).add j = x.add (i + j) := by
  cases x with
  | mk b o m =>
    unfold Addr.add
    split <;> split <;> simp_all <;> omega
theorem RowIs.drop {α : Type} {n : Nat} {c : α → List Value} {w : World} {x : Addr} {L : List α} (h : RowIs n c w (some x) L) (k : Nat) : RowIs n c w (some (x.add (k * n))) (L.drop k) := fun hl => by
  rw [List.length_drop] at hl
  obtain ⟨y, hx, hb, hc⟩ := h (by omega)
  cases hx
  refine ⟨_, rfl, by rw [add_blockX]; exact hb, fun i hi j v hv => ?_⟩
  rw [List.length_drop] at hi
  rw [List.getElem_drop] at hv
  have := hc (k + i) (by omega) j v hv
  rw [add_addX, show k * n + (i * n + j) = (k + i) * n + j by rw [Nat.add_mul]; omega]
  exact this
theorem RowIs.nil {α : Type} {n : Nat} {c : α → List Value} {w : World} {a : Option Addr} : RowIs n c w a ([] : List α) := fun h => by simp at h
theorem one_cellR (M : List Src) : ∀ u ∈ M.flatMap srcC, u.oneCell' = true := by
  intro u hu
  obtain ⟨s, _, hs⟩ := List.mem_flatMap.1 hu
  rcases List.mem_cons.1 hs with rfl | hs
  · rfl
  · rcases List.mem_cons.1 hs with rfl | hs
    · rfl
    · cases hs
theorem append_srcs {w : World} {B : Nat} {v : Value} {L M : List Src} {a : Option Addr} {n cap : Nat} (t : TypeId) (ht : Tryz.prog.underlying t = some (.slice 53)) (h : OwnR w B v L) (hM : RowIs 2 srcC w a M) (hn : a = none → cap = 0) (hln : M.length = n) (hl : L.length ≤ 1000000) (hm : M.length ≤ 1000000) (hB : B ≤ w.heap.size) (ty : TypeId) :
    ∃ v' w', (Builtin.append_ #[t, t] ty #[v, .slice a n cap]).run Tryz.prog w = .ok v' w' ∧ OwnR w' B v' (L ++ M) ∧ w.grownBy w' v.ownBlock := by
  subst hln
  obtain ⟨i0, hi, hz0, hz1, hz2⟩ := info_parts infoSrc
  have hlen : (M.flatMap srcC).length = M.length * 2 := flat_len 2 srcC srcC_len M
  cases a with
  | none =>
    obtain rfl : M = [] := by
      cases M with
      | nil => rfl
      | cons s M => obtain ⟨x, hx, _⟩ := hM (by simp); cases hx
    obtain rfl := hn rfl
    refine ⟨v, w, run_append_owned_none w B t ty 53 i0 2 ht hi v L.length (L.flatMap srcC) h, by simpa using h, ?_⟩
    exact ⟨rfl, rfl, rfl, Nat.le_refl _, fun _ _ _ => rfl⟩
  | some x =>
    obtain ⟨v', w', e, h8, h9, _⟩ := run_append_own (P := Tryz.prog) w B t ty 53 i0 (.agg #[.string ⟨#[]⟩, .string ⟨#[]⟩]) 2 32 ht hi hz0 hz1 hz2 rfl (by decide) v L.length (L.flatMap srcC) h x M.length cap (M.flatMap srcC) hlen (fun j u hj => by
      have hjl : j < M.length * 2 := by have := (List.getElem?_eq_some_iff.1 hj).1; omega
      obtain ⟨y, hy, _, hc⟩ := hM (by omega)
      cases hy
      have hdm : j = j / 2 * 2 + j % 2 := by omega
      have hf := flat_get 2 srcC srcC_len M (j / 2) (j % 2) (by omega) (by omega)
      rw [← hdm, hj] at hf
      have := hc (j / 2) (by omega) (j % 2) u hf.symm
      rw [← hdm] at this
      exact this) (one_cellR M) (by unfold maxLen; omega) (by omega) hB
    refine ⟨v', w', e, ?_, h9⟩
    show World.ownsRow _ _ _ _ _ _ _
    rw [List.length_append, List.flatMap_append]
    exact h8
theorem own_empty {W : World} {N B : Nat} (h : W.heap.size = N) (hB : B ≤ N) : OwnR (W.alloc (.cells #[] 53)) B (.slice (some ⟨N, 0, none⟩) 0 0) [] := by
  subst h
  exact World.ownsRow_made W #[] 0 hB (Nat.zero_le _) rfl
theorem new_src {W : World} {N : Nat} (h : W.heap.size = N) (s : Src) : RowIs 2 srcC (W.alloc (.cells #[.string s.1, .string s.2] 53)) (some ⟨N, 0, none⟩) [s] := by
  subst h
  exact made_rowIs srcC_len (t := 53) (heap_alloc_new W _)
theorem OwnX.rows {α : Type} {T : TypeId} {n : Nat} {c : α → List Value} {w : World} {B : Nat} {v : Value} {L : List α} (hc : ∀ a, (c a).length = n) (h : OwnX T n c w B v L) : ∃ a cap, v = .slice a L.length cap ∧ RowIs n c w a L ∧ (a = none → cap = 0) ∧ L.length ≤ cap ∧ cap ≤ maxLen := by
  obtain ⟨a, cap, rfl, hR⟩ := h.is hc
  refine ⟨a, cap, rfl, hR, ?_⟩
  rcases h.form with ⟨e, rfl⟩ | ⟨g, cap', cur, e, _, _, h4, h5, _, _⟩
  · cases e
    exact ⟨fun _ => rfl, Nat.le_refl _, by unfold maxLen; omega⟩
  · cases e
    exact ⟨fun h => (by cases h), h4, h5⟩
theorem cut_tail {w : World} {x : Addr} {L : List Src} {cap k : Nat} (t : TypeId) (ht : Tryz.prog.underlying t = some (.slice 53)) (hR : RowIs 2 srcC w (some x) L) (hk : k ≤ L.length) (hcap : L.length ≤ cap) (hm : cap ≤ maxLen) (j : Int) (hj : j = (k : Int)) :
    ∃ y, (∀ W, (Instr.slice t (.slice (some x) L.length cap) (some (.int .i64 j)) none none).run Tryz.prog W = .ok (.slice (some y) (L.length - k) (cap - k)) W) ∧ RowIs 2 srcC w (some y) (L.drop k) := by
  subst hj
  obtain ⟨i0, hi, hz0, hz1, hz2⟩ := info_parts infoSrc
  unfold maxLen at hm
  have e1 : ¬ ((L.length : Int) < 0 ∨ (cap : Int) < (L.length : Int)) := by omega
  have e2 : ¬ ((k : Int) < 0 ∨ (L.length : Int) < (k : Int)) := by omega
  by_cases hkc : k = cap
  · have hL : L.drop k = [] := List.drop_eq_nil_of_le (by omega)
    refine ⟨x, fun W => ?_, by rw [hL]; exact RowIs.nil⟩
    simp [go_sem, ht, sizeOf, typeInfo, hi, hz1, hkc]
    omega
  · refine ⟨x.add (k * 2), fun W => ?_, hR.drop k⟩
    simp [go_sem, ht, sizeOf, typeInfo, hi, hz1]
    rw [if_pos hk, if_neg (by omega)]
theorem cut_front {x : Addr} {n cap k : Nat} (t : TypeId) (ht : Tryz.prog.underlying t = some (.slice 53)) (hk : k ≤ n) (hcap : n ≤ cap) (hm : cap ≤ maxLen) (W : World) :
    (Instr.slice t (.slice (some x) n cap) none (some (.int .i64 (k : Int))) none).run Tryz.prog W = .ok (.slice (some x) k cap) W := by
  obtain ⟨i0, hi, hz0, hz1, hz2⟩ := info_parts infoSrc
  unfold maxLen at hm
  have e1 : k ≤ cap := by omega
  simp [go_sem, ht, sizeOf, typeInfo, hi, hz1, e1]
end Go.Proofs.YtnhehdobpibgkabGreatDoor
