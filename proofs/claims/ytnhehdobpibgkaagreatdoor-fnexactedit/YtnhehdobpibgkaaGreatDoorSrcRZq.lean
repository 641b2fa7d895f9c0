/- SourcesRight, by the specification and by the program. -/
import Derived.Test.YtnhehdobpibgkaaGreatDoorRows
import Derived.WalkKit
import Derived.WalkSpells
import Derived.WalkLawsBesides
import Derived.Outline
import Derived.Laws.Cover1
import Derived.RegionTactic
import Derived.BigRegion
import Derived.Deep.QuietTactic
import Derived.BigQuiet
import Derived.Deep.RegionHeld3
import Derived.Test.YtnhehdobpibgkaaGreatDoorBun0
import Derived.Test.YtnhehdobpibgkaaGreatDoorBun22
import Derived.Test.YtnhehdobpibgkaaGreatDoorBun1
import Derived.Test.YtnhehdobpibgkaaGreatDoorBun3
namespace Go.Proofs.YtnhehdobpibgkaaGreatDoor
open Go.RowKit
set_option linter.unusedVariables false

theorem less_tri : ∀ (x y : List UInt8), (Op.bytesLess x y || x == y) = !Op.bytesLess y x
  | [], [] => rfl
  | [], b :: y => rfl
  | a :: x, [] => rfl
  | a :: x, b :: y => by
    have ih := less_tri x y
    show ((decide (a < b) || (a == b && Op.bytesLess x y)) || (a :: x) == (b :: y)) = !(decide (b < a) || (b == a && Op.bytesLess y x))
    rw [List.cons_beq_cons]
    rcases Nat.lt_trichotomy a.toNat b.toNat with h | h | h
    · have h1 : a < b := h
      have h2 : ¬ b < a := fun k => by have : b.toNat < a.toNat := k; omega
      have h3 : (b == a) = false := by rw [beq_eq_false_iff_ne]; rintro rfl; omega
      simp [h1, h2, h3]
    · obtain rfl : a = b := UInt8.toNat_inj.1 h
      have h1 : ¬ a < a := fun k => by have : a.toNat < a.toNat := k; omega
      simp only [h1, decide_false, Bool.false_or, beq_self_eq_true, Bool.true_and]
      exact ih
    · have h1 : b < a := h
      have h2 : ¬ a < b := fun k => by have : a.toNat < b.toNat := k; omega
      have h3 : (a == b) = false := by rw [beq_eq_false_iff_ne]; rintro rfl; omega
      simp [h1, h2, h3]
def upB (p q : ByteArray) : Bool := Op.bytesLess p.toList q.toList
/- Is the source at place k right, and behind the one ahead of it? -/
def srcOk (L : List Src) (k : Nat) : Bool := match L[k]? with | none => true | some s => nameB s.1 && decide (s.2.size ≤ 4000) && (match k with | 0 => true | j + 1 => match L[j]? with | none => true | some p => upB p.1 s.1)
def srcsB (L : List Src) : Bool := decide (L.length ≤ 20 ∧ ∀ k, k < L.length → srcOk L k = true)
theorem srcsB_big {L : List Src} (h : 20 < L.length) : srcsB L = false := decide_eq_false (fun k => by omega)
theorem srcsB_no {L : List Src} {k : Nat} (hk : k < L.length) (h : srcOk L k = false) : srcsB L = false := decide_eq_false (fun x => by rw [x.2 k hk] at h; cases h)
theorem srcsB_yes {L : List Src} (h : L.length ≤ 20) (h2 : ∀ k, k < L.length → srcOk L k = true) : srcsB L = true := decide_eq_true ⟨h, h2⟩
theorem all_upto {f : Nat → Bool} {k : Nat} (h : ∀ t, t < k → f t = true) (hk : f k = true) : ∀ t, t < k + 1 → f t = true := fun t ht => by
  by_cases e : t = k
  · subst e; exact hk
  · exact h t (by omega)
theorem src0 {L : List Src} (h : 0 < L.length) : srcOk L 0 = (nameB L[0].1 && decide (L[0].2.size ≤ 4000)) := by
  unfold srcOk
  rw [List.getElem?_eq_getElem h]
  simp
theorem srcS {L : List Src} {k : Nat} (h : k + 1 < L.length) : srcOk L (k + 1) = (nameB L[k + 1].1 && decide (L[k + 1].2.size ≤ 4000) && upB L[k].1 L[k + 1].1) := by
  unfold srcOk
  rw [List.getElem?_eq_getElem h]
  dsimp only
  rw [List.getElem?_eq_getElem (show k < L.length by omega)]
theorem specName_is {s : ByteArray} {b : Bool} (w : World) (hs : s.size ≤ maxLen) (h : nameB s = b) : Calls Tryz.prog 33 #[.string s] w fun e w' => e = .returned (.bool b) ∧ w' = w := h ▸ specName_any s w hs
theorem implName_is {s : ByteArray} {b : Bool} (w : World) (hs : s.size ≤ maxLen) (h : nameB s = b) : Calls Tryz.prog 37 #[.string s] w fun e w' => e = .returned (.bool b) ∧ w' = w := h ▸ implName_any s w hs
set_option maxRecDepth 100000 in
set_option maxHeartbeats 3200000 in
theorem specSources_any (a : Option Addr) (L : List Src) (cap : Nat) (w : World) (hR : RowIs 2 srcC w a L) (hl : L.length ≤ 2000000) (hs : ∀ s ∈ L, fitsS s) : Calls Tryz.prog 63 #[.slice a L.length cap] w fun e w' => e = .returned (.bool (srcsB L)) ∧ Below w.heap.size w w' := by
  have HR : Hid (RowIs 2 srcC w a L) := hR
  have HS : Hid (∀ s ∈ L, fitsS s) := hs
  clear hR hs
  by_cases h20 : 20 < L.length
  · have h20' : (20 : Int) < (L.length : Int) := by omega
    go_enter Tryz.func63, Tryz.ntmps63
    go_wp2
    go_ret
    exact ⟨ret_bool (srcsB_big h20).symm, Below.refl _ _⟩
  have h20' : ¬ (20 : Int) < (L.length : Int) := by omega
  go_enter Tryz.func63, Tryz.ntmps63
  go_wp2
  go_loopw [3] (fun i wr => ∃ k : Nat, k ≤ L.length ∧ i = .int .i64 k ∧ Hid (∀ t, t < k → srcOk L t = true) ∧ Hid (Below w.heap.size w wr)) (fun i _ => L.length - (intOf i).toNat)
  case atStart => exact ⟨0, by omega, rfl, fun t h => by omega, Below.refl _ _⟩
  case round =>
    obtain ⟨k, hk, rfl, HF, HB⟩ := hrel
    by_cases hlt : k < L.length
    · obtain ⟨x, rfl, hx, hE⟩ := (HR.out.below HB.out).elem k hlt
      obtain ⟨c0, c1⟩ := ElemAt.two hE
      obtain ⟨m0, m1⟩ := HS.out L[k] (List.getElem_mem hlt)
      have hi0 : (0 : Int) ≤ (k : Int) := by omega
      have hi1 : (k : Int) < (L.length : Int) := by omega
      have HNO : Hid (srcOk L k = false → srcsB L = false) := fun h => srcsB_no hlt h
      have HYES : Hid (srcOk L k = true → ∀ t, t < k + 1 → srcOk L t = true) := fun h => all_upto HF.out h
      clear hE
      have HM : Hid (L[k].1.size ≤ maxLen) := by show _ ≤ _; unfold maxLen; omega
      by_cases hk0 : k = 0
      · have HOK : Hid (srcOk L k = (nameB L[k].1 && decide (L[k].2.size ≤ 4000))) := by subst hk0; exact src0 hlt
        have hg0 : decide (0 < k) = false := by rw [hk0]; rfl
        clear hk0
        generalize L[k] = s at *
        obtain ⟨nm, tx⟩ := s
        dsimp only at *
        cases hn : nameB nm
        · have HN : Hid (nameB nm = false) := hn
          have HQ : Hid (srcOk L k = false) := by show _ = _; rw [HOK.out, hn]; rfl
          clear hn
          go_wp2_with fail
          go_quiet (first | (go_at_call 33; exact Calls.quiet_of_same (specName_is _ HM.out HN.out)))
          go_wp2
          go_ret
          exact ⟨ret_bool (HNO.out HQ.out).symm, below_drewS HB.out _⟩
        · have HN : Hid (nameB nm = true) := hn
          clear hn
          by_cases ht : tx.size ≤ 4000
          · have HQ : Hid (srcOk L k = true) := by show _ = _; rw [HOK.out, HN.out, decide_eq_true ht]; rfl
            have hg1 : decide ((4000 : Int) < (tx.size : Int)) = false := decide_eq_false (by omega)
            clear ht
            go_wp2_with fail
            go_quiet (first | (go_at_call 33; exact Calls.quiet_of_same (specName_is _ HM.out HN.out)))
            go_wp2
            go_roundw
            case rel => exact ⟨k + 1, by omega, by go_num, HYES.out HQ.out, below_drewS HB.out _⟩
            case measure => simp [intOf]; omega
          · have HQ : Hid (srcOk L k = false) := by show _ = _; rw [HOK.out, HN.out, decide_eq_false ht]; rfl
            have hg1 : decide ((4000 : Int) < (tx.size : Int)) = true := decide_eq_true (by omega)
            clear ht
            go_wp2_with fail
            go_quiet (first | (go_at_call 33; exact Calls.quiet_of_same (specName_is _ HM.out HN.out)))
            go_wp2
            go_ret
            exact ⟨ret_bool (HNO.out HQ.out).symm, below_drewS HB.out _⟩
      · obtain ⟨j, rfl⟩ : ∃ j, k = j + 1 := ⟨k - 1, by omega⟩
        obtain ⟨x2, hx2, hx3, hE2⟩ := (HR.out.below HB.out).elem j (by omega)
        cases hx2
        obtain ⟨d0, d1⟩ := ElemAt.two hE2
        have HOK : Hid (_ = _) := srcS hlt
        clear hk0 hE2 d1
        have hj0 : (0 : Int) ≤ (j : Int) := by omega
        have hj1 : (j : Int) < (L.length : Int) := by omega
        have hj2 : (j : Int) + 1 < (L.length : Int) := by omega
        have hj3 : (0 : Int) ≤ (j : Int) + 1 := by omega
        have hg0 : decide ((0 : Int) < (j : Int) + 1) = true := decide_eq_true (by omega)
        generalize L[j + 1] = s at *
        generalize L[j].1 = pn at *
        obtain ⟨nm, tx⟩ := s
        dsimp only at *
        cases hn : nameB nm
        · have HN : Hid (nameB nm = false) := hn
          have HQ : Hid (srcOk L (j + 1) = false) := by show _ = _; rw [HOK.out, hn]; rfl
          clear hn
          go_wp2_with fail
          go_quiet (first | (go_at_call 33; exact Calls.quiet_of_same (specName_is _ HM.out HN.out)))
          go_wp2
          go_ret
          exact ⟨ret_bool (HNO.out HQ.out).symm, below_drewS HB.out _⟩
        · have HN : Hid (nameB nm = true) := hn
          clear hn
          by_cases ht : tx.size ≤ 4000
          · have hg1 : decide ((4000 : Int) < (tx.size : Int)) = false := decide_eq_false (by omega)
            cases hu : upB pn nm
            · have HQ : Hid (srcOk L (j + 1) = false) := by show _ = _; rw [HOK.out, HN.out, decide_eq_true ht, hu]; rfl
              have hu2 : Op.bytesLess pn.toList nm.toList = false := hu
              clear ht hu
              go_wp2_with fail
              go_quiet (first | (go_at_call 33; exact Calls.quiet_of_same (specName_is _ HM.out HN.out)))
              go_wp2
              go_ret
              exact ⟨ret_bool (HNO.out HQ.out).symm, below_drewS HB.out _⟩
            · have HQ : Hid (srcOk L (j + 1) = true) := by show _ = _; rw [HOK.out, HN.out, decide_eq_true ht, hu]; rfl
              have hu2 : Op.bytesLess pn.toList nm.toList = true := hu
              clear ht hu
              go_wp2_with fail
              go_quiet (first | (go_at_call 33; exact Calls.quiet_of_same (specName_is _ HM.out HN.out)))
              go_wp2
              go_roundw
              case rel => exact ⟨j + 1 + 1, by omega, by go_num, HYES.out HQ.out, below_drewS HB.out _⟩
              case measure => simp [intOf]; omega
          · have HQ : Hid (srcOk L (j + 1) = false) := by show _ = _; rw [HOK.out, HN.out, decide_eq_false ht]; rfl
            have hg1 : decide ((4000 : Int) < (tx.size : Int)) = true := decide_eq_true (by omega)
            clear ht
            go_wp2_with fail
            go_quiet (first | (go_at_call 33; exact Calls.quiet_of_same (specName_is _ HM.out HN.out)))
            go_wp2
            go_ret
            exact ⟨ret_bool (HNO.out HQ.out).symm, below_drewS HB.out _⟩
    · go_wp2
      go_ret
      exact ⟨ret_bool (srcsB_yes (by omega) (fun t ht => HF.out t (by omega))).symm, HB.out⟩
set_option maxRecDepth 100000 in
set_option maxHeartbeats 3200000 in
theorem implSources_any (a : Option Addr) (L : List Src) (cap : Nat) (w : World) (hR : RowIs 2 srcC w a L) (hl : L.length ≤ 2000000) (hs : ∀ s ∈ L, fitsS s) : Calls Tryz.prog 82 #[.slice a L.length cap] w fun e w' => e = .returned (.bool (srcsB L)) ∧ Below w.heap.size w w' := by
  have HR : Hid (RowIs 2 srcC w a L) := hR
  have HS : Hid (∀ s ∈ L, fitsS s) := hs
  clear hR hs
  by_cases h20 : 20 < L.length
  · have h20' : (20 : Int) < (L.length : Int) := by omega
    go_enter Tryz.func82, Tryz.ntmps82
    go_wp2
    go_ret
    exact ⟨ret_bool (srcsB_big h20).symm, Below.refl _ _⟩
  have h20' : ¬ (20 : Int) < (L.length : Int) := by omega
  go_enter Tryz.func82, Tryz.ntmps82
  go_wp2
  go_loopw [10] (fun i wr => ∃ k : Nat, k ≤ L.length ∧ i = .int .i64 k ∧ Hid (∀ t, t < k → srcOk L t = true) ∧ Hid (Below w.heap.size w wr)) (fun i _ => L.length - (intOf i).toNat)
  case atStart => exact ⟨0, by omega, rfl, fun t h => by omega, Below.refl _ _⟩
  case round =>
    obtain ⟨k, hk, rfl, HF, HB⟩ := hrel
    by_cases hlt : k < L.length
    · obtain ⟨x, rfl, hx, hE⟩ := (HR.out.below HB.out).elem k hlt
      obtain ⟨c0, c1⟩ := ElemAt.two hE
      obtain ⟨m0, m1⟩ := HS.out L[k] (List.getElem_mem hlt)
      have hi0 : (0 : Int) ≤ (k : Int) := by omega
      have hi1 : (k : Int) < (L.length : Int) := by omega
      have HNO : Hid (srcOk L k = false → srcsB L = false) := fun h => srcsB_no hlt h
      have HYES : Hid (srcOk L k = true → ∀ t, t < k + 1 → srcOk L t = true) := fun h => all_upto HF.out h
      clear hE
      have HM : Hid (L[k].1.size ≤ maxLen) := by show _ ≤ _; unfold maxLen; omega
      by_cases hk0 : k = 0
      · have HOK : Hid (srcOk L k = (nameB L[k].1 && decide (L[k].2.size ≤ 4000))) := by subst hk0; exact src0 hlt
        have hg0 : decide (0 < k) = false := by rw [hk0]; rfl
        clear hk0
        generalize L[k] = s at *
        obtain ⟨nm, tx⟩ := s
        dsimp only at *
        cases hn : nameB nm
        · have HN : Hid (nameB nm = false) := hn
          have HQ : Hid (srcOk L k = false) := by show _ = _; rw [HOK.out, hn]; rfl
          clear hn
          go_wp2_with fail
          go_quiet (first | (go_at_call 37; exact Calls.quiet_of_same (implName_is _ HM.out HN.out)))
          go_wp2
          go_ret
          exact ⟨ret_bool (HNO.out HQ.out).symm, below_drewS (below_more HB.out _) _⟩
        · have HN : Hid (nameB nm = true) := hn
          clear hn
          by_cases ht : tx.size ≤ 4000
          · have HQ : Hid (srcOk L k = true) := by show _ = _; rw [HOK.out, HN.out, decide_eq_true ht]; rfl
            have hg1 : decide ((4000 : Int) < (tx.size : Int)) = false := decide_eq_false (by omega)
            clear ht
            go_wp2_with fail
            go_quiet (first | (go_at_call 37; exact Calls.quiet_of_same (implName_is _ HM.out HN.out)))
            go_wp2
            go_roundw
            case rel => exact ⟨k + 1, by omega, by go_num, HYES.out HQ.out, below_drewS (below_more HB.out _) _⟩
            case measure => simp [intOf]; omega
          · have HQ : Hid (srcOk L k = false) := by show _ = _; rw [HOK.out, HN.out, decide_eq_false ht]; rfl
            have hg1 : decide ((4000 : Int) < (tx.size : Int)) = true := decide_eq_true (by omega)
            clear ht
            go_wp2_with fail
            go_quiet (first | (go_at_call 37; exact Calls.quiet_of_same (implName_is _ HM.out HN.out)))
            go_wp2
            go_ret
            exact ⟨ret_bool (HNO.out HQ.out).symm, below_drewS (below_more HB.out _) _⟩
      · obtain ⟨j, rfl⟩ : ∃ j, k = j + 1 := ⟨k - 1, by omega⟩
        obtain ⟨x2, hx2, hx3, hE2⟩ := (HR.out.below HB.out).elem j (by omega)
        cases hx2
        obtain ⟨d0, d1⟩ := ElemAt.two hE2
        have HOK : Hid (_ = _) := srcS hlt
        have d2 := fun o => (((HR.out.below HB.out).alloc o).elem j (by omega))
        have d0a : ∀ o, (wr.alloc o).cell? (x.add (j * 2)) = some (.string L[j].1) := fun o => by
          obtain ⟨x4, hx4, _, hE4⟩ := d2 o
          cases hx4
          exact (ElemAt.two hE4).1
        clear hk0 hE2 d1 d2
        have hj0 : (0 : Int) ≤ (j : Int) := by omega
        have hj1 : (j : Int) < (L.length : Int) := by omega
        have hj2 : (j : Int) + 1 < (L.length : Int) := by omega
        have hj3 : (0 : Int) ≤ (j : Int) + 1 := by omega
        have hg0 : decide ((0 : Int) < (j : Int) + 1) = true := decide_eq_true (by omega)
        generalize L[j + 1] = s at *
        generalize L[j].1 = pn at *
        obtain ⟨nm, tx⟩ := s
        dsimp only at *
        cases hn : nameB nm
        · have HN : Hid (nameB nm = false) := hn
          have HQ : Hid (srcOk L (j + 1) = false) := by show _ = _; rw [HOK.out, hn]; rfl
          clear hn
          go_wp2_with fail
          go_quiet (first | (go_at_call 37; exact Calls.quiet_of_same (implName_is _ HM.out HN.out)))
          go_wp2
          go_ret
          exact ⟨ret_bool (HNO.out HQ.out).symm, below_drewS (below_more HB.out _) _⟩
        · have HN : Hid (nameB nm = true) := hn
          clear hn
          by_cases ht : tx.size ≤ 4000
          · have hg1 : decide ((4000 : Int) < (tx.size : Int)) = false := decide_eq_false (by omega)
            cases hu : upB pn nm
            · have HQ : Hid (srcOk L (j + 1) = false) := by show _ = _; rw [HOK.out, HN.out, decide_eq_true ht, hu]; rfl
              have hu2 : (Op.bytesLess nm.toList pn.toList || nm.toList == pn.toList) = true := by rw [less_tri]; show (!upB pn nm) = true; rw [hu]; rfl
              clear ht hu
              go_wp2_with fail
              go_quiet (first | (go_at_call 37; exact Calls.quiet_of_same (implName_is _ HM.out HN.out)))
              go_wp2
              go_ret
              exact ⟨ret_bool (HNO.out HQ.out).symm, below_drewS (below_more HB.out _) _⟩
            · have HQ : Hid (srcOk L (j + 1) = true) := by show _ = _; rw [HOK.out, HN.out, decide_eq_true ht, hu]; rfl
              have hu2 : (Op.bytesLess nm.toList pn.toList || nm.toList == pn.toList) = false := by rw [less_tri]; show (!upB pn nm) = false; rw [hu]; rfl
              clear ht hu
              go_wp2_with fail
              go_quiet (first | (go_at_call 37; exact Calls.quiet_of_same (implName_is _ HM.out HN.out)))
              go_wp2
              go_roundw
              case rel => exact ⟨j + 1 + 1, by omega, by go_num, HYES.out HQ.out, below_drewS (below_more HB.out _) _⟩
              case measure => simp [intOf]; omega
          · have HQ : Hid (srcOk L (j + 1) = false) := by show _ = _; rw [HOK.out, HN.out, decide_eq_false ht]; rfl
            have hg1 : decide ((4000 : Int) < (tx.size : Int)) = true := decide_eq_true (by omega)
            clear ht
            go_wp2_with fail
            go_quiet (first | (go_at_call 37; exact Calls.quiet_of_same (implName_is _ HM.out HN.out)))
            go_wp2
            go_ret
            exact ⟨ret_bool (HNO.out HQ.out).symm, below_drewS (below_more HB.out _) _⟩
    · go_wp2
      go_ret
      exact ⟨ret_bool (srcsB_yes (by omega) (fun t ht => HF.out t (by omega))).symm, HB.out⟩
end Go.Proofs.YtnhehdobpibgkaaGreatDoor
