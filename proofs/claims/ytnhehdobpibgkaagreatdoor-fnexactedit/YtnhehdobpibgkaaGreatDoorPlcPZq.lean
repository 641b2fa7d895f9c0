/- Where a source stands: by the program (slices.BinarySearchFunc). -/
import Derived.Test.YtnhehdobpibgkaaGreatDoorRows
import Derived.WalkKit
import Derived.WalkSpells
import Derived.WalkLawsBesides
import Derived.Outline
import Derived.Deep.LoopGhost
import Derived.Test.YtnhehdobpibgkaaGreatDoorBun0
import Derived.Test.YtnhehdobpibgkaaGreatDoorBun1
import Derived.Test.YtnhehdobpibgkaaGreatDoorBun3
import Derived.Test.YtnhehdobpibgkaaGreatDoorBun24
namespace Go.Proofs.YtnhehdobpibgkaaGreatDoor
open Go.RowKit
set_option linter.unusedVariables false

/- How a text stands to another. -/
def cmpB (x y : ByteArray) : Int := if Op.bytesLess x.toList y.toList then -1 else if Op.bytesLess y.toList x.toList then 1 else 0
theorem cmpB_neg {x y : ByteArray} : cmpB x y < 0 ↔ upB x y = true := by
  unfold cmpB upB
  cases Op.bytesLess x.toList y.toList <;> simp
  split <;> omega
theorem cmpB_zero {x y : ByteArray} : cmpB x y = 0 ↔ x = y := by
  unfold cmpB
  cases h1 : Op.bytesLess x.toList y.toList
  · cases h2 : Op.bytesLess y.toList x.toList
    · have h3 := less_tri x.toList y.toList
      rw [h1, h2] at h3
      have h4 : (x.toList == y.toList) = true := by simpa using h3
      have h5 : x = y := Classical.byContradiction fun hne => by rw [textS_ne hne] at h4; cases h4
      simp [h5]
    · have : ¬ x = y := by rintro rfl; rw [less_irr] at h2; cases h2
      simp [this]
  · have : ¬ x = y := by rintro rfl; rw [less_irr] at h1; cases h1
    simp [this]
set_option maxRecDepth 100000 in
set_option maxHeartbeats 1600000 in
theorem cmpText_any (x y : ByteArray) (w : World) : Calls Tryz.prog 94 #[.string x, .string y] w fun e w' => e = .returned (.int .i64 (cmpB x y)) ∧ w' = w := by
  have hxx : (x.toList == x.toList) = true := by simp
  have hyy : (y.toList == y.toList) = true := by simp
  cases h1 : Op.bytesLess x.toList y.toList
  · cases h2 : Op.bytesLess y.toList x.toList
    · have H : Hid (cmpB x y = 0) := by show _ = _; unfold cmpB; rw [h1, h2]; rfl
      have h3 : (x.toList == y.toList) = true := by have h3 := less_tri x.toList y.toList; rw [h1, h2] at h3; simpa using h3
      have h4 : (Op.bytesLess x.toList y.toList || x.toList == y.toList) = true := by rw [h1, h3]; rfl
      go_enter Tryz.func94, Tryz.ntmps94
      go_wp2
      go_ret
      exact ⟨ret_int H.out.symm, rfl⟩
    · have H : Hid (cmpB x y = 1) := by show _ = _; unfold cmpB; rw [h1, h2]; rfl
      have h3 : (x.toList == y.toList) = false := by have h3 := less_tri x.toList y.toList; rw [h1, h2] at h3; simpa using h3
      have h4 : (Op.bytesLess x.toList y.toList || x.toList == y.toList) = false := by rw [h1, h3]; rfl
      go_enter Tryz.func94, Tryz.ntmps94
      go_wp2
      go_ret
      exact ⟨ret_int H.out.symm, rfl⟩
  · have H : Hid (cmpB x y = -1) := by show _ = _; unfold cmpB; rw [h1]; rfl
    go_enter Tryz.func94, Tryz.ntmps94
    go_wp2
    go_ret
    exact ⟨ret_int H.out.symm, rfl⟩
set_option maxRecDepth 100000 in
set_option maxHeartbeats 1600000 in
theorem place1_any (s : Src) (nm : ByteArray) (w : World) : Calls Tryz.prog 93 #[.agg #[.string s.1, .string s.2], .string nm] w fun e w' => e = .returned (.int .i64 (cmpB s.1 nm)) ∧ Below w.heap.size w w' := by
  obtain ⟨n, t⟩ := s
  dsimp only
  go_enter Tryz.func93, Tryz.ntmps93
  go_wp2_with fail
  refine (cmpText_any n nm _).mono ?_
  rintro e w' ⟨rfl, rfl⟩
  go_wp2
  go_ret
  exact ⟨rfl, below_new _ _⟩
theorem enters_place (args : Array Value) (W : World) : (callFunc 93 args).run Tryz.prog W = .ok (.enter 93 args) W := by kernel_rfl
set_option maxRecDepth 100000 in
set_option maxHeartbeats 3200000 in
theorem search_any (a : Option Addr) (L : List Src) (n cap : Nat) (nm : ByteArray) (w : World) (hR : RowIs 2 srcC w a L) (hn : L.length = n) (hl : n ≤ 100) (hS : Srt L) : Calls Tryz.prog 92 #[.slice a n cap, .string nm, .func (.func 93) #[] #[]] w fun e w' => e = .returned (.tuple #[.int .i64 (plcL L nm : Nat), .bool (hasL L nm)]) ∧ Below w.heap.size w w' := by
  subst hn
  have HR : Hid (RowIs 2 srcC w a L) := hR
  have HS : Hid (Srt L) := hS
  have he := enters_place
  clear hR hS
  go_enter Tryz.func92, Tryz.ntmps92
  go_wp2
  go_loopw [9, 10] (fun s9 s10 wr => ∃ lo hi : Nat, s9 = .int .i64 lo ∧ s10 = .int .i64 hi ∧ lo ≤ hi ∧ hi ≤ L.length ∧ Hid ((∀ t (h : t < lo) (h2 : t < L.length), upB L[t].1 nm = true) ∧ (∀ t (h : hi ≤ t) (h2 : t < L.length), upB L[t].1 nm = false)) ∧ Hid (Below w.heap.size w wr)) (fun s9 s10 _ => (intOf s10).toNat - (intOf s9).toNat)
  case atStart => exact ⟨0, L.length, rfl, rfl, Nat.zero_le _, Nat.le_refl _, ⟨fun t h => by omega, fun t h h2 => by omega⟩, Below.refl _ _⟩
  case round =>
    obtain ⟨lo, hi, rfl, rfl, hlh, hin, HI, HB⟩ := hrel
    by_cases hlt : lo < hi
    · obtain ⟨m, hm⟩ : ∃ m, m = (lo + hi) / 2 := ⟨_, rfl⟩
      have hml : m < L.length := by omega
      have hmi : ((lo : Int) + (hi : Int)) / 2 = (m : Int) := by omega
      have hb1 : lo ≤ m := by omega
      have hb2 : m < hi := by omega
      clear hm
      obtain ⟨x, rfl, hx, hE⟩ := (HR.out.below HB.out).elem m hml
      obtain ⟨c0, c1⟩ := ElemAt.two hE
      have HC := place1_any L[m] nm
      have hi0 : (0 : Int) ≤ (m : Int) := by omega
      have hi1 : (m : Int) < (L.length : Int) := by omega
      have HX : Hid (upB L[m].1 nm = true → ∀ t (h : t < m + 1) (h2 : t < L.length), upB L[t].1 nm = true) := fun hu t h h2 => by
        by_cases e : t = m
        · subst e; exact hu
        · exact up_trans (HS.out t m (by omega) hml) hu
      have HY : Hid (upB L[m].1 nm = false → ∀ t (h : m ≤ t) (h2 : t < L.length), upB L[t].1 nm = false) := fun hu t h h2 => by
        by_cases e : t = m
        · subst e; exact hu
        · cases h3 : upB L[t].1 nm
          · rfl
          · rw [up_trans (HS.out m t (by omega) h2) h3] at hu; cases hu
      clear hE
      generalize L[m] = s at *
      have HC2 : Hid (∀ W, _) := HC
      clear HC
      by_cases hc : cmpB s.1 nm < 0
      · have HU := HX.out (cmpB_neg.1 hc)
        have HU2 : Hid (∀ t (h : t < m + 1) (h2 : t < L.length), upB L[t].1 nm = true) := HU
        clear HU HX HY
        go_wp2_with fail
        refine (HC2.out _).mono ?_
        rintro e x2 ⟨rfl, hb⟩
        have HB2 : Hid (Below w.heap.size w x2) := below_call HB.out hb
        clear hb
        go_wp2
        go_roundw
        case rel => exact ⟨m + 1, hi, by go_num, rfl, by omega, hin, ⟨HU2.out, HI.out.2⟩, HB2.out⟩
        case measure => simp [intOf]; omega
      · have HU2 : Hid (∀ t (h : m ≤ t) (h2 : t < L.length), upB L[t].1 nm = false) := HY.out (by cases h : upB s.1 nm; rfl; exact absurd (cmpB_neg.2 h) hc)
        clear HX HY
        go_wp2_with fail
        refine (HC2.out _).mono ?_
        rintro e x2 ⟨rfl, hb⟩
        have HB2 : Hid (Below w.heap.size w x2) := below_call HB.out hb
        clear hb
        go_wp2
        go_roundw
        case rel => exact ⟨lo, m, rfl, by go_num, by omega, by omega, ⟨HI.out.1, HU2.out⟩, HB2.out⟩
        case measure => simp [intOf]; omega
    · obtain rfl : lo = hi := by omega
      have HPL : Hid (plcL L nm = lo) := plc_is L nm lo (by omega) (fun t h => HI.out.1 t h (by omega)) (fun h => HI.out.2 lo (by omega) h)
      by_cases hll : lo < L.length
      · obtain ⟨x, rfl, hx, hE⟩ := (HR.out.below HB.out).elem lo hll
        obtain ⟨c0, c1⟩ := ElemAt.two hE
        have HC2 : Hid (∀ W, _) := place1_any L[lo] nm
        have hi0 : (0 : Int) ≤ (lo : Int) := by omega
        have hi1 : (lo : Int) < (L.length : Int) := by omega
        have HH : Hid (hasL L nm = decide (cmpB L[lo].1 nm = 0)) := by
          have h : ∀ p, plcL L nm = p → ∀ hp : p < L.length, hasL L nm = decide (cmpB L[p].1 nm = 0) := by
            rintro p rfl hp
            by_cases e : L[plcL L nm].1 = nm
            · rw [has_yes hp e, decide_eq_true (cmpB_zero.2 e)]
            · rw [has_no hp e, decide_eq_false (fun h => e (cmpB_zero.1 h))]
          exact h lo HPL.out hll
        clear hE
        generalize L[lo] = s at *
        go_wp2_with fail
        refine (HC2.out _).mono ?_
        rintro e x2 ⟨rfl, hb⟩
        have HB2 : Hid (Below w.heap.size w x2) := below_call HB.out hb
        clear hb
        go_wp2
        go_ret2
        exact ⟨by rw [HPL.out, HH.out]; rfl, HB2.out⟩
      · have HH : Hid (hasL L nm = false) := has_end (by rw [HPL.out]; exact hll)
        have hi1 : ¬ (lo : Int) < (L.length : Int) := by omega
        go_wp2
        go_ret2
        exact ⟨by rw [HPL.out, HH.out]; rfl, HB.out⟩
set_option maxRecDepth 100000 in
set_option maxHeartbeats 1600000 in
theorem place_any (a : Option Addr) (L : List Src) (n cap : Nat) (nm : ByteArray) (w : World) (hR : RowIs 2 srcC w a L) (hn : L.length = n) (hl : n ≤ 100) (hS : Srt L) : Calls Tryz.prog 80 #[.slice a n cap, .string nm] w fun e w' => e = .returned (.tuple #[.int .i64 (plcL L nm : Nat), .bool (hasL L nm)]) ∧ Below w.heap.size w w' := by
  have HR : Hid (RowIs 2 srcC w a L) := hR
  have HS : Hid (Srt L) := hS
  have HN : Hid (L.length = n) := hn
  clear hR hS hn
  go_enter Tryz.func80, Tryz.ntmps80
  go_wp2_with fail
  refine (search_any a L n cap nm w HR.out HN.out hl HS.out).mono ?_
  rintro e x ⟨rfl, hb⟩
  go_wp2
  go_ret2
  exact ⟨rfl, hb⟩
end Go.Proofs.YtnhehdobpibgkaaGreatDoor
