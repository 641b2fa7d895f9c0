/- How words are written: numbers in digits and signs, by the program; when a Word is right. -/
import Derived.Test.YtdokiccfjbieiaeDoorRows
import Derived.WalkKit
import Derived.WalkSpells
import Derived.WalkLawsBesides
import Derived.Outline
import Derived.Lib.AppendIntMem
import Derived.Test.YtdokiccfjbieiaeDoorFmt
import Derived.Test.YtdokiccfjbieiaeDoorBase
import Derived.Test.YtdokiccfjbieiaeDoorRes
import Derived.Test.YtdokiccfjbieiaeDoorIsa
import Derived.Test.YtdokiccfjbieiaeDoorIsa3
import Derived.Test.YtdokiccfjbieiaeDoorIsaS
import Derived.Test.YtdokiccfjbieiaeDoorName
import Derived.Test.YtdokiccfjbieiaeDoorDec
namespace Go.Proofs.YtdokiccfjbieiaeDoor
open Go.RowKit
set_option linter.unusedVariables false

/- The table of powers of ten that strconv reads. -/
def Pow (w : World) : Prop := Lib.TabIs Tryd.prog w "internal/strconv.uint64pow10" .u64 Lib.pow10Tab
theorem Pow.below {w w' : World} (h : Pow w) (hb : Below w.heap.size w w') : Pow w' := by
  unfold Pow Lib.TabIs World.var? at *
  cases hg : Tryd.prog.globalNamed "internal/strconv.uint64pow10" with
  | none => simp [hg] at h
  | some g =>
    simp only [hg, Option.bind_some] at h ⊢
    have hlt : g < w.heap.size := by
      rcases Nat.lt_or_ge g w.heap.size with h' | h'
      · exact h'
      · rw [Array.getElem?_eq_none h'] at h; simp at h
    rw [hb.block g hlt]
    exact h
theorem Pow.alloc {w : World} (h : Pow w) (o : Obj) : Pow (w.alloc o) := h.below (below_new w o)
theorem fmt_any (n : Int) (w : World) (h0 : -1000000 ≤ n) (h1 : n ≤ 1000000) (hP : Pow w) : Calls Tryd.prog 75 #[.int .i64 n, .int .i64 10] w fun e w' => e = .returned (.string (digs (Lib.itoa n))) ∧ Below w.heap.size w w' :=
  (fmtInt_any n (by omega) (by omega) w hP).mono fun e w' h => by
    obtain ⟨h1, k, os, rfl⟩ := h
    exact ⟨h1, Lib.below_grow _ w (Nat.le_refl _) k os⟩
set_option maxRecDepth 100000 in
set_option maxHeartbeats 1600000 in
theorem digitsOf_any (n : Int) (w : World) (h0 : -1000000 ≤ n) (h1 : n ≤ 1000000) (hP : Pow w) : Calls Tryd.prog 54 #[.int .i64 n] w fun e w' => e = .returned (.string (digs (Lib.itoa n))) ∧ Below w.heap.size w w' := by
  have HP : Hid (_) := hP
  clear hP
  go_enter Tryd.func54, Tryd.ntmps54
  go_wp2_with fail
  refine (fmt_any n _ h0 h1 HP.out).mono ?_
  rintro e x1 ⟨rfl, hb⟩
  go_wp2
  go_ret
  exact ⟨rfl, hb⟩
def sgnB (n : Int) : ByteArray := if n < 0 then digs (Lib.itoa n) else ⟨#[43]⟩ ++ digs (Lib.itoa n)
set_option maxRecDepth 100000 in
set_option maxHeartbeats 1600000 in
theorem signed_any (n : Int) (w : World) (h0 : -100000 ≤ n) (h1 : n ≤ 100000) (hP : Pow w) : Calls Tryd.prog 56 #[.int .i64 n] w fun e w' => e = .returned (.string (sgnB n)) ∧ Below w.heap.size w w' := by
  have HP : Hid (_) := hP
  clear hP
  have hsz : (digs (Lib.itoa n)).size ≤ 7 := itoa_len n (by omega) (by omega)
  unfold sgnB
  by_cases hn : n < 0
  · rw [if_pos hn]
    go_enter Tryd.func56, Tryd.ntmps56
    go_wp2_with fail
    refine (digitsOf_any n _ (by omega) (by omega) HP.out).mono ?_
    rintro e x1 ⟨rfl, hb⟩
    go_wp2
    go_ret
    exact ⟨rfl, hb⟩
  · rw [if_neg hn]
    go_enter Tryd.func56, Tryd.ntmps56
    go_wp2_with fail
    refine (digitsOf_any n _ (by omega) (by omega) HP.out).mono ?_
    rintro e x1 ⟨rfl, hb⟩
    go_wp2
    go_ret
    exact ⟨rfl, hb⟩
def wordB (nm : ByteArray) (n : Int) : Bool := if nm = ⟨#[]⟩ then isB n 0 65535 else nameB nm && isB n (-32767) 32767
set_option maxRecDepth 100000 in
set_option maxHeartbeats 1600000 in
theorem wordRight_any (nm : ByteArray) (n : Int) (w : World) (hs : nm.size ≤ maxLen) : Calls Tryd.prog 53 #[.agg #[.string nm, .int .i64 n]] w fun e w' => e = .returned (.bool (wordB nm n)) ∧ Below w.heap.size w w' := by
  unfold wordB
  by_cases hn : nm = ⟨#[]⟩
  · rw [if_pos hn]
    subst hn
    go_enter Tryd.func53, Tryd.ntmps53
    go_wp2_with fail
    refine (isWord_any n _).mono ?_
    rintro e x1 ⟨rfl, rfl⟩
    go_wp2
    go_ret
    exact ⟨rfl, below_new _ _⟩
  · rw [if_neg hn]
    have h1 := text_no [] hn
    cases hN : nameB nm
    · have HN : Hid (_ = _) := hN
      go_enter Tryd.func53, Tryd.ntmps53
      go_wp2_with fail
      refine (implName_any nm _ hs).mono ?_
      rintro e x1 ⟨rfl, rfl⟩
      rw [HN.out]
      go_wp2
      go_ret
      exact ⟨rfl, below_new _ _⟩
    · have HN : Hid (_ = _) := hN
      clear hN
      by_cases c1 : -32767 ≤ n
      · by_cases c2 : n ≤ 32767
        · have HB : Hid (isB n (-32767) 32767 = true) := by show _ = _; simp [isB, c1, c2]
          go_enter Tryd.func53, Tryd.ntmps53
          go_wp2_with fail
          refine (implName_any nm _ hs).mono ?_
          rintro e x1 ⟨rfl, rfl⟩
          rw [HN.out]
          go_wp2
          go_ret
          exact ⟨ret_bool (by rw [HB.out]; rfl), below_new _ _⟩
        · have HB : Hid (isB n (-32767) 32767 = false) := by show _ = _; simp [isB]; omega
          go_enter Tryd.func53, Tryd.ntmps53
          go_wp2_with fail
          refine (implName_any nm _ hs).mono ?_
          rintro e x1 ⟨rfl, rfl⟩
          rw [HN.out]
          go_wp2
          go_ret
          exact ⟨ret_bool (by rw [HB.out]; simp; omega), below_new _ _⟩
      · have HB : Hid (isB n (-32767) 32767 = false) := by show _ = _; simp [isB]; omega
        go_enter Tryd.func53, Tryd.ntmps53
        go_wp2_with fail
        refine (implName_any nm _ hs).mono ?_
        rintro e x1 ⟨rfl, rfl⟩
        rw [HN.out]
        go_wp2
        go_ret
        exact ⟨ret_bool (by rw [HB.out]), below_new _ _⟩
set_option maxRecDepth 100000 in
set_option maxHeartbeats 1600000 in
theorem l03Right_any (nm : ByteArray) (n : Int) (w : World) (hs : nm.size ≤ maxLen) : Calls Tryd.prog 51 #[.agg #[.string nm, .int .i64 n]] w fun e w' => e = .returned (.bool (wordB nm n)) ∧ Below w.heap.size w w' := by
  unfold wordB
  by_cases hn : nm = ⟨#[]⟩
  · rw [if_pos hn]
    subst hn
    go_enter Tryd.func51, Tryd.ntmps51
    go_wp2_with fail
    refine (l02Word_any n _).mono ?_
    rintro e x1 ⟨rfl, rfl⟩
    go_wp2
    go_ret
    exact ⟨rfl, below_new _ _⟩
  · rw [if_neg hn]
    have h1 := text_no [] hn
    cases hN : nameB nm
    · have HN : Hid (_ = _) := hN
      go_enter Tryd.func51, Tryd.ntmps51
      go_wp2_with fail
      refine (specName_any nm _ hs).mono ?_
      rintro e x1 ⟨rfl, rfl⟩
      rw [HN.out]
      go_wp2
      go_ret
      exact ⟨rfl, below_new _ _⟩
    · have HN : Hid (_ = _) := hN
      clear hN
      go_enter Tryd.func51, Tryd.ntmps51
      go_wp2_with fail
      refine (specName_any nm _ hs).mono ?_
      rintro e x1 ⟨rfl, rfl⟩
      rw [HN.out]
      go_wp2_with fail
      refine (l02Is_any n (-32767) 32767 _).mono ?_
      rintro e x1 ⟨rfl, rfl⟩
      go_wp2
      go_ret
      exact ⟨rfl, below_new _ _⟩
end Go.Proofs.YtdokiccfjbieiaeDoor
