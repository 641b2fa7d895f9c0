/- The draws of FnNums. -/
import Derived.Test.YthmobogbaijndaaDoorRows
import Derived.WalkKit
import Derived.WalkSpells
import Derived.WalkLawsBesides
import Derived.Test.YthmobogbaijndaaDoorDraw
import Derived.Test.YthmobogbaijndaaDoorZeros
namespace Go.Proofs.YthmobogbaijndaaDoor
open Go.RowKit

set_option maxRecDepth 100000 in
set_option maxHeartbeats 1000000 in
theorem l01Any_any (g : Nat) (a : Option Addr) (len cap : Nat) (w : World) (h : Dr w g a len cap) :
    Calls Tryd.prog 13 #[.pointer (some ⟨g, 0, none⟩)] w fun e w' => ∃ v : Int, e = .returned (.int .i64 v) ∧ -9223372036854775808 ≤ v ∧ v ≤ 9223372036854775807 ∧ Dr w' g a len cap ∧ w.grownBy w' (some g) := by
  go_enter Tryd.func13, Tryd.ntmps13
  go_wp2_with fail
  refine (one_any g a len cap 4 _ h (by omega) (by omega)).mono ?_
  rintro e w1 ⟨b, rfl, hD1, hG1⟩
  cases b
  · go_wp2_with fail
    refine (n_any g a len cap 1099511627776 _ hD1 (by omega) (by omega)).mono ?_
    rintro e w2 ⟨v, rfl, hv0, hv1, hD2, hG2⟩
    have HD : Hid (Dr w2 g a len cap) := hD2
    have HG : Hid (w.grownBy w2 (some g)) := grownBy_trans hG1 hG2
    clear hD2 hG2 hD1 hG1
    go_wp2
    go_ret
    exact ⟨_, rfl, by omega, by omega, HD.out, HG.out⟩
  · go_wp2_with fail
    refine (edge_any g a len cap _ hD1).mono ?_
    rintro e w2 ⟨v, rfl, hv0, hv1, hD2, hG2⟩
    have HD : Hid (Dr w2 g a len cap) := hD2
    have HG : Hid (w.grownBy w2 (some g)) := grownBy_trans hG1 hG2
    clear hD2 hG2 hD1 hG1
    go_wp2
    go_ret
    exact ⟨v, rfl, hv0, hv1, HD.out, HG.out⟩
set_option maxHeartbeats 1000000 in
theorem drawPutNum_any (a : Option Addr) (len cap : Nat) (w : World) (h : Arg w a len cap) :
    Calls Tryd.prog 4 #[.slice a len cap] w fun e w' => ∃ v : Int, e = .returned (.int .i64 v) ∧ -9223372036854775808 ≤ v ∧ v ≤ 9223372036854775807 ∧ Below w.heap.size w w' := by
  go_enter Tryd.func4, Tryd.ntmps4
  go_wp2_with fail
  refine (source_any a len cap _ h).mono ?_
  rintro e w1 ⟨rfl, hD1, hB1⟩
  go_wp2_with fail
  refine (l01Any_any w.heap.size a len cap _ hD1).mono ?_
  rintro e w2 ⟨v, rfl, hv0, hv1, hD2, hG2⟩
  have HB : Hid (Below w.heap.size w w2) := hB1.trans (Dr.low hG2 (Nat.le_refl _) hD1.lt)
  clear hG2 hB1 hD1 hD2
  go_wp2
  go_ret
  exact ⟨v, rfl, hv0, hv1, HB.out⟩
set_option maxRecDepth 100000 in
set_option maxHeartbeats 1000000 in
theorem drawPutText_any (a : Option Addr) (len cap : Nat) (w : World) (h : Arg w a len cap) :
    Calls Tryd.prog 8 #[.slice a len cap] w fun e w' => ∃ s : ByteArray, e = .returned (.string s) ∧ s.size ≤ 20002 ∧ Below w.heap.size w w' := by
  go_enter Tryd.func8, Tryd.ntmps8
  go_wp2_with fail
  refine (source_any a len cap _ h).mono ?_
  rintro e w1 ⟨rfl, hD1, hB1⟩
  go_wp2_with fail
  refine (one_any w.heap.size a len cap 8 _ hD1 (by omega) (by omega)).mono ?_
  rintro e w2 ⟨b, rfl, hD2, hG2⟩
  have hB2 : Below w.heap.size w w2 := hB1.trans (Dr.low hG2 (Nat.le_refl _) hD1.lt)
  clear hG2 hB1 hD1
  cases b
  · go_wp2_with fail
    refine (n_any w.heap.size a len cap 20 _ hD2 (by omega) (by omega)).mono ?_
    rintro e w3 ⟨v, rfl, hv0, hv1, hD3, hG3⟩
    have hB3 : Below w.heap.size w w3 := hB2.trans (Dr.low hG3 (Nat.le_refl _) hD2.lt)
    clear hG3 hB2 hD2
    go_wp2_with fail
    refine (bytes_any w.heap.size a len cap v _ hD3 (by omega)).mono ?_
    rintro e w4 ⟨s, rfl, hs, hD4, hG4⟩
    have HB4 : Hid (Below w.heap.size w w4) := hB3.trans (Dr.low hG4 (Nat.le_refl _) hD3.lt)
    have HS : Hid (s.size ≤ 20002) := by show _ ≤ _; omega
    clear hG4 hB3 hD3 hD4 hs
    go_wp2
    go_ret
    exact ⟨s, rfl, HS.out, HB4.out⟩
  · go_wp2_with fail
    refine (n_any w.heap.size a len cap 3 _ hD2 (by omega) (by omega)).mono ?_
    rintro e w3 ⟨v, rfl, hv0, hv1, hD3, hG3⟩
    have hB3 : Below w.heap.size w w3 := hB2.trans (Dr.low hG3 (Nat.le_refl _) hD2.lt)
    have hsz := hB3.size
    have HBB : Hid (_) := hB3
    clear hG3 hB2 hD2 hB3
    have hmk := made_zero w3 (19999 + v) (by omega) (by omega)
    have hcv := conv_zero w3 (19999 + v).toNat (19999 + v).toNat
    have HS : Hid ((19999 + v).toNat ≤ 20002) := by show _ ≤ _; omega
    go_wp2
    go_ret
    exact ⟨_, rfl, (show (List.replicate (19999 + v).toNat (0 : UInt8)).length ≤ 20002 by have := HS.out; simp; omega), HBB.out.alloc hsz _⟩
end Go.Proofs.YthmobogbaijndaaDoor
