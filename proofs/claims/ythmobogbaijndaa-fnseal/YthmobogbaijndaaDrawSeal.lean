/- The draws of FnSeal, and lwAt. -/
import Derived.Test.YthmobogbaijndaaRows
import Derived.WalkKit
import Derived.WalkSpells
import Derived.WalkLawsBesides
import Derived.Test.YthmobogbaijndaaDraw
import Derived.Test.YthmobogbaijndaaSeal
namespace Go.Proofs.Ythmobogbaijndaa
open Go.RowKit

def zrow (n : Nat) : Array Value := (cellsU (List.replicate n 0)).toArray
theorem made_zero (w : World) (c : Int) (h0 : 0 ≤ c) (h1 : c ≤ 1000000) :
    (Instr.makeSlice 22 (.int .i64 c) (.int .i64 c)).run Try.prog w = .ok (.slice (some ⟨w.heap.size, 0, none⟩) c.toNat c.toNat) (w.alloc (.cells (zrow c.toNat) 5)) := by
  obtain ⟨i0, hi, hz0, hz1, hz2⟩ := info_parts info5
  rw [run_make (P := Try.prog) w 22 5 i0 (.int .u8 0) Try.underlying22 hi hz0 .i64 .i64 c c h0 (by omega) (by rw [hz2]; omega) (by omega)]
  have e : madeCells (Value.int .u8 0).cells (c.toNat * i0.size) = zrow c.toNat := by
    rw [hz1]
    apply Array.ext
    · simp [madeCells, zrow, cellsU]
    · intro i h1 h2
      simp [madeCells, zrow, cellsU, Value.cells]
      rw [show i % 1 = 0 by omega]; rfl
  rw [e]
theorem conv_zero (w : World) (n cap : Nat) : (convert 22 9 (.slice (some ⟨w.heap.size, 0, none⟩) n cap)).run Try.prog (w.alloc (.cells (zrow n) 5)) = .ok (.string ⟨(List.replicate n 0).toArray⟩) (w.alloc (.cells (zrow n) 5)) :=
  conv_row _ w.heap.size n cap 5 (cellsU (List.replicate n 0)) (List.replicate n 0) (heap_alloc_new _ _) (by simp) (List.take_of_length_le (by simp [cellsU]))

set_option maxRecDepth 100000 in
set_option maxHeartbeats 1000000 in
theorem drawSeal_any (a : Option Addr) (len cap : Nat) (w : World) (h : Arg w a len cap) :
    Calls Try.prog 4 #[.slice a len cap] w fun e w' => ∃ s : ByteArray, e = .returned (.string s) ∧ s.size ≤ 20000 ∧ Below w.heap.size w w' := by
  go_enter Try.func4, Try.ntmps4
  go_wp2_with fail
  refine (source_any a len cap _ h).mono ?_
  rintro e w1 ⟨rfl, hD1, hB1⟩
  go_wp2_with fail
  refine (one_any w.heap.size a len cap 30 _ hD1 (by omega) (by omega)).mono ?_
  rintro e w2 ⟨b, rfl, hD2, hG2⟩
  have hB2 : Below w.heap.size w w2 := hB1.trans (Dr.low hG2 (Nat.le_refl _) hD1.lt)
  clear hG2 hB1 hD1
  cases b
  · go_wp2_with fail
    refine (n_any w.heap.size a len cap 20 _ hD2 (by omega) (by omega)).mono ?_
    rintro e w3 ⟨v, rfl, hv0, hv1, hD3, hG3⟩
    have hB3 : Below w.heap.size w w3 := hB2.trans (Dr.low hG3 (Nat.le_refl _) hD2.lt)
    clear hG3 hB2 hD2
    go_wp2_with fail
    refine (bytes_any w.heap.size a len cap v _ hD3 (by omega)).mono ?_
    rintro e w4 ⟨s, rfl, hs, hD4, hG4⟩
    have HB4 : Hid (Below w.heap.size w w4) := hB3.trans (Dr.low hG4 (Nat.le_refl _) hD3.lt)
    have HS : Hid (s.size ≤ 20000) := by show _ ≤ _; omega
    clear hG4 hB3 hD3 hD4 hs
    go_wp2
    go_ret
    exact ⟨s, rfl, HS.out, HB4.out⟩
  · go_wp2_with fail
    refine (n_any w.heap.size a len cap 3 _ hD2 (by omega) (by omega)).mono ?_
    rintro e w3 ⟨v, rfl, hv0, hv1, hD3, hG3⟩
    have hB3 : Below w.heap.size w w3 := hB2.trans (Dr.low hG3 (Nat.le_refl _) hD2.lt)
    have hsz := hB3.size
    have HBB : Hid (_) := hB3
    clear hG3 hB2 hD2 hB3
    have hmk := made_zero w3 (19995 + v) (by omega) (by omega)
    have hcv := conv_zero w3 (19995 + v).toNat (19995 + v).toNat
    have HS : Hid ((19995 + v).toNat ≤ 20000) := by show _ ≤ _; omega
    go_wp2
    go_ret
    exact ⟨_, rfl, (show (List.replicate (19995 + v).toNat (0 : UInt8)).length ≤ 20000 by have := HS.out; simp; omega), HBB.out.alloc hsz _⟩
theorem crcI_bd (s : ByteArray) : 0 ≤ crcI s ∧ crcI s < 4294967296 := by
  unfold crcI; split
  · omega
  · have := crcOf_lt 0 s (by omega); omega
set_option maxRecDepth 100000 in
set_option maxHeartbeats 1000000 in
theorem drawCrcMore_any (a : Option Addr) (len cap : Nat) (w : World) (h : Arg w a len cap) :
    Calls Try.prog 9 #[.slice a len cap] w fun e w' => ∃ (c : Int) (s : ByteArray), e = .returned (.tuple #[.int .i64 c, .string s]) ∧ s.size ≤ 9 ∧ -9223372036854775808 ≤ c ∧ c ≤ 9223372036854775807 ∧ Below w.heap.size w w' := by
  go_enter Try.func9, Try.ntmps9
  go_wp2_with fail
  refine (source_any a len cap _ h).mono ?_
  rintro e w1 ⟨rfl, hD1, hB1⟩
  go_wp2_with fail
  refine (n_any w.heap.size a len cap 9 _ hD1 (by omega) (by omega)).mono ?_
  rintro e w2 ⟨v, rfl, hv0, hv1, hD2, hG2⟩
  have hB2 : Below w.heap.size w w2 := hB1.trans (Dr.low hG2 (Nat.le_refl _) hD1.lt)
  clear hG2 hB1 hD1
  go_wp2_with fail
  refine (bytes_any w.heap.size a len cap v _ hD2 (by omega)).mono ?_
  rintro e w3 ⟨s, rfl, hs, hD3, hG3⟩
  have hB3 : Below w.heap.size w w3 := hB2.trans (Dr.low hG3 (Nat.le_refl _) hD2.lt)
  have HS : Hid (s.size ≤ 9) := by show _ ≤ _; omega
  clear hG3 hB2 hD2 hs hv0 hv1
  go_wp2_with fail
  refine (one_any w.heap.size a len cap 5 _ hD3 (by omega) (by omega)).mono ?_
  rintro e w4 ⟨b, rfl, hD4, hG4⟩
  have hB4 : Below w.heap.size w w4 := hB3.trans (Dr.low hG4 (Nat.le_refl _) hD3.lt)
  clear hG4 hB3 hD3
  cases b
  · go_wp2_with fail
    refine (n_any w.heap.size a len cap 9 _ hD4 (by omega) (by omega)).mono ?_
    rintro e w5 ⟨v5, rfl, hv0, hv1, hD5, hG5⟩
    have hB5 : Below w.heap.size w w5 := hB4.trans (Dr.low hG5 (Nat.le_refl _) hD4.lt)
    clear hG5 hB4 hD4
    go_wp2_with fail
    refine (bytes_any w.heap.size a len cap v5 _ hD5 (by omega)).mono ?_
    rintro e w6 ⟨t, rfl, ht, hD6, hG6⟩
    have hB6 : Below w.heap.size w w6 := hB5.trans (Dr.low hG6 (Nat.le_refl _) hD5.lt)
    have htm : t.size ≤ maxLen := by unfold maxLen; omega
    clear hG6 hB5 hD5 ht hv0 hv1 hD6
    go_wp2_with fail
    refine (specCrc_any t _ htm).mono ?_
    rintro e w7 ⟨rfl, rfl⟩
    have HC : Hid (_) := crcI_bd t
    have HB : Hid (_) := hB6
    clear hB6 htm
    go_wp2
    go_ret2
    exact ⟨_, s, rfl, HS.out, by have := HC.out; omega, by have := HC.out; omega, HB.out⟩
  · go_wp2_with fail
    refine (edge_any w.heap.size a len cap _ hD4).mono ?_
    rintro e w5 ⟨c, rfl, hc0, hc1, hD5, hG5⟩
    have HB : Hid (Below w.heap.size w w5) := hB4.trans (Dr.low hG5 (Nat.le_refl _) hD4.lt)
    clear hG5 hB4 hD4 hD5
    go_wp2
    go_ret2
    exact ⟨c, s, rfl, HS.out, hc0, hc1, HB.out⟩

set_option maxRecDepth 100000 in
set_option maxHeartbeats 1000000 in
theorem lwAt_any (a : Option Addr) (len cap : Nat) (at_ : Nat) (most : Int) (w : World) (h : Arg w a len cap) (hat : at_ ≤ 1000000) (hm0 : -9223372036854775808 ≤ most) (hm1 : most ≤ 9223372036854775807) :
    Calls Try.prog 7 #[.slice a len cap, .int .i64 (at_ : Int), .int .i64 most] w fun e w' => ∃ v : Int, e = .returned (.int .i64 v) ∧ 0 ≤ v ∧ (v = 0 ∨ v < most) ∧ v < 256 ∧ w' = w := by
  have hsm := h.small
  by_cases h1 : most ≤ 1
  · go_enter Try.func7, Try.ntmps7
    go_wp2
    go_ret
    exact ⟨0, rfl, by omega, by omega, by omega, rfl⟩
  by_cases h2 : len = 0
  · have h2b : ((len : Int) == 0) = true := by rw [beq_iff_eq]; omega
    clear h2
    go_enter Try.func7, Try.ntmps7
    go_wp2
    go_ret
    exact ⟨0, rfl, by omega, by omega, by omega, rfl⟩
  · obtain ⟨x, rfl, hx, hc⟩ := h.arg (by omega)
    have hmod : at_ % len < len := Nat.mod_lt _ (by omega)
    obtain ⟨z, hz0, hz1, hzc⟩ := hc (at_ % len) hmod
    have h2b : ((len : Int) == 0) = false := by rw [beq_eq_false_iff_ne]; omega
    have e1 : ((at_ : Int) % (len : Int)).toNat = at_ % len := by omega
    have hp : 0 < len := by omega
    clear hc h2
    go_enter Try.func7, Try.ntmps7
    go_wp2
    go_ret
    have k0 : 0 ≤ z % most := Int.emod_nonneg _ (by omega)
    have k1 : z % most < most := Int.emod_lt_of_pos _ (by omega)
    have k2 : z % most < 256 := by
      by_cases hz : z < most
      · rw [Int.emod_eq_of_lt hz0 hz]; exact hz1
      · omega
    exact ⟨z % most, rfl, k0, Or.inr k1, k2, rfl⟩
end Go.Proofs.Ythmobogbaijndaa
