/- Hex texts: the specification's byte in two digits, and its record. -/
import Derived.Test.YtfmeickglipimaaDoorRows
import Derived.WalkKit
import Derived.WalkSpells
import Derived.WalkLawsBesides
import Derived.Outline
import Derived.RegionTactic
import Derived.BigRegion
import Derived.Deep.RegionHeld3
import Derived.Test.YtfmeickglipimaaDoorBase
import Derived.Test.YtfmeickglipimaaDoorRow
import Derived.Test.YtfmeickglipimaaDoorRes2
import Derived.Test.YtfmeickglipimaaDoorOwn
import Derived.Test.YtfmeickglipimaaDoorOwnT
import Derived.Test.YtfmeickglipimaaDoorHexM
namespace Go.Proofs.YtfmeickglipimaaDoor
open Go.RowKit
set_option linter.unusedVariables false

theorem base_spec (n : Int) (w : World) : Calls Tryd.prog 31 #[.int .i64 n] w fun e w' => e = .returned (.bool (baseB n)) ∧ w' = w := by
  cases hb : isB n 0 65534
  · have HE : Hid (baseB n = false) := by show _ = _; unfold baseB; rw [hb]; rfl
    have HB : Hid (isB n 0 65534 = false) := hb
    clear hb
    go_enter Tryd.func31, Tryd.ntmps31
    go_wp2_with fail
    refine (l02Is_any n 0 65534 _).mono ?_
    rintro e w1 ⟨rfl, rfl⟩
    rw [HB.out]
    go_wp2
    go_ret
    exact ⟨ret_bool (by rw [HE.out]), rfl⟩
  · have HE : Hid (baseB n = (n % 2 == 0)) := by show _ = _; unfold baseB; rw [hb]; rfl
    have HB : Hid (isB n 0 65534 = true) := hb
    have h0 : 0 ≤ n := by unfold isB at hb; simp at hb; omega
    clear hb
    go_enter Tryd.func31, Tryd.ntmps31
    go_wp2_with fail
    refine (l02Is_any n 0 65534 _).mono ?_
    rintro e w1 ⟨rfl, rfl⟩
    rw [HB.out]
    go_wp2
    go_ret
    exact ⟨ret_bool (by rw [HE.out]), rfl⟩
theorem digit_run (n : Int) (h0 : 0 ≤ n) (h1 : n < 16) (W : World) : (Instr.index 9 (.string ⟨#[48, 49, 50, 51, 52, 53, 54, 55, 56, 57, 65, 66, 67, 68, 69, 70]⟩) (.int .i64 n)).run Tryd.prog W = .ok (.int .u8 ((hexd n.toNat).toNat : Int)) W := by
  have h : n = 0 ∨ n = 1 ∨ n = 2 ∨ n = 3 ∨ n = 4 ∨ n = 5 ∨ n = 6 ∨ n = 7 ∨ n = 8 ∨ n = 9 ∨ n = 10 ∨ n = 11 ∨ n = 12 ∨ n = 13 ∨ n = 14 ∨ n = 15 := by omega
  rcases h with rfl | rfl | rfl | rfl | rfl | rfl | rfl | rfl | rfl | rfl | rfl | rfl | rfl | rfl | rfl | rfl <;> (show _ = _; kernel_rfl)
set_option maxRecDepth 100000 in
set_option maxHeartbeats 1600000 in
theorem byte_spec (n : Int) (w : World) (h0 : 0 ≤ n) (h1 : n ≤ 255) : Calls Tryd.prog 57 #[.int .i64 n] w fun e w' => e = .returned (.string ⟨(hex2 n).toArray⟩) ∧ Below w.heap.size w w' := by
  have hi := fun h => digit_at (n / 16).toNat (by omega) h
  have hj := fun h => digit_at (n % 16).toNat (by omega) h
  unfold digitsT at hi hj
  have HX : Hid (hex2 n = [hexd (n / 16).toNat, hexd (n % 16).toNat]) := rfl
  have a0 : 0 ≤ n / 16 := by omega
  have a1 : n / 16 < 16 := by omega
  have b0 : 0 ≤ n % 16 := by omega
  have b1 : n % 16 < 16 := by omega
  generalize hexd (n / 16).toNat = p at *
  generalize hexd (n % 16).toNat = q at *
  generalize hq : n / 16 = a at *
  generalize hr : n % 16 = b at *
  have hcv := conv_row (w.alloc (.cells #[.int .u8 (p.toNat : Int), .int .u8 (q.toNat : Int)] 5)).drew w.heap.size 2 2 5 [.int .u8 (p.toNat : Int), .int .u8 (q.toNat : Int)] [p, q] (heap_alloc_new _ _) rfl rfl
  go_enter Tryd.func57, Tryd.ntmps57
  go_wp2_with fail
  go_region
  go_wp2
  go_ret
  exact ⟨ret_str (by rw [HX.out]), (below_new _ _).drew⟩
theorem text_catL (a b : List UInt8) : (⟨a.toArray⟩ : ByteArray) ++ ⟨b.toArray⟩ = ⟨(a ++ b).toArray⟩ := by
  apply ByteArray.ext
  simp
theorem text_size (a : List UInt8) : (⟨a.toArray⟩ : ByteArray).size = a.length := rfl
set_option maxRecDepth 100000 in
set_option maxHeartbeats 1600000 in
theorem record_spec (v : Value) (B : Nat) (L : List Int) (w : World) (hO : OwnI w B v L) (hb : bytesB L) (hl : L.length ≤ 20) (h0 : 0 < L.length) : Calls Tryd.prog 34 #[v] w fun e w' => e = .returned (.string ⟨(recL L).toArray⟩) ∧ Below w.heap.size w w' := by
  obtain ⟨g, cap, rfl, _, h4, h5, hc⟩ := hO.some h0
  unfold maxLen at h5
  have HC : Hid (∀ i (hi : i < L.length), w.cell? ⟨g, i, none⟩ = some (.int .i64 L[i])) := hc
  have HY : Hid (bytesB L) := hb
  clear hO hc hb
  go_enter Tryd.func34, Tryd.ntmps34
  go_wp2
  go_loopw [3, 4, 5] (fun t m i wr => ∃ (k : Nat) (s : Int) (out : List UInt8), k ≤ L.length ∧ i = .int .i64 k ∧ m = .int .i64 s ∧ t = .string ⟨out.toArray⟩ ∧ 0 ≤ s ∧ s ≤ 255 * (k : Int) ∧ out.length = 2 * k + 1 ∧ Hid (out = 58 :: hexs (L.take k)) ∧ Hid (s = sumB (L.take k)) ∧ Hid (Below w.heap.size w wr)) (fun _ _ i _ => L.length - (intOf i).toNat)
  case atStart => exact ⟨0, 0, [58], by omega, rfl, rfl, rfl, by omega, by omega, rfl, rfl, rfl, Below.refl _ _⟩
  case round =>
    obtain ⟨k, s, out, hk, rfl, rfl, rfl, hs0, hs1, ho, HT, HS, HB⟩ := hrel
    by_cases hlt : k < L.length
    · have hck : wr.cell? ⟨g, k, none⟩ = some (.int .i64 L[k]) := (HB.out.cell (p := ⟨g, k, none⟩) (World.block_lt_of_cell? w _ (HC.out k hlt))).trans (HC.out k hlt)
      have HQ : Hid (∀ y, Below w.heap.size w y → y.cell? ⟨g, k, none⟩ = some (.int .i64 L[k])) := fun y h => (h.cell (p := ⟨g, k, none⟩) (World.block_lt_of_cell? w _ (HC.out k hlt))).trans (HC.out k hlt)
      obtain ⟨b0, b1⟩ := HY.out.at k hlt
      have HT2 : Hid (58 :: hexs (L.take (k + 1)) = (58 :: hexs (L.take k)) ++ hex2 L[k]) := by show _ = _; rw [hexs_take L k hlt]; rfl
      have HS2 : Hid (_ = _) := sumB_take L k hlt
      generalize L[k] = b at *
      have hi0 : (0 : Int) ≤ (k : Int) := by omega
      have hi1 : (k : Int) < (L.length : Int) := by omega
      have e1 : out.length ≤ 60 := by omega
      have e2 : (hex2 b).length ≤ 2 := by simp [hex2]
      go_wp2_with fail
      refine (byte_spec b _ b0 b1).mono ?_
      rintro e y ⟨rfl, hb⟩
      have HB2 : Hid (Below w.heap.size w y) := below_call HB.out hb
      have hck := HQ.out y HB2.out
      clear hb
      go_wp2
      go_roundw
      case rel => exact ⟨k + 1, s + b, out ++ hex2 b, by omega, by go_num, by go_num, by simp [text_catL], by omega, by omega, by simp [hex2]; omega, by show _ = _; rw [HT2.out, HT.out], by show _ = _; rw [HS2.out, HS.out], HB2.out⟩
      case measure => simp [intOf]; omega
    · obtain rfl : k = L.length := by omega
      have c0 : 0 ≤ (256 - s % 256) % 256 := by omega
      have c1 : (256 - s % 256) % 256 ≤ 255 := by omega
      have HE : Hid (recL L = out ++ (hex2 ((256 - s % 256) % 256) ++ [10])) := by
        show _ = _
        have h1 := HT.out
        have h2 := HS.out
        rw [List.take_length] at h1 h2
        rw [h1, h2]; rfl
      have e1 : out.length ≤ 60 := by omega
      have e2 : (hex2 ((256 - s % 256) % 256)).length ≤ 2 := by simp [hex2]
      generalize hq : (256 - s % 256) % 256 = c at *
      go_wp2_with fail
      refine (byte_spec c _ c0 c1).mono ?_
      rintro e y ⟨rfl, hb⟩
      have HB2 : Hid (Below w.heap.size w y) := below_call HB.out hb
      clear hb
      go_wp2
      go_ret
      exact ⟨ret_str (by rw [HE.out]; simp [text_catL]), HB2.out⟩
end Go.Proofs.YtfmeickglipimaaDoor
