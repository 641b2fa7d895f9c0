/- spoil of the draws: a text that is turned a little; how long it is. -/
import Derived.Test.YtfmeickglipimaaDoorRows
import Derived.WalkKit
import Derived.WalkSpells
import Derived.WalkLawsBesides
import Derived.Outline
import Derived.RegionTactic
import Derived.BigRegion
import Derived.Deep.QuietTactic
import Derived.BigQuiet
import Derived.Test.YtfmeickglipimaaDoorBase
import Derived.Test.YtfmeickglipimaaDoorRes2
import Derived.Test.YtfmeickglipimaaDoorRow
import Derived.Test.YtfmeickglipimaaDoorDraw
import Derived.Test.YtfmeickglipimaaDoorDrI0
namespace Go.Proofs.YtfmeickglipimaaDoor
open Go.RowKit
set_option linter.unusedVariables false

def spoilT : ByteArray := ⟨#[32, 10, 48, 97, 45, 110, 44, 58, 93, 255, 40, 120, 126, 49, 128, 225, 59]⟩
theorem spoil_at (V : Nat) (h : V < 17) : ∃ p : UInt8, ∀ h2, (⟨#[32, 10, 48, 97, 45, 110, 44, 58, 93, 255, 40, 120, 126, 49, 128, 225, 59]⟩ : ByteArray)[V]'h2 = p := ⟨spoilT[V]'(by show V < 17; exact h), fun _ => rfl⟩
theorem ex_len (s : ByteArray) (a b : Nat) : (s.extract a b).size ≤ s.size := by simp only [ByteArray.size_extract]; omega
theorem ex_lenA (s : ByteArray) (a b : Nat) (h : b ≤ s.size) : (s.extract a b).size = b - a := by simp only [ByteArray.size_extract]; omega
theorem DrI.drewN {w0 w : World} {g : Nat} {a : Option Addr} {len cap : Nat} (h : DrI w0 w g a len cap) (n : Nat) : DrI w0 (w.drewN n) g a len cap := ⟨⟨h.d.src, h.d.small, h.d.arg⟩, h.d0, ⟨h.gr.os, h.gr.tape, h.gr.output, h.gr.size, h.gr.block⟩⟩
theorem cut_to (s : ByteArray) (k : Nat) (h : k ≤ s.size) (W : World) : (Instr.slice 9 (.string s) none (some (.int .i64 (k : Int))) none).run Tryd.prog W = .ok (.string (s.extract 0 k)) W := by
  simp [Instr.slice, run_underlying Tryd.underlying9, Instr.sliceBounds, Instr.sliceBound, asIntOf, h]
theorem cut_from (s : ByteArray) (k : Nat) (h : k ≤ s.size) (W : World) : (Instr.slice 9 (.string s) (some (.int .i64 (k : Int))) none none).run Tryd.prog W = .ok (.string (s.extract k s.size)) W := by
  simp [Instr.slice, run_underlying Tryd.underlying9, Instr.sliceBounds, Instr.sliceBound, asIntOf, h]
theorem cut_next (s : ByteArray) (k : Nat) (h : k + 1 ≤ s.size) (W : World) : (Instr.slice 9 (.string s) (some (.int .i64 ((k : Int) + 1))) none none).run Tryd.prog W = .ok (.string (s.extract (k + 1) s.size)) W := by
  have h1 := cut_from s (k + 1) h W
  simpa using h1
set_option maxRecDepth 100000 in
set_option maxHeartbeats 1600000 in
theorem spoil_any (g : Nat) (a : Option Addr) (len cap : Nat) (t : ByteArray) (w : World) (h : Dr w g a len cap) (hs : t.size ≤ 100000) :
    Calls Tryd.prog 38 #[.pointer (some ⟨g, 0, none⟩), .string t] w fun e w' => (∃ u : ByteArray, e = .returned (.string u) ∧ u.size ≤ t.size + 1) ∧ Dr w' g a len cap ∧ w.grownBy w' (some g) := by
  have HD0 : Hid (DrI w w g a len cap) := DrI.start h
  clear h
  go_enter Tryd.func38, Tryd.ntmps38
  go_wp2_with fail
  refine (n_any g a len cap _ _ HD0.out.d (by omega) (by omega)).mono ?_
  rintro e x1 ⟨k, rfl, hk0, hk1, hD, hG⟩
  have HD1 : Hid (DrI w x1 g a len cap) := HD0.out.call hD hG
  clear hD hG
  obtain ⟨K, rfl⟩ := Int.eq_ofNat_of_zero_le hk0
  have hK : K ≤ t.size := by omega
  have hKi : (K : Int) ≤ (t.size : Int) := by omega
  clear hk1
  go_wp2_with fail
  refine (n_any g a len cap 17 _ HD1.out.d (by omega) (by omega)).mono ?_
  rintro e x2 ⟨n, rfl, hn0, hn1, hD, hG⟩
  have HD2 : Hid (DrI w x2 g a len cap) := HD1.out.call hD hG
  clear hD hG
  obtain ⟨V, rfl⟩ := Int.eq_ofNat_of_zero_le hn0
  have hV : V < 17 := by omega
  have hVi : (V : Int) < 17 := by omega
  clear hn1
  obtain ⟨p, hp⟩ := spoil_at V hV
  have hcv := conv_row (x2.alloc (.cells #[.int .u8 (p.toNat : Int)] 5)) x2.heap.size 1 1 5 [.int .u8 (p.toNat : Int)] [p] (heap_alloc_new _ _) rfl rfl
  have HD3 : Hid (DrI w (x2.alloc (.cells #[.int .u8 (p.toNat : Int)] 5)) g a len cap) := HD2.out.alloc _
  have s1 := ex_lenA t 0 K hK
  have s2 := ex_lenA t K t.size (Nat.le_refl _)
  have hp1 : (⟨#[p]⟩ : ByteArray).size = 1 := rfl
  have HS3 : Hid (K + 1 ≤ t.size → (t.extract (K + 1) t.size).size = t.size - (K + 1)) := fun h => ex_lenA t (K + 1) t.size (Nat.le_refl _)
  have q1 := cut_to t K hK
  have q2 := cut_from t K hK
  have k1 := fun W : World => run_string_add_sum (P := Tryd.prog) W (t.extract 0 K) ⟨#[p]⟩ (by rw [s1, hp1]; omega)
  have k2 := fun W : World => run_string_add_sum (P := Tryd.prog) W (t.extract 0 K ++ ⟨#[p]⟩) (t.extract K t.size) (by rw [ByteArray.size_append, s1, s2, hp1]; omega)
  have HZ : Hid (((t.extract 0 K ++ ⟨#[p]⟩) ++ t.extract K t.size).size ≤ t.size + 1) := by show _ ≤ _; rw [ByteArray.size_append, ByteArray.size_append, s1, s2, hp1]; omega
  clear s1 s2 hp1
  by_cases hKt : K = t.size
  · have hKe : ((K : Int) == (t.size : Int)) = true := by rw [beq_iff_eq]; omega
    go_wp2_with fail
    go_quiet (fail)
    go_wp2
    go_ret
    exact ⟨⟨_, rfl, by first | exact HZ.out | (rw [ByteArray.size_append]; show t.size + 1 ≤ _; omega)⟩, (HD3.out.drewN _).d, (HD3.out.drewN _).gr⟩
  · have hKe : ((K : Int) == (t.size : Int)) = false := by rw [beq_eq_false_iff_ne]; omega
    go_wp2_with fail
    refine (one_any g a len cap 3 _ HD3.out.d (by omega) (by omega)).mono ?_
    rintro e x3 ⟨b, rfl, hD, hG⟩
    have HD4 : Hid (DrI w x3 g a len cap) := HD3.out.call hD hG
    clear hD hG hcv
    cases b
    · go_wp2_with fail
      refine (one_any g a len cap 2 _ HD4.out.d (by omega) (by omega)).mono ?_
      rintro e x4 ⟨b, rfl, hD, hG⟩
      have HD5 : Hid (DrI w x4 g a len cap) := HD4.out.call hD hG
      clear hD hG k1 k2
      have hK1 : K + 1 ≤ t.size := by omega
      have q3 := cut_next t K hK1
      have hw3 : IntKind.i64.wrap ((K : Int) + 1) = (K : Int) + 1 := by rw [IntWalk.i64_left]; exact IntWalk.wrap64_in _ (by omega)
      have s1 := ex_lenA t 0 K hK
      have s3 := HS3.out hK1
      have hp1 : (⟨#[p]⟩ : ByteArray).size = 1 := rfl
      have k1 := fun W : World => run_string_add_sum (P := Tryd.prog) W (t.extract 0 K) (t.extract (K + 1) t.size) (by rw [s1, s3]; omega)
      have k2 := fun W : World => run_string_add_sum (P := Tryd.prog) W (t.extract 0 K) ⟨#[p]⟩ (by rw [s1, hp1]; omega)
      have k3 := fun W : World => run_string_add_sum (P := Tryd.prog) W (t.extract 0 K ++ ⟨#[p]⟩) (t.extract (K + 1) t.size) (by rw [ByteArray.size_append, s1, s3, hp1]; omega)
      have HZ1 : Hid ((t.extract 0 K ++ t.extract (K + 1) t.size).size ≤ t.size + 1) := by show _ ≤ _; rw [ByteArray.size_append, s1, s3]; omega
      have HZ2 : Hid (((t.extract 0 K ++ ⟨#[p]⟩) ++ t.extract (K + 1) t.size).size ≤ t.size + 1) := by show _ ≤ _; rw [ByteArray.size_append, ByteArray.size_append, s1, s3, hp1]; omega
      clear s1 s3 hp1 q2
      cases b
      · go_wp2_with fail
        go_quiet (fail)
        go_wp2
        go_ret
        exact ⟨⟨_, rfl, HZ2.out⟩, (HD5.out.drewN _).d, (HD5.out.drewN _).gr⟩
      · go_wp2_with fail
        go_quiet (fail)
        go_wp2
        go_ret
        exact ⟨⟨_, rfl, HZ1.out⟩, (HD5.out.drewN _).d, (HD5.out.drewN _).gr⟩
    · go_wp2_with fail
      go_quiet (fail)
      go_wp2
      go_ret
      exact ⟨⟨_, rfl, HZ.out⟩, (HD4.out.drewN _).d, (HD4.out.drewN _).gr⟩
end Go.Proofs.YtfmeickglipimaaDoor
