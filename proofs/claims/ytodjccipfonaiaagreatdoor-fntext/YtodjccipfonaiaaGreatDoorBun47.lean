/- spoil of the draws: a text that is turned a little; how long it is. -/
import Derived.Test.YtodjccipfonaiaaGreatDoorRows
import Derived.WalkKit
import Derived.WalkSpells
import Derived.WalkLawsBesides
import Derived.Outline
import Derived.RegionTactic
import Derived.BigRegion
import Derived.Deep.QuietTactic
import Derived.BigQuiet
import Derived.Test.YtodjccipfonaiaaGreatDoorBun0
import Derived.Test.YtodjccipfonaiaaGreatDoorBun14
import Derived.Test.YtodjccipfonaiaaGreatDoorBun46
import Derived.Test.YtodjccipfonaiaaGreatDoorBun26
import Derived.Test.YtodjccipfonaiaaGreatDoorBun45
import Derived.Test.YtodjccipfonaiaaGreatDoorBun3
namespace Go.Proofs.YtodjccipfonaiaaGreatDoor
open Go.RowKit
set_option linter.unusedVariables false

def spoilT : ByteArray := ⟨#[32, 10, 48, 97, 45, 110, 44, 58, 93, 255, 40, 120, 126, 49, 128, 225, 59]⟩
theorem spoil_at (V : Nat) (h : V < 17) : ∃ p : UInt8, ∀ h2, (⟨#[32, 10, 48, 97, 45, 110, 44, 58, 93, 255, 40, 120, 126, 49, 128, 225, 59]⟩ : ByteArray)[V]'h2 = p := ⟨spoilT[V]'(by show V < 17; exact h), fun _ => rfl⟩
theorem ex_len (s : ByteArray) (a b : Nat) : (s.extract a b).size ≤ s.size := by simp only [ByteArray.size_extract]; omega
theorem ex_lenA (s : ByteArray) (a b : Nat) (h : b ≤ s.size) : (s.extract a b).size = b - a := by simp only [ByteArray.size_extract]; omega
theorem DrI.drewN {w0 w : World} {g : Nat} {a : Option Addr} {len cap : Nat} (h : DrI w0 w g a len cap) (n : Nat) : DrI w0 (w.drewN n) g a len cap := ⟨⟨h.d.src, h.d.small, h.d.arg⟩, h.d0, ⟨h.gr.os, h.gr.tape, h.gr.output, h.gr.size, h.gr.block⟩⟩
theorem cut_to (s : ByteArray) (k : Nat) (h : k ≤ s.size) (W : World) : (Instr.slice 9 (.string s) none (some (.int .i64 (k : Int))) none).run Tryz.prog W = .ok (.string (s.extract 0 k)) W := by
  simp [Instr.slice, run_underlying Tryz.underlying9, Instr.sliceBounds, Instr.sliceBound, asIntOf, h]
theorem cut_from (s : ByteArray) (k : Nat) (h : k ≤ s.size) (W : World) : (Instr.slice 9 (.string s) (some (.int .i64 (k : Int))) none none).run Tryz.prog W = .ok (.string (s.extract k s.size)) W := by
  simp [Instr.slice, run_underlying Tryz.underlying9, Instr.sliceBounds, Instr.sliceBound, asIntOf, h]
theorem cut_next (s : ByteArray) (k : Nat) (h : k + 1 ≤ s.size) (W : World) : (Instr.slice 9 (.string s) (some (.int .i64 ((k : Int) + 1))) none none).run Tryz.prog W = .ok (.string (s.extract (k + 1) s.size)) W := by
  have h1 := cut_from s (k + 1) h W
  simpa using h1
set_option maxRecDepth 100000 in
set_option maxHeartbeats 1600000 in
theorem spoil_any (g : Nat) (a : Option Addr) (len cap : Nat) (t : ByteArray) (w : World) (h : Dr w g a len cap) (hs : t.size ≤ 100000) :
    Calls Tryz.prog 45 #[.pointer (some ⟨g, 0, none⟩), .string t] w fun e w' => (∃ u : ByteArray, e = .returned (.string u) ∧ u.size ≤ t.size + 1) ∧ Dr w' g a len cap ∧ w.grownBy w' (some g) := by
  have HD0 : Hid (DrI w w g a len cap) := DrI.start h
  clear h
  go_enter Tryz.func45, Tryz.ntmps45
  go_wp2_with fail
  refine (n_any g a len cap _ _ HD0.out.d (by omega) (by omega)).mono ?_
  rintro e x1 ⟨k, rfl, hk0, hk1, hD, hG⟩
  have HD1 : Hid (DrI w x1 g a len cap) := HD0.out.call hD hG
  clear hD hG
  obtain ⟨K, rfl⟩ := Int.eq_ofNat_of_zero_le hk0
  have hK : K ≤ t.size := by omega
  have hKi : (K : Int) ≤ (t.size : Int) := by omega
  clear hk1
  go_wp2_with fail
  refine (n_any g a len cap 17 _ HD1.out.d (by omega) (by omega)).mono ?_
  rintro e x2 ⟨n, rfl, hn0, hn1, hD, hG⟩
  have HD2 : Hid (DrI w x2 g a len cap) := HD1.out.call hD hG
  clear hD hG
  obtain ⟨V, rfl⟩ := Int.eq_ofNat_of_zero_le hn0
  have hV : V < 17 := by omega
  have hVi : (V : Int) < 17 := by omega
  clear hn1
  obtain ⟨p, hp⟩ := spoil_at V hV
  have hcv := conv_row (x2.alloc (.cells #[.int .u8 (p.toNat : Int)] 5)) x2.heap.size 1 1 5 [.int .u8 (p.toNat : Int)] [p] (heap_alloc_new _ _) rfl rfl
  have HD3 : Hid (DrI w (x2.alloc (.cells #[.int .u8 (p.toNat : Int)] 5)) g a len cap) := HD2.out.alloc _
  have s1 := ex_lenA t 0 K hK
  have s2 := ex_lenA t K t.size (Nat.le_refl _)
  have hp1 : (⟨#[p]⟩ : ByteArray).size = 1 := rfl
  have HS3 : Hid (K + 1 ≤ t.size → (t.extract (K + 1) t.size).size = t.size - (K + 1)) := fun h => ex_lenA t (K + 1) t.size (Nat.le_refl _)
  have q1 := cut_to t K hK
  have q2 := cut_from t K hK
  have k1 := fun W : World => run_string_add_sum (P := Tryz.prog) W (t.extract 0 K) ⟨#[p]⟩ (by rw [s1, hp1]; omega)
  have k2 := fun W : World => run_string_add_sum (P := Tryz.prog) W (t.extract 0 K ++ ⟨#[p]⟩) (t.extract K t.size) (by rw [ByteArray.size_append, s1, s2, hp1]; omega)
  have HZ : Hid (((t.extract 0 K ++ ⟨#[p]⟩) ++ t.extract K t.size).size ≤ t.size + 1) := by show _ ≤ _; rw [ByteArray.size_append, ByteArray.size_append, s1, s2, hp1]; omega
  clear s1 s2 hp1
  by_cases hKt : K = t.size
  · have hKe : ((K : Int) == (t.size : Int)) = true := by rw [beq_iff_eq]; omega
    go_wp2_with fail
    go_quiet (fail)
    go_wp2
    go_ret
    exact ⟨⟨_, rfl, by first | exact HZ.out | (rw [ByteArray.size_append]; show t.size + 1 ≤ _; omega)⟩, (HD3.out.drewN _).d, (HD3.out.drewN _).gr⟩
  · have hKe : ((K : Int) == (t.size : Int)) = false := by rw [beq_eq_false_iff_ne]; omega
    go_wp2_with fail
    refine (one_any g a len cap 3 _ HD3.out.d (by omega) (by omega)).mono ?_
    rintro e x3 ⟨b, rfl, hD, hG⟩
    have HD4 : Hid (DrI w x3 g a len cap) := HD3.out.call hD hG
    clear hD hG hcv
    cases b
    · go_wp2_with fail
      refine (one_any g a len cap 2 _ HD4.out.d (by omega) (by omega)).mono ?_
      rintro e x4 ⟨b, rfl, hD, hG⟩
      have HD5 : Hid (DrI w x4 g a len cap) := HD4.out.call hD hG
      clear hD hG k1 k2
      have hK1 : K + 1 ≤ t.size := by omega
      have q3 := cut_next t K hK1
      have hw3 : IntKind.i64.wrap ((K : Int) + 1) = (K : Int) + 1 := by rw [IntWalk.i64_left]; exact IntWalk.wrap64_in _ (by omega)
      have s1 := ex_lenA t 0 K hK
      have s3 := HS3.out hK1
      have hp1 : (⟨#[p]⟩ : ByteArray).size = 1 := rfl
      have k1 := fun W : World => run_string_add_sum (P := Tryz.prog) W (t.extract 0 K) (t.extract (K + 1) t.size) (by rw [s1, s3]; omega)
      have k2 := fun W : World => run_string_add_sum (P := Tryz.prog) W (t.extract 0 K) ⟨#[p]⟩ (by rw [s1, hp1]; omega)
      have k3 := fun W : World => run_string_add_sum (P := Tryz.prog) W (t.extract 0 K ++ ⟨#[p]⟩) (t.extract (K + 1) t.size) (by rw [ByteArray.size_append, s1, s3, hp1]; omega)
      have HZ1 : Hid ((t.extract 0 K ++ t.extract (K + 1) t.size).size ≤ t.size + 1) := by show _ ≤ _; rw [ByteArray.size_append, s1, s3]; omega
      have HZ2 : Hid (((t.extract 0 K ++ ⟨#[p]⟩) ++ t.extract (K + 1) t.size).size ≤ t.size + 1) := by show _ ≤ _; rw [ByteArray.size_append, ByteArray.size_append, s1, s3, hp1]; omega
      clear s1 s3 hp1 q2
      cases b
      · go_wp2_with fail
        go_quiet (fail)
        go_wp2
        go_ret
        exact ⟨⟨_, rfl, HZ2.out⟩, (HD5.out.drewN _).d, (HD5.out.drewN _).gr⟩
      · go_wp2_with fail
        go_quiet (fail)
        go_wp2
        go_ret
        exact ⟨⟨_, rfl, HZ1.out⟩, (HD5.out.drewN _).d, (HD5.out.drewN _).gr⟩
    · go_wp2_with fail
      go_quiet (fail)
      go_wp2
      go_ret
      exact ⟨⟨_, rfl, HZ.out⟩, (HD4.out.drewN _).d, (HD4.out.drewN _).gr⟩
end Go.Proofs.YtodjccipfonaiaaGreatDoor
namespace Go.Proofs.YtodjccipfonaiaaGreatDoor
open Go.RowKit
set_option linter.unusedVariables false

def namesP : List ByteArray := [⟨#[97]⟩, ⟨#[120, 95, 49]⟩, ⟨#[108, 111, 111, 112]⟩]
def wordsP : List ByteArray := [⟨#[48, 120, 102, 102]⟩, ⟨#[48, 120]⟩, ⟨#[48, 120, 49, 48, 48, 48, 48]⟩, ⟨#[97, 43, 48, 120, 49, 48]⟩, ⟨#[97, 45]⟩, ⟨#[43, 49]⟩, ⟨#[48, 48, 48, 48, 55]⟩, ⟨#[54, 53, 53, 51, 54]⟩, ⟨#[97, 43, 49, 43, 49]⟩, ⟨#[97, 45, 54, 53, 53, 51, 53]⟩, ⟨#[57, 97]⟩, ⟨#[65]⟩, ⟨#[48, 120, 70, 70]⟩]
def insnsP : List ByteArray := [⟨#[109, 111, 118, 32, 35, 48, 120, 49, 48, 44, 114, 53]⟩, ⟨#[109, 111, 118, 32, 114, 49, 44, 114, 50]⟩, ⟨#[109, 111, 118, 32, 114, 49, 32, 44, 32, 114, 50]⟩, ⟨#[109, 111, 118, 32, 35, 49, 44, 32, 35, 50]⟩, ⟨#[112, 117, 115, 104, 32, 35, 35, 49]⟩, ⟨#[112, 117, 115, 104, 32, 35, 35, 51]⟩, ⟨#[106, 109, 112, 32, 36, 43, 48]⟩, ⟨#[106, 109, 112, 32, 36, 43, 49]⟩, ⟨#[106, 109, 112, 32, 36, 45, 49, 48, 50, 50]⟩, ⟨#[106, 109, 112, 32, 36, 43, 49, 48, 50, 54]⟩, ⟨#[114, 101, 116, 105, 32]⟩, ⟨#[114, 101, 116, 105]⟩, ⟨#[114, 114, 99, 46, 98, 32, 64, 114, 53, 43]⟩, ⟨#[115, 120, 116, 46, 98, 32, 114, 53]⟩, ⟨#[109, 111, 118, 32, 114, 51, 44, 32, 114, 52]⟩, ⟨#[109, 111, 118, 32, 64, 114, 48, 43, 44, 32, 114, 52]⟩, ⟨#[99, 97, 108, 108, 32, 48, 120, 49, 48, 40, 114, 52, 41]⟩, ⟨#[109, 111, 118, 32, 53, 40, 114, 50, 41, 44, 32, 114, 52]⟩, ⟨#[109, 111, 118, 32, 114, 48, 53, 44, 32, 114, 52]⟩, ⟨#[97, 100, 100]⟩, ⟨#[109, 111, 118, 32, 97, 44, 32, 114, 53]⟩, ⟨#[106, 109, 112, 32, 97]⟩, ⟨#[109, 111, 118, 32, 35, 97, 44, 32, 114, 53]⟩]
theorem small_P : (∀ s ∈ namesP, s.size ≤ 30) ∧ (∀ s ∈ wordsP, s.size ≤ 30) ∧ ∀ s ∈ insnsP, s.size ≤ 30 := by decide +kernel
set_option maxRecDepth 100000 in
set_option maxHeartbeats 1600000 in
theorem pick_any (g : Nat) (a : Option Addr) (len cap B N : Nat) (L : List ByteArray) (w : World) (h : Dr w g a len cap) (hB : w.heap[B]? = some (.cells (L.map Value.string).toArray 9 (0, 0))) (hne : B ≠ g) (hN : L.length = N) (h0 : 0 < N) (h1 : N ≤ 100) :
    Calls Tryz.prog 44 #[.pointer (some ⟨g, 0, none⟩), .slice (some ⟨B, 0, none⟩) N N] w fun e w' => (∃ s ∈ L, e = .returned (.string s)) ∧ Dr w' g a len cap ∧ w.grownBy w' (some g) := by
  have HB : Hid (_ = _) := hB
  have HN : Hid (L.length = N) := hN
  clear hB hN
  go_enter Tryz.func44, Tryz.ntmps44
  go_wp2_with fail
  refine (n_any g a len cap N _ h (by omega) (by omega)).mono ?_
  rintro e w1 ⟨v, rfl, hv0, hv1, hD, hG⟩
  obtain ⟨V, rfl⟩ := Int.eq_ofNat_of_zero_le hv0
  have hV : V < N := by omega
  have hVi : (V : Int) < (N : Int) := by omega
  have hVL : V < L.length := by rw [HN.out]; exact hV
  have hc : w1.cell? ⟨B, V, none⟩ = some (.string L[V]) := by
    have e1 : w1.heap[B]? = _ := heap_grown HB.out hG hne
    rw [cell_of_row _ _ _ _ _ _ e1]
    simp [hVL]
  have HM : Hid (L[V] ∈ L) := List.getElem_mem hVL
  have HD : Hid (Dr w1 g a len cap) := hD
  have HG : Hid (w.grownBy w1 (some g)) := hG
  clear hD hG hv1 h
  generalize L[V] = s at *
  go_wp2
  go_ret
  exact ⟨⟨s, HM.out, rfl⟩, HD.out, HG.out⟩
def SomeOut (g : Nat) (a : Option Addr) (len cap : Nat) (w : World) (e : Ending) (w' : World) : Prop := ∃ (nm : ByteArray) (n : Int), e = .returned (.agg #[.string nm, .int .i64 n]) ∧ nm.size ≤ 30 ∧ Dr w' g a len cap ∧ w.grownBy w' (some g)
theorem someOut_mk {g : Nat} {a : Option Addr} {len cap : Nat} {w w' : World} (nm : ByteArray) (n : Int) (h : nm.size ≤ 30) (hD : DrI w w' g a len cap) : SomeOut g a len cap w (.returned (.agg #[.string nm, .int .i64 n])) w' := ⟨nm, n, rfl, h, hD.d, hD.gr⟩
set_option maxRecDepth 100000 in
set_option maxHeartbeats 3200000 in
theorem l03Some_any (g : Nat) (a : Option Addr) (len cap : Nat) (w : World) (h : Dr w g a len cap) : Calls Tryz.prog 26 #[.pointer (some ⟨g, 0, none⟩)] w (SomeOut g a len cap w) := by
  have hgl := h.lt
  have HD0 : Hid (DrI w (w.alloc (.cells #[.string ⟨#[]⟩, .int .i64 0] 30)) g a len cap) := (DrI.start h).alloc _
  have HT0 : Hid (_ = _) := heap_alloc_new w (.cells #[.string ⟨#[]⟩, .int .i64 0] 30)
  have HN : Hid ((∀ s ∈ namesP, s.size ≤ 30)) := small_P.1
  clear h
  go_enter Tryz.func26, Tryz.ntmps26
  go_wp2_with fail
  refine (l02N_any g a len cap _ HD0.out.d).mono ?_
  rintro e x1 ⟨v, rfl, hv0, hv1, hD, hG⟩
  have HD1 : Hid (DrI w (x1.alloc (.cells #[.string ⟨#[]⟩, .int .i64 v] 30)) g a len cap) := (HD0.out.call hD hG).alloc _
  have HT1 : Hid (_ = _) := heap_more (heap_grown HT0.out hG (by omega)) (.cells #[.string ⟨#[]⟩, .int .i64 v] 30)
  have HU1 : Hid (_ = _) := heap_alloc_new x1 (.cells #[.string ⟨#[]⟩, .int .i64 v] 30)
  have hs1 : w.heap.size < x1.heap.size := by have := hG.size; simp at this; omega
  clear hD hG HD0 HT0
  generalize hU : x1.heap.size = U at *
  go_wp2_with fail
  generalize x1.alloc (.cells #[.string ⟨#[]⟩, .int .i64 v] 30) = y1 at *
  refine (one_any g a len cap 2 _ HD1.out.d (by omega) (by omega)).mono ?_
  rintro e x2 ⟨b1, rfl, hD, hG⟩
  have HD2 : Hid (DrI w x2 g a len cap) := HD1.out.call hD hG
  have HT2 : Hid (x2.heap[w.heap.size]? = _) := heap_grown HT1.out hG (by omega)
  have HU2 : Hid (x2.heap[U]? = some (.cells #[.string ⟨#[]⟩, .int .i64 v] 30 (0, 0))) := heap_grown HU1.out hG (by omega)
  clear hD hG HD1 HT1 HU1
  have hs2 := heap_lt HU2.out
  cases b1
  · have HS : Hid ((⟨#[]⟩ : ByteArray).size ≤ 30) := by show 0 ≤ 30; omega
    go_wp2_with fail
    refine (one_any g a len cap 15 _ HD2.out.d (by omega) (by omega)).mono ?_
    rintro e x7 ⟨b2, rfl, hD, hG⟩
    have HD7 : Hid (DrI w x7 g a len cap) := HD2.out.call hD hG
    have HT7 : Hid (x7.heap[w.heap.size]? = _) := heap_grown HT2.out hG (by omega)
    have HU7 : Hid (x7.heap[U]? = some (.cells #[.string ⟨#[]⟩, .int .i64 v] 30 (0, 0))) := heap_grown HU2.out hG (by omega)
    have hs7 := heap_lt HU7.out
    clear hD hG HD2 HT2 HU2
    cases b2
    · obtain ⟨u0, u1, v0, v1⟩ := two_cells HU7.out
      obtain ⟨t0, t1, z0, z1⟩ := two_cells HT7.out
      go_wp2
      exact bodyPost_ret (results_cell_row Tryz.results26 _ _ w.heap.size 30 _ (0, 0) _ rfl (set_two HT7.out) Tryz.underlying30 rfl (by kernel_rfl)) rfl (someOut_mk ⟨#[]⟩ v HS.out ((HD7.out.set (Nat.le_refl _) 0 _).set (Nat.le_refl _) 1 _))
    · go_wp2_with fail
      refine (edge_any g a len cap _ HD7.out.d).mono ?_
      rintro e x8 ⟨ed, rfl, he0, he1, hD, hG⟩
      have HD8 : Hid (DrI w x8 g a len cap) := HD7.out.call hD hG
      have HT8 : Hid (x8.heap[w.heap.size]? = _) := heap_grown HT7.out hG (by omega)
      have HU8 : Hid (x8.heap[U]? = some (.cells #[.string ⟨#[]⟩, .int .i64 v] 30 (0, 0))) := heap_grown HU7.out hG (by omega)
      have hs8 := heap_lt HU8.out
      clear hD hG HD7 HT7 HU7
      go_wp2_with fail
      refine (n_any g a len cap 5 _ (HD8.out.alloc _).d (by omega) (by omega)).mono ?_
      rintro e x9 ⟨k, rfl, hk0, hk1, hD, hG⟩
      obtain ⟨V, rfl⟩ := Int.eq_ofNat_of_zero_le hk0
      have hV : V < 5 := by omega
      have hVi : (V : Int) < 5 := by omega
      obtain ⟨y, hy, hyc⟩ := tab_cell (w := x8) (t := 2) [-1, 65536, 32768, -32768, ed] V hV x9 hG (by omega)
      have HD9 : Hid (DrI w x9 g a len cap) := (HD8.out.alloc _).call hD hG
      have HT9 : Hid (x9.heap[w.heap.size]? = _) := heap_grown (heap_more HT8.out _) hG (by omega)
      have HU9 : Hid (x9.heap[U]? = some (.cells #[.string ⟨#[]⟩, .int .i64 v] 30 (0, 0))) := heap_grown (heap_more HU8.out _) hG (by omega)
      have hs9 := heap_lt HU9.out
      clear hD hG HD8 HT8 HU8 hk1 hy
      obtain ⟨u0, u1, v0, v1⟩ := two_cells HU9.out
      obtain ⟨t0, t1, z0, z1⟩ := two_cells HT9.out
      go_wp2
      exact bodyPost_ret (results_cell_row Tryz.results26 _ _ w.heap.size 30 _ (0, 0) _ rfl (set_two (set_far (a := ⟨U, 1, none⟩) (v := .int .i64 y) (show w.heap.size ≠ U by omega) HT9.out)) Tryz.underlying30 rfl (by kernel_rfl)) rfl (someOut_mk ⟨#[]⟩ y HS.out (((HD9.out.set (show w.heap.size ≤ U by omega) 1 (.int .i64 y)).set (Nat.le_refl _) 0 _).set (Nat.le_refl _) 1 _))
  · have HP2 : Hid (_ = _) := heap_alloc_new x2 (.cells (namesP.map Value.string).toArray 9)
    go_wp2_with fail
    refine (pick_any g a len cap x2.heap.size 3 namesP _ (HD2.out.alloc _).d HP2.out (by omega) rfl (by omega) (by omega)).mono ?_
    rintro e x3 ⟨⟨nm, hm, rfl⟩, hD, hG⟩
    have HS : Hid (nm.size ≤ 30) := HN.out nm hm
    have HD3 : Hid (DrI w x3 g a len cap) := (HD2.out.alloc _).call hD hG
    have HT3 : Hid (x3.heap[w.heap.size]? = _) := heap_grown (heap_more HT2.out _) hG (by omega)
    have HU3 : Hid (x3.heap[U]? = some (.cells #[.string ⟨#[]⟩, .int .i64 v] 30 (0, 0))) := heap_grown (heap_more HU2.out _) hG (by omega)
    have hs3 := heap_lt HU3.out
    clear hD hG HD2 HT2 HU2 HP2 hm
    go_wp2_with fail
    refine (n_any g a len cap 6 _ (HD3.out.alloc _).d (by omega) (by omega)).mono ?_
    rintro e x4 ⟨k, rfl, hk0, hk1, hD, hG⟩
    obtain ⟨V, rfl⟩ := Int.eq_ofNat_of_zero_le hk0
    have hV : V < 6 := by omega
    have hVi : (V : Int) < 6 := by omega
    obtain ⟨n, hn, hnc⟩ := tab_cell (w := x3) (t := 2) [0, 1, -1, 32767, -32767, 2] V hV x4 hG (by omega)
    have HD4 : Hid (DrI w x4 g a len cap) := (HD3.out.alloc _).call hD hG
    have HT4 : Hid (x4.heap[w.heap.size]? = _) := heap_grown (heap_more HT3.out _) hG (by omega)
    have HU4 : Hid (x4.heap[U]? = some (.cells #[.string ⟨#[]⟩, .int .i64 v] 30 (0, 0))) := heap_grown (heap_more HU3.out _) hG (by omega)
    have hs4 := heap_lt HU4.out
    clear hD hG HD3 HT3 HU3 hk1 hn
    obtain ⟨u0, u1, v0, v1⟩ := two_cells HU4.out
    have HD5 : Hid (DrI w ((x4.setCell ⟨U, 0, none⟩ (.string nm)).setCell ⟨U, 1, none⟩ (.int .i64 n)) g a len cap) := (HD4.out.set (by omega) 0 _).set (by omega) 1 _
    have HT5 : Hid (_ = _) := set_far (a := ⟨U, 1, none⟩) (v := .int .i64 n) (show w.heap.size ≠ U by omega) (set_far (a := ⟨U, 0, none⟩) (v := .string nm) (show w.heap.size ≠ U by omega) HT4.out)
    have HU5 : Hid (((x4.setCell ⟨U, 0, none⟩ (.string nm)).setCell ⟨U, 1, none⟩ (.int .i64 n)).heap[U]? = some (.cells #[.string nm, .int .i64 n] 30 (0, 0))) := set_two HU4.out
    go_wp2_with fail
    clear u0 u1 v0 v1 hnc HD4 HT4 HU4
    generalize (x4.setCell ⟨U, 0, none⟩ (.string nm)).setCell ⟨U, 1, none⟩ (.int .i64 n) = x5 at *
    go_wp2_with fail
    refine (one_any g a len cap 15 _ HD5.out.d (by omega) (by omega)).mono ?_
    rintro e x7 ⟨b2, rfl, hD, hG⟩
    have HD7 : Hid (DrI w x7 g a len cap) := HD5.out.call hD hG
    have HT7 : Hid (x7.heap[w.heap.size]? = _) := heap_grown HT5.out hG (by omega)
    have HU7 : Hid (x7.heap[U]? = some (.cells #[.string nm, .int .i64 n] 30 (0, 0))) := heap_grown HU5.out hG (by omega)
    have hs7 := heap_lt HU7.out
    clear hD hG HD5 HT5 HU5
    cases b2
    · obtain ⟨u0, u1, v0, v1⟩ := two_cells HU7.out
      obtain ⟨t0, t1, z0, z1⟩ := two_cells HT7.out
      go_wp2
      exact bodyPost_ret (results_cell_row Tryz.results26 _ _ w.heap.size 30 _ (0, 0) _ rfl (set_two HT7.out) Tryz.underlying30 rfl (by kernel_rfl)) rfl (someOut_mk nm n HS.out ((HD7.out.set (Nat.le_refl _) 0 _).set (Nat.le_refl _) 1 _))
    · go_wp2_with fail
      refine (edge_any g a len cap _ HD7.out.d).mono ?_
      rintro e x8 ⟨ed, rfl, he0, he1, hD, hG⟩
      have HD8 : Hid (DrI w x8 g a len cap) := HD7.out.call hD hG
      have HT8 : Hid (x8.heap[w.heap.size]? = _) := heap_grown HT7.out hG (by omega)
      have HU8 : Hid (x8.heap[U]? = some (.cells #[.string nm, .int .i64 n] 30 (0, 0))) := heap_grown HU7.out hG (by omega)
      have hs8 := heap_lt HU8.out
      clear hD hG HD7 HT7 HU7
      go_wp2_with fail
      refine (n_any g a len cap 5 _ (HD8.out.alloc _).d (by omega) (by omega)).mono ?_
      rintro e x9 ⟨k, rfl, hk0, hk1, hD, hG⟩
      obtain ⟨V, rfl⟩ := Int.eq_ofNat_of_zero_le hk0
      have hV : V < 5 := by omega
      have hVi : (V : Int) < 5 := by omega
      obtain ⟨y, hy, hyc⟩ := tab_cell (w := x8) (t := 2) [-1, 65536, 32768, -32768, ed] V hV x9 hG (by omega)
      have HD9 : Hid (DrI w x9 g a len cap) := (HD8.out.alloc _).call hD hG
      have HT9 : Hid (x9.heap[w.heap.size]? = _) := heap_grown (heap_more HT8.out _) hG (by omega)
      have HU9 : Hid (x9.heap[U]? = some (.cells #[.string nm, .int .i64 n] 30 (0, 0))) := heap_grown (heap_more HU8.out _) hG (by omega)
      have hs9 := heap_lt HU9.out
      clear hD hG HD8 HT8 HU8 hk1 hy
      obtain ⟨u0, u1, v0, v1⟩ := two_cells HU9.out
      obtain ⟨t0, t1, z0, z1⟩ := two_cells HT9.out
      go_wp2
      exact bodyPost_ret (results_cell_row Tryz.results26 _ _ w.heap.size 30 _ (0, 0) _ rfl (set_two (set_far (a := ⟨U, 1, none⟩) (v := .int .i64 y) (show w.heap.size ≠ U by omega) HT9.out)) Tryz.underlying30 rfl (by kernel_rfl)) rfl (someOut_mk nm y HS.out (((HD9.out.set (show w.heap.size ≤ U by omega) 1 (.int .i64 y)).set (Nat.le_refl _) 0 _).set (Nat.le_refl _) 1 _))
end Go.Proofs.YtodjccipfonaiaaGreatDoor
namespace Go.Proofs.YtodjccipfonaiaaGreatDoor
open Go.RowKit
set_option linter.unusedVariables false

theorem DrI.below1 {w x1 z : World} {a : Option Addr} {len cap : Nat} (h : DrI x1 z w.heap.size a len cap) (hb : Below w.heap.size w x1) : Below w.heap.size w z :=
  ⟨h.gr.os.trans hb.os, h.gr.tape.trans hb.tape, h.gr.output.trans hb.output, Nat.le_trans hb.size h.gr.size, fun k hk => (h.gr.block k (by have := hb.size; omega) (by simp; omega)).trans (hb.block k hk)⟩
theorem wt_size (nm : ByteArray) (n : Int) : (wtB nm n).size ≤ 40 := by
  cases h : wordB nm n
  · unfold wtB; rw [h, if_pos rfl]; show 0 ≤ 40; omega
  · unfold wtB
    rw [h, if_neg (by decide)]
    by_cases hn : nm = ⟨#[]⟩
    · rw [if_pos hn]
      subst hn
      obtain ⟨h0, h1⟩ := word_empty h
      have := dg_size n (by omega) (by omega)
      have e : dg n = digs (Lib.itoa n) := rfl
      rw [← e]; omega
    · rw [if_neg hn]
      obtain ⟨h0, h1, h2⟩ := word_named hn h
      split
      · omega
      · rw [ByteArray.size_append]
        have := dg_size n (by omega) (by omega)
        unfold sgnB
        split
        · have e : dg n = digs (Lib.itoa n) := rfl
          rw [← e]; omega
        · rw [ByteArray.size_append]
          have e : dg n = digs (Lib.itoa n) := rfl
          have e1 : (⟨#[43]⟩ : ByteArray).size = 1 := rfl
          rw [← e, e1]; omega
theorem ins_size (op : ByteArray) (b : Bool) (m r n : Int) (l : Bool) (m2 r2 n2 : Int) (l2 : Bool) (j : Int) : (insAll op b m r n l m2 r2 n2 l2 j).size ≤ 100 := by
  unfold insAll
  split
  · rename_i h
    have s1 : (⟨#[32]⟩ : ByteArray).size = 1 := rfl
    have s2 : (⟨#[44, 32]⟩ : ByteArray).size = 2 := rfl
    have s3 : (⟨#[32, 36]⟩ : ByteArray).size = 2 := rfl
    have s0 : ByteArray.empty.size = 0 := rfl
    unfold insT
    rcases kind_of op b m r n l m2 r2 n2 l2 j h with ⟨h2, a, c⟩ | ⟨h2, h3, hr, a⟩ | ⟨h2, h3, hr, rfl⟩ | ⟨h2, h3, h4, rfl, a⟩
    · obtain ⟨k1, ho⟩ := at_two h2
      have := tOp_size op b ho
      have o1 := opd_size m r n l a.2.1.1 a.2.1.2 a.2.2.1 a.2.2.2
      have o2 := opd_size m2 r2 n2 l2 c.2.1.1 c.2.1.2 c.2.2.1 c.2.2.2
      rw [if_pos h2]
      show (tOp op b ++ (⟨#[32]⟩ ++ (opdB m r n l ++ (⟨#[44, 32]⟩ ++ (opdB m2 r2 n2 l2 ++ ByteArray.empty))))).size ≤ 100
      simp only [ByteArray.size_append, s0, s1, s2]
      omega
    · obtain ⟨k1, k2, ho⟩ := at_one h3 hr
      have := tOp_size op b ho
      have o1 := opd_size m r n l a.2.1.1 a.2.1.2 a.2.2.1 a.2.2.2
      rw [if_neg h2, if_pos h3, if_neg hr]
      show (tOp op b ++ (⟨#[32]⟩ ++ (opdB m r n l ++ ByteArray.empty))).size ≤ 100
      simp only [ByteArray.size_append, s0, s1]
      omega
    · have := tOp_size op false (one_size h3)
      rw [if_neg h2, if_pos h3, if_pos hr]
      omega
    · obtain ⟨k1, k2, k3, ho⟩ := at_jump h4
      have := tOp_size op false ho
      have o1 : (sgnB (2 * j + 2)).size ≤ 8 := by
        have := dg_size (2 * j + 2) (by omega) (by omega)
        have e : dg (2 * j + 2) = digs (Lib.itoa (2 * j + 2)) := rfl
        unfold sgnB
        split
        · rw [← e]; omega
        · rw [ByteArray.size_append]
          have e1 : (⟨#[43]⟩ : ByteArray).size = 1 := rfl
          rw [← e, e1]; omega
      rw [if_neg h2, if_neg h3]
      show (tOp op false ++ (⟨#[32, 36]⟩ ++ (sgnB (2 * j + 2) ++ ByteArray.empty))).size ≤ 100
      simp only [ByteArray.size_append, s0, s3]
      omega
  · show 0 ≤ 100; omega
set_option maxRecDepth 100000 in
set_option maxHeartbeats 1600000 in
theorem drawInsnText_any (a : Option Addr) (len cap : Nat) (w : World) (h : Arg w a len cap) :
    Calls Tryz.prog 5 #[.slice a len cap] w fun e w' => ∃ i : Ins, e = .returned (.agg i.vals) ∧ Below w.heap.size w w' := by
  go_enter Tryz.func5, Tryz.ntmps5
  go_wp2_with fail
  refine (source_any a len cap _ (h.below (below_new _ _))).mono ?_
  rintro e x1 ⟨rfl, hD1, hB1⟩
  have hg : w.heap.size < (w.alloc (.cells #[.string ⟨#[]⟩, .bool false, .int .i64 0, .int .i64 0, .int .i64 0, .bool false, .int .i64 0, .int .i64 0, .int .i64 0, .bool false, .int .i64 0] 26)).heap.size := by simp
  have HR1 : Hid (_ = _) := heap_keep (heap_alloc_new w _) hB1
  have HB1 : Hid (Below w.heap.size w x1) := below_call (below_new _ _) hB1
  have HD1 : Hid (Dr x1 _ a len cap) := hD1
  clear hB1 hD1
  generalize (w.alloc (.cells #[.string ⟨#[]⟩, .bool false, .int .i64 0, .int .i64 0, .int .i64 0, .bool false, .int .i64 0, .int .i64 0, .int .i64 0, .bool false, .int .i64 0] 26)).heap.size = g at *
  go_wp2_with fail
  refine (drawInsn_any g a len cap _ HD1.out).mono ?_
  rintro e x2 ⟨op, b, m, r, n, l, m2, r2, n2, l2, j, rfl, hD2, hG2⟩
  have HR2 : Hid (_ = _) := heap_grown HR1.out hG2 (by omega)
  have HB2 : Hid (Below w.heap.size w x2) := HB1.out.trans (Dr.low hG2 (by omega) HD1.out.lt)
  clear hG2 hD2
  obtain ⟨r0, r1, r2', r3, r4, r5, r6, r7, r8, r9, r10⟩ := cells11 HR2.out
  have y0 := frozen_of_row _ _ 0 _ _ HR2.out
  have y1 := frozen_of_row _ _ 1 _ _ HR2.out
  have y2 := frozen_of_row _ _ 2 _ _ HR2.out
  have y3 := frozen_of_row _ _ 3 _ _ HR2.out
  have y4 := frozen_of_row _ _ 4 _ _ HR2.out
  have y5 := frozen_of_row _ _ 5 _ _ HR2.out
  have y6 := frozen_of_row _ _ 6 _ _ HR2.out
  have y7 := frozen_of_row _ _ 7 _ _ HR2.out
  have y8 := frozen_of_row _ _ 8 _ _ HR2.out
  have y9 := frozen_of_row _ _ 9 _ _ HR2.out
  have y10 := frozen_of_row _ _ 10 _ _ HR2.out
  go_wp2
  exact bodyPost_ret (results_cell_row Tryz.results5 _ _ w.heap.size 26 _ (0, 0) _ rfl (set_eleven HR2.out) Tryz.underlying26 rfl (by kernel_rfl)) rfl ⟨⟨op, b, m, r, n, l, m2, r2, n2, l2, j⟩, rfl, below_eleven (Nat.le_refl _) HB2.out⟩
set_option maxRecDepth 100000 in
set_option maxHeartbeats 1600000 in
theorem drawWordText_any (a : Option Addr) (len cap : Nat) (w : World) (h : Arg w a len cap) :
    Calls Tryz.prog 7 #[.slice a len cap] w fun e w' => ∃ (nm : ByteArray) (n : Int), e = .returned (.agg #[.string nm, .int .i64 n]) ∧ nm.size ≤ 30 ∧ Below w.heap.size w w' := by
  go_enter Tryz.func7, Tryz.ntmps7
  go_wp2_with fail
  refine (source_any a len cap _ (h.below (below_new _ _))).mono ?_
  rintro e x1 ⟨rfl, hD1, hB1⟩
  have hg : w.heap.size < (w.alloc (.cells #[.string ⟨#[]⟩, .int .i64 0] 30)).heap.size := by simp
  have HR1 : Hid (_ = _) := heap_keep (heap_alloc_new w _) hB1
  have HB1 : Hid (Below w.heap.size w x1) := below_call (below_new _ _) hB1
  have HD1 : Hid (Dr x1 _ a len cap) := hD1
  clear hB1 hD1
  generalize (w.alloc (.cells #[.string ⟨#[]⟩, .int .i64 0] 30)).heap.size = g at *
  go_wp2_with fail
  refine (l03Some_any g a len cap _ HD1.out).mono ?_
  rintro e x2 ⟨nm, n, rfl, hn, hD2, hG2⟩
  have HR2 : Hid (_ = _) := heap_grown HR1.out hG2 (by omega)
  have HB2 : Hid (Below w.heap.size w x2) := HB1.out.trans (Dr.low hG2 (by omega) HD1.out.lt)
  clear hG2 hD2
  obtain ⟨r0, r1, y0, y1⟩ := two_cells HR2.out
  go_wp2
  exact bodyPost_ret (results_cell_row Tryz.results7 _ _ w.heap.size 30 _ (0, 0) _ rfl (set_two HR2.out) Tryz.underlying30 rfl (by kernel_rfl)) rfl ⟨nm, n, rfl, hn, (HB2.out.setCell (Nat.le_refl _) _).setCell (Nat.le_refl _) _⟩
set_option maxRecDepth 100000 in
set_option maxHeartbeats 3200000 in
theorem drawWordRead_any (a : Option Addr) (len cap : Nat) (w : World) (h : Arg w a len cap) : Calls Tryz.prog 15 #[.slice a len cap] w fun e w' => (∃ u : ByteArray, e = .returned (.string u) ∧ u.size ≤ 3000) ∧ Below w.heap.size w w' := by
  have HP : Hid (∀ s ∈ wordsP, s.size ≤ 30) := small_P.2.1
  go_enter Tryz.func15, Tryz.ntmps15
  go_wp2_with fail
  refine (source_any a len cap _ h).mono ?_
  rintro e x1 ⟨rfl, hD, hb⟩
  have HB1 : Hid (Below w.heap.size w x1) := hb
  have HD1 : Hid (DrI x1 x1 w.heap.size a len cap) := DrI.start hD
  have hx1 := hD.lt
  clear hD hb
  go_wp2_with fail
  refine (l03Some_any w.heap.size a len cap _ HD1.out.d).mono ?_
  rintro e x2 ⟨nm, n, rfl, hn, hD, hG⟩
  have HD2 : Hid (DrI x1 x2 w.heap.size a len cap) := HD1.out.call hD hG
  have HTS : Hid ((wtB nm n).size ≤ 100) := by have := wt_size nm n; show _ ≤ _; omega
  clear hD hG HD1
  go_wp2_with fail
  refine (specWordText_any nm n _ (by unfold maxLen; omega)).mono ?_
  rintro e x3 ⟨rfl, hb⟩
  have HD3 : Hid (DrI x1 x3 w.heap.size a len cap) := HD2.out.below hb
  clear hb HD2
  generalize wtB nm n = t at *
  go_wp2_with fail
  refine (one_any w.heap.size a len cap 3 _ HD3.out.d (by omega) (by omega)).mono ?_
  rintro e x4 ⟨b1, rfl, hD, hG⟩
  have HD4 : Hid (DrI x1 x4 w.heap.size a len cap) := HD3.out.call hD hG
  clear hD hG HD3
  cases b1
  · go_wp2_with fail
    refine (one_any w.heap.size a len cap 4 _ HD4.out.d (by omega) (by omega)).mono ?_
    rintro e x6 ⟨b2, rfl, hD, hG⟩
    have HD6 : Hid (DrI x1 x6 w.heap.size a len cap) := HD4.out.call hD hG
    clear hD hG HD4
    cases b2
    · go_wp2
      go_ret
      exact ⟨⟨t, rfl, by have := HTS.out; omega⟩, HD6.out.below1 HB1.out⟩
    · go_wp2_with fail
      refine (spoil_any w.heap.size a len cap t _ HD6.out.d (by have := HTS.out; omega)).mono ?_
      rintro e x7 ⟨⟨u, rfl, hu⟩, hD, hG⟩
      have HD7 : Hid (DrI x1 x7 w.heap.size a len cap) := HD6.out.call hD hG
      clear hD hG
      go_wp2
      go_ret
      exact ⟨⟨u, rfl, by have := HTS.out; omega⟩, HD7.out.below1 HB1.out⟩
  · have HC : Hid (_ = _) := heap_alloc_new x4 (.cells (wordsP.map Value.string).toArray 9)
    have hx4 : w.heap.size < x4.heap.size := by have := HD4.out.gr.size; omega
    go_wp2_with fail
    refine (pick_any w.heap.size a len cap x4.heap.size 13 wordsP _ (HD4.out.alloc _).d HC.out (by omega) rfl (by omega) (by omega)).mono ?_
    rintro e x5 ⟨⟨t, hm, rfl⟩, hD, hG⟩
    have HTS : Hid (t.size ≤ 100) := by have := HP.out t hm; show _ ≤ _; omega
    have HD4 : Hid (DrI x1 x5 w.heap.size a len cap) := (HD4.out.alloc _).call hD hG
    clear hD hG hm HC
    go_wp2_with fail
    refine (one_any w.heap.size a len cap 4 _ HD4.out.d (by omega) (by omega)).mono ?_
    rintro e x6 ⟨b2, rfl, hD, hG⟩
    have HD6 : Hid (DrI x1 x6 w.heap.size a len cap) := HD4.out.call hD hG
    clear hD hG HD4
    cases b2
    · go_wp2
      go_ret
      exact ⟨⟨t, rfl, by have := HTS.out; omega⟩, HD6.out.below1 HB1.out⟩
    · go_wp2_with fail
      refine (spoil_any w.heap.size a len cap t _ HD6.out.d (by have := HTS.out; omega)).mono ?_
      rintro e x7 ⟨⟨u, rfl, hu⟩, hD, hG⟩
      have HD7 : Hid (DrI x1 x7 w.heap.size a len cap) := HD6.out.call hD hG
      clear hD hG
      go_wp2
      go_ret
      exact ⟨⟨u, rfl, by have := HTS.out; omega⟩, HD7.out.below1 HB1.out⟩
set_option maxRecDepth 100000 in
set_option maxHeartbeats 3200000 in
theorem drawInsnRead_any (a : Option Addr) (len cap : Nat) (w : World) (h : Arg w a len cap) : Calls Tryz.prog 14 #[.slice a len cap] w fun e w' => (∃ u : ByteArray, e = .returned (.string u) ∧ u.size ≤ 3000) ∧ Below w.heap.size w w' := by
  have HP : Hid (∀ s ∈ insnsP, s.size ≤ 30) := small_P.2.2
  go_enter Tryz.func14, Tryz.ntmps14
  go_wp2_with fail
  refine (source_any a len cap _ h).mono ?_
  rintro e x1 ⟨rfl, hD, hb⟩
  have HB1 : Hid (Below w.heap.size w x1) := hb
  have HD1 : Hid (DrI x1 x1 w.heap.size a len cap) := DrI.start hD
  have hx1 := hD.lt
  clear hD hb
  go_wp2_with fail
  refine (drawInsn_any w.heap.size a len cap _ HD1.out.d).mono ?_
  rintro e x2 ⟨op, b, m, r, n, l, m2, r2, n2, l2, j, rfl, hD, hG⟩
  have HD2 : Hid (DrI x1 x2 w.heap.size a len cap) := HD1.out.call hD hG
  have HTS : Hid ((insAll op b m r n l m2 r2 n2 l2 j).size ≤ 100) := ins_size ..
  clear hD hG HD1
  go_wp2_with fail
  refine (specInsnText_any op b m r n l m2 r2 n2 l2 j _).mono ?_
  rintro e x3 ⟨rfl, hb⟩
  have HD3 : Hid (DrI x1 x3 w.heap.size a len cap) := HD2.out.below hb
  clear hb HD2
  generalize insAll op b m r n l m2 r2 n2 l2 j = t at *
  go_wp2_with fail
  refine (one_any w.heap.size a len cap 3 _ HD3.out.d (by omega) (by omega)).mono ?_
  rintro e x4 ⟨b1, rfl, hD, hG⟩
  have HD4 : Hid (DrI x1 x4 w.heap.size a len cap) := HD3.out.call hD hG
  clear hD hG HD3
  cases b1
  · go_wp2_with fail
    refine (one_any w.heap.size a len cap 5 _ HD4.out.d (by omega) (by omega)).mono ?_
    rintro e x6 ⟨b2, rfl, hD, hG⟩
    have HD6 : Hid (DrI x1 x6 w.heap.size a len cap) := HD4.out.call hD hG
    clear hD hG HD4
    cases b2
    · go_wp2
      go_ret
      exact ⟨⟨t, rfl, by have := HTS.out; omega⟩, HD6.out.below1 HB1.out⟩
    · go_wp2_with fail
      refine (spoil_any w.heap.size a len cap t _ HD6.out.d (by have := HTS.out; omega)).mono ?_
      rintro e x7 ⟨⟨u, rfl, hu⟩, hD, hG⟩
      have HD7 : Hid (DrI x1 x7 w.heap.size a len cap) := HD6.out.call hD hG
      clear hD hG
      go_wp2
      go_ret
      exact ⟨⟨u, rfl, by have := HTS.out; omega⟩, HD7.out.below1 HB1.out⟩
  · have HC : Hid (_ = _) := heap_alloc_new x4 (.cells (insnsP.map Value.string).toArray 9)
    have hx4 : w.heap.size < x4.heap.size := by have := HD4.out.gr.size; omega
    go_wp2_with fail
    refine (pick_any w.heap.size a len cap x4.heap.size 23 insnsP _ (HD4.out.alloc _).d HC.out (by omega) rfl (by omega) (by omega)).mono ?_
    rintro e x5 ⟨⟨t, hm, rfl⟩, hD, hG⟩
    have HTS : Hid (t.size ≤ 100) := by have := HP.out t hm; show _ ≤ _; omega
    have HD4 : Hid (DrI x1 x5 w.heap.size a len cap) := (HD4.out.alloc _).call hD hG
    clear hD hG hm HC
    go_wp2_with fail
    refine (one_any w.heap.size a len cap 5 _ HD4.out.d (by omega) (by omega)).mono ?_
    rintro e x6 ⟨b2, rfl, hD, hG⟩
    have HD6 : Hid (DrI x1 x6 w.heap.size a len cap) := HD4.out.call hD hG
    clear hD hG HD4
    cases b2
    · go_wp2
      go_ret
      exact ⟨⟨t, rfl, by have := HTS.out; omega⟩, HD6.out.below1 HB1.out⟩
    · go_wp2_with fail
      refine (spoil_any w.heap.size a len cap t _ HD6.out.d (by have := HTS.out; omega)).mono ?_
      rintro e x7 ⟨⟨u, rfl, hu⟩, hD, hG⟩
      have HD7 : Hid (DrI x1 x7 w.heap.size a len cap) := HD6.out.call hD hG
      clear hD hG
      go_wp2
      go_ret
      exact ⟨⟨u, rfl, by have := HTS.out; omega⟩, HD7.out.below1 HB1.out⟩
end Go.Proofs.YtodjccipfonaiaaGreatDoor
