/- InsnRead of the program. -/
import Derived.Test.YtodjccipfonaiaaGreatDoorRows
import Derived.WalkKit
import Derived.WalkSpells
import Derived.WalkLawsBesides
import Derived.Outline
import Derived.RegionTactic
import Derived.BigRegion
import Derived.Deep.QuietTactic
import Derived.BigQuiet
import Derived.Deep.RegionHeld3
import Derived.Test.YtodjccipfonaiaaGreatDoorBun0
import Derived.Test.YtodjccipfonaiaaGreatDoorBun10
import Derived.Test.YtodjccipfonaiaaGreatDoorBun14
import Derived.Test.YtodjccipfonaiaaGreatDoorBun38
import Derived.Test.YtodjccipfonaiaaGreatDoorBun42
import Derived.Test.YtodjccipfonaiaaGreatDoorBun43
namespace Go.Proofs.YtodjccipfonaiaaGreatDoor
open Go.RowKit
set_option linter.unusedVariables false

set_option maxRecDepth 100000 in
set_option maxHeartbeats 6400000 in
theorem implInsnRead4 (t : ByteArray) (w : World) (ht : t.size ≤ maxLen) (hT : Tabs w) (hP : Pow w) (h8 : ¬ 8000 < t.size) (i0 : Ins) (s0 d0 j0 : ByteArray) (L0 : List ByteArray) (hc0 : insnT (piecesL t) = some ((i0, s0, d0, j0), L0)) (hok0 : okI i0 = true) (hl : L0 = []) (hn0 : (s0.toList.isEmpty && d0.toList.isEmpty && j0.toList.isEmpty) = true) : Calls Tryz.prog 11 #[.string t] w (InsQOut t w) := by
  unfold maxLen at ht
  have h8' : ¬ (8000 : Int) < (t.size : Int) := by omega
  have HO : Hid (outQ t = outK (insnT (piecesL t))) := by show _ = _; unfold outQ; rw [if_neg h8]
  have HT : Hid (Tabs w) := hT
  have HP : Hid (Pow w) := hP
  clear hT hP
  have HC0 : Hid (_) := hc0
  clear hc0
  go_enter Tryz.func11, Tryz.ntmps11
  go_wp2_with fail
  refine (piecesOf_any t _ (by omega)).mono ?_
  rintro e x1 ⟨v, rfl, hO, hb⟩
  have HV1 : Hid (x1.heap[w.heap.size]? = _) := heap_keep (heap_alloc_new w _) hb
  have HB1 : Hid (Below w.heap.size w x1) := below_call (below_new _ _) hb
  clear hb
  have hs1 := heap_lt HV1.out
  obtain ⟨g, a, cap, rfl, hR⟩ := Rd.make hO (by have := pieces_len t; omega) (fun p hp => by have := pieces_size t p hp; omega) (by omega)
  have HR : Hid (_) := hR
  have HF : Hid (Far w (x1.alloc (.cells #[.slice a (piecesL t).length cap] 62)) x1.heap.size) := ⟨below_more HB1.out _, by omega⟩
  clear hR hO
  generalize hL : piecesL t = L at *
  clear hL
  go_wp2_with fail
  refine (insn_any w x1.heap.size g cap a L _ HR.out HT.out HP.out HF.out).mono ?_
  rintro e x2 ⟨cs, ok, a2, cap2, L2, rfl, hsz, hR2, hB2, hc⟩
  have HV2 : Hid (x2.heap[w.heap.size]? = _) := But.keep (heap_more HV1.out _) hB2 (by omega)
  have HB2 : Hid (Below w.heap.size w x2) := But.below (below_more HB1.out _) hB2 (by omega) (by simp; omega)
  have HR2 : Hid (_) := hR2
  have hs2 := heap_lt HV2.out
  have hne : w.heap.size ≠ x2.heap.size := Nat.ne_of_lt hs2
  have hne2 : x2.heap.size ≠ w.heap.size := Nat.ne_of_gt hs2
  clear HR hR2 hB2 HV1 HB1 HF
  rcases hc with ⟨rfl, hno⟩ | ⟨rfl, i, s, k1, d, k2, jn, k3, hyes, hok, rfl⟩
  · exfalso
    rcases hno with h | ⟨y, L3, h, h2⟩
    · have k := HC0.out.symm.trans h; cases k
    · have k := HC0.out.symm.trans h; cases k; rw [hok0] at h2; cases h2
  obtain ⟨⟨rfl, rfl, rfl, rfl⟩, rfl⟩ : (i = i0 ∧ s = s0 ∧ d = d0 ∧ jn = j0) ∧ L2 = L0 := by have k := HC0.out.symm.trans hyes; cases k; exact ⟨⟨rfl, rfl, rfl, rfl⟩, rfl⟩
  clear HC0 hok0
  obtain ⟨op, b, m, r, n, l, m2, r2, n2, l2, j⟩ := i
  have HY : Hid (outQ t = outK (some ((⟨op, b, m, r, n, l, m2, r2, n2, l2, j⟩, s, d, jn), L2))) := by show _ = _; rw [HO.out, hyes]
  have HOK : Hid (insnB op b m r n l m2 r2 n2 l2 j = true) := hok
  have HR3 : Hid (Rd (x2.alloc (.cells #[.string op, .bool b, .int .i64 m, .int .i64 r, .int .i64 n, .bool l, .int .i64 m2, .int .i64 r2, .int .i64 n2, .bool l2, .int .i64 j, .string s, .int .i64 k1, .string d, .int .i64 k2, .string jn, .int .i64 k3] 64)) x1.heap.size g a2 cap2 L2) := HR2.out.alloc _
  have HI3 : Hid (_ = _) := heap_alloc_new x2 (.cells #[.string op, .bool b, .int .i64 m, .int .i64 r, .int .i64 n, .bool l, .int .i64 m2, .int .i64 r2, .int .i64 n2, .bool l2, .int .i64 j, .string s, .int .i64 k1, .string d, .int .i64 k2, .string jn, .int .i64 k3] 64)
  have HV3 : Hid (_ = _) := heap_more HV2.out (.cells #[.string op, .bool b, .int .i64 m, .int .i64 r, .int .i64 n, .bool l, .int .i64 m2, .int .i64 r2, .int .i64 n2, .bool l2, .int .i64 j, .string s, .int .i64 k1, .string d, .int .i64 k2, .string jn, .int .i64 k3] 64)
  have HB3 : Hid (_) := below_more HB2.out (.cells #[.string op, .bool b, .int .i64 m, .int .i64 r, .int .i64 n, .bool l, .int .i64 m2, .int .i64 r2, .int .i64 n2, .bool l2, .int .i64 j, .string s, .int .i64 k1, .string d, .int .i64 k2, .string jn, .int .i64 k3] 64)
  clear hyes hok HO HR2 HV2 HB2 hsz
  subst hl
  have HN : Hid (_ = _) := hn0
  clear hn0
  cases (rfl : True = True) with
  | refl =>
    go_wp2_with fail
    generalize x2.alloc (.cells #[.string op, .bool b, .int .i64 m, .int .i64 r, .int .i64 n, .bool l, .int .i64 m2, .int .i64 r2, .int .i64 n2, .bool l2, .int .i64 j, .string s, .int .i64 k1, .string d, .int .i64 k2, .string jn, .int .i64 k3] 64) = y at *
    generalize x2.heap.size = G at *
    refine (atEnd_any x1.heap.size g cap2 a2 [] _ HR3.out).mono ?_
    rintro e x3 ⟨rfl, hx⟩
    have hx' := hx.symm
    subst hx'
    clear hx
    obtain ⟨d0, d1, d2, d3, d4, d5, d6, d7, d8, d9, d10, d11, d12, d13, d14, d15, d16⟩ := cells17 HI3.out
    go_wp2_with fail
    refine (named_any _ _ _ _ _ _ _ _ _ _ _ s d jn k1 k2 k3 _).mono ?_
    rintro e x4 ⟨rfl, hb⟩
    have HV4 : Hid (_ = _) := heap_keep HV3.out hb
    have HI4 : Hid (_ = _) := heap_keep HI3.out hb
    have HB4 : Hid (Below w.heap.size w x4) := below_call HB3.out hb
    clear hb d0 d1 d2 d3 d4 d5 d6 d7 d8 d9 d10 d11 d12 d13 d14 d15 d16 HV3 HI3 HB3 HR3
    cases hnm : (s.toList.isEmpty && d.toList.isEmpty && jn.toList.isEmpty)
    · rw [HN.out] at hnm; cases hnm
    · have HQ : Hid (outQ t = (⟨op, b, m, r, n, l, m2, r2, n2, l2, j⟩, lenI ⟨op, b, m, r, n, l, m2, r2, n2, l2, j⟩, 0)) := by
        simp only [Bool.and_eq_true] at hnm
        have e1 := empty_yes hnm.1.1
        have e2 := empty_yes hnm.1.2
        have e3 := empty_yes hnm.2
        show _ = _
        rw [HY.out]
        show (if okI _ = true ∧ s = ⟨#[]⟩ ∧ d = ⟨#[]⟩ ∧ jn = ⟨#[]⟩ then _ else _) = _
        rw [if_pos ⟨HOK.out, e1, e2, e3⟩]
      have HL : Hid (lenI ⟨op, b, m, r, n, l, m2, r2, n2, l2, j⟩ = ((allI op b m r n l m2 r2 n2 l2 j).length : Int)) := by show _ = _; unfold allI; rw [HOK.out]; rfl
      clear hnm HY
      have c0 := cell_of_row _ _ 0 _ _ _ HV4.out
      have c1 := cell_of_row _ _ 1 _ _ _ HV4.out
      have c2 := cell_of_row _ _ 2 _ _ _ HV4.out
      have c3 := cell_of_row _ _ 3 _ _ _ HV4.out
      have c4 := cell_of_row _ _ 4 _ _ _ HV4.out
      have c5 := cell_of_row _ _ 5 _ _ _ HV4.out
      have c6 := cell_of_row _ _ 6 _ _ _ HV4.out
      have c7 := cell_of_row _ _ 7 _ _ _ HV4.out
      have c8 := cell_of_row _ _ 8 _ _ _ HV4.out
      have c9 := cell_of_row _ _ 9 _ _ _ HV4.out
      have c10 := cell_of_row _ _ 10 _ _ _ HV4.out
      have c11 := cell_of_row _ _ 11 _ _ _ HV4.out
      have c12 := cell_of_row _ _ 12 _ _ _ HV4.out
      have z0 := frozen_of_row _ _ 0 _ _ HV4.out
      have z1 := frozen_of_row _ _ 1 _ _ HV4.out
      have z2 := frozen_of_row _ _ 2 _ _ HV4.out
      have z3 := frozen_of_row _ _ 3 _ _ HV4.out
      have z4 := frozen_of_row _ _ 4 _ _ HV4.out
      have z5 := frozen_of_row _ _ 5 _ _ HV4.out
      have z6 := frozen_of_row _ _ 6 _ _ HV4.out
      have z7 := frozen_of_row _ _ 7 _ _ HV4.out
      have z8 := frozen_of_row _ _ 8 _ _ HV4.out
      have z9 := frozen_of_row _ _ 9 _ _ HV4.out
      have z10 := frozen_of_row _ _ 10 _ _ HV4.out
      have z11 := frozen_of_row _ _ 11 _ _ HV4.out
      have z12 := frozen_of_row _ _ 12 _ _ HV4.out
      obtain ⟨d0, d1, d2, d3, d4, d5, d6, d7, d8, d9, d10⟩ := cells17a HI4.out
      have HRc : Hid (x4.heap[w.heap.size]? = _) := HV4.out
      have HIc : Hid (x4.heap[G]? = _) := HI4.out
      have HBc : Hid (Below w.heap.size w x4) := HB4.out
      clear HV4 HI4 HB4
      go_wp2_with fail
      go_region_held3 (fun w' => w'.cell? ⟨G, 0, none⟩ = some (.string op) ∧ w'.cell? ⟨G, 1, none⟩ = some (.bool b) ∧ w'.cell? ⟨G, 2, none⟩ = some (.int .i64 m) ∧ w'.cell? ⟨G, 3, none⟩ = some (.int .i64 r) ∧ w'.cell? ⟨G, 4, none⟩ = some (.int .i64 n) ∧ w'.cell? ⟨G, 5, none⟩ = some (.bool l) ∧ w'.cell? ⟨G, 6, none⟩ = some (.int .i64 m2) ∧ w'.cell? ⟨G, 7, none⟩ = some (.int .i64 r2) ∧ w'.cell? ⟨G, 8, none⟩ = some (.int .i64 n2) ∧ w'.cell? ⟨G, 9, none⟩ = some (.bool l2) ∧ w'.cell? ⟨G, 10, none⟩ = some (.int .i64 j)) (exact cells17a (by repeat (first | with_reducible exact HIc.out | with_reducible apply heap_drewn | with_reducible apply far13 hne2))) (first
        | (go_at_call 12; refine (implEncode_any op b m r n l m2 r2 n2 l2 j _ (HT.out.below (by repeat (first | with_reducible exact HBc.out | with_reducible refine Below.drew ?_)))).mono ?_; rintro e x5 ⟨v, rfl, hO, hb⟩; have HRc : Hid (_ = _) := heap_keep (by repeat (first | with_reducible exact HRc.out | with_reducible apply heap_drewn)) hb; have HIc : Hid (_ = _) := heap_keep (by repeat (first | with_reducible exact HIc.out | with_reducible apply heap_drewn)) hb; have HBc : Hid (Below w.heap.size w x5) := below_call (by repeat (first | with_reducible exact HBc.out | with_reducible refine Below.drew ?_)) hb; have HOW : Hid (∃ ga gc, v = .slice ga (allI op b m r n l m2 r2 n2 l2 j).length gc) := own_slice hO; clear hb hO; obtain ⟨ga, gc, rfl⟩ := HOW.out; have p0 := cell_of_row _ _ 0 _ _ _ HRc.out; have p1 := cell_of_row _ _ 1 _ _ _ HRc.out; have p2 := cell_of_row _ _ 2 _ _ _ HRc.out; have p3 := cell_of_row _ _ 3 _ _ _ HRc.out; have p4 := cell_of_row _ _ 4 _ _ _ HRc.out; have p5 := cell_of_row _ _ 5 _ _ _ HRc.out; have p6 := cell_of_row _ _ 6 _ _ _ HRc.out; have p7 := cell_of_row _ _ 7 _ _ _ HRc.out; have p8 := cell_of_row _ _ 8 _ _ _ HRc.out; have p9 := cell_of_row _ _ 9 _ _ _ HRc.out; have p10 := cell_of_row _ _ 10 _ _ _ HRc.out; have p11 := cell_of_row _ _ 11 _ _ _ HRc.out; have p12 := cell_of_row _ _ 12 _ _ _ HRc.out; have q0 := frozen_of_row _ _ 0 _ _ HRc.out; have q1 := frozen_of_row _ _ 1 _ _ HRc.out; have q2 := frozen_of_row _ _ 2 _ _ HRc.out; have q3 := frozen_of_row _ _ 3 _ _ HRc.out; have q4 := frozen_of_row _ _ 4 _ _ HRc.out; have q5 := frozen_of_row _ _ 5 _ _ HRc.out; have q6 := frozen_of_row _ _ 6 _ _ HRc.out; have q7 := frozen_of_row _ _ 7 _ _ HRc.out; have q8 := frozen_of_row _ _ 8 _ _ HRc.out; have q9 := frozen_of_row _ _ 9 _ _ HRc.out; have q10 := frozen_of_row _ _ 10 _ _ HRc.out; have q11 := frozen_of_row _ _ 11 _ _ HRc.out; have q12 := frozen_of_row _ _ 12 _ _ HRc.out))
      all_goals
        go_wp2
        exact bodyPost_ret (results_cell_row Tryz.results11 _ _ w.heap.size 34 _ (0, 0) _ rfl (set_thirteen HRc.out) Tryz.underlying34 rfl (by kernel_rfl)) rfl ⟨⟨op, b, m, r, n, l, m2, r2, n2, l2, j⟩, _, 0, rfl, HQ.out.trans (by rw [HL.out]), below_thirteen (Nat.le_refl _) HBc.out⟩
end Go.Proofs.YtodjccipfonaiaaGreatDoor
namespace Go.Proofs.YtodjccipfonaiaaGreatDoor
open Go.RowKit
set_option linter.unusedVariables false

set_option maxRecDepth 100000 in
set_option maxHeartbeats 1600000 in
theorem implInsnRead_any (t : ByteArray) (w : World) (ht : t.size ≤ maxLen) (hT : Tabs w) (hP : Pow w) : Calls Tryz.prog 11 #[.string t] w (InsQOut t w) := by
  by_cases h8 : 8000 < t.size
  · unfold maxLen at ht
    have h8' : (8000 : Int) < (t.size : Int) := by omega
    have HO : Hid (outQ t = (zeroI, 0, 2)) := by show _ = _; unfold outQ; rw [if_pos h8]
    go_enter Tryz.func11, Tryz.ntmps11
    go_wp2
    exact bodyPost_ret (results_cell_row Tryz.results11 _ _ w.heap.size 34 _ (0, 0) _ rfl (heap_alloc_new _ _) Tryz.underlying34 rfl (by kernel_rfl)) rfl ⟨zeroI, 0, 2, rfl, HO.out, below_new _ _⟩
  cases h0 : insnT (piecesL t) with
  | none => exact implInsnRead1 t w ht hT hP h8 (.inl h0)
  | some y =>
    obtain ⟨⟨i, s, d, j⟩, L⟩ := y
    cases ho : okI i with
    | false => exact implInsnRead1 t w ht hT hP h8 (.inr ⟨_, _, h0, ho⟩)
    | true =>
      by_cases hl : L = []
      · cases hn : (s.toList.isEmpty && d.toList.isEmpty && j.toList.isEmpty) with
        | false => exact implInsnRead3 t w ht hT hP h8 i s d j L h0 ho hl hn
        | true => exact implInsnRead4 t w ht hT hP h8 i s d j L h0 ho hl hn
      · exact implInsnRead2 t w ht hT hP h8 i s d j L h0 ho hl
end Go.Proofs.YtodjccipfonaiaaGreatDoor
