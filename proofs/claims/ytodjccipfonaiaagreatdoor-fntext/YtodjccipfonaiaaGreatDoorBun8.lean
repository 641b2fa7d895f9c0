/- Instructions: the first word of two operands, by the program. -/
import Derived.Test.YtodjccipfonaiaaGreatDoorRows
import Derived.WalkKit
import Derived.WalkSpells
import Derived.WalkLawsBesides
import Derived.Outline
import Derived.RegionTactic
import Derived.BigRegion
import Derived.Deep.RegionHeld3
import Derived.Deep.CutRange
import Derived.Deep.Light
import Derived.Laws.Bits128
import Derived.Test.YtodjccipfonaiaaGreatDoorBun0
import Derived.Test.YtodjccipfonaiaaGreatDoorBun1
import Derived.Test.YtodjccipfonaiaaGreatDoorBun3
import Derived.Laws.EntriesVeiled
import Derived.Test.YtodjccipfonaiaaGreatDoorBun7
namespace Go.Proofs.YtodjccipfonaiaaGreatDoor
open Go.RowKit

set_option maxRecDepth 100000 in
set_option maxHeartbeats 4000000 in
theorem firstOfTwo_any (op : ByteArray) (b : Bool) (m r n : Int) (l : Bool) (m2 r2 n2 : Int) (l2 : Bool) (j : Int) (k a1 a2 b1 b2 : Int) (w : World) (hk0 : 0 ≤ k) (hk1 : k ≤ 15) (h0 : 0 ≤ m) (h5 : m ≤ 5) (g0 : 0 ≤ m2) (g5 : m2 ≤ 5) (H1 : Hid ((asI m r n l).1 = a1)) (H2 : Hid ((asI m r n l).2.1 = a2)) (H3 : Hid ((asI m2 r2 n2 l2).1 = b1)) (H4 : Hid ((asI m2 r2 n2 l2).2.1 = b2)) (ha0 : 0 ≤ a1) (ha1 : a1 ≤ 3) (hb0 : 0 ≤ a2) (hb1 : a2 ≤ 15) (hc0 : 0 ≤ b1) (hc1 : b1 ≤ 3) (hd0 : 0 ≤ b2) (hd1 : b2 ≤ 15) (hT : Tabs w) :
    Calls Tryz.prog 37 #[.agg #[.string op, .bool b, .int .i64 m, .int .i64 r, .int .i64 n, .bool l, .int .i64 m2, .int .i64 r2, .int .i64 n2, .bool l2, .int .i64 j], .int .i64 k] w fun e w' => e = .returned (.int .i64 (4096 * k + 256 * a2 + 128 * b1 + markI b + 16 * a1 + b2)) ∧ Below w.heap.size w w' := by
  have HT : Hid (∀ o, Tabs (w.alloc o)) := fun o => hT.alloc o
  clear hT
  go_enter Tryz.func37, Tryz.ntmps37
  go_upto_region 1 with fail
  have HI0 : Hid (_ = _) := heap_alloc_new w (.cells #[.string op, .bool b, .int .i64 m, .int .i64 r, .int .i64 n, .bool l, .int .i64 m2, .int .i64 r2, .int .i64 n2, .bool l2, .int .i64 j] 26)
  have HB0 : Hid (Below w.heap.size w _) := below_new w (.cells #[.string op, .bool b, .int .i64 m, .int .i64 r, .int .i64 n, .bool l, .int .i64 m2, .int .i64 r2, .int .i64 n2, .bool l2, .int .i64 j] 26)
  have HT0 : Hid (_) := HT.out (.cells #[.string op, .bool b, .int .i64 m, .int .i64 r, .int .i64 n, .bool l, .int .i64 m2, .int .i64 r2, .int .i64 n2, .bool l2, .int .i64 j] 26)
  generalize w.alloc (.cells #[.string op, .bool b, .int .i64 m, .int .i64 r, .int .i64 n, .bool l, .int .i64 m2, .int .i64 r2, .int .i64 n2, .bool l2, .int .i64 j] 26) = x0 at *
  obtain ⟨c0, c1, c2, c3, c4, c5, c6, c7, c8, c9, c10⟩ := cells11 HI0.out
  have hz0 := heap_lt HI0.out
  go_cut [5, 6] from 7 to 12 (fun s5 s6 wx => ∃ g5 g6 : Nat, s5 = .pointer (some ⟨g5, 0, none⟩) ∧ s6 = .pointer (some ⟨g6, 0, none⟩) ∧ Hid (wx.heap[g5]? = some (.cells #[.int .i64 a1, .int .i64 a2] 103 (0, 0))) ∧ Hid (wx.heap[g6]? = some (.cells #[.int .i64 b1, .int .i64 b2] 103 (0, 0))) ∧ Hid (wx.heap[w.heap.size]? = some (.cells #[.string op, .bool b, .int .i64 m, .int .i64 r, .int .i64 n, .bool l, .int .i64 m2, .int .i64 r2, .int .i64 n2, .bool l2, .int .i64 j] 26 (0, 0))) ∧ Hid (Below w.heap.size w wx))
  case first =>
    go_region_held3 (fun w' => w'.cell? ⟨w.heap.size, 0, none⟩ = some (.string op) ∧ w'.cell? ⟨w.heap.size, 1, none⟩ = some (.bool b) ∧ w'.cell? ⟨w.heap.size, 2, none⟩ = some (.int .i64 m) ∧ w'.cell? ⟨w.heap.size, 3, none⟩ = some (.int .i64 r) ∧ w'.cell? ⟨w.heap.size, 4, none⟩ = some (.int .i64 n) ∧ w'.cell? ⟨w.heap.size, 5, none⟩ = some (.bool l) ∧ w'.cell? ⟨w.heap.size, 6, none⟩ = some (.int .i64 m2) ∧ w'.cell? ⟨w.heap.size, 7, none⟩ = some (.int .i64 r2) ∧ w'.cell? ⟨w.heap.size, 8, none⟩ = some (.int .i64 n2) ∧ w'.cell? ⟨w.heap.size, 9, none⟩ = some (.bool l2) ∧ w'.cell? ⟨w.heap.size, 10, none⟩ = some (.int .i64 j)) ((exact cells11 (by repeat (first | with_reducible exact HI2.out | with_reducible exact HI1.out | with_reducible exact HI0.out | with_reducible apply heap_drewn | with_reducible apply heap_more | with_reducible refine heap_set_other ?_ _ (by first | exact Nat.ne_of_lt hz0 | exact Nat.ne_of_lt (Nat.lt_succ_of_lt hz0) | exact Nat.ne_of_lt hz1 | exact Nat.ne_of_lt (Nat.lt_succ_of_lt hz1) | exact Nat.ne_of_lt hz2 | exact Nat.ne_of_lt (Nat.lt_succ_of_lt hz2)) _)))) (first
      | (go_at_call_of 78 (Value.int IntKind.i64 m); refine (inFirst_any m r n l _ h0 h5 ?_).mono ?_; (repeat (first | with_reducible exact HT0.out | with_reducible refine Tabs.drew ?_ | with_reducible refine Tabs.alloc ?_ _)); rintro e x1 ⟨rfl, hb⟩; rw [H1.out, H2.out]; have HI1 : Hid (_ = _) := heap_keep (by repeat (first | with_reducible exact HI0.out | with_reducible apply heap_drewn | with_reducible apply heap_more)) hb; have HB1 : Hid (Below w.heap.size w x1) := below_call (by repeat (first | with_reducible exact HB0.out | with_reducible refine Below.drew ?_ | with_reducible refine below_more ?_ _)) hb; have HT1 : Hid (Tabs x1) := Tabs.below (by (repeat (first | with_reducible exact HT0.out | with_reducible refine Tabs.drew ?_ | with_reducible refine Tabs.alloc ?_ _))) hb; (try (have HZ5 : Hid (_ = _) := heap_keep (by repeat (first | with_reducible exact heap_alloc_new x0 _ | with_reducible apply heap_drewn | with_reducible apply heap_more)) hb; obtain ⟨z0, z1, zf0, zf1⟩ := two_cells HZ5.out; have hzz := heap_lt HZ5.out)); (try (have HZ6 : Hid (_ = _) := heap_keep (by repeat (first | with_reducible exact heap_new2 x0 _ _ | with_reducible apply heap_drewn | with_reducible apply heap_more)) hb; obtain ⟨y0, y1, yf0, yf1⟩ := two_cells HZ6.out; have hyy := heap_lt HZ6.out)); clear hb; obtain ⟨d0, d1, d2, d3, d4, d5, d6, d7, d8, d9, d10⟩ := cells11 HI1.out; have hz1 := heap_lt HI1.out)
      | (go_at_call_of 78 (Value.int IntKind.i64 m2); refine (inFirst_any m2 r2 n2 l2 _ g0 g5 ?_).mono ?_; (repeat (first | with_reducible exact HT1.out | with_reducible refine Tabs.drew ?_ | with_reducible refine Tabs.alloc ?_ _)); rintro e x2 ⟨rfl, hb⟩; rw [H3.out, H4.out]; have HI2 : Hid (_ = _) := heap_keep (by repeat (first | with_reducible exact HI1.out | with_reducible apply heap_drewn | with_reducible apply heap_more)) hb; have HB2 : Hid (Below w.heap.size w x2) := below_call (by repeat (first | with_reducible exact HB1.out | with_reducible refine Below.drew ?_ | with_reducible refine below_more ?_ _)) hb; have HT2 : Hid (Tabs x2) := Tabs.below (by (repeat (first | with_reducible exact HT1.out | with_reducible refine Tabs.drew ?_ | with_reducible refine Tabs.alloc ?_ _))) hb; (try (have HV5 : Hid (_ = _) := heap_keep (by repeat (first | with_reducible exact HZ5.out | with_reducible apply heap_drewn | with_reducible apply heap_more)) hb; obtain ⟨s0, s1, sf0, sf1⟩ := two_cells HV5.out; have hs5 := heap_lt HV5.out)); (try (have HV6 : Hid (_ = _) := heap_keep (by repeat (first | with_reducible exact HZ6.out | with_reducible apply heap_drewn | with_reducible apply heap_more)) hb; obtain ⟨t0, t1, tf0, tf1⟩ := two_cells HV6.out; have ht6 := heap_lt HV6.out)); (try (have HU5 : Hid (_ = _) := heap_keep (by repeat (first | with_reducible exact heap_alloc_new x1 _ | with_reducible apply heap_drewn | with_reducible apply heap_more)) hb; obtain ⟨u0, u1, uf0, uf1⟩ := two_cells HU5.out; have hu5 := heap_lt HU5.out)); (try (have HU6 : Hid (_ = _) := heap_keep (by repeat (first | with_reducible exact heap_new2 x1 _ _ | with_reducible apply heap_drewn | with_reducible apply heap_more)) hb; obtain ⟨v0, v1, vf0, vf1⟩ := two_cells HU6.out; have hv6 := heap_lt HU6.out)); clear hb; obtain ⟨d0, d1, d2, d3, d4, d5, d6, d7, d8, d9, d10⟩ := cells11 HI2.out; have hz2 := heap_lt HI2.out))
    all_goals
      go_wp2_with fail
      go_meet
      go_light
      refine ⟨_, _, rfl, rfl, ?_, ?_, ?_, ?_⟩
      · show _ = _
        repeat (first | with_reducible exact heap_alloc_new _ _ | with_reducible exact heap_new2 _ _ _ | with_reducible exact HV5.out | with_reducible exact HV6.out | with_reducible exact HU5.out | with_reducible exact HU6.out | with_reducible apply set_two | (with_reducible apply alloc_at; focus (simp; done)) | with_reducible apply heap_more | (with_reducible apply set_far; focus (simp only [ne_eq]; omega)))
      · show _ = _
        repeat (first | with_reducible exact heap_alloc_new _ _ | with_reducible exact heap_new2 _ _ _ | with_reducible exact HV5.out | with_reducible exact HV6.out | with_reducible exact HU5.out | with_reducible exact HU6.out | with_reducible apply set_two | (with_reducible apply alloc_at; focus (simp; done)) | with_reducible apply heap_more | (with_reducible apply set_far; focus (simp only [ne_eq]; omega)))
      · show _ = _
        repeat (first | with_reducible exact HI2.out | with_reducible apply heap_more | (with_reducible apply set_far; focus (simp only [ne_eq]; omega)))
      · show Below _ _ _
        repeat (first | with_reducible exact HB2.out | with_reducible apply below_more | (with_reducible apply below_set; focus (simp only []; omega)))
  case rest =>
  obtain ⟨q5, q6, rfl, rfl, H5, H6, HI3, HB3⟩ := hcut
  clear c0 c1 c2 c3 c4 c5 c6 c7 c8 c9 c10
  obtain ⟨c0, c1, c2, c3, c4, c5, c6, c7, c8, c9, c10⟩ := cells11 HI3.out
  obtain ⟨u0, u1, _, _⟩ := two_cells H5.out
  obtain ⟨v0, v1, _, _⟩ := two_cells H6.out
  have hm0 : 0 ≤ markI b := by cases b <;> simp [markI]
  have hm1 : markI b ≤ 64 := by cases b <;> simp [markI]
  have e1 := wr (4096 * k) (by omega) (by omega)
  have e2 := wr (256 * a2) (by omega) (by omega)
  have e3 := wr (4096 * k + 256 * a2) (by omega) (by omega)
  have e4 := wr (128 * b1) (by omega) (by omega)
  have e5 := wr (4096 * k + 256 * a2 + 128 * b1) (by omega) (by omega)
  have e6 := wr (4096 * k + 256 * a2 + 128 * b1 + markI b) (by omega) (by omega)
  have e7 := wr (16 * a1) (by omega) (by omega)
  have e8 := wr (4096 * k + 256 * a2 + 128 * b1 + markI b + 16 * a1) (by omega) (by omega)
  have e9 := wr (4096 * k + 256 * a2 + 128 * b1 + markI b + 16 * a1 + b2) (by omega) (by omega)
  go_wp2_with fail
  go_region_held3 (fun w' => (w'.cell? ⟨w.heap.size, 0, none⟩ = some (.string op) ∧ w'.cell? ⟨w.heap.size, 1, none⟩ = some (.bool b) ∧ w'.cell? ⟨w.heap.size, 2, none⟩ = some (.int .i64 m) ∧ w'.cell? ⟨w.heap.size, 3, none⟩ = some (.int .i64 r) ∧ w'.cell? ⟨w.heap.size, 4, none⟩ = some (.int .i64 n) ∧ w'.cell? ⟨w.heap.size, 5, none⟩ = some (.bool l) ∧ w'.cell? ⟨w.heap.size, 6, none⟩ = some (.int .i64 m2) ∧ w'.cell? ⟨w.heap.size, 7, none⟩ = some (.int .i64 r2) ∧ w'.cell? ⟨w.heap.size, 8, none⟩ = some (.int .i64 n2) ∧ w'.cell? ⟨w.heap.size, 9, none⟩ = some (.bool l2) ∧ w'.cell? ⟨w.heap.size, 10, none⟩ = some (.int .i64 j)) ∧ w'.cell? ⟨q5, 0, none⟩ = some (.int .i64 a1) ∧ w'.cell? ⟨q5, 1, none⟩ = some (.int .i64 a2) ∧ w'.cell? ⟨q6, 0, none⟩ = some (.int .i64 b1) ∧ w'.cell? ⟨q6, 1, none⟩ = some (.int .i64 b2)) (go_keep) (first
    | (go_at_call 79; refine (byteMark_any op b m r n l m2 r2 n2 l2 j _).mono ?_; rintro e x2 ⟨rfl, hb⟩; have HI4 : Hid (_ = _) := heap_keep (by exact HI3.out) hb; have K5 : Hid (_ = _) := heap_keep (by exact H5.out) hb; have K6 : Hid (_ = _) := heap_keep (by exact H6.out) hb; have HB4 : Hid (Below w.heap.size w x2) := below_call (by exact HB3.out.drew) hb; clear c0 c1 c2 c3 c4 c5 c6 c7 c8 c9 c10 u0 u1 v0 v1; obtain ⟨d0, d1, d2, d3, d4, d5, d6, d7, d8, d9, d10⟩ := cells11 HI4.out; obtain ⟨q0, q1, f0, f1⟩ := two_cells K5.out; obtain ⟨r0, r1, s0, s1⟩ := two_cells K6.out; clear hb))
  go_wp2
  go_ret
  exact ⟨rfl, HB4.out⟩
end Go.Proofs.YtodjccipfonaiaaGreatDoor
namespace Go.Proofs.YtodjccipfonaiaaGreatDoor
open Go.RowKit
set_option linter.unusedVariables false

theorem three_cells {W : World} {B : Nat} {t : TypeId} {fr : Nat × Nat} {v0 v1 v2 : Value} (h : W.heap[B]? = some (.cells #[v0, v1, v2] t fr)) :
    W.cell? ⟨B, 0, none⟩ = some v0 ∧ W.cell? ⟨B, 1, none⟩ = some v1 ∧ W.cell? ⟨B, 2, none⟩ = some v2 := by
  refine ⟨?_, ?_, ?_⟩ <;> simp [World.cell?, h]
def optI (b : Bool) (n : Int) : List Int := if b then [n] else []
def wordsI (f m r n : Int) (l : Bool) (m2 r2 n2 : Int) (l2 : Bool) : List Int := f :: (optI (asI m r n l).2.2 n ++ optI (asI m2 r2 n2 l2).2.2 n2)
def partI (f m r n : Int) (l : Bool) (m2 r2 n2 : Int) (l2 : Bool) (t : Nat) : List Int := if t = 0 then [f] else if t = 1 then f :: optI (asI m r n l).2.2 n else wordsI f m r n l m2 r2 n2 l2
theorem len_small (k : Nat) (h : k < 1000000) : k + 1 ≤ maxLen := by unfold maxLen; omega
theorem OwnI.more {w : World} {B : Nat} {v : Value} {L : List Int} {x : Int} (h : w.ownsRow B 2 1 v (L.length + 1) (cellsI L ++ [.int .i64 x])) : OwnI w B v (L ++ [x]) := by
  unfold OwnI
  rw [List.length_append, List.length_singleton]
  simpa [cellsI] using h
theorem two_i0 (a b c d e f g h : Value) (W : World) : (Instr.index 72 (.agg #[a, b, c, d, e, f, g, h]) (.int .i64 0)).run Tryz.prog W = .ok (.agg #[a, b, c, d]) W := by kernel_rfl
theorem two_i1 (a b c d e f g h : Value) (W : World) : (Instr.index 72 (.agg #[a, b, c, d, e, f, g, h]) (.int .i64 1)).run Tryz.prog W = .ok (.agg #[e, f, g, h]) W := by kernel_rfl
set_option maxRecDepth 100000 in
set_option maxHeartbeats 4000000 in
theorem implEnc_jump (op : ByteArray) (b : Bool) (m r n : Int) (l : Bool) (m2 r2 n2 : Int) (l2 : Bool) (j : Int) (k : Int) (w : World) (HN : Hid (insnB op b m r n l m2 r2 n2 l2 j = true)) (HF : Hid (findI op = (2, k, true))) (hk0 : 0 ≤ k) (hk1 : k ≤ 7) (h0 : 0 ≤ m) (h5 : m ≤ 5) (g0 : 0 ≤ m2) (g5 : m2 ≤ 5) (hT : Tabs w) :
    Calls Tryz.prog 12 #[.agg #[.string op, .bool b, .int .i64 m, .int .i64 r, .int .i64 n, .bool l, .int .i64 m2, .int .i64 r2, .int .i64 n2, .bool l2, .int .i64 j]] w fun e w' => ∃ v, e = .returned v ∧ OwnI w' w.heap.size v (wordsI (8192 + 1024 * k + j % 1024) m r n l m2 r2 n2 l2) ∧ Below w.heap.size w w' := by
  have HTw : Hid (_) := hT
  have HT : Hid (∀ o, Tabs (w.alloc o)) := fun o => hT.alloc o
  clear hT
  go_enter Tryz.func12, Tryz.ntmps12
  go_wp2_with fail
  refine (implRight_any op b m r n l m2 r2 n2 l2 j _ (HT.out _)).mono ?_
  rintro e x1 ⟨rfl, hb⟩
  rw [HN.out]
  have HI1 : Hid (_ = _) := heap_keep (heap_alloc_new w _) hb
  have HB1 : Hid (Below w.heap.size w x1) := below_call (below_new _ _) hb
  have HT1 : Hid (Tabs x1) := (HT.out _).below hb
  clear hb
  obtain ⟨c0, c1, c2, c3, c4, c5, c6, c7, c8, c9, c10⟩ := cells11 HI1.out
  have hz1 := heap_lt HI1.out
  go_wp2_with fail
  refine (findOp_any op _ (HT1.out.alloc _)).mono ?_
  rintro e x2 ⟨rfl, hb⟩
  rw [HF.out]
  have HI2 : Hid (_ = _) := heap_keep (heap_more HI1.out _) hb
  have HG2 : Hid (_ = _) := heap_keep (heap_alloc_new x1 _) hb
  have HB2 : Hid (Below w.heap.size w x2) := below_call (below_more HB1.out _) hb
  have HT2 : Hid (Tabs x2) := (HT1.out.alloc _).below hb
  clear hb c0 c1 c2 c3 c4 c5 c6 c7 c8 c9 c10
  obtain ⟨c0, c1, c2, c3, c4, c5, c6, c7, c8, c9, c10⟩ := cells11 HI2.out
  obtain ⟨u0, u1, u2⟩ := three_cells HG2.out
  have hz2 := heap_lt HI2.out
  have hz3 := heap_lt HG2.out
  go_wp2_with fail
  go_region_held3 (fun w' => (w'.cell? ⟨w.heap.size, 0, none⟩ = some (.string op) ∧ w'.cell? ⟨w.heap.size, 1, none⟩ = some (.bool b) ∧ w'.cell? ⟨w.heap.size, 2, none⟩ = some (.int .i64 m) ∧ w'.cell? ⟨w.heap.size, 3, none⟩ = some (.int .i64 r) ∧ w'.cell? ⟨w.heap.size, 4, none⟩ = some (.int .i64 n) ∧ w'.cell? ⟨w.heap.size, 5, none⟩ = some (.bool l) ∧ w'.cell? ⟨w.heap.size, 6, none⟩ = some (.int .i64 m2) ∧ w'.cell? ⟨w.heap.size, 7, none⟩ = some (.int .i64 r2) ∧ w'.cell? ⟨w.heap.size, 8, none⟩ = some (.int .i64 n2) ∧ w'.cell? ⟨w.heap.size, 9, none⟩ = some (.bool l2) ∧ w'.cell? ⟨w.heap.size, 10, none⟩ = some (.int .i64 j)) ∧ w'.cell? ⟨x2.heap.size, 0, none⟩ = some (.int .i64 2) ∧ w'.cell? ⟨x2.heap.size, 1, none⟩ = some (.int .i64 k) ∧ w'.cell? ⟨x1.heap.size, 0, none⟩ = some (.func (.func 37) #[] #[]) ∧ w'.cell? ⟨x1.heap.size, 1, none⟩ = some (.func (.func 38) #[] #[]) ∧ w'.cell? ⟨x1.heap.size, 2, none⟩ = some (.func (.func 39) #[] #[])) (go_keep) (first
    | (go_at_call 39; refine (firstOfJump_any op b m r n l m2 r2 n2 l2 j k _ hk0 hk1).mono ?_; rintro e x3 ⟨rfl, hb⟩; have HI3 : Hid (_ = _) := heap_keep (by exact heap_more HI2.out _) hb; have HG3 : Hid (_ = _) := heap_keep (by exact heap_more HG2.out _) hb; have HP3 : Hid (_ = _) := heap_keep (by exact heap_alloc_new x2 _) hb; have HB3 : Hid (Below w.heap.size w x3) := below_call (by exact (below_more HB2.out _).drew) hb; have HT3 : Hid (Tabs x3) := Tabs.below (by exact (HT2.out.alloc _).drew) hb; clear hb c0 c1 c2 c3 c4 c5 c6 c7 c8 c9 c10 u0 u1 u2; obtain ⟨d0, d1, d2, d3, d4, d5, d6, d7, d8, d9, d10⟩ := cells11 HI3.out; obtain ⟨s0, s1, s2⟩ := three_cells HG3.out; obtain ⟨q0, q1, f0, f1⟩ := two_cells HP3.out; have hz4 := heap_lt HI3.out))
  generalize hfw : (8192 + 1024 * k + j % 1024 : Int) = fw at *
  have HFW : Hid (_ = _) := hfw
  clear hfw
  go_wp2_with fail
  clear q0 q1 f0 f1 s0 s1 s2
  go_loopw [6, 33] (fun v i wr => ∃ t : Nat, t ≤ 2 ∧ i = .int .i64 t ∧ Hid (OwnI wr w.heap.size v (partI fw m r n l m2 r2 n2 l2 t)) ∧ Hid (Below w.heap.size w wr) ∧ Hid (Tabs wr)) (fun _ i _ => 2 - (intOf i).toNat)
  case atStart => exact ⟨0, by omega, rfl, OwnI.mk (L := [fw]) (by have := HB3.out.size; omega) (heap_alloc_new x3 _) (by simp) (by simp [maxLen]) rfl (fun i hi => by obtain rfl : i = 0 := (by simpa using hi); rfl), below_more HB3.out _, HT3.out.alloc _⟩
  case round =>
    obtain ⟨t, ht, rfl, HO, HB, HTr⟩ := hrel
    obtain rfl | rfl | rfl : t = 0 ∨ t = 1 ∨ t = 2 := by omega
    · have hix := fun W => two_i0 (.int .i64 m) (.int .i64 r) (.int .i64 n) (.bool l) (.int .i64 m2) (.int .i64 r2) (.int .i64 n2) (.bool l2) W
      have HO1 : Hid (OwnI wr w.heap.size _ ([fw])) := HO.out
      have hsz := HB.out.size
      go_wp2_with fail
      refine (hasWord_any m r n l _ h0 h5 (HTr.out.alloc _)).mono ?_
      rintro e y ⟨rfl, hb⟩
      have HO2 : Hid (OwnI y w.heap.size _ ([fw])) := (HO1.out.alloc _).stays hb
      have HB2 : Hid (Below w.heap.size w y) := below_call (below_more HB.out _) hb
      have HT2 : Hid (Tabs y) := (HTr.out.alloc _).below hb
      have HV : Hid (_ = _) := heap_keep (heap_alloc_new wr _) hb
      obtain ⟨e0, e1, e2, e3⟩ := cells4h HV.out
      have hzv := heap_lt HV.out
      have hsz2 := HB2.out.size
      clear hb
      cases ha : (asI m r n l).2.2
      · go_wp2_with fail
        go_roundw
        case rel => exact ⟨1, by omega, rfl, (by show OwnI _ _ _ _; have h := HO2.out; simpa [partI, wordsI, optI, ha] using h), HB2.out, HT2.out⟩
        case measure => simp [intOf]
      · obtain ⟨i0, hi, hz0, hz1', hz2'⟩ := info_parts infoI
        have hlen : ([fw] : List Int).length < 1000000 := by (first | (simp; done) | (simp [optI]; split <;> simp))
        go_wp2_with (at_builtin; refine wpList_append_own _ rfl (.tmp 38) (.tmp 41) 36 rfl w.heap.size 2 i0 (.int .i64 0) 1 8 Tryz.underlying36 hi hz0 hz1' hz2' rfl (by decide) _ _ _ rfl (HO2.out.alloc _) ⟨y.heap.size, 0, none⟩ 1 1 [.int .i64 n] rfl rfl (cell_one_new _ _ _) (one_cellI _) (len_small _ hlen) (by omega) (by simp; omega) ?_; intro v2 w2 hown2 hgrow2 _)
        go_roundw
        case rel =>
          have hb3 : Below w.heap.size w w2 := (below_more HB2.out _).grown hgrow2 (by simp; omega) (fun q hq => (HO2.out.lt q hq).1)
          have ht3 : Tabs w2 := HTw.out.below hb3
          exact ⟨1, by omega, rfl, (by show OwnI _ _ _ _; have h := OwnI.more hown2; simpa [partI, wordsI, optI, ha] using h), hb3, ht3⟩
        case measure => simp [intOf]
    · have hix := fun W => two_i1 (.int .i64 m) (.int .i64 r) (.int .i64 n) (.bool l) (.int .i64 m2) (.int .i64 r2) (.int .i64 n2) (.bool l2) W
      have HO1 : Hid (OwnI wr w.heap.size _ (fw :: optI (asI m r n l).2.2 n)) := HO.out
      have hsz := HB.out.size
      go_wp2_with fail
      refine (hasWord_any m2 r2 n2 l2 _ g0 g5 (HTr.out.alloc _)).mono ?_
      rintro e y ⟨rfl, hb⟩
      have HO2 : Hid (OwnI y w.heap.size _ (fw :: optI (asI m r n l).2.2 n)) := (HO1.out.alloc _).stays hb
      have HB2 : Hid (Below w.heap.size w y) := below_call (below_more HB.out _) hb
      have HT2 : Hid (Tabs y) := (HTr.out.alloc _).below hb
      have HV : Hid (_ = _) := heap_keep (heap_alloc_new wr _) hb
      obtain ⟨e0, e1, e2, e3⟩ := cells4h HV.out
      have hzv := heap_lt HV.out
      have hsz2 := HB2.out.size
      clear hb
      cases ha : (asI m2 r2 n2 l2).2.2
      · go_wp2_with fail
        go_roundw
        case rel => exact ⟨2, by omega, rfl, (by show OwnI _ _ _ _; have h := HO2.out; simpa [partI, wordsI, optI, ha] using h), HB2.out, HT2.out⟩
        case measure => simp [intOf]
      · obtain ⟨i0, hi, hz0, hz1', hz2'⟩ := info_parts infoI
        have hlen : (fw :: optI (asI m r n l).2.2 n : List Int).length < 1000000 := by (first | (simp; done) | (simp [optI]; split <;> simp))
        go_wp2_with (at_builtin; refine wpList_append_own _ rfl (.tmp 38) (.tmp 41) 36 rfl w.heap.size 2 i0 (.int .i64 0) 1 8 Tryz.underlying36 hi hz0 hz1' hz2' rfl (by decide) _ _ _ rfl (HO2.out.alloc _) ⟨y.heap.size, 0, none⟩ 1 1 [.int .i64 n2] rfl rfl (cell_one_new _ _ _) (one_cellI _) (len_small _ hlen) (by omega) (by simp; omega) ?_; intro v2 w2 hown2 hgrow2 _)
        go_roundw
        case rel =>
          have hb3 : Below w.heap.size w w2 := (below_more HB2.out _).grown hgrow2 (by simp; omega) (fun q hq => (HO2.out.lt q hq).1)
          have ht3 : Tabs w2 := HTw.out.below hb3
          exact ⟨2, by omega, rfl, (by show OwnI _ _ _ _; have h := OwnI.more hown2; simpa [partI, wordsI, optI, ha] using h), hb3, ht3⟩
        case measure => simp [intOf]
    · go_wp2
      go_ret
      exact ⟨_, rfl, (by have h := HO.out; rw [← HFW.out] at h; exact h), HB.out⟩
end Go.Proofs.YtodjccipfonaiaaGreatDoor
