/- How instructions are written, by the program: whole ones. -/
import Derived.Test.YtknielpkmablkaaDoorRows
import Derived.WalkKit
import Derived.WalkSpells
import Derived.WalkLawsBesides
import Derived.Outline
import Derived.Deep.RegionHeld3
import Derived.Deep.RegionWith
import Derived.Maps.Own
import Derived.Test.YtknielpkmablkaaDoorBun0
import Derived.Test.YtknielpkmablkaaDoorBun1
import Derived.Test.YtknielpkmablkaaDoorBun10
import Derived.Test.YtknielpkmablkaaDoorTextPX
import Derived.Test.YtknielpkmablkaaDoorTextTX
namespace Go.Proofs.YtknielpkmablkaaDoor
open Go.RowKit
set_option linter.unusedVariables false

theorem place_two {op : ByteArray} (h : 0 ≤ atI twosL op) : ∃ n : Int, (rowsD 3).atKey (.string op.data.toList) (encP 0 0) = encP 0 n := by
  have := atI_mem h
  simp only [twosL, List.mem_cons, List.not_mem_nil, or_false] at this
  rcases this with rfl | rfl | rfl | rfl | rfl | rfl | rfl | rfl | rfl | rfl | rfl | rfl
  · exact ⟨4, by kernel_rfl⟩
  · exact ⟨5, by kernel_rfl⟩
  · exact ⟨6, by kernel_rfl⟩
  · exact ⟨7, by kernel_rfl⟩
  · exact ⟨8, by kernel_rfl⟩
  · exact ⟨9, by kernel_rfl⟩
  · exact ⟨10, by kernel_rfl⟩
  · exact ⟨11, by kernel_rfl⟩
  · exact ⟨12, by kernel_rfl⟩
  · exact ⟨13, by kernel_rfl⟩
  · exact ⟨14, by kernel_rfl⟩
  · exact ⟨15, by kernel_rfl⟩
theorem place_one {op : ByteArray} (h : 0 ≤ atI onesL op) : ∃ n : Int, (rowsD 3).atKey (.string op.data.toList) (encP 0 0) = encP 1 n := by
  have := atI_mem h
  simp only [onesL, List.mem_cons, List.not_mem_nil, or_false] at this
  rcases this with rfl | rfl | rfl | rfl | rfl | rfl | rfl
  · exact ⟨0, by kernel_rfl⟩
  · exact ⟨1, by kernel_rfl⟩
  · exact ⟨2, by kernel_rfl⟩
  · exact ⟨3, by kernel_rfl⟩
  · exact ⟨4, by kernel_rfl⟩
  · exact ⟨5, by kernel_rfl⟩
  · exact ⟨6, by kernel_rfl⟩
theorem place_jump {op : ByteArray} (h : 0 ≤ atI jumpsL op) : ∃ n : Int, (rowsD 3).atKey (.string op.data.toList) (encP 0 0) = encP 2 n := by
  have := atI_mem h
  simp only [jumpsL, List.mem_cons, List.not_mem_nil, or_false] at this
  rcases this with rfl | rfl | rfl | rfl | rfl | rfl | rfl | rfl
  · exact ⟨0, by kernel_rfl⟩
  · exact ⟨1, by kernel_rfl⟩
  · exact ⟨2, by kernel_rfl⟩
  · exact ⟨3, by kernel_rfl⟩
  · exact ⟨4, by kernel_rfl⟩
  · exact ⟨5, by kernel_rfl⟩
  · exact ⟨6, by kernel_rfl⟩
  · exact ⟨7, by kernel_rfl⟩
theorem look_place {w : World} {b n : Nat} {op : ByteArray} {k i : Int} (h : OwnP w b n (rowsD 3)) (ho : op.size ≤ 10) (hk : (rowsD 3).atKey (.string op.data.toList) (encP 0 0) = encP k i) : (Instr.lookup 84 (.map (some b)) (.string op) false).run Tryd.prog w = .ok (.agg #[.int .i64 k, .int .i64 i]) w := by
  obtain ⟨v, ps, hrun, hv⟩ := World.ownsMap.lookup h lawS Tryd.underlying84 (zeroP w) (plR_mk 0 0) (WideMaps.keyOf_string_mk Tryd.underlying9 (s := op) (by unfold maxLen; omega))
  rw [hk] at hv
  rw [plR_inv hv] at hrun
  exact hrun
theorem field_place (a b : Value) (W : World) : (Instr.field 81 (.agg #[a, b]) 0).run Tryd.prog W = .ok a W := by kernel_rfl
theorem Pow.drewn {w : World} (h : Pow w) : Pow w.drew := h
set_option maxRecDepth 100000 in
set_option maxHeartbeats 3200000 in
theorem implT_two_f (op : ByteArray) (m r n : Int) (l : Bool) (m2 r2 n2 : Int) (l2 : Bool) (j : Int) (w : World) (hT : Tabs w) (hP : Pow w) (kn : Int) (HK : Hid ((rowsD 3).atKey (.string op.data.toList) (encP 0 0) = encP 0 kn)) (HN : Hid (insnB op false m r n l m2 r2 n2 l2 j = true)) (h2 : 0 ≤ atI twosL op) (ho : op.size ≤ 10) (m0 : 0 ≤ m) (m5 : m ≤ 5) (g0 : -100000 ≤ r) (g1 : r ≤ 100000) (h0 : -100000 ≤ n) (h1 : n ≤ 100000) (p0 : 0 ≤ m2) (p5 : m2 ≤ 5) (q0 : -100000 ≤ r2) (q1 : r2 ≤ 100000) (s0 : -100000 ≤ n2) (s1 : n2 ≤ 100000) : Calls Tryd.prog 44 #[.agg #[.string op, .bool false, .int .i64 m, .int .i64 r, .int .i64 n, .bool l, .int .i64 m2, .int .i64 r2, .int .i64 n2, .bool l2, .int .i64 j]] w fun e w' => e = .returned (.string (insT op false m r n l m2 r2 n2 l2 j)) ∧ Below w.heap.size w w' := by
  have HTw : Hid (Tabs w) := hT
  have HPw : Hid (Pow w) := hP
  clear hT hP
  have hA := opd_size m r n l g0 g1 h0 h1
  have hB := opd_size m2 r2 n2 l2 q0 q1 s0 s1
  have HT : Hid (insT op false m r n l m2 r2 n2 l2 j = catL [op, ⟨#[32]⟩, opdB m r n l, ⟨#[44, 32]⟩, opdB m2 r2 n2 l2]) := by show _ = _; unfold insT tOp; rw [if_pos h2]; rfl
  have HA : Hid (∀ W : World, Pow W → Calls Tryd.prog 60 #[.agg #[.int .i64 m, .int .i64 r, .int .i64 n, .bool l]] W fun e w' => e = .returned (.string (opdB m r n l)) ∧ Below W.heap.size W w') := fun W hW => implOpd_any m r n l W m0 m5 g0 g1 h0 h1 hW
  have HD : Hid (∀ W : World, Pow W → Calls Tryd.prog 60 #[.agg #[.int .i64 m2, .int .i64 r2, .int .i64 n2, .bool l2]] W fun e w' => e = .returned (.string (opdB m2 r2 n2 l2)) ∧ Below W.heap.size W w') := fun W hW => implOpd_any m2 r2 n2 l2 W p0 p5 q0 q1 s0 s1 hW
  clear m0 m5 g0 g1 h0 h1 p0 p5 q0 q1 s0 s1 h2
  generalize opdB m r n l = A at *
  generalize opdB m2 r2 n2 l2 = D at *
  have hts : (op : ByteArray).size ≤ 12 := by omega
  go_enter Tryd.func44, Tryd.ntmps44
  go_wp2_with fail
  refine (implRight_any op false m r n l m2 r2 n2 l2 j _ (HTw.out.alloc _)).mono ?_
  rintro e xc ⟨rfl, hb⟩
  rw [HN.out]
  have HIc : Hid (_ = _) := heap_keep (heap_alloc_new w _) hb
  have HBc : Hid (Below w.heap.size w xc) := below_call (below_new _ _) hb
  clear hb
  obtain ⟨c0, c1, c2, c3, c4, c5, c6, c7, c8, c9, c10⟩ := cells11 HIc.out
  go_wp2_with fail
  go_region_held3 (fun w' => w'.cell? ⟨w.heap.size, 0, none⟩ = some (.string op)) (first | exact (cells11 (by repeat (first | with_reducible exact HIc.out | with_reducible apply heap_drewn))).1) (first
    | (go_at_call 59; refine (opPlaces_any _ (HTw.out.below (by repeat (first | with_reducible exact HBc.out | with_reducible refine Below.drew ?_)))).mono ?_; rintro e xn ⟨rfl, hm, hb⟩; have HIc : Hid (_ = _) := heap_keep (by repeat (first | with_reducible exact HIc.out | with_reducible apply heap_drewn)) hb; have HBc : Hid (Below w.heap.size w xn) := below_call (by repeat (first | with_reducible exact HBc.out | with_reducible refine Below.drew ?_)) hb; have hlk : (Instr.lookup 84 (.map (some xc.heap.size)) (.string op) false).run Tryd.prog xn = .ok (.agg #[.int .i64 0, .int .i64 kn]) xn := look_place hm ho HK.out; have hfp := fun W => field_place (.int .i64 0) (.int .i64 kn) W; clear hm; clear hb))
  clear c0 c1 c2 c3 c4 c5 c6 c7 c8 c9 c10
  obtain ⟨c0, c1, c2, c3, c4, c5, c6, c7, c8, c9, c10⟩ := cells11 HIc.out
  go_wp2_with fail
  clear hlk hfp
  go_region_held3 (fun w' => w'.cell? ⟨w.heap.size, 0, none⟩ = some (.string op) ∧ w'.cell? ⟨w.heap.size, 1, none⟩ = some (.bool false) ∧ w'.cell? ⟨w.heap.size, 2, none⟩ = some (.int .i64 m) ∧ w'.cell? ⟨w.heap.size, 3, none⟩ = some (.int .i64 r) ∧ w'.cell? ⟨w.heap.size, 4, none⟩ = some (.int .i64 n) ∧ w'.cell? ⟨w.heap.size, 5, none⟩ = some (.bool l) ∧ w'.cell? ⟨w.heap.size, 6, none⟩ = some (.int .i64 m2) ∧ w'.cell? ⟨w.heap.size, 7, none⟩ = some (.int .i64 r2) ∧ w'.cell? ⟨w.heap.size, 8, none⟩ = some (.int .i64 n2) ∧ w'.cell? ⟨w.heap.size, 9, none⟩ = some (.bool l2) ∧ w'.cell? ⟨w.heap.size, 10, none⟩ = some (.int .i64 j)) (exact cells11 (by repeat (first | with_reducible exact HIc.out | with_reducible apply heap_drewn | with_reducible apply heap_more))) (first
    | (go_at_call_of 60 (Value.agg #[.int .i64 m, .int .i64 r, .int .i64 n, .bool l]); refine (HA.out _ (HPw.out.below (by repeat (first | with_reducible exact HBc.out | with_reducible refine Below.drew ?_)))).mono ?_; rintro e xc ⟨rfl, hb⟩; have HIc : Hid (_ = _) := heap_keep (by repeat (first | with_reducible exact HIc.out | with_reducible apply heap_drewn)) hb; have HBc : Hid (Below w.heap.size w xc) := below_call (by repeat (first | with_reducible exact HBc.out | with_reducible refine Below.drew ?_)) hb; clear hb)
    | (go_at_call_of 60 (Value.agg #[.int .i64 m2, .int .i64 r2, .int .i64 n2, .bool l2]); refine (HD.out _ (HPw.out.below (by repeat (first | with_reducible exact HBc.out | with_reducible refine Below.drew ?_)))).mono ?_; rintro e xc ⟨rfl, hb⟩; have HIc : Hid (_ = _) := heap_keep (by repeat (first | with_reducible exact HIc.out | with_reducible apply heap_drewn)) hb; have HBc : Hid (Below w.heap.size w xc) := below_call (by repeat (first | with_reducible exact HBc.out | with_reducible refine Below.drew ?_)) hb; clear hb)
    | (go_at_call 45; refine (join_five op ⟨#[32]⟩ A ⟨#[44, 32]⟩ D _ (by rw [one_b, two_b]; omega)).mono ?_; rintro e xc ⟨rfl, hb⟩; have HIc : Hid (_ = _) := heap_keep (by repeat (first | with_reducible exact HIc.out | with_reducible apply heap_drewn)) hb; have HBc : Hid (Below w.heap.size w xc) := below_call (by repeat (first | with_reducible exact HBc.out | with_reducible refine Below.drew ?_)) hb; clear hb))
  all_goals
    go_wp2
    go_ret
    exact ⟨ret_str HT.out.symm, HBc.out⟩
set_option maxRecDepth 100000 in
set_option maxHeartbeats 3200000 in
theorem implT_one_f (op : ByteArray) (m r n : Int) (l : Bool) (m2 r2 n2 : Int) (l2 : Bool) (j : Int) (w : World) (hT : Tabs w) (hP : Pow w) (kn : Int) (HK : Hid ((rowsD 3).atKey (.string op.data.toList) (encP 0 0) = encP 1 kn)) (HN : Hid (insnB op false m r n l m2 r2 n2 l2 j = true)) (h2 : ¬ 0 ≤ atI twosL op) (h3 : 0 ≤ atI onesL op) (hr : ¬ op = ⟨#[114, 101, 116, 105]⟩) (ho : op.size ≤ 10) (m0 : 0 ≤ m) (m5 : m ≤ 5) (g0 : -100000 ≤ r) (g1 : r ≤ 100000) (h0 : -100000 ≤ n) (h1 : n ≤ 100000) : Calls Tryd.prog 44 #[.agg #[.string op, .bool false, .int .i64 m, .int .i64 r, .int .i64 n, .bool l, .int .i64 m2, .int .i64 r2, .int .i64 n2, .bool l2, .int .i64 j]] w fun e w' => e = .returned (.string (insT op false m r n l m2 r2 n2 l2 j)) ∧ Below w.heap.size w w' := by
  have HTw : Hid (Tabs w) := hT
  have HPw : Hid (Pow w) := hP
  clear hT hP
  have hA := opd_size m r n l g0 g1 h0 h1
  have HT : Hid (insT op false m r n l m2 r2 n2 l2 j = catL [op, ⟨#[32]⟩, opdB m r n l]) := by show _ = _; unfold insT tOp; rw [if_neg h2, if_pos h3, if_neg hr]; rfl
  have HA : Hid (∀ W : World, Pow W → Calls Tryd.prog 60 #[.agg #[.int .i64 m, .int .i64 r, .int .i64 n, .bool l]] W fun e w' => e = .returned (.string (opdB m r n l)) ∧ Below W.heap.size W w') := fun W hW => implOpd_any m r n l W m0 m5 g0 g1 h0 h1 hW
  have hr' := text_no [114, 101, 116, 105] hr
  clear m0 m5 g0 g1 h0 h1 h2 h3 hr
  generalize opdB m r n l = A at *
  have hts : (op : ByteArray).size ≤ 12 := by omega
  go_enter Tryd.func44, Tryd.ntmps44
  go_wp2_with fail
  refine (implRight_any op false m r n l m2 r2 n2 l2 j _ (HTw.out.alloc _)).mono ?_
  rintro e xc ⟨rfl, hb⟩
  rw [HN.out]
  have HIc : Hid (_ = _) := heap_keep (heap_alloc_new w _) hb
  have HBc : Hid (Below w.heap.size w xc) := below_call (below_new _ _) hb
  clear hb
  obtain ⟨c0, c1, c2, c3, c4, c5, c6, c7, c8, c9, c10⟩ := cells11 HIc.out
  go_wp2_with fail
  go_region_held3 (fun w' => w'.cell? ⟨w.heap.size, 0, none⟩ = some (.string op)) (first | exact (cells11 (by repeat (first | with_reducible exact HIc.out | with_reducible apply heap_drewn))).1) (first
    | (go_at_call 59; refine (opPlaces_any _ (HTw.out.below (by repeat (first | with_reducible exact HBc.out | with_reducible refine Below.drew ?_)))).mono ?_; rintro e xn ⟨rfl, hm, hb⟩; have HIc : Hid (_ = _) := heap_keep (by repeat (first | with_reducible exact HIc.out | with_reducible apply heap_drewn)) hb; have HBc : Hid (Below w.heap.size w xn) := below_call (by repeat (first | with_reducible exact HBc.out | with_reducible refine Below.drew ?_)) hb; have hlk : (Instr.lookup 84 (.map (some xc.heap.size)) (.string op) false).run Tryd.prog xn = .ok (.agg #[.int .i64 1, .int .i64 kn]) xn := look_place hm ho HK.out; have hfp := fun W => field_place (.int .i64 1) (.int .i64 kn) W; clear hm; clear hb))
  clear c0 c1 c2 c3 c4 c5 c6 c7 c8 c9 c10
  obtain ⟨c0, c1, c2, c3, c4, c5, c6, c7, c8, c9, c10⟩ := cells11 HIc.out
  go_wp2_with fail
  clear hlk hfp
  refine (HA.out _ (HPw.out.below HBc.out)).mono ?_
  rintro e x3 ⟨rfl, hb⟩
  go_wp2_with fail
  refine (join_three op ⟨#[32]⟩ A _ (by rw [one_b]; omega)).mono ?_
  rintro e x4 ⟨rfl, hb4⟩
  go_wp2
  go_ret
  exact ⟨ret_str HT.out.symm, below_call (below_call HBc.out hb) hb4⟩
set_option maxRecDepth 100000 in
set_option maxHeartbeats 3200000 in
theorem implT_two_t (op : ByteArray) (m r n : Int) (l : Bool) (m2 r2 n2 : Int) (l2 : Bool) (j : Int) (w : World) (hT : Tabs w) (hP : Pow w) (kn : Int) (HK : Hid ((rowsD 3).atKey (.string op.data.toList) (encP 0 0) = encP 0 kn)) (HN : Hid (insnB op true m r n l m2 r2 n2 l2 j = true)) (h2 : 0 ≤ atI twosL op) (ho : op.size ≤ 10) (m0 : 0 ≤ m) (m5 : m ≤ 5) (g0 : -100000 ≤ r) (g1 : r ≤ 100000) (h0 : -100000 ≤ n) (h1 : n ≤ 100000) (p0 : 0 ≤ m2) (p5 : m2 ≤ 5) (q0 : -100000 ≤ r2) (q1 : r2 ≤ 100000) (s0 : -100000 ≤ n2) (s1 : n2 ≤ 100000) : Calls Tryd.prog 44 #[.agg #[.string op, .bool true, .int .i64 m, .int .i64 r, .int .i64 n, .bool l, .int .i64 m2, .int .i64 r2, .int .i64 n2, .bool l2, .int .i64 j]] w fun e w' => e = .returned (.string (insT op true m r n l m2 r2 n2 l2 j)) ∧ Below w.heap.size w w' := by
  have HTw : Hid (Tabs w) := hT
  have HPw : Hid (Pow w) := hP
  clear hT hP
  have hA := opd_size m r n l g0 g1 h0 h1
  have hB := opd_size m2 r2 n2 l2 q0 q1 s0 s1
  have HT : Hid (insT op true m r n l m2 r2 n2 l2 j = catL [(op ++ ⟨#[46, 98]⟩), ⟨#[32]⟩, opdB m r n l, ⟨#[44, 32]⟩, opdB m2 r2 n2 l2]) := by show _ = _; unfold insT tOp; rw [if_pos h2]; rfl
  have HA : Hid (∀ W : World, Pow W → Calls Tryd.prog 60 #[.agg #[.int .i64 m, .int .i64 r, .int .i64 n, .bool l]] W fun e w' => e = .returned (.string (opdB m r n l)) ∧ Below W.heap.size W w') := fun W hW => implOpd_any m r n l W m0 m5 g0 g1 h0 h1 hW
  have HD : Hid (∀ W : World, Pow W → Calls Tryd.prog 60 #[.agg #[.int .i64 m2, .int .i64 r2, .int .i64 n2, .bool l2]] W fun e w' => e = .returned (.string (opdB m2 r2 n2 l2)) ∧ Below W.heap.size W w') := fun W hW => implOpd_any m2 r2 n2 l2 W p0 p5 q0 q1 s0 s1 hW
  clear m0 m5 g0 g1 h0 h1 p0 p5 q0 q1 s0 s1 h2
  generalize opdB m r n l = A at *
  generalize opdB m2 r2 n2 l2 = D at *
  have hts : ((op ++ ⟨#[46, 98]⟩) : ByteArray).size ≤ 12 := by rw [ByteArray.size_append, two_b]; omega
  have z0 := two_b 46 98
  have e0 := addS (op) (⟨#[46, 98]⟩) (by omega) (by omega)
  clear z0
  go_enter Tryd.func44, Tryd.ntmps44
  go_wp2_with fail
  refine (implRight_any op true m r n l m2 r2 n2 l2 j _ (HTw.out.alloc _)).mono ?_
  rintro e xc ⟨rfl, hb⟩
  rw [HN.out]
  have HIc : Hid (_ = _) := heap_keep (heap_alloc_new w _) hb
  have HBc : Hid (Below w.heap.size w xc) := below_call (below_new _ _) hb
  clear hb
  obtain ⟨c0, c1, c2, c3, c4, c5, c6, c7, c8, c9, c10⟩ := cells11 HIc.out
  go_wp2_with fail
  go_region_held3 (fun w' => w'.cell? ⟨w.heap.size, 0, none⟩ = some (.string op)) (first | exact (cells11 (by repeat (first | with_reducible exact HIc.out | with_reducible apply heap_drewn))).1) (first
    | (go_at_call 59; refine (opPlaces_any _ (HTw.out.below (by repeat (first | with_reducible exact HBc.out | with_reducible refine Below.drew ?_)))).mono ?_; rintro e xn ⟨rfl, hm, hb⟩; have HIc : Hid (_ = _) := heap_keep (by repeat (first | with_reducible exact HIc.out | with_reducible apply heap_drewn)) hb; have HBc : Hid (Below w.heap.size w xn) := below_call (by repeat (first | with_reducible exact HBc.out | with_reducible refine Below.drew ?_)) hb; have hlk : (Instr.lookup 84 (.map (some xc.heap.size)) (.string op) false).run Tryd.prog xn = .ok (.agg #[.int .i64 0, .int .i64 kn]) xn := look_place hm ho HK.out; have hfp := fun W => field_place (.int .i64 0) (.int .i64 kn) W; clear hm; clear hb))
  clear c0 c1 c2 c3 c4 c5 c6 c7 c8 c9 c10
  obtain ⟨c0, c1, c2, c3, c4, c5, c6, c7, c8, c9, c10⟩ := cells11 HIc.out
  go_wp2_with fail
  clear hlk hfp
  go_region_held3 (fun w' => w'.cell? ⟨w.heap.size, 0, none⟩ = some (.string op) ∧ w'.cell? ⟨w.heap.size, 1, none⟩ = some (.bool true) ∧ w'.cell? ⟨w.heap.size, 2, none⟩ = some (.int .i64 m) ∧ w'.cell? ⟨w.heap.size, 3, none⟩ = some (.int .i64 r) ∧ w'.cell? ⟨w.heap.size, 4, none⟩ = some (.int .i64 n) ∧ w'.cell? ⟨w.heap.size, 5, none⟩ = some (.bool l) ∧ w'.cell? ⟨w.heap.size, 6, none⟩ = some (.int .i64 m2) ∧ w'.cell? ⟨w.heap.size, 7, none⟩ = some (.int .i64 r2) ∧ w'.cell? ⟨w.heap.size, 8, none⟩ = some (.int .i64 n2) ∧ w'.cell? ⟨w.heap.size, 9, none⟩ = some (.bool l2) ∧ w'.cell? ⟨w.heap.size, 10, none⟩ = some (.int .i64 j)) (exact cells11 (by repeat (first | with_reducible exact HIc.out | with_reducible apply heap_drewn | with_reducible apply heap_more))) (first
    | (go_at_call_of 60 (Value.agg #[.int .i64 m, .int .i64 r, .int .i64 n, .bool l]); refine (HA.out _ (HPw.out.below (by repeat (first | with_reducible exact HBc.out | with_reducible refine Below.drew ?_)))).mono ?_; rintro e xc ⟨rfl, hb⟩; have HIc : Hid (_ = _) := heap_keep (by repeat (first | with_reducible exact HIc.out | with_reducible apply heap_drewn)) hb; have HBc : Hid (Below w.heap.size w xc) := below_call (by repeat (first | with_reducible exact HBc.out | with_reducible refine Below.drew ?_)) hb; clear hb)
    | (go_at_call_of 60 (Value.agg #[.int .i64 m2, .int .i64 r2, .int .i64 n2, .bool l2]); refine (HD.out _ (HPw.out.below (by repeat (first | with_reducible exact HBc.out | with_reducible refine Below.drew ?_)))).mono ?_; rintro e xc ⟨rfl, hb⟩; have HIc : Hid (_ = _) := heap_keep (by repeat (first | with_reducible exact HIc.out | with_reducible apply heap_drewn)) hb; have HBc : Hid (Below w.heap.size w xc) := below_call (by repeat (first | with_reducible exact HBc.out | with_reducible refine Below.drew ?_)) hb; clear hb)
    | (go_at_call 45; refine (join_five (op ++ ⟨#[46, 98]⟩) ⟨#[32]⟩ A ⟨#[44, 32]⟩ D _ (by rw [one_b, two_b]; omega)).mono ?_; rintro e xc ⟨rfl, hb⟩; have HIc : Hid (_ = _) := heap_keep (by repeat (first | with_reducible exact HIc.out | with_reducible apply heap_drewn)) hb; have HBc : Hid (Below w.heap.size w xc) := below_call (by repeat (first | with_reducible exact HBc.out | with_reducible refine Below.drew ?_)) hb; clear hb))
  all_goals
    go_wp2
    go_ret
    exact ⟨ret_str HT.out.symm, HBc.out⟩
set_option maxRecDepth 100000 in
set_option maxHeartbeats 3200000 in
theorem implT_one_t (op : ByteArray) (m r n : Int) (l : Bool) (m2 r2 n2 : Int) (l2 : Bool) (j : Int) (w : World) (hT : Tabs w) (hP : Pow w) (kn : Int) (HK : Hid ((rowsD 3).atKey (.string op.data.toList) (encP 0 0) = encP 1 kn)) (HN : Hid (insnB op true m r n l m2 r2 n2 l2 j = true)) (h2 : ¬ 0 ≤ atI twosL op) (h3 : 0 ≤ atI onesL op) (hr : ¬ op = ⟨#[114, 101, 116, 105]⟩) (ho : op.size ≤ 10) (m0 : 0 ≤ m) (m5 : m ≤ 5) (g0 : -100000 ≤ r) (g1 : r ≤ 100000) (h0 : -100000 ≤ n) (h1 : n ≤ 100000) : Calls Tryd.prog 44 #[.agg #[.string op, .bool true, .int .i64 m, .int .i64 r, .int .i64 n, .bool l, .int .i64 m2, .int .i64 r2, .int .i64 n2, .bool l2, .int .i64 j]] w fun e w' => e = .returned (.string (insT op true m r n l m2 r2 n2 l2 j)) ∧ Below w.heap.size w w' := by
  have HTw : Hid (Tabs w) := hT
  have HPw : Hid (Pow w) := hP
  clear hT hP
  have hA := opd_size m r n l g0 g1 h0 h1
  have HT : Hid (insT op true m r n l m2 r2 n2 l2 j = catL [(op ++ ⟨#[46, 98]⟩), ⟨#[32]⟩, opdB m r n l]) := by show _ = _; unfold insT tOp; rw [if_neg h2, if_pos h3, if_neg hr]; rfl
  have HA : Hid (∀ W : World, Pow W → Calls Tryd.prog 60 #[.agg #[.int .i64 m, .int .i64 r, .int .i64 n, .bool l]] W fun e w' => e = .returned (.string (opdB m r n l)) ∧ Below W.heap.size W w') := fun W hW => implOpd_any m r n l W m0 m5 g0 g1 h0 h1 hW
  have hr' := text_no [114, 101, 116, 105] hr
  clear m0 m5 g0 g1 h0 h1 h2 h3 hr
  generalize opdB m r n l = A at *
  have hts : ((op ++ ⟨#[46, 98]⟩) : ByteArray).size ≤ 12 := by rw [ByteArray.size_append, two_b]; omega
  have z0 := two_b 46 98
  have e0 := addS (op) (⟨#[46, 98]⟩) (by omega) (by omega)
  clear z0
  go_enter Tryd.func44, Tryd.ntmps44
  go_wp2_with fail
  refine (implRight_any op true m r n l m2 r2 n2 l2 j _ (HTw.out.alloc _)).mono ?_
  rintro e xc ⟨rfl, hb⟩
  rw [HN.out]
  have HIc : Hid (_ = _) := heap_keep (heap_alloc_new w _) hb
  have HBc : Hid (Below w.heap.size w xc) := below_call (below_new _ _) hb
  clear hb
  obtain ⟨c0, c1, c2, c3, c4, c5, c6, c7, c8, c9, c10⟩ := cells11 HIc.out
  go_wp2_with fail
  go_region_held3 (fun w' => w'.cell? ⟨w.heap.size, 0, none⟩ = some (.string op)) (first | exact (cells11 (by repeat (first | with_reducible exact HIc.out | with_reducible apply heap_drewn))).1) (first
    | (go_at_call 59; refine (opPlaces_any _ (HTw.out.below (by repeat (first | with_reducible exact HBc.out | with_reducible refine Below.drew ?_)))).mono ?_; rintro e xn ⟨rfl, hm, hb⟩; have HIc : Hid (_ = _) := heap_keep (by repeat (first | with_reducible exact HIc.out | with_reducible apply heap_drewn)) hb; have HBc : Hid (Below w.heap.size w xn) := below_call (by repeat (first | with_reducible exact HBc.out | with_reducible refine Below.drew ?_)) hb; have hlk : (Instr.lookup 84 (.map (some xc.heap.size)) (.string op) false).run Tryd.prog xn = .ok (.agg #[.int .i64 1, .int .i64 kn]) xn := look_place hm ho HK.out; have hfp := fun W => field_place (.int .i64 1) (.int .i64 kn) W; clear hm; clear hb))
  clear c0 c1 c2 c3 c4 c5 c6 c7 c8 c9 c10
  obtain ⟨c0, c1, c2, c3, c4, c5, c6, c7, c8, c9, c10⟩ := cells11 HIc.out
  go_wp2_with fail
  clear hlk hfp
  refine (HA.out _ (HPw.out.below HBc.out)).mono ?_
  rintro e x3 ⟨rfl, hb⟩
  go_wp2_with fail
  refine (join_three (op ++ ⟨#[46, 98]⟩) ⟨#[32]⟩ A _ (by rw [one_b]; omega)).mono ?_
  rintro e x4 ⟨rfl, hb4⟩
  go_wp2
  go_ret
  exact ⟨ret_str HT.out.symm, below_call (below_call HBc.out hb) hb4⟩
set_option maxRecDepth 100000 in
set_option maxHeartbeats 3200000 in
theorem implT_jump_f (op : ByteArray) (m r n : Int) (l : Bool) (m2 r2 n2 : Int) (l2 : Bool) (j : Int) (w : World) (hT : Tabs w) (hP : Pow w) (kn : Int) (HK : Hid ((rowsD 3).atKey (.string op.data.toList) (encP 0 0) = encP 2 kn)) (HN : Hid (insnB op false m r n l m2 r2 n2 l2 j = true)) (h2 : ¬ 0 ≤ atI twosL op) (h3 : ¬ 0 ≤ atI onesL op) (ho : op.size ≤ 10) (j0 : -600 ≤ j) (j1 : j ≤ 600) : Calls Tryd.prog 44 #[.agg #[.string op, .bool false, .int .i64 m, .int .i64 r, .int .i64 n, .bool l, .int .i64 m2, .int .i64 r2, .int .i64 n2, .bool l2, .int .i64 j]] w fun e w' => e = .returned (.string (insT op false m r n l m2 r2 n2 l2 j)) ∧ Below w.heap.size w w' := by
  have HTw : Hid (Tabs w) := hT
  have HPw : Hid (Pow w) := hP
  clear hT hP
  have hA := sgn_size (2 * j + 2) (by omega) (by omega)
  have HT : Hid (insT op false m r n l m2 r2 n2 l2 j = catL [op, ⟨#[32, 36]⟩, sgnB (2 * j + 2)]) := by show _ = _; unfold insT tOp; rw [if_neg h2, if_neg h3]; rfl
  have HA : Hid (∀ W : World, Pow W → Calls Tryd.prog 61 #[.int .i64 (2 * j + 2)] W fun e w' => e = .returned (.string (sgnB (2 * j + 2))) ∧ Below W.heap.size W w') := fun W hW => signed_any (2 * j + 2) W (by omega) (by omega) hW
  clear h2 h3
  generalize sgnB (2 * j + 2) = A at *
  go_enter Tryd.func44, Tryd.ntmps44
  go_wp2_with fail
  refine (implRight_any op false m r n l m2 r2 n2 l2 j _ (HTw.out.alloc _)).mono ?_
  rintro e xc ⟨rfl, hb⟩
  rw [HN.out]
  have HIc : Hid (_ = _) := heap_keep (heap_alloc_new w _) hb
  have HBc : Hid (Below w.heap.size w xc) := below_call (below_new _ _) hb
  clear hb
  obtain ⟨c0, c1, c2, c3, c4, c5, c6, c7, c8, c9, c10⟩ := cells11 HIc.out
  go_wp2_with fail
  go_region_held3 (fun w' => w'.cell? ⟨w.heap.size, 0, none⟩ = some (.string op)) (first | exact (cells11 (by repeat (first | with_reducible exact HIc.out | with_reducible apply heap_drewn))).1) (first
    | (go_at_call 59; refine (opPlaces_any _ (HTw.out.below (by repeat (first | with_reducible exact HBc.out | with_reducible refine Below.drew ?_)))).mono ?_; rintro e xn ⟨rfl, hm, hb⟩; have HIc : Hid (_ = _) := heap_keep (by repeat (first | with_reducible exact HIc.out | with_reducible apply heap_drewn)) hb; have HBc : Hid (Below w.heap.size w xn) := below_call (by repeat (first | with_reducible exact HBc.out | with_reducible refine Below.drew ?_)) hb; have hlk : (Instr.lookup 84 (.map (some xc.heap.size)) (.string op) false).run Tryd.prog xn = .ok (.agg #[.int .i64 2, .int .i64 kn]) xn := look_place hm ho HK.out; have hfp := fun W => field_place (.int .i64 2) (.int .i64 kn) W; clear hm; clear hb))
  clear c0 c1 c2 c3 c4 c5 c6 c7 c8 c9 c10
  obtain ⟨c0, c1, c2, c3, c4, c5, c6, c7, c8, c9, c10⟩ := cells11 HIc.out
  go_wp2_with fail
  clear hlk hfp
  refine (HA.out _ (HPw.out.below HBc.out)).mono ?_
  rintro e x3 ⟨rfl, hb⟩
  go_wp2_with fail
  refine (join_three op ⟨#[32, 36]⟩ A _ (by rw [two_b]; omega)).mono ?_
  rintro e x4 ⟨rfl, hb4⟩
  go_wp2
  go_ret
  exact ⟨ret_str HT.out.symm, below_call (below_call HBc.out hb) hb4⟩
set_option maxRecDepth 100000 in
set_option maxHeartbeats 3200000 in
theorem implT_reti_f (op : ByteArray) (m r n : Int) (l : Bool) (m2 r2 n2 : Int) (l2 : Bool) (j : Int) (w : World) (hT : Tabs w) (hP : Pow w) (kn : Int) (HK : Hid ((rowsD 3).atKey (.string op.data.toList) (encP 0 0) = encP 1 kn)) (HN : Hid (insnB op false m r n l m2 r2 n2 l2 j = true)) (h2 : ¬ 0 ≤ atI twosL op) (h3 : 0 ≤ atI onesL op) (hr : op = ⟨#[114, 101, 116, 105]⟩) (ho : op.size ≤ 10) : Calls Tryd.prog 44 #[.agg #[.string op, .bool false, .int .i64 m, .int .i64 r, .int .i64 n, .bool l, .int .i64 m2, .int .i64 r2, .int .i64 n2, .bool l2, .int .i64 j]] w fun e w' => e = .returned (.string (insT op false m r n l m2 r2 n2 l2 j)) ∧ Below w.heap.size w w' := by
  have HTw : Hid (Tabs w) := hT
  have HPw : Hid (Pow w) := hP
  clear hT hP
  have HT : Hid (insT op false m r n l m2 r2 n2 l2 j = op) := by show _ = _; unfold insT tOp; rw [if_neg h2, if_pos h3, if_pos hr]; rfl
  have hr' : (op.toList == [114, 101, 116, 105]) = true := by rw [text_is]; simpa using hr
  clear h2 h3 hr
  go_enter Tryd.func44, Tryd.ntmps44
  go_wp2_with fail
  refine (implRight_any op false m r n l m2 r2 n2 l2 j _ (HTw.out.alloc _)).mono ?_
  rintro e xc ⟨rfl, hb⟩
  rw [HN.out]
  have HIc : Hid (_ = _) := heap_keep (heap_alloc_new w _) hb
  have HBc : Hid (Below w.heap.size w xc) := below_call (below_new _ _) hb
  clear hb
  obtain ⟨c0, c1, c2, c3, c4, c5, c6, c7, c8, c9, c10⟩ := cells11 HIc.out
  go_wp2_with fail
  go_region_held3 (fun w' => w'.cell? ⟨w.heap.size, 0, none⟩ = some (.string op)) (first | exact (cells11 (by repeat (first | with_reducible exact HIc.out | with_reducible apply heap_drewn))).1) (first
    | (go_at_call 59; refine (opPlaces_any _ (HTw.out.below (by repeat (first | with_reducible exact HBc.out | with_reducible refine Below.drew ?_)))).mono ?_; rintro e xn ⟨rfl, hm, hb⟩; have HIc : Hid (_ = _) := heap_keep (by repeat (first | with_reducible exact HIc.out | with_reducible apply heap_drewn)) hb; have HBc : Hid (Below w.heap.size w xn) := below_call (by repeat (first | with_reducible exact HBc.out | with_reducible refine Below.drew ?_)) hb; have hlk : (Instr.lookup 84 (.map (some xc.heap.size)) (.string op) false).run Tryd.prog xn = .ok (.agg #[.int .i64 1, .int .i64 kn]) xn := look_place hm ho HK.out; have hfp := fun W => field_place (.int .i64 1) (.int .i64 kn) W; clear hm; clear hb))
  clear c0 c1 c2 c3 c4 c5 c6 c7 c8 c9 c10
  obtain ⟨c0, c1, c2, c3, c4, c5, c6, c7, c8, c9, c10⟩ := cells11 HIc.out
  go_wp2_with fail
  clear hlk hfp
  refine (join_one op _ (by omega)).mono ?_
  rintro e x4 ⟨rfl, hb4⟩
  go_wp2
  go_ret
  exact ⟨ret_str HT.out.symm, below_call HBc.out hb4⟩
end Go.Proofs.YtknielpkmablkaaDoor
