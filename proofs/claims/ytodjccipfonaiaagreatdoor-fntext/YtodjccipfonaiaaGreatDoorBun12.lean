/- Instructions: the words of those with operands, by the specification. -/
import Derived.Test.YtodjccipfonaiaaGreatDoorRows
import Derived.WalkKit
import Derived.WalkSpells
import Derived.WalkLawsBesides
import Derived.RegionTactic
import Derived.BigRegion
import Derived.Outline
import Derived.Deep.RegionHeld3
import Derived.Test.YtodjccipfonaiaaGreatDoorBun0
import Derived.Test.YtodjccipfonaiaaGreatDoorBun7
import Derived.Test.YtodjccipfonaiaaGreatDoorBun5
import Derived.Test.YtodjccipfonaiaaGreatDoorBun8
import Derived.Test.YtodjccipfonaiaaGreatDoorBun10
namespace Go.Proofs.YtodjccipfonaiaaGreatDoor
open Go.RowKit
set_option linter.unusedVariables false

set_option maxRecDepth 100000 in
set_option maxHeartbeats 4000000 in
theorem specEnc_two_10 (k1 k2 k3 : Int) (op : ByteArray) (m r n : Int) (l : Bool) (m2 r2 n2 : Int) (l2 : Bool) (j : Int) (a1 a2 b1 b2 : Int) (t2 : Bool) (w : World) (HK1 : Hid (atI twosL op = k1)) (HK2 : Hid (atI jumpsL op = k2)) (HK3 : Hid (atI onesL op = k3)) (h3 : (op.toList == [114, 101, 116, 105]) = false) (h2 : ¬ 0 ≤ k2) (hk : ¬ 0 ≤ k3) (h7 : 0 ≤ k1) (h11 : k1 ≤ 11) (h0 : 0 ≤ m) (h5 : m ≤ 5) (H1 : Hid ((asI m r n l).1 = a1)) (H2 : Hid ((asI m r n l).2.1 = a2)) (H3 : Hid ((asI m r n l).2.2 = true)) (ha0 : 0 ≤ a1) (ha1 : a1 ≤ 3) (hb0 : 0 ≤ a2) (hb1 : a2 ≤ 15) (g0 : 0 ≤ m2) (g5 : m2 ≤ 5) (G1 : Hid ((asI m2 r2 n2 l2).1 = b1)) (G2 : Hid ((asI m2 r2 n2 l2).2.1 = b2)) (G3 : Hid ((asI m2 r2 n2 l2).2.2 = t2)) (hc0 : 0 ≤ b1) (hc1 : b1 ≤ 3) (hd0 : 0 ≤ b2) (hd1 : b2 ≤ 15) :
    Calls Tryz.prog 48 #[.agg #[.string op, .bool false, .int .i64 m, .int .i64 r, .int .i64 n, .bool l, .int .i64 m2, .int .i64 r2, .int .i64 n2, .bool l2, .int .i64 j]] w fun e w' => ∃ v, e = .returned v ∧ OwnI w' w.heap.size v ((4096 * (4 + k1) + 256 * a2 + 128 * b1 + markI false + 16 * a1 + b2) :: (optI true n ++ optI t2 n2)) ∧ Below w.heap.size w w' := by
  go_enter Tryz.func48, Tryz.ntmps48
  go_wp2_with fail
  have HI0 : Hid (_ = _) := heap_alloc_new w (.cells #[.string op, .bool false, .int .i64 m, .int .i64 r, .int .i64 n, .bool l, .int .i64 m2, .int .i64 r2, .int .i64 n2, .bool l2, .int .i64 j] 26)
  have HB0 : Hid (Below w.heap.size w _) := below_new w (.cells #[.string op, .bool false, .int .i64 m, .int .i64 r, .int .i64 n, .bool l, .int .i64 m2, .int .i64 r2, .int .i64 n2, .bool l2, .int .i64 j] 26)
  generalize w.alloc (.cells #[.string op, .bool false, .int .i64 m, .int .i64 r, .int .i64 n, .bool l, .int .i64 m2, .int .i64 r2, .int .i64 n2, .bool l2, .int .i64 j] 26) = x0 at *
  obtain ⟨c0, c1, c2, c3, c4, c5, c6, c7, c8, c9, c10⟩ := cells11 HI0.out
  go_region_held3 (fun w' => w'.cell? ⟨w.heap.size, 0, none⟩ = some (.string op)) (go_keep) (first
    | (go_at_call 67; refine (jumps_b _).mono ?_; rintro e x1 ⟨rfl, HT, hb⟩; have HI1 : Hid (_ = _) := heap_keep (by exact HI0.out) hb; obtain ⟨d0, d1, d2, d3, d4, d5, d6, d7, d8, d9, d10⟩ := cells11 HI1.out; have HB1 : Hid (Below w.heap.size w x1) := below_call (by exact HB0.out.drew) hb; clear hb c0 c1 c2 c3 c4 c5 c6 c7 c8 c9 c10)
    | (go_at_call 53; refine (at_row jumpsL op k2 HK2.out _ 8 _ 9 rfl (by omega) HT.out).mono ?_; rintro e x2 ⟨rfl, rfl⟩))
  go_wp2_with fail
  clear HT
  refine (l02As_any m r n l _ h0 h5).mono ?_
  rintro e x3 ⟨rfl, hb⟩
  rw [H1.out, H2.out, H3.out]
  have HI2 : Hid (_ = _) := heap_keep HI1.out hb
  have HB2 : Hid (Below w.heap.size w x3) := below_call HB1.out hb
  clear hb d0 d1 d2 d3 d4 d5 d6 d7 d8 d9 d10
  obtain ⟨c0, c1, c2, c3, c4, c5, c6, c7, c8, c9, c10⟩ := cells11 HI2.out
  have hz2 := heap_lt HI2.out
  have hsz2 := HB2.out.size
  obtain ⟨i0, hi, hz0, hz1', hz2'⟩ := info_parts infoI
  go_wp2_with (at_builtin; refine wpList_append_own _ rfl (.tmp 46) (.tmp 50) 36 rfl w.heap.size 2 i0 (.int .i64 0) 1 8 Tryz.underlying36 hi hz0 hz1' hz2' rfl (by decide) _ _ _ rfl ((own_one (f' := 0) HB2.out rfl rfl).alloc _) ⟨x3.heap.size + 1, 0, none⟩ 1 1 [.int .i64 n] rfl rfl (cell_one_at (by simp) _ _) (one_cellI _) (by simp [maxLen]) (by simp) (by simp; omega) ?_; intro v2 w2 hown2 hgrow2 _; obtain ⟨g, cap, cur, rfl, hB, hg, h4, h5', h6, h7'⟩ := own_some hown2)
  have HG2 : Hid (_ = _) := hg
  have HC2 : Hid (cur.size = cap) := h6
  have HC3 : Hid (_ = _) := h7'
  have HB2' : Hid (Below w.heap.size w w2) := (below_more (below_more HB2.out _) _).grown hgrow2 (below_more (below_more HB2.out _) _).size (fun q hq => by rw [← Option.some.inj hq]; exact hsz2)
  have HI2' : Hid (w2.heap[w.heap.size]? = _) := (hgrow2.block _ (heap_lt (heap_more (heap_more HI2.out _) _)) (some_ne (Nat.ne_of_lt hz2))).trans (heap_more (heap_more HI2.out _) _)
  clear hg h6 h7' hown2 hgrow2
  clear c0 c1 c2 c3 c4 c5 c6 c7 c8 c9 c10 hi hz0 hz1' hz2'
  obtain ⟨c0, c1, c2, c3, c4, c5, c6, c7, c8, c9, c10⟩ := cells11 HI2'.out
  go_region_held3 (fun w' => w'.cell? ⟨w.heap.size, 0, none⟩ = some (.string op)) (go_keep) (first
    | (go_at_call 70; refine (ones_b _).mono ?_; rintro e x5 ⟨rfl, HT, hb⟩; have HI3 : Hid (_ = _) := heap_keep (by exact HI2'.out) hb; obtain ⟨d0, d1, d2, d3, d4, d5, d6, d7, d8, d9, d10⟩ := cells11 HI3.out; have HB3 : Hid (Below w.heap.size w x5) := below_call (by exact HB2'.out.drew) hb; have HG3 : Hid (_ = _) := heap_keep (by exact HG2.out) hb; clear hb c0 c1 c2 c3 c4 c5 c6 c7 c8 c9 c10)
    | (go_at_call 53; refine (at_row onesL op k3 HK3.out _ 7 _ 9 rfl (by omega) HT.out).mono ?_; rintro e x6 ⟨rfl, rfl⟩))
  go_wp2_with fail
  clear HT
  refine (l02As_any m2 r2 n2 l2 _ g0 g5).mono ?_
  rintro e x7 ⟨rfl, hb⟩
  rw [G1.out, G2.out, G3.out]
  have HI4 : Hid (_ = _) := heap_keep HI3.out hb
  have HB4 : Hid (Below w.heap.size w x7) := below_call HB3.out hb
  have HG4 : Hid (_ = _) := heap_keep HG3.out hb
  clear hb d0 d1 d2 d3 d4 d5 d6 d7 d8 d9 d10
  obtain ⟨p0, p1, p2, p3, p4, p5, p6, p7, p8, p9, p10⟩ := cells11 HI4.out
  have hz4 := heap_lt HI4.out
  have hsz4 := HB4.out.size
  cases t2
  case false =>
    go_wp2_with fail
    have e0 := wr (4 + k1) (by omega) (by omega)
    have e1 := wr (4096 * (4 + k1)) (by omega) (by omega)
    have e2 := wr (256 * a2) (by omega) (by omega)
    have e3 := wr (4096 * (4 + k1) + 256 * a2) (by omega) (by omega)
    have e4 := wr (128 * b1) (by omega) (by omega)
    have e5 := wr (4096 * (4 + k1) + 256 * a2 + 128 * b1) (by omega) (by omega)
    have e6 := wr (4096 * (4 + k1) + 256 * a2 + 128 * b1 + 16 * a1) (by omega) (by omega)
    have e7 := wr (4096 * (4 + k1) + 256 * a2 + 128 * b1 + 16 * a1 + b2) (by omega) (by omega)
    go_region_held3 (fun w' => w'.cell? ⟨w.heap.size, 0, none⟩ = some (.string op)) (go_keep) (first
      | (go_at_call 64; refine (twos_b _).mono ?_; rintro e x9 ⟨rfl, HT, hb⟩; have HI9 : Hid (_ = _) := heap_keep (by exact HI4.out) hb; obtain ⟨s0, s1, s2, s3, s4, s5, s6, s7, s8, s9, s10⟩ := cells11 HI9.out; have HB9 : Hid (Below w.heap.size w x9) := below_call (by exact HB4.out.drew) hb; have HG9 : Hid (_ = _) := heap_keep (by exact HG4.out) hb; obtain ⟨q0, q1⟩ := row_first (k := 1) HG9.out HC3.out; have hn9 := ne_of_types HI9.out HG9.out (by decide); have hn9' := hn9.symm; clear hb p0 p1 p2 p3 p4 p5 p6 p7 p8 p9 p10)
      | (go_at_call 53; refine (at_row twosL op k1 HK1.out _ 12 _ 9 rfl (by omega) HT.out).mono ?_; rintro e x10 ⟨rfl, rfl⟩))
    go_wp2
    go_ret
    exact ⟨_, rfl, own_set (L := [n]) (x := 0) (by first | (rw [markI_f]; omega) | (rw [markI_t]; omega)) hB HG9.out h4 h5' HC2.out HC3.out, HB9.out.setCell hB _⟩
  case true =>
    obtain ⟨i0, hi, hz0, hz1', hz2'⟩ := info_parts infoI
    have HO4 : Hid (x7.ownsRow w.heap.size 2 1 _ 2 (cellsI (0 :: [n]))) := ⟨rfl, .inr ⟨g, cap, cur, rfl, hB, HG4.out, h4, h5', (by rw [HC2.out, Nat.mul_one]), HC3.out⟩⟩
    go_wp2_with (at_builtin; refine wpList_append_own _ rfl (.tmp 76) (.tmp 80) 36 rfl w.heap.size 2 i0 (.int .i64 0) 1 8 Tryz.underlying36 hi hz0 hz1' hz2' rfl (by decide) _ _ _ rfl (HO4.out.alloc _) ⟨x7.heap.size, 0, none⟩ 1 1 [.int .i64 n2] rfl rfl (cell_one_new _ _ _) (one_cellI _) (by simp [maxLen]) (by simp) (by simp; omega) ?_; intro v2 w2 hown2 hgrow2 _; obtain ⟨g', cap', cur', rfl, hB', hg', h4', h5'', h6', h7''⟩ := own_some hown2)
    have HG5 : Hid (_ = _) := hg'
    have HC5 : Hid (cur'.size = cap') := h6'
    have HD5 : Hid (_ = _) := h7''
    have HB5 : Hid (Below w.heap.size w w2) := (below_more HB4.out _).grown hgrow2 (below_more HB4.out _).size (fun q hq => by rw [← Option.some.inj hq]; exact hB)
    have HI5 : Hid (w2.heap[w.heap.size]? = _) := (hgrow2.block _ (heap_lt (heap_more HI4.out _)) (some_ne (ne_of_types HI2'.out HG2.out (by decide)))).trans (heap_more HI4.out _)
    clear hg' h6' h7'' hown2 hgrow2 hi hz0 hz1' hz2' p0 p1 p2 p3 p4 p5 p6 p7 p8 p9 p10
    obtain ⟨p0, p1, p2, p3, p4, p5, p6, p7, p8, p9, p10⟩ := cells11 HI5.out
    have e0 := wr (4 + k1) (by omega) (by omega)
    have e1 := wr (4096 * (4 + k1)) (by omega) (by omega)
    have e2 := wr (256 * a2) (by omega) (by omega)
    have e3 := wr (4096 * (4 + k1) + 256 * a2) (by omega) (by omega)
    have e4 := wr (128 * b1) (by omega) (by omega)
    have e5 := wr (4096 * (4 + k1) + 256 * a2 + 128 * b1) (by omega) (by omega)
    have e6 := wr (4096 * (4 + k1) + 256 * a2 + 128 * b1 + 16 * a1) (by omega) (by omega)
    have e7 := wr (4096 * (4 + k1) + 256 * a2 + 128 * b1 + 16 * a1 + b2) (by omega) (by omega)
    go_region_held3 (fun w' => w'.cell? ⟨w.heap.size, 0, none⟩ = some (.string op)) (go_keep) (first
      | (go_at_call 64; refine (twos_b _).mono ?_; rintro e x9 ⟨rfl, HT, hb⟩; have HI9 : Hid (_ = _) := heap_keep (by exact HI5.out) hb; obtain ⟨s0, s1, s2, s3, s4, s5, s6, s7, s8, s9, s10⟩ := cells11 HI9.out; have HB9 : Hid (Below w.heap.size w x9) := below_call (by exact HB5.out.drew) hb; have HG9 : Hid (_ = _) := heap_keep (by exact HG5.out) hb; obtain ⟨q0, q1⟩ := row_first (k := 2) HG9.out HD5.out; have hn9 := ne_of_types HI9.out HG9.out (by decide); have hn9' := hn9.symm; clear hb p0 p1 p2 p3 p4 p5 p6 p7 p8 p9 p10)
      | (go_at_call 53; refine (at_row twosL op k1 HK1.out _ 12 _ 9 rfl (by omega) HT.out).mono ?_; rintro e x10 ⟨rfl, rfl⟩))
    go_wp2
    go_ret
    exact ⟨_, rfl, own_set (L := [n] ++ [n2]) (x := 0) (by first | (rw [markI_f]; omega) | (rw [markI_t]; omega)) hB' HG9.out h4' h5'' HC5.out HD5.out, HB9.out.setCell hB' _⟩
end Go.Proofs.YtodjccipfonaiaaGreatDoor
namespace Go.Proofs.YtodjccipfonaiaaGreatDoor
open Go.RowKit
set_option linter.unusedVariables false

set_option maxRecDepth 100000 in
set_option maxHeartbeats 4000000 in
theorem specEnc_two_11 (k1 k2 k3 : Int) (op : ByteArray) (m r n : Int) (l : Bool) (m2 r2 n2 : Int) (l2 : Bool) (j : Int) (a1 a2 b1 b2 : Int) (t2 : Bool) (w : World) (HK1 : Hid (atI twosL op = k1)) (HK2 : Hid (atI jumpsL op = k2)) (HK3 : Hid (atI onesL op = k3)) (h3 : (op.toList == [114, 101, 116, 105]) = false) (h2 : ¬ 0 ≤ k2) (hk : ¬ 0 ≤ k3) (h7 : 0 ≤ k1) (h11 : k1 ≤ 11) (h0 : 0 ≤ m) (h5 : m ≤ 5) (H1 : Hid ((asI m r n l).1 = a1)) (H2 : Hid ((asI m r n l).2.1 = a2)) (H3 : Hid ((asI m r n l).2.2 = true)) (ha0 : 0 ≤ a1) (ha1 : a1 ≤ 3) (hb0 : 0 ≤ a2) (hb1 : a2 ≤ 15) (g0 : 0 ≤ m2) (g5 : m2 ≤ 5) (G1 : Hid ((asI m2 r2 n2 l2).1 = b1)) (G2 : Hid ((asI m2 r2 n2 l2).2.1 = b2)) (G3 : Hid ((asI m2 r2 n2 l2).2.2 = t2)) (hc0 : 0 ≤ b1) (hc1 : b1 ≤ 3) (hd0 : 0 ≤ b2) (hd1 : b2 ≤ 15) :
    Calls Tryz.prog 48 #[.agg #[.string op, .bool true, .int .i64 m, .int .i64 r, .int .i64 n, .bool l, .int .i64 m2, .int .i64 r2, .int .i64 n2, .bool l2, .int .i64 j]] w fun e w' => ∃ v, e = .returned v ∧ OwnI w' w.heap.size v ((4096 * (4 + k1) + 256 * a2 + 128 * b1 + markI true + 16 * a1 + b2) :: (optI true n ++ optI t2 n2)) ∧ Below w.heap.size w w' := by
  go_enter Tryz.func48, Tryz.ntmps48
  go_wp2_with fail
  have HI0 : Hid (_ = _) := heap_alloc_new w (.cells #[.string op, .bool true, .int .i64 m, .int .i64 r, .int .i64 n, .bool l, .int .i64 m2, .int .i64 r2, .int .i64 n2, .bool l2, .int .i64 j] 26)
  have HB0 : Hid (Below w.heap.size w _) := below_new w (.cells #[.string op, .bool true, .int .i64 m, .int .i64 r, .int .i64 n, .bool l, .int .i64 m2, .int .i64 r2, .int .i64 n2, .bool l2, .int .i64 j] 26)
  generalize w.alloc (.cells #[.string op, .bool true, .int .i64 m, .int .i64 r, .int .i64 n, .bool l, .int .i64 m2, .int .i64 r2, .int .i64 n2, .bool l2, .int .i64 j] 26) = x0 at *
  obtain ⟨c0, c1, c2, c3, c4, c5, c6, c7, c8, c9, c10⟩ := cells11 HI0.out
  go_region_held3 (fun w' => w'.cell? ⟨w.heap.size, 0, none⟩ = some (.string op)) (go_keep) (first
    | (go_at_call 67; refine (jumps_b _).mono ?_; rintro e x1 ⟨rfl, HT, hb⟩; have HI1 : Hid (_ = _) := heap_keep (by exact HI0.out) hb; obtain ⟨d0, d1, d2, d3, d4, d5, d6, d7, d8, d9, d10⟩ := cells11 HI1.out; have HB1 : Hid (Below w.heap.size w x1) := below_call (by exact HB0.out.drew) hb; clear hb c0 c1 c2 c3 c4 c5 c6 c7 c8 c9 c10)
    | (go_at_call 53; refine (at_row jumpsL op k2 HK2.out _ 8 _ 9 rfl (by omega) HT.out).mono ?_; rintro e x2 ⟨rfl, rfl⟩))
  go_wp2_with fail
  clear HT
  refine (l02As_any m r n l _ h0 h5).mono ?_
  rintro e x3 ⟨rfl, hb⟩
  rw [H1.out, H2.out, H3.out]
  have HI2 : Hid (_ = _) := heap_keep HI1.out hb
  have HB2 : Hid (Below w.heap.size w x3) := below_call HB1.out hb
  clear hb d0 d1 d2 d3 d4 d5 d6 d7 d8 d9 d10
  obtain ⟨c0, c1, c2, c3, c4, c5, c6, c7, c8, c9, c10⟩ := cells11 HI2.out
  have hz2 := heap_lt HI2.out
  have hsz2 := HB2.out.size
  obtain ⟨i0, hi, hz0, hz1', hz2'⟩ := info_parts infoI
  go_wp2_with (at_builtin; refine wpList_append_own _ rfl (.tmp 46) (.tmp 50) 36 rfl w.heap.size 2 i0 (.int .i64 0) 1 8 Tryz.underlying36 hi hz0 hz1' hz2' rfl (by decide) _ _ _ rfl ((own_one (f' := 0) HB2.out rfl rfl).alloc _) ⟨x3.heap.size + 1, 0, none⟩ 1 1 [.int .i64 n] rfl rfl (cell_one_at (by simp) _ _) (one_cellI _) (by simp [maxLen]) (by simp) (by simp; omega) ?_; intro v2 w2 hown2 hgrow2 _; obtain ⟨g, cap, cur, rfl, hB, hg, h4, h5', h6, h7'⟩ := own_some hown2)
  have HG2 : Hid (_ = _) := hg
  have HC2 : Hid (cur.size = cap) := h6
  have HC3 : Hid (_ = _) := h7'
  have HB2' : Hid (Below w.heap.size w w2) := (below_more (below_more HB2.out _) _).grown hgrow2 (below_more (below_more HB2.out _) _).size (fun q hq => by rw [← Option.some.inj hq]; exact hsz2)
  have HI2' : Hid (w2.heap[w.heap.size]? = _) := (hgrow2.block _ (heap_lt (heap_more (heap_more HI2.out _) _)) (some_ne (Nat.ne_of_lt hz2))).trans (heap_more (heap_more HI2.out _) _)
  clear hg h6 h7' hown2 hgrow2
  clear c0 c1 c2 c3 c4 c5 c6 c7 c8 c9 c10 hi hz0 hz1' hz2'
  obtain ⟨c0, c1, c2, c3, c4, c5, c6, c7, c8, c9, c10⟩ := cells11 HI2'.out
  go_region_held3 (fun w' => w'.cell? ⟨w.heap.size, 0, none⟩ = some (.string op)) (go_keep) (first
    | (go_at_call 70; refine (ones_b _).mono ?_; rintro e x5 ⟨rfl, HT, hb⟩; have HI3 : Hid (_ = _) := heap_keep (by exact HI2'.out) hb; obtain ⟨d0, d1, d2, d3, d4, d5, d6, d7, d8, d9, d10⟩ := cells11 HI3.out; have HB3 : Hid (Below w.heap.size w x5) := below_call (by exact HB2'.out.drew) hb; have HG3 : Hid (_ = _) := heap_keep (by exact HG2.out) hb; clear hb c0 c1 c2 c3 c4 c5 c6 c7 c8 c9 c10)
    | (go_at_call 53; refine (at_row onesL op k3 HK3.out _ 7 _ 9 rfl (by omega) HT.out).mono ?_; rintro e x6 ⟨rfl, rfl⟩))
  go_wp2_with fail
  clear HT
  refine (l02As_any m2 r2 n2 l2 _ g0 g5).mono ?_
  rintro e x7 ⟨rfl, hb⟩
  rw [G1.out, G2.out, G3.out]
  have HI4 : Hid (_ = _) := heap_keep HI3.out hb
  have HB4 : Hid (Below w.heap.size w x7) := below_call HB3.out hb
  have HG4 : Hid (_ = _) := heap_keep HG3.out hb
  clear hb d0 d1 d2 d3 d4 d5 d6 d7 d8 d9 d10
  obtain ⟨p0, p1, p2, p3, p4, p5, p6, p7, p8, p9, p10⟩ := cells11 HI4.out
  have hz4 := heap_lt HI4.out
  have hsz4 := HB4.out.size
  cases t2
  case false =>
    go_wp2_with fail
    have e0 := wr (4 + k1) (by omega) (by omega)
    have e1 := wr (4096 * (4 + k1)) (by omega) (by omega)
    have e2 := wr (256 * a2) (by omega) (by omega)
    have e3 := wr (4096 * (4 + k1) + 256 * a2) (by omega) (by omega)
    have e4 := wr (128 * b1) (by omega) (by omega)
    have e5 := wr (4096 * (4 + k1) + 256 * a2 + 128 * b1) (by omega) (by omega)
    have e6 := wr (4096 * (4 + k1) + 256 * a2 + 128 * b1 + (16 * a1 + 64)) (by omega) (by omega)
    have e7 := wr (4096 * (4 + k1) + 256 * a2 + 128 * b1 + (16 * a1 + 64) + b2) (by omega) (by omega)
    go_region_held3 (fun w' => w'.cell? ⟨w.heap.size, 0, none⟩ = some (.string op)) (go_keep) (first
      | (go_at_call 64; refine (twos_b _).mono ?_; rintro e x9 ⟨rfl, HT, hb⟩; have HI9 : Hid (_ = _) := heap_keep (by exact HI4.out) hb; obtain ⟨s0, s1, s2, s3, s4, s5, s6, s7, s8, s9, s10⟩ := cells11 HI9.out; have HB9 : Hid (Below w.heap.size w x9) := below_call (by exact HB4.out.drew) hb; have HG9 : Hid (_ = _) := heap_keep (by exact HG4.out) hb; obtain ⟨q0, q1⟩ := row_first (k := 1) HG9.out HC3.out; have hn9 := ne_of_types HI9.out HG9.out (by decide); have hn9' := hn9.symm; clear hb p0 p1 p2 p3 p4 p5 p6 p7 p8 p9 p10)
      | (go_at_call 53; refine (at_row twosL op k1 HK1.out _ 12 _ 9 rfl (by omega) HT.out).mono ?_; rintro e x10 ⟨rfl, rfl⟩))
    go_wp2
    go_ret
    exact ⟨_, rfl, own_set (L := [n]) (x := 0) (by first | (rw [markI_f]; omega) | (rw [markI_t]; omega)) hB HG9.out h4 h5' HC2.out HC3.out, HB9.out.setCell hB _⟩
  case true =>
    obtain ⟨i0, hi, hz0, hz1', hz2'⟩ := info_parts infoI
    have HO4 : Hid (x7.ownsRow w.heap.size 2 1 _ 2 (cellsI (0 :: [n]))) := ⟨rfl, .inr ⟨g, cap, cur, rfl, hB, HG4.out, h4, h5', (by rw [HC2.out, Nat.mul_one]), HC3.out⟩⟩
    go_wp2_with (at_builtin; refine wpList_append_own _ rfl (.tmp 76) (.tmp 80) 36 rfl w.heap.size 2 i0 (.int .i64 0) 1 8 Tryz.underlying36 hi hz0 hz1' hz2' rfl (by decide) _ _ _ rfl (HO4.out.alloc _) ⟨x7.heap.size, 0, none⟩ 1 1 [.int .i64 n2] rfl rfl (cell_one_new _ _ _) (one_cellI _) (by simp [maxLen]) (by simp) (by simp; omega) ?_; intro v2 w2 hown2 hgrow2 _; obtain ⟨g', cap', cur', rfl, hB', hg', h4', h5'', h6', h7''⟩ := own_some hown2)
    have HG5 : Hid (_ = _) := hg'
    have HC5 : Hid (cur'.size = cap') := h6'
    have HD5 : Hid (_ = _) := h7''
    have HB5 : Hid (Below w.heap.size w w2) := (below_more HB4.out _).grown hgrow2 (below_more HB4.out _).size (fun q hq => by rw [← Option.some.inj hq]; exact hB)
    have HI5 : Hid (w2.heap[w.heap.size]? = _) := (hgrow2.block _ (heap_lt (heap_more HI4.out _)) (some_ne (ne_of_types HI2'.out HG2.out (by decide)))).trans (heap_more HI4.out _)
    clear hg' h6' h7'' hown2 hgrow2 hi hz0 hz1' hz2' p0 p1 p2 p3 p4 p5 p6 p7 p8 p9 p10
    obtain ⟨p0, p1, p2, p3, p4, p5, p6, p7, p8, p9, p10⟩ := cells11 HI5.out
    have e0 := wr (4 + k1) (by omega) (by omega)
    have e1 := wr (4096 * (4 + k1)) (by omega) (by omega)
    have e2 := wr (256 * a2) (by omega) (by omega)
    have e3 := wr (4096 * (4 + k1) + 256 * a2) (by omega) (by omega)
    have e4 := wr (128 * b1) (by omega) (by omega)
    have e5 := wr (4096 * (4 + k1) + 256 * a2 + 128 * b1) (by omega) (by omega)
    have e6 := wr (4096 * (4 + k1) + 256 * a2 + 128 * b1 + (16 * a1 + 64)) (by omega) (by omega)
    have e7 := wr (4096 * (4 + k1) + 256 * a2 + 128 * b1 + (16 * a1 + 64) + b2) (by omega) (by omega)
    go_region_held3 (fun w' => w'.cell? ⟨w.heap.size, 0, none⟩ = some (.string op)) (go_keep) (first
      | (go_at_call 64; refine (twos_b _).mono ?_; rintro e x9 ⟨rfl, HT, hb⟩; have HI9 : Hid (_ = _) := heap_keep (by exact HI5.out) hb; obtain ⟨s0, s1, s2, s3, s4, s5, s6, s7, s8, s9, s10⟩ := cells11 HI9.out; have HB9 : Hid (Below w.heap.size w x9) := below_call (by exact HB5.out.drew) hb; have HG9 : Hid (_ = _) := heap_keep (by exact HG5.out) hb; obtain ⟨q0, q1⟩ := row_first (k := 2) HG9.out HD5.out; have hn9 := ne_of_types HI9.out HG9.out (by decide); have hn9' := hn9.symm; clear hb p0 p1 p2 p3 p4 p5 p6 p7 p8 p9 p10)
      | (go_at_call 53; refine (at_row twosL op k1 HK1.out _ 12 _ 9 rfl (by omega) HT.out).mono ?_; rintro e x10 ⟨rfl, rfl⟩))
    go_wp2
    go_ret
    exact ⟨_, rfl, own_set (L := [n] ++ [n2]) (x := 0) (by first | (rw [markI_f]; omega) | (rw [markI_t]; omega)) hB' HG9.out h4' h5'' HC5.out HD5.out, HB9.out.setCell hB' _⟩
end Go.Proofs.YtodjccipfonaiaaGreatDoor
